/-
  What is drawn for counts.
-/
import Derived.Test.YtnimlkobcginjaaDoorCurE
import Derived.Test.YtnimlkobcginjaaDoorRet
namespace Go.Proofs.YtnimlkobcginjaaDoor
open Go.RowKit

theorem three_resC {fn : Func} {a b c : Tmp} (h : fn.results = #[.tmp a, .tmp b, .tmp c]) (tmps : Array Value) (P : Program) (w : World) :
    (results fn tmps).run P w = .ok (.tuple #[tmps.getD a undef, tmps.getD b undef, tmps.getD c undef]) w := by
  simp [results, h]

set_option maxHeartbeats 1000000 in
theorem drawUnary (a : Option Addr) (n cap : Nat) (w : World) (hb : Bys w a n w.heap.size) :
    Calls Tryd.prog 4 #[.slice a n cap] w fun e w' => ∃ b o x : Int, (-9223372036854775808 ≤ b ∧ b ≤ 9223372036854775807) ∧ 0 ≤ x ∧ x ≤ 18446744073709551615 ∧ e = .returned (.tuple #[.int .i64 b, .int .i64 o, .int .u64 x]) ∧ Below w.heap.size w w' := by
  have C0 := cur_new w a n cap 39 hb
  have N0 := below_new w (.cells #[.slice a n cap, .int .i64 0, .int .u64 0] 39)
  go_enter Tryd.func4, Tryd.ntmps4
  go_wp2_with fail
  refine (curWidth w.heap.size a n cap w.heap.size 0 (hid_le (by omega)) _ C0).mono ?_
  rintro e w1 ⟨b, b0, b1, rfl, C1, B1⟩
  go_wp2_with fail
  refine (curPick 9 (by omega) (by omega) w.heap.size a n cap w.heap.size (0 + 4) (hid_le (by omega)) _ C1).mono ?_
  rintro e w2 ⟨t, t0, t1, rfl, C2, B2⟩
  have vt : wrap64 (20 + t) = 20 + t := by unfold wrap64; omega
  clear t0 t1
  go_wp2_with fail
  refine (curWord w.heap.size a n cap w.heap.size (0 + 4 + 2) (hid_le (by omega)) _ C2).mono ?_
  rintro e w3 ⟨x, x0, x1, rfl, C3, B3⟩
  have HB : Hid (Below w.heap.size w w3) := ((N0.trans B1.below).trans B2.below).trans B3.below
  clear C0 C1 C2 C3 B1 B2 B3 N0 hb
  go_wp2
  refine bodyPost_ret (three_resC Tryd.results4 _ _ _) rfl ⟨b, _, x, ⟨b0, b1⟩, x0, x1, rfl, HB.out⟩

set_option maxHeartbeats 1000000 in
theorem drawSignedOf (a : Option Addr) (n cap : Nat) (w : World) (hb : Bys w a n w.heap.size) :
    Calls Tryd.prog 8 #[.slice a n cap] w fun e w' => ∃ b x : Int, (-9223372036854775808 ≤ b ∧ b ≤ 9223372036854775807) ∧ 0 ≤ x ∧ x ≤ 18446744073709551615 ∧ e = .returned (.tuple #[.int .i64 b, .int .u64 x]) ∧ Below w.heap.size w w' := by
  have C0 := cur_new w a n cap 39 hb
  have N0 := below_new w (.cells #[.slice a n cap, .int .i64 0, .int .u64 0] 39)
  go_enter Tryd.func8, Tryd.ntmps8
  go_wp2_with fail
  refine (curWidth w.heap.size a n cap w.heap.size 0 (hid_le (by omega)) _ C0).mono ?_
  rintro e w1 ⟨b, b0, b1, rfl, C1, B1⟩
  go_wp2_with fail
  refine (curWord w.heap.size a n cap w.heap.size (0 + 4) (hid_le (by omega)) _ C1).mono ?_
  rintro e w2 ⟨x, x0, x1, rfl, C2, B2⟩
  have HB : Hid (Below w.heap.size w w2) := (N0.trans B1.below).trans B2.below
  clear C0 C1 C2 B1 B2 N0 hb
  go_wp2
  go_ret2
  exact ⟨b, x, ⟨b0, b1⟩, x0, x1, rfl, HB.out⟩

end Go.Proofs.YtnimlkobcginjaaDoor
