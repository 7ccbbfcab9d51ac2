/-
  What is drawn for operations: some bits, some operation, two words.
-/
import Derived.Test.YtnimlkobcginjaaDoorCurD
namespace Go.Proofs.YtnimlkobcginjaaDoor
open Go.RowKit

/-- Four results, each in a slot. -/
theorem four_results {fn : Func} {a b c d : Tmp} (h : fn.results = #[.tmp a, .tmp b, .tmp c, .tmp d]) (s : Array Value) (P : Program) (w : World) :
    (results fn s).run P w = .ok (.tuple #[s.getD a undef, s.getD b undef, s.getD c undef, s.getD d undef]) w := by
  simp [results, h]

set_option maxHeartbeats 1000000 in
theorem curWidth (g : Nat) (a : Option Addr) (n cap B m : Nat) (hm : Hid (m ≤ 800000)) (w : World) (C : Cur w g a n cap B m) :
    Calls Tryd.prog 14 #[.pointer (some ⟨g, 0, none⟩)] w fun e w' => ∃ r : Int, -9223372036854775808 ≤ r ∧ r ≤ 9223372036854775807 ∧ e = .returned (.int .i64 r) ∧ Cur w' g a n cap B (m + 4) ∧ Aft B g w w' := by
  go_enter Tryd.func14, Tryd.ntmps14
  go_wp2_with fail
  refine (curOne 40 (by omega) (by omega) g a n cap B m (hid_le (by have := hm.out; omega)) w C).mono ?_
  rintro e w1 ⟨o, rfl, C1, B1⟩
  have hl := C1.lt
  have hB := C1.hg
  cases o
  · go_wp2_with fail
    refine (curPick 2 (by omega) (by omega) g a n cap B (m + 2) (hid_le (by have := hm.out; omega)) w1 C1).mono ?_
    rintro e w2 ⟨q, q0, q1, rfl, C2, B2⟩
    go_wp2
    go_ret
    exact ⟨32 + 32 * q, by omega, by omega, by first | rfl | (congr 2; omega), C2, B1.trans B2⟩
  · go_wp2_with fail
    refine (curAmong w1.heap.size 3 (by omega) (by omega) g a n cap B (m + 2) (hid_le (by have := hm.out; omega)) _ (C1.alloc _) (row_new w1 [.int .i64 0, .int .i64 16, .int .i64 33] _ (by decide)) (by simp) (by omega)).mono ?_
    rintro e w2 ⟨r, r0, r1, rfl, C2, B2⟩
    go_wp2
    go_ret
    exact ⟨r, r0, r1, rfl, C2, (B1.trans (Aft.alloc (by omega) _)).trans B2⟩

end Go.Proofs.YtnimlkobcginjaaDoor
