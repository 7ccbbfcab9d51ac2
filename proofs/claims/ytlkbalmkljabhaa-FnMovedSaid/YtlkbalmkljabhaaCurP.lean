/-
  The cursor draws places.
-/
import Derived.Test.YtlkbalmkljabhaaCurT
namespace Go.Proofs.Ytlkbalmkljabhaa
open Go.ChangeShapes Go.WideShapes Go.ChangeAt Go.RowKit

set_option maxRecDepth 100000 in
set_option maxHeartbeats 1000000 in
theorem curPlace (g : Nat) (a : Option Addr) (n cap B m : Nat) (hm : Hid (m ≤ 800000)) (w : World) (C : Cur w g a n cap B m) :
    Calls Try.prog 54 #[.pointer (some ⟨g, 0, none⟩)] w fun e w' => ∃ r : Int, -9223372036854775808 ≤ r ∧ r ≤ 9223372036854775807 ∧ e = .returned (.int .i64 r) ∧ Cur w' g a n cap B (m + 4) ∧ Aft B g w w' := by
  go_enter Try.func54, Try.ntmps54
  go_wp2_with fail
  refine (curOne 8 (by omega) (by omega) g a n cap B m (hid_le (by have := hm.out; omega)) w C).mono ?_
  rintro e w1 ⟨bb, rfl, C1, B1⟩
  cases bb
  · go_wp2_with fail
    refine (curPick 520 (by omega) (by omega) g a n cap B (m + 2) (hid_le (by have := hm.out; omega)) w1 C1).mono ?_
    rintro e w2 ⟨r, r0, r1, rfl, C2, B2⟩
    go_wp2
    go_ret
    exact ⟨r, by omega, by omega, rfl, C2, B1.trans B2⟩
  · have hl := C1.lt
    have hB := C1.hg
    go_wp2_with fail
    refine (curAmong w1.heap.size 8 (by omega) (by omega) g a n cap B (m + 2) (hid_le (by have := hm.out; omega)) _ (C1.alloc _) (row_new w1 [.int .i64 (-1), .int .i64 0, .int .i64 255, .int .i64 256, .int .i64 511, .int .i64 512, .int .i64 513, .int .i64 9223372036854775807] 3 (by decide)) (by simp) (by omega)).mono ?_
    rintro e w2 ⟨r, r0, r1, rfl, C2, B2⟩
    go_wp2
    go_ret
    exact ⟨r, r0, r1, rfl, C2, (B1.trans (Aft.alloc (by omega) _)).trans B2⟩

end Go.Proofs.Ytlkbalmkljabhaa
