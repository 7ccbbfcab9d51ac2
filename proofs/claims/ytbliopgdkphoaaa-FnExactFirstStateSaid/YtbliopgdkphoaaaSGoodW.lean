/-
  Good words: both sides, and the law.
-/
import Derived.Test.YtbliopgdkphoaaaGShapeI
import Derived.Test.YtbliopgdkphoaaaSWd
import Derived.OpenShut
namespace Go.Proofs.Ytbliopgdkphoaaa
open Go.ChangeShapes Go.WideShapes Go.ChangeAt Go.RowKit

def goodWd (x : Wd8) : Bool := goodG ⟨x.ty, false, x.bits⟩
theorem goodWd_eq (ty bits : Int) (t y : Bool) (ht : (decide (125 ≤ ty) && decide (ty ≤ 127)) = t) (hy : decide (bits ≤ 4294967295) = y) : goodWd ⟨ty, bits⟩ = (t && (decide (ty = 126) || y)) := by
  unfold goodWd goodG isT
  simp only
  rw [ht, hy]

set_option maxRecDepth 100000 in
set_option maxHeartbeats 1600000 in
theorem implWd (ty bits : Int) (h0 : 0 ≤ bits) (h1 : bits ≤ 18446744073709551615) (w : World) :
    Calls Try.prog 115 #[.agg #[.int .i64 ty, .int .u64 bits]] w fun e w' => e = .returned (.bool (goodWd ⟨ty, bits⟩)) ∧ Below w.heap.size w w' := by
  have T := fun w => implFits ⟨ty, false, bits⟩ ⟨h0, h1⟩ w
  obtain ⟨R, hR⟩ : ∃ R, goodG ⟨ty, false, bits⟩ = R := ⟨_, rfl⟩
  have hR2 : goodWd ⟨ty, bits⟩ = R := hR
  rw [hR2]
  rw [hR] at T
  simp only at T
  clear hR hR2
  go_enter Try.func115, Try.ntmps115
  go_wp2_with fail
  refine (T _).mono ?_
  rintro e w1 ⟨rfl, hb1⟩
  have HB : Hid (Below w.heap.size w w1) := bel_step ((Below.refl _ _).alloc (Nat.le_refl _) _) hb1
  clear hb1 T
  go_wp2
  go_ret
  exact ⟨rfl, HB.out⟩

set_option maxRecDepth 100000 in
set_option maxHeartbeats 1600000 in
theorem l8Wd (ty bits : Int) (w : World) :
    Calls Try.prog 56 #[.agg #[.int .i64 ty, .int .u64 bits]] w fun e w' => e = .returned (.bool (goodWd ⟨ty, bits⟩)) ∧ Below w.heap.size w w' := by
  obtain ⟨t, ht⟩ : ∃ t, (decide (125 ≤ ty) && decide (ty ≤ 127)) = t := ⟨_, rfl⟩
  obtain ⟨y, hy⟩ : ∃ y, decide (bits ≤ 4294967295) = y := ⟨_, rfl⟩
  rw [goodWd_eq ty bits t y ht hy]
  have H4 : Hid ((decide (125 ≤ ty) && decide (ty ≤ 127)) = t) := ht
  clear ht
  cases t
  · clear hy
    go_enter Try.func56, Try.ntmps56
    go_wp2_with (go_at_call 41; refine (specType _ _ (by assumption) _).mono ?_; rintro e w1 ⟨rfl, hw⟩; obtain rfl := hw.symm)
    go_ret
    exact ⟨rfl, (Below.refl _ _).alloc (Nat.le_refl _) _⟩
  · by_cases h3 : ty = 126
    · subst h3
      clear hy
      go_enter Try.func56, Try.ntmps56
      go_wp2_with (go_at_call 41; refine (specType _ _ (by assumption) _).mono ?_; rintro e w1 ⟨rfl, hw⟩; obtain rfl := hw.symm)
      go_ret
      exact ⟨rfl, (Below.refl _ _).alloc (Nat.le_refl _) _⟩
    · have e3 : (ty == 126) = false := by simpa using h3
      have HD : Hid (decide (ty = 126) = false) := by unfold Hid; simpa using h3
      clear h3
      go_enter Try.func56, Try.ntmps56
      go_wp2_with (go_at_call 41; refine (specType _ _ (by assumption) _).mono ?_; rintro e w1 ⟨rfl, hw⟩; obtain rfl := hw.symm)
      go_ret
      exact ⟨by rw [HD.out]; first | rfl | simp, (Below.refl _ _).alloc (Nat.le_refl _) _⟩

end Go.Proofs.Ytbliopgdkphoaaa
