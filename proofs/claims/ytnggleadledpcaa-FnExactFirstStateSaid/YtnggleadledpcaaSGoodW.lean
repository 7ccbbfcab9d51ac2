/-
  Good words: both sides, and the law.
-/
import Derived.Test.YtnggleadledpcaaGShapeI
import Derived.Test.YtnggleadledpcaaSWd
import Derived.OpenShut
namespace Go.Proofs.Ytnggleadledpcaa
open Go.ChangeShapes Go.WideShapes Go.ChangeAt Go.RowKit

def goodWd (x : Wd8) : Bool := goodG ⟨x.ty, false, x.bits⟩
theorem goodWd_eq (ty bits : Int) (t y : Bool) (ht : (decide (125 ≤ ty) && decide (ty ≤ 127)) = t) (hy : decide (bits ≤ 4294967295) = y) : goodWd ⟨ty, bits⟩ = (t && (decide (ty = 126) || y)) := by
  unfold goodWd goodG isT
  simp only
  rw [ht, hy]

set_option maxRecDepth 100000 in
set_option maxHeartbeats 1600000 in
theorem implWd (ty bits : Int) (h0 : 0 ≤ bits) (h1 : bits ≤ 18446744073709551615) (w : World) :
    Calls Try.prog 20 #[.agg #[.int .i64 ty, .int .u64 bits]] w fun e w' => e = .returned (.bool (goodWd ⟨ty, bits⟩)) ∧ Below w.heap.size w w' := by
  have T := fun w => implFits ⟨ty, false, bits⟩ ⟨h0, h1⟩ w
  obtain ⟨R, hR⟩ : ∃ R, goodG ⟨ty, false, bits⟩ = R := ⟨_, rfl⟩
  have hR2 : goodWd ⟨ty, bits⟩ = R := hR
  rw [hR2]
  rw [hR] at T
  simp only at T
  clear hR hR2
  go_enter Try.func20, Try.ntmps20
  go_wp2_with fail
  refine (T _).mono ?_
  rintro e w1 ⟨rfl, hb1⟩
  have HB : Hid (Below w.heap.size w w1) := bel_step ((Below.refl _ _).alloc (Nat.le_refl _) _) hb1
  clear hb1 T
  go_wp2
  go_ret
  exact ⟨rfl, HB.out⟩

set_option maxRecDepth 100000 in
set_option maxHeartbeats 1600000 in
theorem l8Wd (ty bits : Int) (w : World) :
    Calls Try.prog 43 #[.agg #[.int .i64 ty, .int .u64 bits]] w fun e w' => e = .returned (.bool (goodWd ⟨ty, bits⟩)) ∧ Below w.heap.size w w' := by
  obtain ⟨t, ht⟩ : ∃ t, (decide (125 ≤ ty) && decide (ty ≤ 127)) = t := ⟨_, rfl⟩
  obtain ⟨y, hy⟩ : ∃ y, decide (bits ≤ 4294967295) = y := ⟨_, rfl⟩
  rw [goodWd_eq ty bits t y ht hy]
  have H4 : Hid ((decide (125 ≤ ty) && decide (ty ≤ 127)) = t) := ht
  clear ht
  cases t
  · clear hy
    go_enter Try.func43, Try.ntmps43
    go_wp2_with (go_at_call 63; refine (specType _ _ (by assumption) _).mono ?_; rintro e w1 ⟨rfl, hw⟩; obtain rfl := hw.symm)
    go_ret
    exact ⟨rfl, (Below.refl _ _).alloc (Nat.le_refl _) _⟩
  · by_cases h3 : ty = 126
    · subst h3
      clear hy
      go_enter Try.func43, Try.ntmps43
      go_wp2_with (go_at_call 63; refine (specType _ _ (by assumption) _).mono ?_; rintro e w1 ⟨rfl, hw⟩; obtain rfl := hw.symm)
      go_ret
      exact ⟨rfl, (Below.refl _ _).alloc (Nat.le_refl _) _⟩
    · have e3 : (ty == 126) = false := by simpa using h3
      have HD : Hid (decide (ty = 126) = false) := by unfold Hid; simpa using h3
      clear h3
      go_enter Try.func43, Try.ntmps43
      go_wp2_with (go_at_call 63; refine (specType _ _ (by assumption) _).mono ?_; rintro e w1 ⟨rfl, hw⟩; obtain rfl := hw.symm)
      go_ret
      exact ⟨by rw [HD.out]; first | rfl | simp, (Below.refl _ _).alloc (Nat.le_refl _) _⟩

set_option maxRecDepth 100000 in
set_option maxHeartbeats 1600000 in
theorem specWd (ty bits : Int) (w : World) :
    Calls Try.prog 18 #[.agg #[.int .i64 ty, .int .u64 bits]] w fun e w' => e = .returned (.bool (goodWd ⟨ty, bits⟩)) ∧ Below w.heap.size w w' := by
  have T := l8Wd ty bits
  obtain ⟨R, hR⟩ : ∃ R, goodWd ⟨ty, bits⟩ = R := ⟨_, rfl⟩
  rw [hR] at T ⊢
  clear hR
  go_enter Try.func18, Try.ntmps18
  go_wp2_with fail
  refine (T _).mono ?_
  rintro e w1 ⟨rfl, hb1⟩
  have HB : Hid (Below w.heap.size w w1) := bel_step ((Below.refl _ _).alloc (Nat.le_refl _) _) hb1
  clear hb1 T
  go_wp2
  go_ret
  exact ⟨rfl, HB.out⟩

set_option maxRecDepth 100000 in
set_option maxHeartbeats 1600000 in
theorem goodWord_walk (ty bits : Int) (_ : (Lit.int .i64 ty).wf = true) (hb : (Lit.int .u64 bits).wf = true) (w : World) :
    Calls Try.prog 6 #[.agg #[.int .i64 ty, .int .u64 bits]] w fun e w' => e = .returned (.bool true) ∧ Below w.heap.size w w' := by
  have h0 : 0 ≤ bits ∧ bits ≤ 18446744073709551615 := bounds_u64 hb
  have A := toWd1 ty bits
  have S := specWd ty bits
  have I := implWd ty bits h0.1 h0.2
  obtain ⟨R, hR⟩ : ∃ R, goodWd ⟨ty, bits⟩ = R := ⟨_, rfl⟩
  rw [hR] at S I
  clear hR hb h0
  have hRR : (R != R) = false := by cases R <;> rfl
  go_enter Try.func6, Try.ntmps6
  go_wp2_with fail
  refine (A _).mono ?_
  rintro e w1 ⟨rfl, hb1⟩
  have hx1 := (hb1.block w.heap.size (by simp)).trans (heap_alloc_new _ _)
  have HB1 : Hid (Below w.heap.size w w1) := bel_step ((Below.refl _ _).alloc (Nat.le_refl _) _) hb1
  clear hb1
  go_wp2_with fail
  refine (S _).mono ?_
  rintro e w2 ⟨rfl, hb2⟩
  have hx2 := (hb2.block w.heap.size (lt_of_block hx1)).trans hx1
  have HB2 : Hid (Below w.heap.size w w2) := bel_step HB1.out hb2
  have x0 := (cell_of_block hx2 0).trans rfl
  have x1 := (cell_of_block hx2 1).trans rfl
  clear hb2 hx1 hx2
  go_wp2_with fail
  refine (A _).mono ?_
  rintro e w3 ⟨rfl, hb3⟩
  have HB3 : Hid (Below w.heap.size w w3) := bel_step HB2.out hb3
  clear hb3 x0 x1
  go_wp2_with fail
  refine (I _).mono ?_
  rintro e w4 ⟨rfl, hb4⟩
  have HB4 : Hid (Below w.heap.size w w4) := bel_step HB3.out hb4
  clear hb4
  go_wp2
  go_ret
  exact ⟨rfl, HB4.out⟩

end Go.Proofs.Ytnggleadledpcaa
