/-
  Which instructions are good: the specification's side, and the law on it.
-/
import Derived.Test.YtdalkbapfjpkoaaCGood
namespace Go.Proofs.Ytdalkbapfjpkoaa
open Go.ChangeShapes Go.WideShapes Go.ChangeAt Go.RowKit

set_option maxRecDepth 100000 in
set_option maxHeartbeats 400000 in
theorem specType (a : Int) (r : Bool) (h : Hid ((decide (125 ≤ a) && decide (a ≤ 127)) = r)) (w : World) : Calls Try.prog 44 #[.int .i64 a] w fun e w' => e = .returned (.bool r) ∧ w' = w := by
  go_enter Try.func44, Try.ntmps44
  go_wp2_with (go_at_call 45; refine (in_eq _ _ _ _ (by assumption) _).mono ?_; rintro e w1 ⟨rfl, hw⟩; obtain rfl := hw.symm)
  go_ret
  exact ⟨rfl, rfl⟩

set_option maxRecDepth 100000 in
set_option maxHeartbeats 1600000 in
theorem specGoodIns (op a : Int) (w : World) :
    Calls Try.prog 33 #[.agg #[.int .i64 op, .int .i64 a]] w fun e w' => e = .returned (.bool (gi op a)) ∧ Below w.heap.size w w' := by
  have O := specShape op
  have hg : gi op a = mayK (shp op) a := rfl
  rw [hg]
  rcases shp_one op with h | h | h | h | h | h | h | h
  all_goals
    rw [h] at O ⊢
    clear hg h
  · have e : mayK 0 a = (a == 0) := rfl
    rw [e]
    clear e
    go_enter Try.func33, Try.ntmps33
    go_wp2_with (go_at_call 34; refine (O _).mono ?_; rintro e w1 ⟨rfl, hw⟩; obtain rfl := hw.symm)
    go_ret
    refine ⟨rfl, ?_⟩
    (repeat (first | refine Below.alloc ?_ (by first | (simp; done) | (simp; omega)) _ | refine Below.setCell ?_ (by first | (simp; done) | (simp; omega)) _ | refine bel_dN ?_ _ | refine Below.drew ?_ | exact Below.refl _ _))
  · have e : mayK 1 a = ((decide (125 ≤ a) && decide (a ≤ 127)) || a == 64) := rfl
    rw [e]
    clear e
    obtain ⟨x, hx⟩ : ∃ x, Hid ((decide (125 ≤ a) && decide (a ≤ 127)) = x) := ⟨_, rfl⟩
    obtain ⟨y, hy⟩ : ∃ y, (a == 64) = y := ⟨_, rfl⟩
    rw [hx.out, hy]
    cases x
    all_goals
      go_enter Try.func33, Try.ntmps33
      go_wp2_with (first | (go_at_call 34; refine (O _).mono ?_; rintro e w1 ⟨rfl, hw⟩; obtain rfl := hw.symm) | (go_at_call 44; refine (specType _ _ (by assumption) _).mono ?_; rintro e w1 ⟨rfl, hw⟩; obtain rfl := hw.symm))
      go_ret
      refine ⟨rfl, ?_⟩
      (repeat (first | refine Below.alloc ?_ (by first | (simp; done) | (simp; omega)) _ | refine Below.setCell ?_ (by first | (simp; done) | (simp; omega)) _ | refine bel_dN ?_ _ | refine Below.drew ?_ | exact Below.refl _ _))
  · have e : mayK 2 a = (decide (0 ≤ a) && decide (a ≤ 1000)) := rfl
    rw [e]
    clear e
    obtain ⟨x, hx⟩ : ∃ x, Hid ((decide (0 ≤ a) && decide (a ≤ 1000)) = x) := ⟨_, rfl⟩
    rw [hx.out]
    go_enter Try.func33, Try.ntmps33
    go_wp2_with (first | (go_at_call 34; refine (O _).mono ?_; rintro e w1 ⟨rfl, hw⟩; obtain rfl := hw.symm) | (go_at_call 45; refine (in_eq _ _ _ _ (by assumption) _).mono ?_; rintro e w1 ⟨rfl, hw⟩; obtain rfl := hw.symm))
    go_ret
    refine ⟨rfl, ?_⟩
    (repeat (first | refine Below.alloc ?_ (by first | (simp; done) | (simp; omega)) _ | refine Below.setCell ?_ (by first | (simp; done) | (simp; omega)) _ | refine bel_dN ?_ _ | refine Below.drew ?_ | exact Below.refl _ _))
  · have e : mayK 3 a = (decide (0 ≤ a) && decide (a ≤ 10000)) := rfl
    rw [e]
    clear e
    obtain ⟨x, hx⟩ : ∃ x, Hid ((decide (0 ≤ a) && decide (a ≤ 10000)) = x) := ⟨_, rfl⟩
    rw [hx.out]
    go_enter Try.func33, Try.ntmps33
    go_wp2_with (first | (go_at_call 34; refine (O _).mono ?_; rintro e w1 ⟨rfl, hw⟩; obtain rfl := hw.symm) | (go_at_call 45; refine (in_eq _ _ _ _ (by assumption) _).mono ?_; rintro e w1 ⟨rfl, hw⟩; obtain rfl := hw.symm))
    go_ret
    refine ⟨rfl, ?_⟩
    (repeat (first | refine Below.alloc ?_ (by first | (simp; done) | (simp; omega)) _ | refine Below.setCell ?_ (by first | (simp; done) | (simp; omega)) _ | refine bel_dN ?_ _ | refine Below.drew ?_ | exact Below.refl _ _))
  · have e : mayK 4 a = (decide (-2147483648 ≤ a) && decide (a ≤ 2147483647)) := rfl
    rw [e]
    clear e
    obtain ⟨x, hx⟩ : ∃ x, Hid ((decide (-2147483648 ≤ a) && decide (a ≤ 2147483647)) = x) := ⟨_, rfl⟩
    rw [hx.out]
    go_enter Try.func33, Try.ntmps33
    go_wp2_with (first | (go_at_call 34; refine (O _).mono ?_; rintro e w1 ⟨rfl, hw⟩; obtain rfl := hw.symm) | (go_at_call 45; refine (in_eq _ _ _ _ (by assumption) _).mono ?_; rintro e w1 ⟨rfl, hw⟩; obtain rfl := hw.symm))
    go_ret
    refine ⟨rfl, ?_⟩
    (repeat (first | refine Below.alloc ?_ (by first | (simp; done) | (simp; omega)) _ | refine Below.setCell ?_ (by first | (simp; done) | (simp; omega)) _ | refine bel_dN ?_ _ | refine Below.drew ?_ | exact Below.refl _ _))
  · have e : mayK 5 a = true := rfl
    rw [e]
    clear e
    go_enter Try.func33, Try.ntmps33
    go_wp2_with (go_at_call 34; refine (O _).mono ?_; rintro e w1 ⟨rfl, hw⟩; obtain rfl := hw.symm)
    go_ret
    refine ⟨rfl, ?_⟩
    (repeat (first | refine Below.alloc ?_ (by first | (simp; done) | (simp; omega)) _ | refine Below.setCell ?_ (by first | (simp; done) | (simp; omega)) _ | refine bel_dN ?_ _ | refine Below.drew ?_ | exact Below.refl _ _))
  · have e : mayK 6 a = (decide (0 ≤ a) && decide (a ≤ 4294967295)) := rfl
    rw [e]
    clear e
    obtain ⟨x, hx⟩ : ∃ x, Hid ((decide (0 ≤ a) && decide (a ≤ 4294967295)) = x) := ⟨_, rfl⟩
    rw [hx.out]
    go_enter Try.func33, Try.ntmps33
    go_wp2_with (first | (go_at_call 34; refine (O _).mono ?_; rintro e w1 ⟨rfl, hw⟩; obtain rfl := hw.symm) | (go_at_call 45; refine (in_eq _ _ _ _ (by assumption) _).mono ?_; rintro e w1 ⟨rfl, hw⟩; obtain rfl := hw.symm))
    go_ret
    refine ⟨rfl, ?_⟩
    (repeat (first | refine Below.alloc ?_ (by first | (simp; done) | (simp; omega)) _ | refine Below.setCell ?_ (by first | (simp; done) | (simp; omega)) _ | refine bel_dN ?_ _ | refine Below.drew ?_ | exact Below.refl _ _))
  · have e : mayK (-1) a = false := rfl
    rw [e]
    clear e
    go_enter Try.func33, Try.ntmps33
    go_wp2_with (go_at_call 34; refine (O _).mono ?_; rintro e w1 ⟨rfl, hw⟩; obtain rfl := hw.symm)
    go_ret
    refine ⟨rfl, ?_⟩
    (repeat (first | refine Below.alloc ?_ (by first | (simp; done) | (simp; omega)) _ | refine Below.setCell ?_ (by first | (simp; done) | (simp; omega)) _ | refine bel_dN ?_ _ | refine Below.drew ?_ | exact Below.refl _ _))

end Go.Proofs.Ytdalkbapfjpkoaa
