/-
  FRound, both sides, and its law.
-/
import Derived.Test.YtnimlkobcginjaaFOfI
import Derived.Deep.Cut
import Derived.Deep.CutRange
import Derived.Deep.DeepCutAuto
namespace Go.Proofs.Ytnimlkobcginjaa
open Go.RowKit

theorem shr_any (m T : Nat) (hm : m < 9223372036854775808) : (m : Int) / 2 ^ (min T 64) = ((m / 2 ^ T : Nat) : Int) := by
  by_cases h : T ≤ 64
  · rw [Nat.min_eq_left h]; simp
  · rw [Nat.min_eq_right (by omega)]
    have : (2 : Nat) ^ 64 ≤ 2 ^ T := Nat.pow_le_pow_right (by omega) (by omega)
    have e : (2 : Nat) ^ 64 = 18446744073709551616 := by decide
    rw [Nat.div_eq_of_lt (by omega)]
    have e2 : (2 : Int) ^ 64 = 18446744073709551616 := by decide
    rw [e2]
    omega

theorem lostAny (m T : Nat) (hm : m < 9223372036854775808) (w : World) :
    Calls Try.prog 88 #[.int .u64 (m : Int), .int .i64 (T : Int)] w fun e w' => e = .returned (.bool (decide (m % 2 ^ T ≠ 0))) ∧ w' = w := by
  by_cases hT : T ≤ 64
  · exact lostB m T (by omega) hT w
  · have h2 : (2 : Nat) ^ 64 ≤ 2 ^ T := Nat.pow_le_pow_right (by omega) (by omega)
    have e : (2 : Nat) ^ 64 = 18446744073709551616 := by decide
    have hmod : m % 2 ^ T = m := Nat.mod_eq_of_lt (by omega)
    have f1 := shr_any m T hm
    rw [Nat.div_eq_of_lt (by omega)] at f1
    rw [hmod]
    have g2 : min T 64 = 64 := by omega
    rw [g2] at f1
    have f4 : ((0 : Int) != (m : Int)) = decide (m ≠ 0) := by
      by_cases hm0 : m = 0
      · subst hm0; rfl
      · have : (0 : Int) ≠ m := by omega
        simp [this, hm0]
    generalize decide (m ≠ 0) = b at *
    have f1' : (m : Int) / 18446744073709551616 = 0 := by omega
    have HF : Hid (((0 : Int) != (m : Int)) = b) := f4
    clear hm hT h2 e hmod f4 f1
    go_enter Try.func88, Try.ntmps88
    go_wp2
    go_ret
    exact ⟨by rw [← HF.out]; rfl, rfl⟩

/-- The whole number by a mode. -/
def wh (mode : Int) (s : Bool) (m T : Nat) : Nat := if mode = 4 then nsh m T false else if ((mode = 1 ∧ s = false) ∨ (mode = 2 ∧ s = true)) ∧ m % 2 ^ T ≠ 0 then m / 2 ^ T + 1 else m / 2 ^ T

theorem wholeBy4 (c : Int) (s : Bool) (m T : Nat) (e : Int) (he : e = -(T : Int)) (hT : 1 ≤ T) (hT2 : T ≤ 2000) (hm : m < 1152921504606846976) (w : World) :
    Calls Try.prog 80 #[.agg #[.int .i64 c, .bool s, .int .u64 (m : Int), .int .i64 e], .int .i64 4] w fun x w' => x = .returned (.int .u64 ((wh 4 s m T : Nat) : Int)) ∧ Below w.heap.size w w' := by
  have N := nearest m T false hT hm (by omega)
  rw [show wh 4 s m T = nsh m T false by unfold wh; rw [if_pos rfl]]
  generalize ((nsh m T false : Nat) : Int) = r at *
  have v1 : wrap64 (-e) = T := by unfold wrap64; omega
  clear he hT hT2 hm
  go_enter Try.func80, Try.ntmps80
  go_wp2_with fail
  refine (N _).mono ?_
  rintro x w1 ⟨rfl, B1⟩
  go_wp2
  go_ret
  refine ⟨rfl, ?_⟩
  ((repeat (first | refine bel_alloc ?_ _ | refine bel_dN ?_ _ | refine Below.drew ?_ | refine Below.setCell ?_ (by first | (simp; done) | (simp; omega)) _)); refine bel_step ?_ B1; (repeat (first | refine bel_alloc ?_ _ | refine bel_dN ?_ _ | refine Below.drew ?_ | refine Below.setCell ?_ (by first | (simp; done) | (simp; omega)) _)); exact Below.refl _ _)

theorem wholeByShr (mode c : Int) (s : Bool) (m T : Nat) (e : Int) (he : e = -(T : Int)) (hT2 : T ≤ 2000) (hm : m < 1152921504606846976) (hmode : (mode = 3) ∨ (mode = 1 ∧ s = true) ∨ (mode = 2 ∧ s = false)) (w : World) :
    Calls Try.prog 80 #[.agg #[.int .i64 c, .bool s, .int .u64 (m : Int), .int .i64 e], .int .i64 mode] w fun x w' => x = .returned (.int .u64 ((wh mode s m T : Nat) : Int)) ∧ Below w.heap.size w w' := by
  rw [show wh mode s m T = m / 2 ^ T by unfold wh; rw [if_neg (by omega), if_neg (by rintro ⟨h, _⟩; rcases hmode with rfl | ⟨rfl, rfl⟩ | ⟨rfl, rfl⟩ <;> simp at h)]]
  have f1 := shr_any m T (by omega)
  generalize ((m / 2 ^ T : Nat) : Int) = r at *
  have v1 : wrap64 (-e) = T := by unfold wrap64; omega
  clear he hT2 hm
  rcases hmode with rfl | ⟨rfl, rfl⟩ | ⟨rfl, rfl⟩
  · go_enter Try.func80, Try.ntmps80
    go_wp2
    go_ret
    refine ⟨rfl, ?_⟩
    (repeat (first | refine Below.alloc ?_ (by first | (simp; done) | (simp; omega)) _ | refine Below.setCell ?_ (by first | (simp; done) | (simp; omega)) _ | refine bel_dN ?_ _ | refine Below.drew ?_ | exact Below.refl _ _))
  · go_enter Try.func80, Try.ntmps80
    go_wp2
    go_ret
    refine ⟨rfl, ?_⟩
    (repeat (first | refine Below.alloc ?_ (by first | (simp; done) | (simp; omega)) _ | refine Below.setCell ?_ (by first | (simp; done) | (simp; omega)) _ | refine bel_dN ?_ _ | refine Below.drew ?_ | exact Below.refl _ _))
  · go_enter Try.func80, Try.ntmps80
    go_wp2
    go_ret
    refine ⟨rfl, ?_⟩
    (repeat (first | refine Below.alloc ?_ (by first | (simp; done) | (simp; omega)) _ | refine Below.setCell ?_ (by first | (simp; done) | (simp; omega)) _ | refine bel_dN ?_ _ | refine Below.drew ?_ | exact Below.refl _ _))

theorem wholeByAway (mode c : Int) (s : Bool) (m T : Nat) (e : Int) (he : e = -(T : Int)) (hT2 : T ≤ 2000) (hm : m < 1152921504606846976) (hmode : (mode = 1 ∧ s = false) ∨ (mode = 2 ∧ s = true)) (w : World) :
    Calls Try.prog 80 #[.agg #[.int .i64 c, .bool s, .int .u64 (m : Int), .int .i64 e], .int .i64 mode] w fun x w' => x = .returned (.int .u64 ((wh mode s m T : Nat) : Int)) ∧ Below w.heap.size w w' := by
  have LO := lostAny m T (by omega)
  have hw : wh mode s m T = if m % 2 ^ T ≠ 0 then m / 2 ^ T + 1 else m / 2 ^ T := by
    unfold wh
    rw [if_neg (by omega)]
    by_cases h : m % 2 ^ T ≠ 0
    · rw [if_pos ⟨hmode, h⟩, if_pos h]
    · rw [if_neg (fun x => h x.2), if_neg h]
  rw [hw]
  have f1 := shr_any m T (by omega)
  obtain ⟨K, hK⟩ : ∃ K, m / 2 ^ T = K := ⟨_, rfl⟩
  have hKm : K ≤ m := by rw [← hK]; exact Nat.div_le_self _ _
  rw [hK] at f1 ⊢
  have v1 : wrap64 (-e) = T := by unfold wrap64; omega
  have v2 : IntKind.u64.wrap ((K : Int) + 1) = (K : Int) + 1 := by rw [IntKind.wrap_u64]; omega
  clear he hT2 hm hw hKm hK
  by_cases h : m % 2 ^ T ≠ 0
  · rw [if_pos h]
    rw [show decide (m % 2 ^ T ≠ 0) = true by simpa using h] at LO
    clear h
    rcases hmode with ⟨rfl, rfl⟩ | ⟨rfl, rfl⟩
    · go_enter Try.func80, Try.ntmps80
      go_wp2_with fail
      refine (LO _).mono ?_
      rintro x w1 ⟨rfl, hw1⟩
      obtain rfl := hw1.symm
      go_wp2
      go_ret
      refine ⟨by simp, ?_⟩
      (repeat (first | refine Below.alloc ?_ (by first | (simp; done) | (simp; omega)) _ | refine Below.setCell ?_ (by first | (simp; done) | (simp; omega)) _ | refine bel_dN ?_ _ | refine Below.drew ?_ | exact Below.refl _ _))
    · go_enter Try.func80, Try.ntmps80
      go_wp2_with fail
      refine (LO _).mono ?_
      rintro x w1 ⟨rfl, hw1⟩
      obtain rfl := hw1.symm
      go_wp2
      go_ret
      refine ⟨by simp, ?_⟩
      (repeat (first | refine Below.alloc ?_ (by first | (simp; done) | (simp; omega)) _ | refine Below.setCell ?_ (by first | (simp; done) | (simp; omega)) _ | refine bel_dN ?_ _ | refine Below.drew ?_ | exact Below.refl _ _))
  · rw [if_neg h]
    rw [show decide (m % 2 ^ T ≠ 0) = false by simpa using h] at LO
    clear h
    rcases hmode with ⟨rfl, rfl⟩ | ⟨rfl, rfl⟩
    · go_enter Try.func80, Try.ntmps80
      go_wp2_with fail
      refine (LO _).mono ?_
      rintro x w1 ⟨rfl, hw1⟩
      obtain rfl := hw1.symm
      go_wp2
      go_ret
      refine ⟨rfl, ?_⟩
      (repeat (first | refine Below.alloc ?_ (by first | (simp; done) | (simp; omega)) _ | refine Below.setCell ?_ (by first | (simp; done) | (simp; omega)) _ | refine bel_dN ?_ _ | refine Below.drew ?_ | exact Below.refl _ _))
    · go_enter Try.func80, Try.ntmps80
      go_wp2_with fail
      refine (LO _).mono ?_
      rintro x w1 ⟨rfl, hw1⟩
      obtain rfl := hw1.symm
      go_wp2
      go_ret
      refine ⟨rfl, ?_⟩
      (repeat (first | refine Below.alloc ?_ (by first | (simp; done) | (simp; omega)) _ | refine Below.setCell ?_ (by first | (simp; done) | (simp; omega)) _ | refine bel_dN ?_ _ | refine Below.drew ?_ | exact Below.refl _ _))

theorem wholeBy (mode c : Int) (s : Bool) (m T : Nat) (e : Int) (he : e = -(T : Int)) (hT : 1 ≤ T) (hT2 : T ≤ 2000) (hm : m < 1152921504606846976) (h1 : 1 ≤ mode) (h4 : mode ≤ 4) (w : World) :
    Calls Try.prog 80 #[.agg #[.int .i64 c, .bool s, .int .u64 (m : Int), .int .i64 e], .int .i64 mode] w fun x w' => x = .returned (.int .u64 ((wh mode s m T : Nat) : Int)) ∧ Below w.heap.size w w' := by
  rcases (by omega : mode = 1 ∨ mode = 2 ∨ mode = 3 ∨ mode = 4) with rfl | rfl | rfl | rfl
  · cases s
    · exact wholeByAway 1 c false m T e he hT2 hm (Or.inl ⟨rfl, rfl⟩) w
    · exact wholeByShr 1 c true m T e he hT2 hm (Or.inr (Or.inl ⟨rfl, rfl⟩)) w
  · cases s
    · exact wholeByShr 2 c false m T e he hT2 hm (Or.inr (Or.inr ⟨rfl, rfl⟩)) w
    · exact wholeByAway 2 c true m T e he hT2 hm (Or.inr ⟨rfl, rfl⟩) w
  · exact wholeByShr 3 c s m T e he hT2 hm (Or.inl rfl) w
  · exact wholeBy4 c s m T e he hT hT2 hm w

end Go.Proofs.Ytnimlkobcginjaa
