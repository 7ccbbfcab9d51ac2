/-
  Roots: plain facts. Newton's steps from any guess; a bit more or less.
-/
import Derived.Test.YteniijmnpgdpcaaFDivM
namespace Go.Proofs.Yteniijmnpgdpcaa
open Go.RowKit

theorem root_ex : ∀ m : Nat, ∃ s, s * s ≤ m ∧ m < (s + 1) * (s + 1)
  | 0 => ⟨0, by omega, by omega⟩
  | m + 1 => by
    obtain ⟨s, h1, h2⟩ := root_ex m
    by_cases h : (s + 1) * (s + 1) ≤ m + 1
    · refine ⟨s + 1, h, ?_⟩
      have e : (s + 1 + 1) * (s + 1 + 1) = (s + 1) * (s + 1) + (s + 1) + (s + 1) + 1 := by
        rw [Nat.add_mul (s + 1) 1, Nat.mul_add (s + 1) (s + 1) 1]; omega
      omega
    · exact ⟨s, by omega, by omega⟩

/-- One step tells no less than the root. -/
theorem step_ge (m x s : Nat) (hx : 1 ≤ x) (hs : s * s ≤ m) : s ≤ (x + m / x) / 2 := by
  rcases Nat.lt_or_ge ((x + m / x) / 2) s with h | h
  · exfalso
    obtain ⟨q, hq⟩ : ∃ q, m / x = q := ⟨_, rfl⟩
    rw [hq] at h
    have h2 : x + q < 2 * s := by omega
    obtain ⟨y, hy⟩ : ∃ y, 2 * s = x + y := ⟨2 * s - x, by omega⟩
    have h3 : m / x < y := by omega
    have h4 : m < y * x := (Nat.div_lt_iff_lt_mul (by omega)).1 h3
    clear h h2 h3 hq
    have h5 : y * x ≤ s * s := by
      rcases Nat.le_total x s with hxs | hxs
      · obtain ⟨d, rfl⟩ := Nat.exists_eq_add_of_le hxs
        obtain rfl : y = x + d + d := by omega
        rw [Nat.add_mul (x + d) d x, Nat.mul_add (x + d) x d]
        have : d * x ≤ (x + d) * d := by rw [Nat.mul_comm d x]; exact Nat.mul_le_mul_right _ (by omega)
        omega
      · obtain ⟨d, rfl⟩ := Nat.exists_eq_add_of_le hxs
        obtain ⟨z, rfl⟩ : ∃ z, s = z + d := ⟨s - d, by omega⟩
        obtain rfl : y = z := by omega
        rw [show y + d + d = (y + d) + d by omega, Nat.mul_add y (y + d) d, Nat.add_mul y d (y + d)]
        have : y * d ≤ d * (y + d) := by rw [Nat.mul_comm y d]; exact Nat.mul_le_mul_left _ (by omega)
        omega
    omega
  · exact h

/-- Above the root a step goes down. -/
theorem step_lt (m x s : Nat) (hx : s < x) (hs : m < (s + 1) * (s + 1)) : (x + m / x) / 2 < x := by
  have h1 : (s + 1) * (s + 1) ≤ x * x := Nat.mul_le_mul hx hx
  have h2 : m / x < x := (Nat.div_lt_iff_lt_mul (by omega)).2 (by omega)
  generalize m / x = q at *
  omega

/-- No step goes beyond a word. -/
theorem step_room (m x : Nat) (hx : 1 ≤ x) (hm : m < 1152921504606846976) (hw : x < 18446744073709551616) : x + m / x < 18446744073709551616 := by
  by_cases h : x < 1152921504606846976
  · have := Nat.div_le_self m x
    omega
  · have : m / x = 0 := Nat.div_eq_of_lt (by omega)
    omega

theorem root_up (m s a : Nat) (h : a * a ≤ m) (hs : m < (s + 1) * (s + 1)) : a ≤ s := by
  rcases Nat.lt_or_ge s a with h2 | h2
  · have : (s + 1) * (s + 1) ≤ a * a := Nat.mul_le_mul h2 h2
    omega
  · exact h2
theorem root_down (m s a : Nat) (h : m < a * a) (hs : s * s ≤ m) : s < a := by
  rcases Nat.lt_or_ge s a with h2 | h2
  · exact h2
  · have : a * a ≤ s * s := Nat.mul_le_mul h2 h2
    omega

/-- The root of four times as much, one lower, is rounded alike. -/
theorem root_told (p : Nat) (least : Int) (M r s : Nat) (E : Int) (hp : p ≤ 23) (hM : 72057594037927936 ≤ M) (hM2 : M < 288230376151711744) (hr : r * r ≤ 4 * M) (hr' : 4 * M < (r + 1) * (r + 1)) (hs : s * s ≤ M) (hs' : M < (s + 1) * (s + 1)) :
    toldOf p least s E (decide (s * s ≠ M)) = toldOf p least r (E - 1) (decide (r * r ≠ 4 * M)) := by
  obtain ⟨e1, e2⟩ := root_low M r s hr hr' hs hs'
  have l1 : 268435456 ≤ s := root_up M s 268435456 (by omega) hs'
  have l2 : r < 1073741824 := root_down (4 * M) r 1073741824 (by omega) hr
  have hp2 : 2 ^ (p + 1) ≤ s := Nat.le_trans (Nat.pow_le_pow_right (by omega) (show p + 1 ≤ 24 by omega)) (by omega)
  have h := told_more p least s E (decide (s * s ≠ M)) r 1 (decide (r * r ≠ 4 * M)) (by simpa using e1) (by omega) (by omega) (by simpa using e2) (Or.inr (last_above p least s E (by omega) hp2))
  simpa using h

end Go.Proofs.Yteniijmnpgdpcaa
