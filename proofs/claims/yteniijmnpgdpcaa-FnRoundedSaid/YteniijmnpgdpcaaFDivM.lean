/-
  Quotients that are brought to one place or another are rounded alike: plain facts.
-/
import Derived.Test.YteniijmnpgdpcaaFMath
namespace Go.Proofs.Yteniijmnpgdpcaa
open Go.RowKit

/-- A number with more bits than are kept has its last kept one above its own last. -/
theorem last_above (p : Nat) (least : Int) (m : Nat) (e : Int) (hm : m < 18446744073709551616) (h : 2 ^ (p + 1) ≤ m) : e < lastOf p least m e := by
  have := bl_ge m (p + 1) hm h
  unfold lastOf
  omega

/-- The divisor is brought to its place. -/
theorem quot_low (p : Nat) (least : Int) (B w k : Nat) (E : Int) (hw : w ≠ 0) (hB : B < 18446744073709551616) (hq : 2 ^ (p + 1) ≤ B / (w * 2 ^ k)) :
    toldOf p least (B / (w * 2 ^ k)) (E + k) (decide (B % (w * 2 ^ k) ≠ 0)) = toldOf p least (B / w) E (decide (B % w ≠ 0)) := by
  have hp := Nat.two_pow_pos (p + 1)
  have hk := Nat.two_pow_pos k
  have e1 : B / (w * 2 ^ k) = B / w / 2 ^ k := (Nat.div_div_eq_div_mul B w (2 ^ k)).symm
  have hle : B / w ≤ B := Nat.div_le_self _ _
  have hle2 : B / (w * 2 ^ k) ≤ B := Nat.div_le_self _ _
  have hmore : decide (B % (w * 2 ^ k) ≠ 0) = (decide (B % w ≠ 0) || decide (B / w % 2 ^ k ≠ 0)) := by
    rw [Nat.mod_mul]
    generalize B % w = x
    generalize B / w % 2 ^ k = y
    by_cases hx : x = 0
    · subst hx
      by_cases hy : y = 0
      · subst hy; simp
      · have : w * y ≠ 0 := Nat.mul_ne_zero hw hy
        simp [hy, this]
    · simp [hx]
  have h := told_more p least (B / (w * 2 ^ k)) (E + k) _ (B / w) k (decide (B % w ≠ 0)) e1 (by omega) (by omega) hmore (Or.inr (last_above p least _ _ (by omega) hq))
  rw [h, show E + (k : Int) - (k : Int) = E by omega]

/-- What is divided is brought farther. -/
theorem quot_high (p : Nat) (least : Int) (B w t : Nat) (E : Int) (hw : w ≠ 0) (hB : B * 2 ^ t < 18446744073709551616) (hq : 2 ^ (p + 1) ≤ B / w) :
    toldOf p least (B / w) E (decide (B % w ≠ 0)) = toldOf p least (B * 2 ^ t / w) (E - t) (decide (B * 2 ^ t % w ≠ 0)) := by
  have hp := Nat.two_pow_pos (p + 1)
  have ht := Nat.two_pow_pos t
  have hBle : B ≤ B * 2 ^ t := Nat.le_mul_of_pos_right B ht
  have e1 : B / w = B * 2 ^ t / w / 2 ^ t := by rw [Nat.div_div_eq_div_mul, Nat.mul_div_mul_right _ _ ht]
  have hle : B / w ≤ B := Nat.div_le_self _ _
  have hle2 : B * 2 ^ t / w ≤ B * 2 ^ t := Nat.div_le_self _ _
  have hmore : decide (B % w ≠ 0) = (decide (B * 2 ^ t % w ≠ 0) || decide (B * 2 ^ t / w % 2 ^ t ≠ 0)) := by
    have h1 : B * 2 ^ t % (w * 2 ^ t) = B % w * 2 ^ t := Nat.mul_mod_mul_right _ _ _
    have h2 : B * 2 ^ t % (w * 2 ^ t) = B * 2 ^ t % w + w * (B * 2 ^ t / w % 2 ^ t) := Nat.mod_mul
    rw [h2] at h1
    generalize B * 2 ^ t % w = x at *
    generalize B * 2 ^ t / w % 2 ^ t = y at *
    by_cases hx : x = 0
    · by_cases hy : y = 0
      · subst hx; subst hy
        have : B % w * 2 ^ t = 0 := by rw [← h1]; simp
        have h0 : B % w = 0 := by
          rcases Nat.mul_eq_zero.1 this with h | h
          · exact h
          · omega
        rw [h0]; simp
      · have hne : w * y ≠ 0 := Nat.mul_ne_zero hw hy
        have h0 : B % w ≠ 0 := fun h => by rw [h, Nat.zero_mul] at h1; omega
        simp [h0, hy]
    · have h0 : B % w ≠ 0 := fun h => by rw [h, Nat.zero_mul] at h1; omega
      simp [h0, hx]
  exact told_more p least (B / w) E _ (B * 2 ^ t / w) t (decide (B * 2 ^ t % w ≠ 0)) e1 (by omega) (by omega) hmore (Or.inr (last_above p least _ _ (by omega) hq))

/-- The root of four times as much is twice as great, and the one more bit tells no more than what is left. -/
theorem root_low (M r s : Nat) (hr : r * r ≤ 4 * M) (hr' : 4 * M < (r + 1) * (r + 1)) (hs : s * s ≤ M) (hs' : M < (s + 1) * (s + 1)) :
    s = r / 2 ∧ decide (s * s ≠ M) = (decide (r * r ≠ 4 * M) || decide (r % 2 ≠ 0)) := by
  have h1 : 2 * s ≤ r := by
    rcases Nat.lt_or_ge r (2 * s) with h | h
    · have : (r + 1) * (r + 1) ≤ (2 * s) * (2 * s) := Nat.mul_le_mul h h
      rw [show (2 * s) * (2 * s) = 4 * (s * s) by rw [Nat.mul_mul_mul_comm]] at this
      omega
    · exact h
  have h2 : r < 2 * s + 2 := by
    rcases Nat.lt_or_ge r (2 * s + 2) with h | h
    · exact h
    · have : (2 * (s + 1)) * (2 * (s + 1)) ≤ r * r := Nat.mul_le_mul (by omega) (by omega)
      rw [show (2 * (s + 1)) * (2 * (s + 1)) = 4 * ((s + 1) * (s + 1)) by rw [Nat.mul_mul_mul_comm]] at this
      omega
  refine ⟨by omega, ?_⟩
  rcases (by omega : r = 2 * s ∨ r = 2 * s + 1) with rfl | rfl
  · have e : 2 * s * (2 * s) = 4 * (s * s) := by rw [Nat.mul_mul_mul_comm]
    rw [e, show 2 * s % 2 = 0 by omega]
    by_cases h : s * s = M
    · simp [h]
    · have h3 : ¬ 4 * (s * s) = 4 * M := by omega
      simp [h, h3]
  · have e : (2 * s + 1) * (2 * s + 1) = 4 * (s * s) + 4 * s + 1 := by
      rw [Nat.add_mul, Nat.mul_add, Nat.mul_mul_mul_comm]; omega
    rw [e] at hr
    rw [show (2 * s + 1) % 2 = 1 by omega]
    have h : s * s ≠ M := by omega
    simp [h]

end Go.Proofs.Yteniijmnpgdpcaa
