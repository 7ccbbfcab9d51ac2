/-
  Plain facts on sums of two numbers with exponents: nothing of the program stands here.
-/
import Derived.Test.YteniijmnpgdpcaaFMath
namespace Go.Proofs.Yteniijmnpgdpcaa

theorem told_scale (p : Nat) (least : Int) (X j : Nat) (e : Int) (hs : X * 2 ^ j < 18446744073709551616) : toldOf p least (X * 2 ^ j) (e - j) false = toldOf p least X e false := by
  have hP := Nat.two_pow_pos j
  by_cases h0 : X = 0
  · subst h0; simp [toldOf]
  · exact (told_more p least X e false (X * 2 ^ j) j false (by rw [Nat.mul_div_cancel _ hP]) h0 hs (by simp) (Or.inl rfl)).symm

/-- What is left of the lesser one, at most thirty places behind. -/
theorem near_div (mw d : Nat) (hd : d ≤ 30) : mw * 1073741824 / 2 ^ d = mw * 2 ^ (30 - d) ∧ mw * 1073741824 % 2 ^ d = 0 := by
  have hP := Nat.two_pow_pos d
  have e : mw * 1073741824 = mw * 2 ^ (30 - d) * 2 ^ d := by
    rw [Nat.mul_assoc, ← Nat.pow_add, show 30 - d + d = 30 by omega]
  rw [e, Nat.mul_div_cancel _ hP, Nat.mul_mod_left]
  exact ⟨rfl, rfl⟩
theorem near_mul (mv d : Nat) (hd : d ≤ 30) : mv * 1073741824 = mv * 2 ^ d * 2 ^ (30 - d) := by
  rw [Nat.mul_assoc, ← Nat.pow_add, show d + (30 - d) = 30 by omega]
/-- .. and further behind. -/
theorem far_div (mw d : Nat) (hd : 30 < d) : mw * 1073741824 / 2 ^ d = mw / 2 ^ (d - 30) ∧ mw * 1073741824 % 2 ^ d = mw % 2 ^ (d - 30) * 1073741824 := by
  have e : (2 : Nat) ^ d = 2 ^ (d - 30) * 1073741824 := by
    rw [show (1073741824 : Nat) = 2 ^ 30 by decide, ← Nat.pow_add, show d - 30 + 30 = d by omega]
  rw [e]
  exact ⟨Nat.mul_div_mul_right _ _ (by decide), Nat.mul_mod_mul_right _ _ _⟩
theorem far_more (mw d : Nat) (hd : 30 < d) : decide (mw * 1073741824 % 2 ^ d ≠ 0) = decide (mw % 2 ^ (d - 30) ≠ 0) := by
  rw [(far_div mw d hd).2, decide_eq_decide]
  constructor <;> intro h h2 <;> apply h <;> omega
theorem gone (mw k : Nat) (hw : mw < 1152921504606846976) (hk : 60 < k) : mw / 2 ^ k = 0 ∧ mw % 2 ^ k = mw := by
  have : (2 : Nat) ^ 60 ≤ 2 ^ k := Nat.pow_le_pow_right (by omega) (by omega)
  have e : (2 : Nat) ^ 60 = 1152921504606846976 := by decide
  exact ⟨Nat.div_eq_of_lt (by omega), Nat.mod_eq_of_lt (by omega)⟩
/-- A greater exponent makes the greater number. -/
theorem near_gt (mv mw d P : Nat) (hv : P ≤ mv) (hw : mw < 2 * P) (hd : 1 ≤ d) : mw < mv * 2 ^ d := by
  have h1 : 2 ^ 1 ≤ 2 ^ d := Nat.pow_le_pow_right (by omega) hd
  have h2 : mv * 2 ≤ mv * 2 ^ d := Nat.mul_le_mul_left _ (by simpa using h1)
  omega
theorem less_by (mw d : Nat) (hd : 1 ≤ d) : mw * 1073741824 / 2 ^ d ≤ mw * 536870912 := by
  have h1 : 2 ^ 1 ≤ 2 ^ d := Nat.pow_le_pow_right (by omega) hd
  have h2 : mw * 1073741824 / 2 ^ d ≤ mw * 1073741824 / 2 := Nat.div_le_div_left (by simpa using h1) (by omega)
  omega

end Go.Proofs.Yteniijmnpgdpcaa
