/-
  FRound, both sides, and its law.
-/
import Derived.Test.YteniijmnpgdpcaaFOfI
import Derived.Deep.Cut
import Derived.Deep.CutRange
import Derived.Deep.DeepCutAuto
namespace Go.Proofs.Yteniijmnpgdpcaa
open Go.RowKit

theorem shr_any (m T : Nat) (hm : m < 9223372036854775808) : (m : Int) / 2 ^ (min T 64) = ((m / 2 ^ T : Nat) : Int) := by
  by_cases h : T ≤ 64
  · rw [Nat.min_eq_left h]; simp
  · rw [Nat.min_eq_right (by omega)]
    have : (2 : Nat) ^ 64 ≤ 2 ^ T := Nat.pow_le_pow_right (by omega) (by omega)
    have e : (2 : Nat) ^ 64 = 18446744073709551616 := by decide
    rw [Nat.div_eq_of_lt (by omega)]
    have e2 : (2 : Int) ^ 64 = 18446744073709551616 := by decide
    rw [e2]
    omega

theorem lostAny (m T : Nat) (hm : m < 9223372036854775808) (w : World) :
    Calls Try.prog 67 #[.int .u64 (m : Int), .int .i64 (T : Int)] w fun e w' => e = .returned (.bool (decide (m % 2 ^ T ≠ 0))) ∧ w' = w := by
  by_cases hT : T ≤ 64
  · exact lostB m T (by omega) hT w
  · have h2 : (2 : Nat) ^ 64 ≤ 2 ^ T := Nat.pow_le_pow_right (by omega) (by omega)
    have e : (2 : Nat) ^ 64 = 18446744073709551616 := by decide
    have hmod : m % 2 ^ T = m := Nat.mod_eq_of_lt (by omega)
    have f1 := shr_any m T hm
    rw [Nat.div_eq_of_lt (by omega)] at f1
    rw [hmod]
    have g2 : min T 64 = 64 := by omega
    rw [g2] at f1
    have f4 : ((0 : Int) != (m : Int)) = decide (m ≠ 0) := by
      by_cases hm0 : m = 0
      · subst hm0; rfl
      · have : (0 : Int) ≠ m := by omega
        simp [this, hm0]
    generalize decide (m ≠ 0) = b at *
    have f1' : (m : Int) / 18446744073709551616 = 0 := by omega
    have HF : Hid (((0 : Int) != (m : Int)) = b) := f4
    clear hm hT h2 e hmod f4 f1
    go_enter Try.func67, Try.ntmps67
    go_wp2
    go_ret
    exact ⟨by rw [← HF.out]; rfl, rfl⟩

/-- The whole number by a mode. -/
def wh (mode : Int) (s : Bool) (m T : Nat) : Nat := if mode = 4 then nsh m T false else if ((mode = 1 ∧ s = false) ∨ (mode = 2 ∧ s = true)) ∧ m % 2 ^ T ≠ 0 then m / 2 ^ T + 1 else m / 2 ^ T

end Go.Proofs.Yteniijmnpgdpcaa
