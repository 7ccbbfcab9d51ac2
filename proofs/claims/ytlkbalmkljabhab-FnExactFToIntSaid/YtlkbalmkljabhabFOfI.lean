/-
  FOfInt, both sides, and its law.
-/
import Derived.Test.YtlkbalmkljabhabFRndS
import Derived.Test.YtlkbalmkljabhabFFv
import Derived.OpenShut
namespace Go.Proofs.Ytlkbalmkljabhab
open Go.RowKit

theorem lostB (m T : Nat) (hm : m < 18446744073709551616) (hT : T ≤ 64) (w : World) :
    Calls Try.prog 53 #[.int .u64 (m : Int), .int .i64 (T : Int)] w fun e w' => e = .returned (.bool (decide (m % 2 ^ T ≠ 0))) ∧ w' = w := by
  obtain ⟨K, hK⟩ : ∃ K, m / 2 ^ T = K := ⟨_, rfl⟩
  have edm := Nat.div_add_mod m (2 ^ T)
  rw [hK] at edm
  have f1 : (m : Int) / 2 ^ T = (K : Int) := by rw [← hK]; simp
  have f3 : IntKind.u64.wrap ((K : Int) * 2 ^ T) = (2 ^ T * K : Nat) := by
    rw [show (K : Int) * 2 ^ T = ((2 ^ T * K : Nat) : Int) by simp [Int.mul_comm], IntKind.wrap_u64]; omega
  have f4 : (((2 ^ T * K : Nat) : Int) != (m : Int)) = decide (m % 2 ^ T ≠ 0) := by
    generalize 2 ^ T * K = Z at *
    generalize m % 2 ^ T = L at *
    by_cases hL : L = 0
    · rw [hL, show Z = m by omega]; simp
    · have : Z ≠ m := by omega
      have h2 : (Z : Int) ≠ m := by omega
      simp [hL, h2]
  generalize ((2 ^ T * K : Nat) : Int) = Z at *
  generalize decide (m % 2 ^ T ≠ 0) = b at *
  have g2 : min T 64 = T := by omega
  clear edm hK hm hT
  go_enter Try.func53, Try.ntmps53
  go_wp2
  go_ret
  exact ⟨by rw [← f4]; rfl, rfl⟩

/-- Too many bits are cut. -/
theorem cut60 (A j : Nat) (hA : A < 18446744073709551616) (hx : A / 2 ^ j < 1152921504606846976) (hj : j = 0 ∨ 1152921504606846976 ≤ A / 2 ^ (j - 1)) : max ((Lib.bitLen A : Int) - 60) 0 = j := by
  rcases hj with rfl | hj
  · have h : A < 2 ^ 60 := by simpa using hx
    have := bl_le A 60 hA h
    omega
  · by_cases h0 : j = 0
    · subst h0
      have h : A < 2 ^ 60 := by simpa using hx
      have := bl_le A 60 hA h
      omega
    · have hp := Nat.two_pow_pos j
      have hp1 := Nat.two_pow_pos (j - 1)
      have u : A < 2 ^ (60 + j) := by
        rw [Nat.pow_add]
        exact (Nat.div_lt_iff_lt_mul hp).1 hx
      have v : 2 ^ (60 + j - 1) ≤ A := by
        rw [show 60 + j - 1 = 60 + (j - 1) by omega, Nat.pow_add]
        exact (Nat.le_div_iff_mul_le hp1).1 hj
      rw [bl_eq A (60 + j) hA (by omega) v u]
      omega

end Go.Proofs.Ytlkbalmkljabhab
