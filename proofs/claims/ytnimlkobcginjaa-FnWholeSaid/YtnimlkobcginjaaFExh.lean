/-
  Halves by their bits, as the whole numbers that they are.
-/
import Derived.Test.YtnimlkobcginjaaFExa
import Derived.Test.YtnimlkobcginjaaFHalf
namespace Go.Proofs.Ytnimlkobcginjaa
open Go.RowKit

theorem half_parts (b T : Int) (h0 : b = 0 ∨ b = 1) (t0 : 0 ≤ T) (t1 : T < 32768) : (b * 32768 + T) / 32768 % 2 = b ∧ (b * 32768 + T) / 1024 % 32 = T / 1024 ∧ (b * 32768 + T) % 1024 = T % 1024 := by
  rcases h0 with rfl | rfl <;> omega
theorem exa_fin (b : Int) (T : Nat) (h0 : b = 0 ∨ b = 1) (t1 : T < 31744) : cl16 (b * 32768 + T) = 0 ∧ exa (b * 32768 + T) = if b = 1 then -(valN T : Int) else (valN T : Int) := by
  obtain ⟨e1, e2, e3⟩ := half_parts b T h0 (by omega) (by omega)
  have hx : (T : Int) / 1024 ≠ 31 := by omega
  refine ⟨by unfold cl16; rw [e2, if_neg hx], ?_⟩
  have hv : vm16 (b * 32768 + T) * 2 ^ (ve16 (b * 32768 + T) + 24).toNat = (valN T : Int) := by
    unfold vm16 ve16 valN
    rw [e2, e3, if_neg hx, if_neg hx]
    by_cases h : T / 1024 = 0
    · rw [if_pos (by omega), if_pos (by omega), if_pos h]
      simp
    · rw [if_neg (by omega), if_neg (by omega), if_neg h]
      rw [show (-24 + (T : Int) / 1024 - 1 + 24).toNat = T / 1024 - 1 by omega]
      simp [Int.add_comm]
  unfold exa
  rw [hv, e1]
  rcases h0 with rfl | rfl
  · rw [if_neg (by decide), if_neg (by decide)]
  · rw [if_pos (by decide), if_pos rfl]
theorem cl_top (b : Int) (h0 : b = 0 ∨ b = 1) : cl16 (b * 32768 + 31744) ≠ 0 := by
  obtain ⟨e1, e2, e3⟩ := half_parts b 31744 h0 (by omega) (by omega)
  unfold cl16
  rw [e2, e3]
  decide

/-- What laws.exact answers of any half. -/
def exV (a : Int) : Int := if cl16 a = 0 then exa a else 0
def exB (a : Int) : Bool := decide (cl16 a = 0)
theorem exactAny (a : Int) (h0 : 0 ≤ a) (h1 : a ≤ 4294967295) (w : World) :
    Calls Try.prog 32 #[.int .u32 a] w fun e w' => e = .returned (.tuple #[.int .i64 (exV a), .bool (exB a)]) ∧ Below w.heap.size w w' := by
  unfold exV exB
  by_cases hc : cl16 a = 0
  · rw [if_pos hc, decide_eq_true hc]; exact exactYes a h0 h1 hc w
  · rw [if_neg hc, decide_eq_false hc]; exact exactNo a h0 h1 hc w

/-- What lies beyond the sixteen bits does not matter. -/
theorem exa_cut (a : Int) : exa (a % 65536) = exa a ∧ cl16 (a % 65536) = cl16 a := by
  have e1 : a % 65536 / 1024 % 32 = a / 1024 % 32 := by omega
  have e2 : a % 65536 % 1024 = a % 1024 := by omega
  have e3 : a % 65536 / 32768 % 2 = a / 32768 % 2 := by omega
  unfold exa cl16 vm16 ve16
  rw [e1, e2, e3]
  exact ⟨rfl, rfl⟩
theorem exa_split (a : Int) (hc : cl16 a = 0) : ∃ T : Nat, a % 32768 = (T : Int) ∧ T < 31744 ∧ exa a = if a / 32768 % 2 = 1 then -(valN T : Int) else (valN T : Int) := by
  obtain ⟨T, hT⟩ : ∃ T : Nat, a % 32768 = (T : Int) := ⟨(a % 32768).toNat, by omega⟩
  have ht : T < 31744 := by
    unfold cl16 at hc
    by_cases h : a / 1024 % 32 = 31
    · rw [if_pos h] at hc
      split at hc <;> simp at hc
    · omega
  refine ⟨T, hT, ht, ?_⟩
  have h := (exa_fin (a / 32768 % 2) T (by omega) ht).2
  rw [show a / 32768 % 2 * 32768 + (T : Int) = a % 65536 by omega, (exa_cut a).1] at h
  exact h
theorem val_lt (S T : Nat) (h : S < T) : valN S < valN T := by
  unfold valN
  by_cases h1 : T / 1024 = 0
  · rw [if_pos (by omega), if_pos h1]; omega
  · rw [if_neg h1]
    have hp := Nat.two_pow_pos (T / 1024 - 1)
    by_cases h2 : S / 1024 = 0
    · rw [if_pos h2]
      have : 1024 * 1 ≤ (T % 1024 + 1024) * 2 ^ (T / 1024 - 1) := Nat.mul_le_mul (by omega) hp
      omega
    · rw [if_neg h2]
      by_cases h3 : S / 1024 = T / 1024
      · rw [h3]
        exact Nat.mul_lt_mul_of_pos_right (by omega) hp
      · have h4 : S / 1024 ≤ T / 1024 - 1 := by omega
        have h5 : 2 ^ (S / 1024) ≤ 2 ^ (T / 1024 - 1) := Nat.pow_le_pow_right (by omega) h4
        have h6 : 2 ^ (S / 1024) = 2 * 2 ^ (S / 1024 - 1) := by
          rw [← Nat.pow_succ', show (S / 1024 - 1).succ = S / 1024 by omega]
        have h7 : (S % 1024 + 1024) * 2 ^ (S / 1024 - 1) < 2048 * 2 ^ (S / 1024 - 1) := Nat.mul_lt_mul_of_pos_right (by omega) (Nat.two_pow_pos _)
        have h8 : 1024 * 2 ^ (T / 1024 - 1) ≤ (T % 1024 + 1024) * 2 ^ (T / 1024 - 1) := Nat.mul_le_mul_right _ (by omega)
        generalize 2 ^ (S / 1024 - 1) = p at *
        generalize 2 ^ (T / 1024 - 1) = q at *
        generalize (S % 1024 + 1024) * p = u at *
        generalize (T % 1024 + 1024) * q = v at *
        omega

end Go.Proofs.Ytnimlkobcginjaa
