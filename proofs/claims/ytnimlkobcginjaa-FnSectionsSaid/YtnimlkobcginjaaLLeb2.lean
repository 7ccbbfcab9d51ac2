/-
  Numbers in groups of seven bits: they come back. Plain facts.
-/
import Derived.Test.YtnimlkobcginjaaLLeb
namespace Go.Proofs.Ytnimlkobcginjaa
open Go.ChangeShapes Go.WideShapes Go.PlainAid Go.RowKit

theorem most64 : most 64 = 10 := rfl
theorem pow9 : (128 : Int) ^ 9 = 9223372036854775808 := by decide
theorem ipow (k : Nat) : (128 : Int) ^ k = ((128 ^ k : Nat) : Int) := by simp

/-- What is told of a number without sign is taken, whatever stands behind it. -/
theorem tu_ul (n : Nat) (h : n < 18446744073709551616) (t : ByteArray) : tu (ByteArray.mk (ul 10 n).toArray ++ t) 64 = ((n : Int), (ul 10 n).length) := by
  have hn : n < 128 ^ (9 + 1) := Nat.lt_trans h (by decide)
  have hL := ul_leb 9 n hn
  obtain ⟨h1, h2, _⟩ := ul_span 9 n hn
  generalize ul (9 + 1) n = l at *
  have hp := hL.pos
  have hsc := hL.scan (t := t) (by omega)
  have hd : ∀ i, i < l.length → pt (ByteArray.mk l.toArray ++ t) i = (n : Int) / 128 ^ i % 128 := fun i hi => hL.pt i hi
  generalize ByteArray.mk l.toArray ++ t = s at *
  obtain ⟨j, hj⟩ : ∃ j, l.length = j + 1 := ⟨l.length - 1, by omega⟩
  rw [hj] at h1 h2 hsc hd ⊢
  rw [show j + 1 - 1 = j by omega] at hsc
  have hacc : acc s (j + 1) = n := by
    by_cases h9 : j + 1 ≤ 9
    · rw [acc_is s n (j + 1) hd (j + 1) (by omega) h9, ipow]
      generalize 128 ^ (j + 1) = P at *
      exact Int.emod_eq_of_lt (by omega) (by omega)
    · obtain rfl : j = 9 := by omega
      rw [acc_ten s n hd]
      omega
  have hg : pt s j / 2 ^ (64 - 7 * j) = 0 := by
    by_cases h9 : j ≤ 8
    · exact wide_zero _ _ (pt_lo s j) (pt_hi s j) (by omega)
    · obtain rfl : j = 9 := by omega
      have := hd 9 (by omega)
      rw [pow9] at this
      rw [this]
      show (n : Int) / 9223372036854775808 % 128 / 2 ^ 1 = 0
      rw [show (2 : Int) ^ 1 = 2 by decide]
      omega
  rw [tu_good s 64 j (by rw [most64]; exact hsc) hg, hacc]

theorem ones_is (k : Nat) (h : k ≤ 9) : ones k = 18446744073709551616 - ((128 ^ k : Nat) : Int) := by
  unfold ones
  rw [two_seven, ipow]
  have := pow_room k h
  have h0 : 0 < 128 ^ k := Nat.pow_pos (by omega)
  generalize 128 ^ k = P at *
  rw [IntKind.wrap_u64]
  have e : (18446744073709551615 : Int) * (P : Int) = (18446744073709551616 - (P : Int)) + 18446744073709551616 * ((P : Int) - 1) := by omega
  rw [e, Int.add_mul_emod_self_left]
  exact Int.emod_eq_of_lt (by omega) (by omega)

theorem or_ones (a k : Nat) (ha : a < 128 ^ k) (h : k ≤ 9) : bits .or .u64 (a : Int) (ones k) = (a : Int) + 18446744073709551616 - ((128 ^ k : Nat) : Int) := by
  rw [ones_is k h]
  have hP := pow_room k h
  have h0 : 0 < 128 ^ k := Nat.pow_pos (by omega)
  obtain ⟨c, hc⟩ : ∃ c, 18446744073709551616 = 128 ^ k * c := ⟨2 ^ (64 - 7 * k), by rw [← nat_seven, ← Nat.pow_add, show 7 * k + (64 - 7 * k) = 64 by omega]⟩
  have hc1 : 1 ≤ c := by
    rcases Nat.eq_zero_or_pos c with h' | h'
    · subst h'; simp at hc
    · exact h'
  have hor := Nat.two_pow_add_eq_or_of_lt (i := 7 * k) (b := a) (by rw [nat_seven]; exact ha) (c - 1)
  rw [nat_seven] at hor
  have e : 128 ^ k * (c - 1) = 18446744073709551616 - 128 ^ k := by rw [Nat.mul_sub, Nat.mul_one, ← hc]
  rw [e] at hor
  generalize 128 ^ k = P at *
  rw [show (18446744073709551616 : Int) - (P : Int) = ((18446744073709551616 - P : Nat) : Int) by omega, or_nat a _ (by omega) (by omega), Nat.or_comm, ← hor]
  omega

theorem w64_neg (N : Int) (h0 : -9223372036854775808 ≤ N) (h1 : N < 0) : wrap64 (N + 18446744073709551616) = N := by unfold wrap64; omega
theorem w64_pos (N : Int) (h0 : 0 ≤ N) (h1 : N ≤ 9223372036854775807) : wrap64 N = N := by unfold wrap64; omega
theorem w64_mod (N : Int) (h0 : -9223372036854775808 ≤ N) (h1 : N ≤ 9223372036854775807) : wrap64 (N % 18446744073709551616) = N := by unfold wrap64; omega

/-- What lies between two bounds, by its last group. -/
theorem top_of (N : Int) (P : Nat) (hP : 0 < P) (b0 : -(64 * (P : Int)) ≤ N) (b1 : N < 64 * (P : Int)) : -64 ≤ N / (P : Int) ∧ N / (P : Int) ≤ 63 ∧ (N < 0 ↔ N / (P : Int) < 0) := by
  refine ⟨?_, ?_, ?_⟩
  · exact Int.le_ediv_of_mul_le (by omega) (by omega)
  · have : N / (P : Int) < 64 := Int.ediv_lt_of_lt_mul (by omega) (by omega)
    omega
  · constructor
    · intro h
      exact Int.ediv_neg_of_neg_of_pos h (by omega)
    · intro h
      rcases (show N < 0 ∨ 0 ≤ N by omega) with h' | h'
      · exact h'
      · have := Int.ediv_nonneg h' (show (0 : Int) ≤ P by omega)
        omega

/-- What is told of a signed number is taken, whatever stands behind it. -/
theorem ts_sl (N : Int) (h0 : -9223372036854775808 ≤ N) (h1 : N ≤ 9223372036854775807) (t : ByteArray) : ts (ByteArray.mk (sl 10 N).toArray ++ t) 64 = (N, (sl 10 N).length) := by
  have hf := sfit_i64 N h0 h1
  have hL := sl_leb 9 N hf
  obtain ⟨g1, g2, g3⟩ := sl_span 9 N hf
  generalize sl (9 + 1) N = l at *
  have hp := hL.pos
  have hsc := hL.scan (t := t) (by omega)
  have hd : ∀ i, i < l.length → pt (ByteArray.mk l.toArray ++ t) i = N / 128 ^ i % 128 := fun i hi => hL.pt i hi
  generalize ByteArray.mk l.toArray ++ t = s at *
  obtain ⟨j, hj⟩ : ∃ j, l.length = j + 1 := ⟨l.length - 1, by omega⟩
  rw [hj] at g1 g2 g3 hsc hd ⊢
  rw [show j + 1 - 1 = j by omega] at hsc g2 g3
  have hpj := hd j (by omega)
  by_cases h9 : j ≤ 8
  · have hok : okS s 64 j := okS_wide s 64 j (by omega)
    rw [ts_good s 64 j (by rw [most64]; exact hsc) hok]
    have hacc := acc_is s N (j + 1) hd (j + 1) (by omega) (by omega)
    rw [ipow] at g2 g3 hpj hacc
    have hP0 : 0 < 128 ^ j := Nat.pow_pos (by omega)
    obtain ⟨t0, t1, t2⟩ := top_of N (128 ^ j) hP0 g2 g3
    have e1 : 128 ^ (j + 1) = 128 ^ j * 128 := Nat.pow_succ ..
    by_cases hn : N < 0
    · have hpt : 64 ≤ pt s j := by have := t2.1 hn; omega
      rw [sx_hi s j hpt (by omega), hacc]
      have hm : N % ((128 ^ (j + 1) : Nat) : Int) = N + ((128 ^ (j + 1) : Nat) : Int) := by
        rw [e1]
        generalize 128 ^ j = P at *
        have e := Int.add_mul_emod_self_left N ((P * 128 : Nat) : Int) 1
        rw [Int.mul_one] at e
        rw [← e]
        exact Int.emod_eq_of_lt (by omega) (by omega)
      rw [hm]
      obtain ⟨a, ha⟩ := Int.eq_ofNat_of_zero_le (show 0 ≤ N + ((128 ^ (j + 1) : Nat) : Int) by rw [e1]; generalize 128 ^ j = P at *; omega)
      have hlt : a < 128 ^ (j + 1) := by omega
      have ho := or_ones a (j + 1) hlt (by omega)
      rw [ha, ho, show (a : Int) + 18446744073709551616 - ((128 ^ (j + 1) : Nat) : Int) = N + 18446744073709551616 by omega, w64_neg N h0 hn]
    · have hpt : pt s j < 64 := by
        have h3 : ¬ N / ((128 ^ j : Nat) : Int) < 0 := fun h => hn (t2.2 h)
        omega
      rw [sx_lo s j hpt, hacc]
      have hm : N % ((128 ^ (j + 1) : Nat) : Int) = N := by
        rw [e1]
        generalize 128 ^ j = P at *
        exact Int.emod_eq_of_lt (by omega) (by omega)
      rw [hm, w64_pos N (by omega) h1]
  · obtain rfl : j = 9 := by omega
    rw [pow9] at hpj
    have hok : okS s 64 9 := by
      unfold okS
      rw [hpj]
      show N / 9223372036854775808 % 128 / 2 ^ 0 = 0 ∨ N / 9223372036854775808 % 128 / 2 ^ 0 = 127 / 2 ^ 0
      rw [show (2 : Int) ^ 0 = 1 by decide]
      omega
    rw [ts_good s 64 9 (by rw [most64]; exact hsc) hok, sx_nine s 9 (by omega), acc_ten s N hd, w64_mod N h0 h1]

end Go.Proofs.Ytnimlkobcginjaa
