/-
  Numbers in groups of seven bits: what is told is taken. Plain facts.
-/
import Derived.Test.YtdalkbapfjpkoaaMath
import Derived.Test.YtdalkbapfjpkoaaSMath
import Derived.Test.YtdalkbapfjpkoaaT1
import Derived.Test.YtdalkbapfjpkoaaT2
import Derived.Test.YtdalkbapfjpkoaaIOrs
import Derived.Test.YtdalkbapfjpkoaaR1
namespace Go.Proofs.Ytdalkbapfjpkoaa
open Go.ChangeShapes Go.WideShapes Go.PlainAid Go.RowKit

/-- The bytes l tell the number N, by seven bits each. -/
structure Leb (l : List UInt8) (N : Int) : Prop where
  pos : 0 < l.length
  hi : ∀ i, i + 1 < l.length → ((l.getD i 0).toNat : Int) = N / 128 ^ i % 128 + 128
  lo : ((l.getD (l.length - 1) 0).toNat : Int) = N / 128 ^ (l.length - 1) % 128
theorem Leb.one (b : UInt8) (N : Int) (h : (b.toNat : Int) = N % 128) : Leb [b] N := ⟨by simp, fun i hi => by simp at hi, by simpa using h⟩
theorem div_pow (N : Int) (i : Nat) : N / 128 / 128 ^ i = N / 128 ^ (i + 1) := by
  rw [Int.ediv_ediv_of_nonneg (by omega), Int.pow_succ, Int.mul_comm]
theorem Leb.cons (b : UInt8) (l : List UInt8) (N : Int) (hb : (b.toNat : Int) = N % 128 + 128) (h : Leb l (N / 128)) : Leb (b :: l) N := by
  refine ⟨by simp, fun i hi => ?_, ?_⟩
  · cases i with
    | zero => simpa using hb
    | succ i =>
      have h1 := h.hi i (by simpa using hi)
      rw [div_pow] at h1
      simpa using h1
  · have h1 := h.lo
    have hp := h.pos
    obtain ⟨k, hk⟩ : ∃ k, l.length = k + 1 := ⟨l.length - 1, by omega⟩
    rw [hk] at h1
    rw [div_pow] at h1
    simp only [List.length_cons, hk]
    simpa using h1
theorem ul_leb : ∀ (f n : Nat), n < 128 ^ (f + 1) → Leb (ul (f + 1) n) (n : Int)
  | 0, n, h => by
    rw [ul_end 0 n (by simpa using h)]
    exact Leb.one _ _ (by rw [loB_nat n (by simpa using h)]; have : n < 128 := by simpa using h
                          omega)
  | f + 1, n, h => by
    by_cases hn : n < 128
    · rw [ul_end (f + 1) n hn]
      exact Leb.one _ _ (by rw [loB_nat n hn]; omega)
    · rw [ul_more (f + 1) n (by omega)]
      refine Leb.cons _ _ _ (by rw [hiB_nat]; omega) ?_
      have h2 := ul_leb f (n / 128) (pow_down (f + 1) n h)
      rw [show ((n / 128 : Nat) : Int) = (n : Int) / 128 by omega] at h2
      exact h2
theorem ul_span : ∀ (f n : Nat), n < 128 ^ (f + 1) → (ul (f + 1) n).length ≤ f + 1 ∧ n < 128 ^ (ul (f + 1) n).length ∧ ((ul (f + 1) n).length ≠ 1 → 128 ^ ((ul (f + 1) n).length - 1) ≤ n)
  | 0, n, h => by
    rw [ul_end 0 n (by simpa using h)]
    exact ⟨by simp, by simpa using h, fun h => absurd rfl h⟩
  | f + 1, n, h => by
    by_cases hn : n < 128
    · rw [ul_end (f + 1) n hn]
      exact ⟨by simp, by simpa using hn, fun h => absurd rfl h⟩
    · rw [ul_more (f + 1) n (by omega)]
      obtain ⟨h1, h2, h3⟩ := ul_span f (n / 128) (pow_down (f + 1) n h)
      have hp := (ul_leb f (n / 128) (pow_down (f + 1) n h)).pos
      generalize (ul (f + 1) (n / 128)) = l at *
      obtain ⟨k, hk⟩ : ∃ k, l.length = k + 1 := ⟨l.length - 1, by omega⟩
      simp only [List.length_cons]
      rw [hk] at h1 h2 h3 ⊢
      refine ⟨by omega, ?_, fun _ => ?_⟩
      · rw [Nat.pow_succ]
        generalize 128 ^ (k + 1) = P at *
        omega
      · rw [show k + 1 + 1 - 1 = k + 1 by omega, Nat.pow_succ]
        by_cases hk0 : k = 0
        · subst hk0; simp; omega
        · have := h3 (by omega)
          rw [show k + 1 - 1 = k by omega] at this
          generalize 128 ^ k = P at *
          omega
theorem sl_leb : ∀ (f : Nat) (n : Int), sfit f n → Leb (sl (f + 1) n) n
  | 0, n, h => by
    have h0 : -64 ≤ n ∧ n ≤ 63 := by unfold sfit at h; simp at h; omega
    rw [sl_end 0 n h0]
    exact Leb.one _ _ (slo_int n)
  | f + 1, n, h => by
    by_cases hn : -64 ≤ n ∧ n ≤ 63
    · rw [sl_end (f + 1) n hn]
      exact Leb.one _ _ (slo_int n)
    · rw [sl_more (f + 1) n hn]
      exact Leb.cons _ _ _ (shi_int n) (sl_leb f (n / 128) (sfit_down f n h))
theorem sl_span : ∀ (f : Nat) (n : Int), sfit f n → (sl (f + 1) n).length ≤ f + 1 ∧ -(64 * 128 ^ ((sl (f + 1) n).length - 1)) ≤ n ∧ n < 64 * 128 ^ ((sl (f + 1) n).length - 1)
  | 0, n, h => by
    have h0 : -64 ≤ n ∧ n ≤ 63 := by unfold sfit at h; simp at h; omega
    rw [sl_end 0 n h0]
    simp
    omega
  | f + 1, n, h => by
    by_cases hn : -64 ≤ n ∧ n ≤ 63
    · rw [sl_end (f + 1) n hn]
      simp
      omega
    · rw [sl_more (f + 1) n hn]
      obtain ⟨h1, h2, h3⟩ := sl_span f (n / 128) (sfit_down f n h)
      have hp := (sl_leb f (n / 128) (sfit_down f n h)).pos
      generalize (sl (f + 1) (n / 128)) = l at *
      obtain ⟨k, hk⟩ : ∃ k, l.length = k + 1 := ⟨l.length - 1, by omega⟩
      simp only [List.length_cons]
      rw [hk] at h1 h2 h3 ⊢
      rw [show k + 1 - 1 = k by omega] at h2 h3
      rw [show k + 1 + 1 - 1 = k + 1 by omega, Int.pow_succ]
      generalize (128 : Int) ^ k = P at *
      omega

theorem lb_list (t : ByteArray) (k : Nat) : bt t k = ((t.data.toList.getD k 0).toNat : Int) := by
  unfold bt
  by_cases h : k < t.size
  · have h' : k < t.data.size := h
    rw [dif_pos h, List.getD, Array.getElem?_toList, Array.getElem?_eq_getElem h']; rfl
  · have h' : t.data.size ≤ k := Nat.le_of_not_lt h
    rw [dif_neg h, List.getD, Array.getElem?_toList, Array.getElem?_eq_none h']; rfl
theorem lb_app (l : List UInt8) (t : ByteArray) (k : Nat) (h : k < l.length) : bt (ByteArray.mk l.toArray ++ t) k = ((l.getD k 0).toNat : Int) := by
  rw [lb_list, ByteArray.data_append]
  simp only [Array.toList_append]
  rw [List.getD, List.getElem?_append_left (by simpa using h), List.getD]
theorem lb_size (l : List UInt8) (t : ByteArray) : (ByteArray.mk l.toArray ++ t).size = l.length + t.size := by
  have e : (ByteArray.mk l.toArray).size = l.length := by simp [ByteArray.size]
  rw [ByteArray.size_append, e]

theorem scan_to (s : ByteArray) (j : Nat) (hs : j < s.size) (hj : bt s j < 128) : ∀ (d f k : Nat), k + d = j → d < f → (∀ i, k ≤ i → i < j → 128 ≤ bt s i) → scan s f k = some j
  | 0, f, k, h, hf, _ => by
    obtain rfl : k = j := by omega
    exact scan_hit s f k (by omega) hs hj
  | d + 1, f, k, h, hf, hh => by
    rw [scan_on s f k (by omega) (by omega) (hh k (by omega) (by omega))]
    exact scan_to s j hs hj d (f - 1) (k + 1) (by omega) (by omega) (fun i h1 h2 => hh i (by omega) h2)

section
variable {l : List UInt8} {N : Int} {t : ByteArray}
theorem Leb.pt (h : Leb l N) (i : Nat) (hi : i < l.length) : Go.Proofs.Ytdalkbapfjpkoaa.pt (ByteArray.mk l.toArray ++ t) i = N / 128 ^ i % 128 := by
  unfold Go.Proofs.Ytdalkbapfjpkoaa.pt
  rw [lb_app l t i hi]
  by_cases h1 : i + 1 < l.length
  · rw [h.hi i h1]; omega
  · have e : i = l.length - 1 := by omega
    rw [e, h.lo]; omega
theorem Leb.scan (h : Leb l N) (hl : l.length ≤ 10) : Go.Proofs.Ytdalkbapfjpkoaa.scan (ByteArray.mk l.toArray ++ t) 10 0 = some (l.length - 1) := by
  have hp := h.pos
  refine scan_to _ (l.length - 1) (by rw [lb_size]; omega) ?_ (l.length - 1) 10 0 (by omega) (by omega) fun i _ hi => ?_
  · rw [lb_app l t _ (by omega), h.lo]; omega
  · rw [lb_app l t i (by omega), h.hi i (by omega)]; omega
end

theorem mod_step (N m : Int) (hm : 0 < m) : N % (m * 128) = N % m + N / m % 128 * m := by
  have h1 : N = m * 128 * (N / m / 128) + (N / m % 128 * m + N % m) := by
    have e1 := Int.mul_ediv_add_emod N m
    have e2 := Int.mul_ediv_add_emod (N / m) 128
    have e3 : m * (N / m) = m * (128 * (N / m / 128)) + m * (N / m % 128) := by rw [← Int.mul_add, e2]
    rw [Int.mul_assoc m 128]
    rw [Int.mul_comm (N / m % 128) m]
    omega
  have r0 := Int.emod_nonneg N (show m ≠ 0 by omega)
  have r1 := Int.emod_lt_of_pos N hm
  have q0 : 0 ≤ N / m % 128 := by omega
  have q1 : N / m % 128 ≤ 127 := by omega
  have p0 : 0 ≤ N / m % 128 * m := Int.mul_nonneg q0 (by omega)
  have p1 : N / m % 128 * m ≤ 127 * m := Int.mul_le_mul_of_nonneg_right q1 (by omega)
  have h2 : N % (m * 128) = (N / m % 128 * m + N % m) % (m * 128) := by
    have h3 : N % (m * 128) = (m * 128 * (N / m / 128) + (N / m % 128 * m + N % m)) % (m * 128) := congrArg (fun x => x % (m * 128)) h1
    exact h3.trans (Int.mul_add_emod_self_left _ _ _)
  rw [h2, Int.emod_eq_of_lt (by omega) (by omega)]
  omega

theorem two_seven (k : Nat) : (2 : Int) ^ (7 * k) = 128 ^ k := by rw [Int.pow_mul]; rfl
theorem nat_seven (k : Nat) : (2 : Nat) ^ (7 * k) = 128 ^ k := by rw [Nat.pow_mul]
theorem pow_room (k : Nat) (h : k ≤ 9) : 128 ^ k ≤ 9223372036854775808 := by
  have := Nat.pow_le_pow_right (n := 128) (by omega) h
  exact Nat.le_trans this (by decide)

/-- The groups joined: the number's rest by so many groups. -/
theorem acc_is (s : ByteArray) (N : Int) (L : Nat) (hd : ∀ i, i < L → pt s i = N / 128 ^ i % 128) : ∀ k, k ≤ L → k ≤ 9 → acc s k = N % 128 ^ k
  | 0, _, _ => by simp [acc]
  | k + 1, h1, h2 => by
    have ih := acc_is s N L hd k (by omega) (by omega)
    have hp := hd k (by omega)
    have p0 := pt_lo s k
    have p1 := pt_hi s k
    obtain ⟨p, hpe⟩ := Int.eq_ofNat_of_zero_le p0
    have hP := pow_room k (by omega)
    have hP8 : 128 ^ k ≤ 72057594037927936 := Nat.le_trans (Nat.pow_le_pow_right (by omega) (show k ≤ 8 by omega)) (by decide)
    have hPos : 0 < 128 ^ k := Nat.pow_pos (by omega)
    have e1 : (128 : Int) ^ k = ((128 ^ k : Nat) : Int) := by simp
    obtain ⟨a, hae⟩ := Int.eq_ofNat_of_zero_le (Int.emod_nonneg N (show (128 : Int) ^ k ≠ 0 by rw [e1]; omega))
    have ha : a < 128 ^ k := by
      have := Int.emod_lt_of_pos N (show (0 : Int) < 128 ^ k by rw [e1]; omega)
      rw [hae, e1] at this
      omega
    have hm : p * 128 ^ k ≤ 127 * 128 ^ k := Nat.mul_le_mul_right _ (by omega)
    simp only [acc]
    rw [ih, hae, two_seven, Int.pow_succ, mod_step N _ (by rw [e1]; omega), hae, ← hp, hpe, e1]
    rw [show (p : Int) * ((128 ^ k : Nat) : Int) = ((p * 128 ^ k : Nat) : Int) by simp]
    have hor : 128 ^ k * p + a = 128 ^ k * p ||| a := by
      have := Nat.two_pow_add_eq_or_of_lt (i := 7 * k) (b := a) (by rw [nat_seven]; exact ha) p
      rw [nat_seven] at this
      exact this
    rw [Nat.mul_comm p] at hm ⊢
    generalize 128 ^ k * p = M at *
    generalize 128 ^ k = P at *
    have hw : IntKind.u64.wrap (M : Int) = M := by rw [IntKind.wrap_u64]; omega
    rw [hw, or_nat a M (by omega) (by omega), Nat.or_comm, ← hor]
    omega

theorem acc_ten (s : ByteArray) (N : Int) (hd : ∀ i, i < 10 → pt s i = N / 128 ^ i % 128) : acc s 10 = N % 18446744073709551616 := by
  have h9 := acc_is s N 10 hd 9 (by omega) (by omega)
  have hp := hd 9 (by omega)
  rw [show (128 : Int) ^ 9 = 9223372036854775808 by decide] at h9 hp
  have e : acc s 10 = bits .or .u64 (acc s 9) (IntKind.u64.wrap (pt s 9 * 2 ^ (7 * 9))) := rfl
  rw [e, h9, hp, show (2 : Int) ^ (7 * 9) = 9223372036854775808 by decide]
  have hw : IntKind.u64.wrap (N / 9223372036854775808 % 128 * 9223372036854775808) = N / 9223372036854775808 % 2 * 9223372036854775808 := by rw [IntKind.wrap_u64]; omega
  rw [hw]
  obtain ⟨a, ha⟩ := Int.eq_ofNat_of_zero_le (show 0 ≤ N % 9223372036854775808 by omega)
  obtain ⟨b, hb⟩ := Int.eq_ofNat_of_zero_le (show 0 ≤ N / 9223372036854775808 % 2 by omega)
  have hor := Nat.two_pow_add_eq_or_of_lt (i := 63) (b := a) (by rw [show (2 : Nat) ^ 63 = 9223372036854775808 by decide]; omega) b
  rw [show (2 : Nat) ^ 63 = 9223372036854775808 by decide] at hor
  rw [ha, hb, show (b : Int) * 9223372036854775808 = ((9223372036854775808 * b : Nat) : Int) by omega, or_nat a _ (by omega) (by omega), Nat.or_comm, ← hor]
  omega

end Go.Proofs.Ytdalkbapfjpkoaa

namespace Go.Proofs.Ytdalkbapfjpkoaa
open Go.ChangeShapes Go.WideShapes Go.PlainAid Go.RowKit

theorem most64 : most 64 = 10 := rfl
theorem pow9 : (128 : Int) ^ 9 = 9223372036854775808 := by decide
theorem ipow (k : Nat) : (128 : Int) ^ k = ((128 ^ k : Nat) : Int) := by simp

/-- What is told of a number without sign is taken, whatever stands behind it. -/
theorem tu_ul (n : Nat) (h : n < 18446744073709551616) (t : ByteArray) : tu (ByteArray.mk (ul 10 n).toArray ++ t) 64 = ((n : Int), (ul 10 n).length) := by
  have hn : n < 128 ^ (9 + 1) := Nat.lt_trans h (by decide)
  have hL := ul_leb 9 n hn
  obtain ⟨h1, h2, _⟩ := ul_span 9 n hn
  generalize ul (9 + 1) n = l at *
  have hp := hL.pos
  have hsc := hL.scan (t := t) (by omega)
  have hd : ∀ i, i < l.length → pt (ByteArray.mk l.toArray ++ t) i = (n : Int) / 128 ^ i % 128 := fun i hi => hL.pt i hi
  generalize ByteArray.mk l.toArray ++ t = s at *
  obtain ⟨j, hj⟩ : ∃ j, l.length = j + 1 := ⟨l.length - 1, by omega⟩
  rw [hj] at h1 h2 hsc hd ⊢
  rw [show j + 1 - 1 = j by omega] at hsc
  have hacc : acc s (j + 1) = n := by
    by_cases h9 : j + 1 ≤ 9
    · rw [acc_is s n (j + 1) hd (j + 1) (by omega) h9, ipow]
      generalize 128 ^ (j + 1) = P at *
      exact Int.emod_eq_of_lt (by omega) (by omega)
    · obtain rfl : j = 9 := by omega
      rw [acc_ten s n hd]
      omega
  have hg : pt s j / 2 ^ (64 - 7 * j) = 0 := by
    by_cases h9 : j ≤ 8
    · exact wide_zero _ _ (pt_lo s j) (pt_hi s j) (by omega)
    · obtain rfl : j = 9 := by omega
      have := hd 9 (by omega)
      rw [pow9] at this
      rw [this]
      show (n : Int) / 9223372036854775808 % 128 / 2 ^ 1 = 0
      rw [show (2 : Int) ^ 1 = 2 by decide]
      omega
  rw [tu_good s 64 j (by rw [most64]; exact hsc) hg, hacc]

theorem ones_is (k : Nat) (h : k ≤ 9) : ones k = 18446744073709551616 - ((128 ^ k : Nat) : Int) := by
  unfold ones
  rw [two_seven, ipow]
  have := pow_room k h
  have h0 : 0 < 128 ^ k := Nat.pow_pos (by omega)
  generalize 128 ^ k = P at *
  rw [IntKind.wrap_u64]
  have e : (18446744073709551615 : Int) * (P : Int) = (18446744073709551616 - (P : Int)) + 18446744073709551616 * ((P : Int) - 1) := by omega
  rw [e, Int.add_mul_emod_self_left]
  exact Int.emod_eq_of_lt (by omega) (by omega)

theorem or_ones (a k : Nat) (ha : a < 128 ^ k) (h : k ≤ 9) : bits .or .u64 (a : Int) (ones k) = (a : Int) + 18446744073709551616 - ((128 ^ k : Nat) : Int) := by
  rw [ones_is k h]
  have hP := pow_room k h
  have h0 : 0 < 128 ^ k := Nat.pow_pos (by omega)
  obtain ⟨c, hc⟩ : ∃ c, 18446744073709551616 = 128 ^ k * c := ⟨2 ^ (64 - 7 * k), by rw [← nat_seven, ← Nat.pow_add, show 7 * k + (64 - 7 * k) = 64 by omega]⟩
  have hc1 : 1 ≤ c := by
    rcases Nat.eq_zero_or_pos c with h' | h'
    · subst h'; simp at hc
    · exact h'
  have hor := Nat.two_pow_add_eq_or_of_lt (i := 7 * k) (b := a) (by rw [nat_seven]; exact ha) (c - 1)
  rw [nat_seven] at hor
  have e : 128 ^ k * (c - 1) = 18446744073709551616 - 128 ^ k := by rw [Nat.mul_sub, Nat.mul_one, ← hc]
  rw [e] at hor
  generalize 128 ^ k = P at *
  rw [show (18446744073709551616 : Int) - (P : Int) = ((18446744073709551616 - P : Nat) : Int) by omega, or_nat a _ (by omega) (by omega), Nat.or_comm, ← hor]
  omega

theorem w64_neg (N : Int) (h0 : -9223372036854775808 ≤ N) (h1 : N < 0) : wrap64 (N + 18446744073709551616) = N := by unfold wrap64; omega
theorem w64_pos (N : Int) (h0 : 0 ≤ N) (h1 : N ≤ 9223372036854775807) : wrap64 N = N := by unfold wrap64; omega
theorem w64_mod (N : Int) (h0 : -9223372036854775808 ≤ N) (h1 : N ≤ 9223372036854775807) : wrap64 (N % 18446744073709551616) = N := by unfold wrap64; omega

/-- What lies between two bounds, by its last group. -/
theorem top_of (N : Int) (P : Nat) (hP : 0 < P) (b0 : -(64 * (P : Int)) ≤ N) (b1 : N < 64 * (P : Int)) : -64 ≤ N / (P : Int) ∧ N / (P : Int) ≤ 63 ∧ (N < 0 ↔ N / (P : Int) < 0) := by
  refine ⟨?_, ?_, ?_⟩
  · exact Int.le_ediv_of_mul_le (by omega) (by omega)
  · have : N / (P : Int) < 64 := Int.ediv_lt_of_lt_mul (by omega) (by omega)
    omega
  · constructor
    · intro h
      exact Int.ediv_neg_of_neg_of_pos h (by omega)
    · intro h
      rcases (show N < 0 ∨ 0 ≤ N by omega) with h' | h'
      · exact h'
      · have := Int.ediv_nonneg h' (show (0 : Int) ≤ P by omega)
        omega

/-- What is told of a signed number is taken, whatever stands behind it. -/
theorem ts_sl (N : Int) (h0 : -9223372036854775808 ≤ N) (h1 : N ≤ 9223372036854775807) (t : ByteArray) : ts (ByteArray.mk (sl 10 N).toArray ++ t) 64 = (N, (sl 10 N).length) := by
  have hf := sfit_i64 N h0 h1
  have hL := sl_leb 9 N hf
  obtain ⟨g1, g2, g3⟩ := sl_span 9 N hf
  generalize sl (9 + 1) N = l at *
  have hp := hL.pos
  have hsc := hL.scan (t := t) (by omega)
  have hd : ∀ i, i < l.length → pt (ByteArray.mk l.toArray ++ t) i = N / 128 ^ i % 128 := fun i hi => hL.pt i hi
  generalize ByteArray.mk l.toArray ++ t = s at *
  obtain ⟨j, hj⟩ : ∃ j, l.length = j + 1 := ⟨l.length - 1, by omega⟩
  rw [hj] at g1 g2 g3 hsc hd ⊢
  rw [show j + 1 - 1 = j by omega] at hsc g2 g3
  have hpj := hd j (by omega)
  by_cases h9 : j ≤ 8
  · have hok : okS s 64 j := okS_wide s 64 j (by omega)
    rw [ts_good s 64 j (by rw [most64]; exact hsc) hok]
    have hacc := acc_is s N (j + 1) hd (j + 1) (by omega) (by omega)
    rw [ipow] at g2 g3 hpj hacc
    have hP0 : 0 < 128 ^ j := Nat.pow_pos (by omega)
    obtain ⟨t0, t1, t2⟩ := top_of N (128 ^ j) hP0 g2 g3
    have e1 : 128 ^ (j + 1) = 128 ^ j * 128 := Nat.pow_succ ..
    by_cases hn : N < 0
    · have hpt : 64 ≤ pt s j := by have := t2.1 hn; omega
      rw [sx_hi s j hpt (by omega), hacc]
      have hm : N % ((128 ^ (j + 1) : Nat) : Int) = N + ((128 ^ (j + 1) : Nat) : Int) := by
        rw [e1]
        generalize 128 ^ j = P at *
        have e := Int.add_mul_emod_self_left N ((P * 128 : Nat) : Int) 1
        rw [Int.mul_one] at e
        rw [← e]
        exact Int.emod_eq_of_lt (by omega) (by omega)
      rw [hm]
      obtain ⟨a, ha⟩ := Int.eq_ofNat_of_zero_le (show 0 ≤ N + ((128 ^ (j + 1) : Nat) : Int) by rw [e1]; generalize 128 ^ j = P at *; omega)
      have hlt : a < 128 ^ (j + 1) := by omega
      have ho := or_ones a (j + 1) hlt (by omega)
      rw [ha, ho, show (a : Int) + 18446744073709551616 - ((128 ^ (j + 1) : Nat) : Int) = N + 18446744073709551616 by omega, w64_neg N h0 hn]
    · have hpt : pt s j < 64 := by
        have h3 : ¬ N / ((128 ^ j : Nat) : Int) < 0 := fun h => hn (t2.2 h)
        omega
      rw [sx_lo s j hpt, hacc]
      have hm : N % ((128 ^ (j + 1) : Nat) : Int) = N := by
        rw [e1]
        generalize 128 ^ j = P at *
        exact Int.emod_eq_of_lt (by omega) (by omega)
      rw [hm, w64_pos N (by omega) h1]
  · obtain rfl : j = 9 := by omega
    rw [pow9] at hpj
    have hok : okS s 64 9 := by
      unfold okS
      rw [hpj]
      show N / 9223372036854775808 % 128 / 2 ^ 0 = 0 ∨ N / 9223372036854775808 % 128 / 2 ^ 0 = 127 / 2 ^ 0
      rw [show (2 : Int) ^ 0 = 1 by decide]
      omega
    rw [ts_good s 64 9 (by rw [most64]; exact hsc) hok, sx_nine s 9 (by omega), acc_ten s N hd, w64_mod N h0 h1]

end Go.Proofs.Ytdalkbapfjpkoaa

namespace Go.Proofs.Ytdalkbapfjpkoaa
open Go.ChangeShapes Go.WideShapes Go.PlainAid Go.RowKit

theorem sl_short : ∀ (k f : Nat) (n : Int), k ≤ f → sfit k n → (sl (f + 1) n).length ≤ k + 1
  | 0, f, n, _, h => by
    have h2 : -64 ≤ n ∧ n ≤ 63 := by
      unfold sfit at h
      rw [Int.pow_zero] at h
      omega
    rw [sl_end f n h2]
    simp
  | k + 1, f, n, hk, h => by
    by_cases h2 : -64 ≤ n ∧ n ≤ 63
    · rw [sl_end f n h2]; simp
    · obtain ⟨f', rfl⟩ : ∃ f', f = f' + 1 := ⟨f - 1, by omega⟩
      rw [sl_more (f' + 1) n h2]
      have := sl_short k f' (n / 128) (by omega) (sfit_down k n h)
      simp only [List.length_cons]
      omega
theorem scan_less (s : ByteArray) : ∀ (f k j f' : Nat), scan s f k = some j → j < k + f' → scan s f' k = some j
  | 0, k, j, f', h, _ => by rw [scan_zero] at h; cases h
  | f + 1, k, j, f', h, hf => by
    have hi := scan_is s (f + 1) k j h
    rcases Nat.lt_or_ge k s.size with hk | hk
    · by_cases hb : bt s k < 128
      · rw [scan_hit s (f + 1) k (by omega) hk hb] at h
        rw [scan_hit s f' k (by omega) hk hb]
        exact h
      · have hb' : 128 ≤ bt s k := by omega
        rw [scan_on s (f + 1) k (by omega) hk hb', Nat.add_sub_cancel] at h
        have hj := (scan_is s f (k + 1) j h).1
        rw [scan_on s f' k (by omega) hk hb']
        exact scan_less s f (k + 1) j (f' - 1) h (by omega)
    · rw [scan_out s (f + 1) k hk] at h; cases h
theorem tu32 (n : Nat) (h : n ≤ 10000) (t : ByteArray) : tu (ByteArray.mk (ul 10 n).toArray ++ t) 32 = ((n : Int), (ul 10 n).length) := by
  have h64 := tu_ul n (by omega) t
  have hn : n < 128 ^ (9 + 1) := Nat.lt_of_le_of_lt h (by decide)
  have hL := ul_leb 9 n hn
  obtain ⟨h1, h2, h3⟩ := ul_span 9 n hn
  have hp := hL.pos
  have hl2 : (ul (9 + 1) n).length ≤ 2 := by
    rcases Nat.lt_or_ge 2 (ul (9 + 1) n).length with h' | h'
    · have h4 := h3 (by omega)
      have h5 : 128 ^ 2 ≤ 128 ^ ((ul (9 + 1) n).length - 1) := Nat.pow_le_pow_right (by omega) (by omega)
      have h6 : (128 : Nat) ^ 2 = 16384 := by decide
      generalize 128 ^ ((ul (9 + 1) n).length - 1) = P at *
      omega
    · exact h'
  have hsc := hL.scan (t := t) (by omega)
  clear h1 h2 h3 hL
  generalize ul (9 + 1) n = l at *
  generalize ByteArray.mk l.toArray ++ t = s at *
  obtain ⟨j, hj⟩ : ∃ j, l.length = j + 1 := ⟨l.length - 1, by omega⟩
  rw [hj] at hsc h64 hl2 ⊢
  rw [show j + 1 - 1 = j by omega] at hsc
  have hacc : acc s (j + 1) = n := by
    unfold tu at h64
    rw [most64, hsc] at h64
    simp only at h64
    split at h64
    · exact congrArg Prod.fst h64
    · have := congrArg Prod.snd h64
      simp at this
  rw [tu_good s 32 j (scan_less s 10 0 j 5 hsc (by omega)) (wide_zero _ _ (pt_lo s j) (pt_hi s j) (by omega)), hacc]
theorem ts32 (N : Int) (h0 : -2147483648 ≤ N) (h1 : N ≤ 2147483647) (t : ByteArray) : ts (ByteArray.mk (sl 10 N).toArray ++ t) 32 = (N, (sl 10 N).length) := by
  have h64 := ts_sl N (by omega) (by omega) t
  have hL := sl_leb 9 N (sfit_i64 N (by omega) (by omega))
  have hp := hL.pos
  have hs : (sl (9 + 1) N).length ≤ 5 := sl_short 4 9 N (by omega) (by unfold sfit; rw [show (128 : Int) ^ 4 = 268435456 by decide]; omega)
  have hsc := hL.scan (t := t) (by omega)
  have hd : ∀ i, i < (sl (9 + 1) N).length → pt (ByteArray.mk (sl (9 + 1) N).toArray ++ t) i = N / 128 ^ i % 128 := fun i hi => hL.pt i hi
  clear hL
  generalize sl (9 + 1) N = l at *
  generalize ByteArray.mk l.toArray ++ t = s at *
  obtain ⟨j, hj⟩ : ∃ j, l.length = j + 1 := ⟨l.length - 1, by omega⟩
  rw [hj] at hsc h64 hs hd ⊢
  rw [show j + 1 - 1 = j by omega] at hsc
  have hacc : wrap64 (sx s j) = N := by
    unfold ts at h64
    rw [most64, hsc] at h64
    simp only at h64
    split at h64
    · exact congrArg Prod.fst h64
    · have := congrArg Prod.snd h64
      simp at this
  have hok : okS s 32 j := by
    by_cases h3 : j ≤ 3
    · exact okS_wide s 32 j (by omega)
    · obtain rfl : j = 4 := by omega
      have := hd 4 (by omega)
      unfold okS
      rw [this, show (128 : Int) ^ 4 = 268435456 by decide]
      show N / 268435456 % 128 / 2 ^ 3 = 0 ∨ N / 268435456 % 128 / 2 ^ 3 = 127 / 2 ^ 3
      rw [show (2 : Int) ^ 3 = 8 by decide]
      omega
  rw [ts_good s 32 j (scan_less s 10 0 j 5 hsc (by omega)) hok, hacc]
theorem leN_leBH (x n : Nat) : ∀ k, k ≤ n → leN ⟨(leB x n).toArray⟩ k = x % 2 ^ (8 * k)
  | 0, _ => by simp [leN, Nat.mod_one]
  | k + 1, h => by
    have hb : (bt ⟨(leB x n).toArray⟩ k).toNat = x / 2 ^ (8 * k) % 256 := by
      have hs : (⟨(leB x n).toArray⟩ : ByteArray).size = n := by show (leB x n).toArray.size = n; simp [leB_len]
      unfold bt
      rw [dif_pos (by omega)]
      show ((((leB x n).toArray[k]'(by simp [leB_len]; omega)).toNat : Int)).toNat = _
      rw [Int.toNat_natCast]
      simp [leB]
    rw [leN, leN_leBH x n k (by omega), hb, show 8 * (k + 1) = 8 * k + 8 by omega, Nat.pow_add, Nat.mod_mul, Nat.mul_comm (2 ^ (8 * k)) (_ % _), show (2 : Nat) ^ 8 = 256 from rfl]
theorem ba_listH {s t : ByteArray} (h : s.data.toList = t.data.toList) : s = t := by
  cases s; cases t; simp only [ByteArray.mk.injEq]; exact Array.toList_inj.1 h
theorem front_app (l : List UInt8) (t : ByteArray) (n : Nat) (h : l.length = n) : (ByteArray.mk l.toArray ++ t).extract 0 n = ByteArray.mk l.toArray := by
  apply ba_listH
  simp [ByteArray.data_extract, ByteArray.data_append, h]
  exact List.take_of_length_le (by omega)
theorem byte_leB (a : Nat) (h : a < 256) (t : ByteArray) : bt (ByteArray.mk (leB a 1).toArray ++ t) 0 = (a : Int) := by
  rw [lb_app _ _ _ (by rw [leB_len]; omega)]
  simp [leB]
  omega
theorem pos_ul (n : Nat) : 0 < (ul 10 n).length := by
  unfold ul
  split <;> simp
theorem pos_sl (n : Int) : 0 < (sl 10 n).length := by
  unfold sl
  split <;> simp
/-- A is taken as it was told, whatever stands behind it. -/
theorem tk_ob (k a : Int) (hm : mayK k a = true) (h0 : -9223372036854775808 ≤ a) (h1 : a ≤ 9223372036854775807) (t : ByteArray) : tk (ByteArray.mk (ob k a).toArray ++ t) k = (a, (ob k a).length, true) := by
  have hk : k = 0 ∨ k = 1 ∨ k = 2 ∨ k = 3 ∨ k = 4 ∨ k = 5 ∨ k = 6 := by
    unfold mayK at hm
    repeat' split at hm
    all_goals first | omega | (simp at hm)
  rcases hk with rfl | rfl | rfl | rfl | rfl | rfl | rfl
  · simp [mayK] at hm
    subst hm
    simp [tk, ob]
  · have hr := may_nat (by omega) hm
    have ha : a ≤ 127 := by simp [mayK] at hm; omega
    have hb := byte_leB a.toNat (by omega) t
    rw [show ((a.toNat : Nat) : Int) = a by omega] at hb
    have hs : ¬ (ByteArray.mk (leB a.toNat 1).toArray ++ t).size < 1 := by rw [lb_size, leB_len]; omega
    simp only [tk, ob]
    simp only [show ¬ ((1 : Int) = 0) by omega, if_false, if_true]
    rw [if_neg hs, hb, leB_len]
  · have ha : 0 ≤ a ∧ a ≤ 1000 := by simp [mayK] at hm; omega
    have h := tu32 a.toNat (by omega) t
    have hp := pos_ul a.toNat
    have hw : wrap64 a = a := by unfold wrap64; omega
    rw [show ((a.toNat : Nat) : Int) = a by omega] at h
    simp [tk, ob, h, hw]
    omega
  · have ha : 0 ≤ a ∧ a ≤ 10000 := by simp [mayK] at hm; omega
    have h := tu32 a.toNat (by omega) t
    have hp := pos_ul a.toNat
    have hw : wrap64 a = a := by unfold wrap64; omega
    rw [show ((a.toNat : Nat) : Int) = a by omega] at h
    simp [tk, ob, h, hw]
    omega
  · have ha : -2147483648 ≤ a ∧ a ≤ 2147483647 := by simp [mayK] at hm; omega
    have h := ts32 a ha.1 ha.2 t
    have hp := pos_sl a
    simp [tk, ob, h]
    omega
  · have h := ts_sl a h0 h1 t
    have hp := pos_sl a
    simp [tk, ob, h]
    omega
  · have ha := may_nat (by omega) hm
    have hs : ¬ (ByteArray.mk (leB a.toNat 4).toArray ++ t).size < 4 := by rw [lb_size, leB_len]; omega
    have hf := front_app (leB a.toNat 4) t 4 (leB_len _ _)
    have hn := leN_leBH a.toNat 4 4 (by omega)
    have hv : ((a.toNat % 2 ^ (8 * 4) : Nat) : Int) = a := by
      rw [show 2 ^ (8 * 4) = 4294967296 by decide, Nat.mod_eq_of_lt (by omega)]
      omega
    simp only [tk, ob]
    rw [if_neg (by omega), if_neg (by omega), if_neg (by omega), if_neg (by omega), if_neg (by omega), if_neg (by omega), if_pos trivial]
    simp only [show ¬ ((6 : Int) = 1) by omega, show ¬ ((6 : Int) = 2) by omega, show ¬ ((6 : Int) = 3) by omega, show ¬ ((6 : Int) = 4) by omega, show ¬ ((6 : Int) = 5) by omega, if_false, if_true]
    rw [if_neg hs, hf, hn, leB_len, hv]
theorem gi_byte (op a : Int) (h : gi op a = true) : 0 ≤ op ∧ op ≤ 255 := by
  by_cases hn : op ∈ named
  · simp only [named, List.mem_cons, List.not_mem_nil, or_false] at hn
    omega
  · unfold gi at h
    rw [shp_other op hn] at h
    by_cases hc : counted op = true
    · simp [counted] at hc
      omega
    · rw [if_neg hc] at h
      simp [mayK] at h
theorem cb_cons (x : Int × Int) (R : List (Int × Int)) : cb (x :: R) = ib x ++ cb R := by simp [cb]
/-- The instruction at a place is told. -/
theorem stp_at (pre : List UInt8) (x : Int × Int) (rest : List UInt8) (hg : gi x.1 x.2 = true) (h0 : -9223372036854775808 ≤ x.2) (h1 : x.2 ≤ 9223372036854775807) : stp (ByteArray.mk (pre ++ (ib x ++ rest)).toArray) pre.length = some (x, (ib x).length) := by
  have hb := gi_byte x.1 x.2 hg
  obtain ⟨s, hs⟩ : ∃ s, ByteArray.mk (pre ++ (ib x ++ rest)).toArray = s := ⟨_, rfl⟩
  have e1 : bt s pre.length = x.1 := by
    rw [← hs, bt_list]
    rw [List.getD_eq_getElem?_getD, List.getElem?_append_right (by omega), Nat.sub_self]
    simp only [ib, List.cons_append, List.getElem?_cons_zero, Option.getD_some]
    rw [opByte_int]
    omega
  have e2 : s.extract (pre.length + 1) s.size = ByteArray.mk (ob (shp x.1) x.2).toArray ++ ByteArray.mk rest.toArray := by
    apply ba_listH
    rw [drop_list, ← hs]
    simp only [ByteArray.data_append, Array.toList_append]
    rw [List.drop_append]
    simp [ib]
  rw [hs]
  unfold stp
  rw [e1, e2, tk_ob (shp x.1) x.2 hg h0 h1]
  simp only [hg, Bool.and_self, if_true]
  simp [ib]
  omega
theorem rdc_all : ∀ (R : List (Int × Int)) (pre : List UInt8) (f n : Nat), allG R = true → (∀ x ∈ R, -9223372036854775808 ≤ x.2 ∧ x.2 ≤ 9223372036854775807) → n + R.length ≤ 200 → (cb R).length < f → rdc (ByteArray.mk (pre ++ cb R).toArray) f pre.length n = some R
  | [], pre, f, n, _, _, _, hf => by
    obtain ⟨f', rfl⟩ : ∃ f', f = f' + 1 := ⟨f - 1, by omega⟩
    exact rdc_end _ f' _ n (by show (pre ++ cb []).toArray.size ≤ pre.length; simp [cb])
  | x :: R, pre, f, n, hg, ho, hn, hf => by
    obtain ⟨f', rfl⟩ : ∃ f', f = f' + 1 := ⟨f - 1, by omega⟩
    simp only [allG, List.all_cons, Bool.and_eq_true] at hg
    have hx := ho x (by simp)
    have hs := stp_at pre x (cb R) hg.1 hx.1 hx.2
    simp only [List.length_cons] at hn
    rw [cb_cons] at hf ⊢
    have hl : 1 ≤ (ib x).length := by simp [ib]
    rw [List.length_append] at hf
    have hz : ¬ (ByteArray.mk (pre ++ (ib x ++ cb R)).toArray).size ≤ pre.length := by
      show ¬ (pre ++ (ib x ++ cb R)).toArray.size ≤ pre.length
      simp only [List.size_toArray, List.length_append]
      omega
    rw [rdc_some _ f' _ n _ x hz hs (by omega)]
    have ih := rdc_all R (pre ++ ib x) f' (n + 1) hg.2 (fun y hy => ho y (by simp [hy])) (by omega) (by omega)
    rw [List.append_assoc, List.length_append] at ih
    rw [ih]
    rfl
/-- Code is read as it was told. -/
theorem read_cb (L : List (Int × Int)) (hg : allG L = true) (ho : ∀ x ∈ L, -9223372036854775808 ≤ x.2 ∧ x.2 ≤ 9223372036854775807) (hn : L.length ≤ 200) : rc (ByteArray.mk (cb L).toArray) = some L := by
  have h := rdc_all L [] ((ByteArray.mk (cb L).toArray).size + 1) 0 hg ho (by omega) (by show (cb L).length < (cb L).toArray.size + 1; simp)
  unfold rc
  simpa using h

end Go.Proofs.Ytdalkbapfjpkoaa
