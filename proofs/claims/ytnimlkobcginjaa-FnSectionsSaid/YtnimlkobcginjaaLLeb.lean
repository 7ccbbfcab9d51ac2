/-
  Numbers in groups of seven bits: what is told is taken. Plain facts.
-/
import Derived.Test.YtnimlkobcginjaaMath
import Derived.Test.YtnimlkobcginjaaSMath
import Derived.Test.YtnimlkobcginjaaTMath
import Derived.Test.YtnimlkobcginjaaTSMath
import Derived.Test.YtnimlkobcginjaaIOrs
namespace Go.Proofs.Ytnimlkobcginjaa
open Go.ChangeShapes Go.WideShapes Go.PlainAid Go.RowKit

/-- The bytes l tell the number N, by seven bits each. -/
structure Leb (l : List UInt8) (N : Int) : Prop where
  pos : 0 < l.length
  hi : ∀ i, i + 1 < l.length → ((l.getD i 0).toNat : Int) = N / 128 ^ i % 128 + 128
  lo : ((l.getD (l.length - 1) 0).toNat : Int) = N / 128 ^ (l.length - 1) % 128
theorem Leb.one (b : UInt8) (N : Int) (h : (b.toNat : Int) = N % 128) : Leb [b] N := ⟨by simp, fun i hi => by simp at hi, by simpa using h⟩
theorem div_pow (N : Int) (i : Nat) : N / 128 / 128 ^ i = N / 128 ^ (i + 1) := by
  rw [Int.ediv_ediv_of_nonneg (by omega), Int.pow_succ, Int.mul_comm]
theorem Leb.cons (b : UInt8) (l : List UInt8) (N : Int) (hb : (b.toNat : Int) = N % 128 + 128) (h : Leb l (N / 128)) : Leb (b :: l) N := by
  refine ⟨by simp, fun i hi => ?_, ?_⟩
  · cases i with
    | zero => simpa using hb
    | succ i =>
      have h1 := h.hi i (by simpa using hi)
      rw [div_pow] at h1
      simpa using h1
  · have h1 := h.lo
    have hp := h.pos
    obtain ⟨k, hk⟩ : ∃ k, l.length = k + 1 := ⟨l.length - 1, by omega⟩
    rw [hk] at h1
    rw [div_pow] at h1
    simp only [List.length_cons, hk]
    simpa using h1
theorem ul_leb : ∀ (f n : Nat), n < 128 ^ (f + 1) → Leb (ul (f + 1) n) (n : Int)
  | 0, n, h => by
    rw [ul_end 0 n (by simpa using h)]
    exact Leb.one _ _ (by rw [loB_nat n (by simpa using h)]; have : n < 128 := by simpa using h
                          omega)
  | f + 1, n, h => by
    by_cases hn : n < 128
    · rw [ul_end (f + 1) n hn]
      exact Leb.one _ _ (by rw [loB_nat n hn]; omega)
    · rw [ul_more (f + 1) n (by omega)]
      refine Leb.cons _ _ _ (by rw [hiB_nat]; omega) ?_
      have h2 := ul_leb f (n / 128) (pow_down (f + 1) n h)
      rw [show ((n / 128 : Nat) : Int) = (n : Int) / 128 by omega] at h2
      exact h2
theorem ul_span : ∀ (f n : Nat), n < 128 ^ (f + 1) → (ul (f + 1) n).length ≤ f + 1 ∧ n < 128 ^ (ul (f + 1) n).length ∧ ((ul (f + 1) n).length ≠ 1 → 128 ^ ((ul (f + 1) n).length - 1) ≤ n)
  | 0, n, h => by
    rw [ul_end 0 n (by simpa using h)]
    exact ⟨by simp, by simpa using h, fun h => absurd rfl h⟩
  | f + 1, n, h => by
    by_cases hn : n < 128
    · rw [ul_end (f + 1) n hn]
      exact ⟨by simp, by simpa using hn, fun h => absurd rfl h⟩
    · rw [ul_more (f + 1) n (by omega)]
      obtain ⟨h1, h2, h3⟩ := ul_span f (n / 128) (pow_down (f + 1) n h)
      have hp := (ul_leb f (n / 128) (pow_down (f + 1) n h)).pos
      generalize (ul (f + 1) (n / 128)) = l at *
      obtain ⟨k, hk⟩ : ∃ k, l.length = k + 1 := ⟨l.length - 1, by omega⟩
      simp only [List.length_cons]
      rw [hk] at h1 h2 h3 ⊢
      refine ⟨by omega, ?_, fun _ => ?_⟩
      · rw [Nat.pow_succ]
        generalize 128 ^ (k + 1) = P at *
        omega
      · rw [show k + 1 + 1 - 1 = k + 1 by omega, Nat.pow_succ]
        by_cases hk0 : k = 0
        · subst hk0; simp; omega
        · have := h3 (by omega)
          rw [show k + 1 - 1 = k by omega] at this
          generalize 128 ^ k = P at *
          omega
theorem sl_leb : ∀ (f : Nat) (n : Int), sfit f n → Leb (sl (f + 1) n) n
  | 0, n, h => by
    have h0 : -64 ≤ n ∧ n ≤ 63 := by unfold sfit at h; simp at h; omega
    rw [sl_end 0 n h0]
    exact Leb.one _ _ (slo_int n)
  | f + 1, n, h => by
    by_cases hn : -64 ≤ n ∧ n ≤ 63
    · rw [sl_end (f + 1) n hn]
      exact Leb.one _ _ (slo_int n)
    · rw [sl_more (f + 1) n hn]
      exact Leb.cons _ _ _ (shi_int n) (sl_leb f (n / 128) (sfit_down f n h))
theorem sl_span : ∀ (f : Nat) (n : Int), sfit f n → (sl (f + 1) n).length ≤ f + 1 ∧ -(64 * 128 ^ ((sl (f + 1) n).length - 1)) ≤ n ∧ n < 64 * 128 ^ ((sl (f + 1) n).length - 1)
  | 0, n, h => by
    have h0 : -64 ≤ n ∧ n ≤ 63 := by unfold sfit at h; simp at h; omega
    rw [sl_end 0 n h0]
    simp
    omega
  | f + 1, n, h => by
    by_cases hn : -64 ≤ n ∧ n ≤ 63
    · rw [sl_end (f + 1) n hn]
      simp
      omega
    · rw [sl_more (f + 1) n hn]
      obtain ⟨h1, h2, h3⟩ := sl_span f (n / 128) (sfit_down f n h)
      have hp := (sl_leb f (n / 128) (sfit_down f n h)).pos
      generalize (sl (f + 1) (n / 128)) = l at *
      obtain ⟨k, hk⟩ : ∃ k, l.length = k + 1 := ⟨l.length - 1, by omega⟩
      simp only [List.length_cons]
      rw [hk] at h1 h2 h3 ⊢
      rw [show k + 1 - 1 = k by omega] at h2 h3
      rw [show k + 1 + 1 - 1 = k + 1 by omega, Int.pow_succ]
      generalize (128 : Int) ^ k = P at *
      omega

theorem lb_list (t : ByteArray) (k : Nat) : bt t k = ((t.data.toList.getD k 0).toNat : Int) := by
  unfold bt
  by_cases h : k < t.size
  · have h' : k < t.data.size := h
    rw [dif_pos h, List.getD, Array.getElem?_toList, Array.getElem?_eq_getElem h']; rfl
  · have h' : t.data.size ≤ k := Nat.le_of_not_lt h
    rw [dif_neg h, List.getD, Array.getElem?_toList, Array.getElem?_eq_none h']; rfl
theorem lb_app (l : List UInt8) (t : ByteArray) (k : Nat) (h : k < l.length) : bt (ByteArray.mk l.toArray ++ t) k = ((l.getD k 0).toNat : Int) := by
  rw [lb_list, ByteArray.data_append]
  simp only [Array.toList_append]
  rw [List.getD, List.getElem?_append_left (by simpa using h), List.getD]
theorem lb_size (l : List UInt8) (t : ByteArray) : (ByteArray.mk l.toArray ++ t).size = l.length + t.size := by
  have e : (ByteArray.mk l.toArray).size = l.length := by simp [ByteArray.size]
  rw [ByteArray.size_append, e]

theorem scan_to (s : ByteArray) (j : Nat) (hs : j < s.size) (hj : bt s j < 128) : ∀ (d f k : Nat), k + d = j → d < f → (∀ i, k ≤ i → i < j → 128 ≤ bt s i) → scan s f k = some j
  | 0, f, k, h, hf, _ => by
    obtain rfl : k = j := by omega
    exact scan_hit s f k (by omega) hs hj
  | d + 1, f, k, h, hf, hh => by
    rw [scan_on s f k (by omega) (by omega) (hh k (by omega) (by omega))]
    exact scan_to s j hs hj d (f - 1) (k + 1) (by omega) (by omega) (fun i h1 h2 => hh i (by omega) h2)

section
variable {l : List UInt8} {N : Int} {t : ByteArray}
theorem Leb.pt (h : Leb l N) (i : Nat) (hi : i < l.length) : Go.Proofs.Ytnimlkobcginjaa.pt (ByteArray.mk l.toArray ++ t) i = N / 128 ^ i % 128 := by
  unfold Go.Proofs.Ytnimlkobcginjaa.pt
  rw [lb_app l t i hi]
  by_cases h1 : i + 1 < l.length
  · rw [h.hi i h1]; omega
  · have e : i = l.length - 1 := by omega
    rw [e, h.lo]; omega
theorem Leb.scan (h : Leb l N) (hl : l.length ≤ 10) : Go.Proofs.Ytnimlkobcginjaa.scan (ByteArray.mk l.toArray ++ t) 10 0 = some (l.length - 1) := by
  have hp := h.pos
  refine scan_to _ (l.length - 1) (by rw [lb_size]; omega) ?_ (l.length - 1) 10 0 (by omega) (by omega) fun i _ hi => ?_
  · rw [lb_app l t _ (by omega), h.lo]; omega
  · rw [lb_app l t i (by omega), h.hi i (by omega)]; omega
end

theorem mod_step (N m : Int) (hm : 0 < m) : N % (m * 128) = N % m + N / m % 128 * m := by
  have h1 : N = m * 128 * (N / m / 128) + (N / m % 128 * m + N % m) := by
    have e1 := Int.mul_ediv_add_emod N m
    have e2 := Int.mul_ediv_add_emod (N / m) 128
    have e3 : m * (N / m) = m * (128 * (N / m / 128)) + m * (N / m % 128) := by rw [← Int.mul_add, e2]
    rw [Int.mul_assoc m 128]
    rw [Int.mul_comm (N / m % 128) m]
    omega
  have r0 := Int.emod_nonneg N (show m ≠ 0 by omega)
  have r1 := Int.emod_lt_of_pos N hm
  have q0 : 0 ≤ N / m % 128 := by omega
  have q1 : N / m % 128 ≤ 127 := by omega
  have p0 : 0 ≤ N / m % 128 * m := Int.mul_nonneg q0 (by omega)
  have p1 : N / m % 128 * m ≤ 127 * m := Int.mul_le_mul_of_nonneg_right q1 (by omega)
  have h2 : N % (m * 128) = (N / m % 128 * m + N % m) % (m * 128) := by
    have h3 : N % (m * 128) = (m * 128 * (N / m / 128) + (N / m % 128 * m + N % m)) % (m * 128) := congrArg (fun x => x % (m * 128)) h1
    exact h3.trans (Int.mul_add_emod_self_left _ _ _)
  rw [h2, Int.emod_eq_of_lt (by omega) (by omega)]
  omega

theorem two_seven (k : Nat) : (2 : Int) ^ (7 * k) = 128 ^ k := by rw [Int.pow_mul]; rfl
theorem nat_seven (k : Nat) : (2 : Nat) ^ (7 * k) = 128 ^ k := by rw [Nat.pow_mul]
theorem pow_room (k : Nat) (h : k ≤ 9) : 128 ^ k ≤ 9223372036854775808 := by
  have := Nat.pow_le_pow_right (n := 128) (by omega) h
  exact Nat.le_trans this (by decide)

/-- The groups joined: the number's rest by so many groups. -/
theorem acc_is (s : ByteArray) (N : Int) (L : Nat) (hd : ∀ i, i < L → pt s i = N / 128 ^ i % 128) : ∀ k, k ≤ L → k ≤ 9 → acc s k = N % 128 ^ k
  | 0, _, _ => by simp [acc]
  | k + 1, h1, h2 => by
    have ih := acc_is s N L hd k (by omega) (by omega)
    have hp := hd k (by omega)
    have p0 := pt_lo s k
    have p1 := pt_hi s k
    obtain ⟨p, hpe⟩ := Int.eq_ofNat_of_zero_le p0
    have hP := pow_room k (by omega)
    have hP8 : 128 ^ k ≤ 72057594037927936 := Nat.le_trans (Nat.pow_le_pow_right (by omega) (show k ≤ 8 by omega)) (by decide)
    have hPos : 0 < 128 ^ k := Nat.pow_pos (by omega)
    have e1 : (128 : Int) ^ k = ((128 ^ k : Nat) : Int) := by simp
    obtain ⟨a, hae⟩ := Int.eq_ofNat_of_zero_le (Int.emod_nonneg N (show (128 : Int) ^ k ≠ 0 by rw [e1]; omega))
    have ha : a < 128 ^ k := by
      have := Int.emod_lt_of_pos N (show (0 : Int) < 128 ^ k by rw [e1]; omega)
      rw [hae, e1] at this
      omega
    have hm : p * 128 ^ k ≤ 127 * 128 ^ k := Nat.mul_le_mul_right _ (by omega)
    simp only [acc]
    rw [ih, hae, two_seven, Int.pow_succ, mod_step N _ (by rw [e1]; omega), hae, ← hp, hpe, e1]
    rw [show (p : Int) * ((128 ^ k : Nat) : Int) = ((p * 128 ^ k : Nat) : Int) by simp]
    have hor : 128 ^ k * p + a = 128 ^ k * p ||| a := by
      have := Nat.two_pow_add_eq_or_of_lt (i := 7 * k) (b := a) (by rw [nat_seven]; exact ha) p
      rw [nat_seven] at this
      exact this
    rw [Nat.mul_comm p] at hm ⊢
    generalize 128 ^ k * p = M at *
    generalize 128 ^ k = P at *
    have hw : IntKind.u64.wrap (M : Int) = M := by rw [IntKind.wrap_u64]; omega
    rw [hw, or_nat a M (by omega) (by omega), Nat.or_comm, ← hor]
    omega

theorem acc_ten (s : ByteArray) (N : Int) (hd : ∀ i, i < 10 → pt s i = N / 128 ^ i % 128) : acc s 10 = N % 18446744073709551616 := by
  have h9 := acc_is s N 10 hd 9 (by omega) (by omega)
  have hp := hd 9 (by omega)
  rw [show (128 : Int) ^ 9 = 9223372036854775808 by decide] at h9 hp
  have e : acc s 10 = bits .or .u64 (acc s 9) (IntKind.u64.wrap (pt s 9 * 2 ^ (7 * 9))) := rfl
  rw [e, h9, hp, show (2 : Int) ^ (7 * 9) = 9223372036854775808 by decide]
  have hw : IntKind.u64.wrap (N / 9223372036854775808 % 128 * 9223372036854775808) = N / 9223372036854775808 % 2 * 9223372036854775808 := by rw [IntKind.wrap_u64]; omega
  rw [hw]
  obtain ⟨a, ha⟩ := Int.eq_ofNat_of_zero_le (show 0 ≤ N % 9223372036854775808 by omega)
  obtain ⟨b, hb⟩ := Int.eq_ofNat_of_zero_le (show 0 ≤ N / 9223372036854775808 % 2 by omega)
  have hor := Nat.two_pow_add_eq_or_of_lt (i := 63) (b := a) (by rw [show (2 : Nat) ^ 63 = 9223372036854775808 by decide]; omega) b
  rw [show (2 : Nat) ^ 63 = 9223372036854775808 by decide] at hor
  rw [ha, hb, show (b : Int) * 9223372036854775808 = ((9223372036854775808 * b : Nat) : Int) by omega, or_nat a _ (by omega) (by omega), Nat.or_comm, ← hor]
  omega

end Go.Proofs.Ytnimlkobcginjaa
