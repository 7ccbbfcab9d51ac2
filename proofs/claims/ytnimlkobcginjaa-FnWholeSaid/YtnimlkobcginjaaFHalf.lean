/-
  Halves as whole numbers of parts of 2 to the -24: rounding to eleven bits. Plain facts.
-/
import Derived.Test.YtnimlkobcginjaaFMath
namespace Go.Proofs.Ytnimlkobcginjaa

/-- How many bits are cut off. -/
def cutOf (n : Nat) : Nat := Lib.bitLen n - 11
/-- What is kept. -/
def keep (n : Nat) : Nat := nsh n (cutOf n) false
/-- The nearest number of eleven bits. -/
def rN (n : Nat) : Nat := keep n * 2 ^ cutOf n
/-- Numbers of eleven bits. -/
def inF (n : Nat) : Prop := ∃ k E : Nat, k < 2048 ∧ n = k * 2 ^ E
def big (n : Nat) : Prop := n < 18446744073709551616

theorem nsh_parts (n t : Nat) (more : Bool) : ∃ q r P : Nat, P = 2 ^ t ∧ n = q * P + r ∧ r < P ∧ n / P = q ∧ n % P = r ∧ (nsh n t more = q ∨ nsh n t more = q + 1) ∧ (nsh n t more = q → 2 * r ≤ P) ∧ (nsh n t more = q + 1 → P ≤ 2 * r) := by
  have hp := Nat.two_pow_pos t
  refine ⟨n / 2 ^ t, n % 2 ^ t, 2 ^ t, rfl, ?_, Nat.mod_lt _ hp, rfl, rfl, ?_⟩
  · have := Nat.div_add_mod n (2 ^ t)
    rw [Nat.mul_comm] at this
    omega
  · unfold nsh
    split <;> omega

/-- No multiple is nearer. -/
theorem nsh_near (n t j : Nat) : nsh n t false * 2 ^ t + j * 2 ^ t ≤ 2 * n ∧ j * 2 ^ t ≤ nsh n t false * 2 ^ t ∨ 2 * n ≤ nsh n t false * 2 ^ t + j * 2 ^ t ∧ nsh n t false * 2 ^ t ≤ j * 2 ^ t := by
  obtain ⟨q, r, P, hP, hn, hr, _, _, hk, h1, h2⟩ := nsh_parts n t false
  rw [← hP]
  generalize nsh n t false = k at *
  rcases Nat.lt_or_ge k j with h | h
  · right
    refine ⟨?_, Nat.mul_le_mul_right _ (by omega)⟩
    have g : (k + 1) * P ≤ j * P := Nat.mul_le_mul_right _ h
    rw [Nat.add_mul] at g
    rcases hk with rfl | rfl
    · have := h1 rfl; omega
    · rw [Nat.add_mul] at g ⊢; omega
  · rcases Nat.lt_or_ge j k with h' | h'
    · left
      refine ⟨?_, Nat.mul_le_mul_right _ (by omega)⟩
      have g : (j + 1) * P ≤ k * P := Nat.mul_le_mul_right _ h'
      rw [Nat.add_mul] at g
      rcases hk with rfl | rfl
      · omega
      · have := h2 rfl
        rw [Nat.add_mul] at g ⊢; omega
    · obtain rfl : j = k := by omega
      rcases hk with rfl | rfl
      · left; omega
      · right; rw [Nat.add_mul]; omega

theorem cut_lo (n : Nat) (hb : big n) (h : cutOf n ≠ 0) : 2 ^ (10 + cutOf n) ≤ n := by
  have h0 : n ≠ 0 := by rintro rfl; exact h (by unfold cutOf; rw [bl_zero])
  obtain ⟨a1, a2, a3, a4⟩ := bl_is n hb h0
  unfold cutOf at *
  rw [show 10 + (Lib.bitLen n - 11) = Lib.bitLen n - 1 by omega]
  exact a3
theorem cut_hi (n : Nat) (hb : big n) : n < 2 ^ (11 + cutOf n) := by
  by_cases h0 : n = 0
  · subst h0; exact Nat.two_pow_pos _
  obtain ⟨a1, a2, a3, a4⟩ := bl_is n hb h0
  unfold cutOf
  exact Nat.lt_of_lt_of_le a4 (Nat.pow_le_pow_right (by omega) (by omega))
theorem cut_of (n t : Nat) (hb : big n) (h : n < 2 ^ (11 + t)) : cutOf n ≤ t := by
  have := bl_le n (11 + t) hb h
  unfold cutOf; omega
theorem cut_ge (n t : Nat) (hb : big n) (h : 2 ^ (10 + t) ≤ n) : t ≤ cutOf n := by
  have := bl_ge n (10 + t) hb h
  unfold cutOf; omega

theorem keep_zero (n : Nat) (h : cutOf n = 0) : keep n = n := by
  unfold keep nsh; rw [h]; simp; omega
theorem keep_bounds (n : Nat) (hb : big n) : keep n ≤ 2048 ∧ (cutOf n ≠ 0 → 1024 ≤ keep n) := by
  have h1 := cut_hi n hb
  have h2 := cut_lo n hb
  unfold keep
  obtain ⟨q, r, P, hP, hn, hr, hq, _, hk, _, _⟩ := nsh_parts n (cutOf n) false
  rw [Nat.pow_add, ← hP] at h1
  rw [Nat.pow_add, ← hP] at h2
  rw [show (2 : Nat) ^ 11 = 2048 by decide] at h1
  rw [show (2 : Nat) ^ 10 = 1024 by decide] at h2
  have hP0 : 0 < P := by omega
  have q1 : q < 2048 := by
    rcases Nat.lt_or_ge q 2048 with h | h
    · exact h
    · have := Nat.mul_le_mul_right P h; omega
  refine ⟨by omega, fun h => ?_⟩
  have q2 : 1024 ≤ q := by
    rcases Nat.lt_or_ge q 1024 with g | g
    · have h3 := h2 h
      have : (q + 1) * P ≤ 1024 * P := Nat.mul_le_mul_right P g
      rw [Nat.add_mul] at this; omega
    · exact g
  omega

theorem inF_rN (n : Nat) (hb : big n) : inF (rN n) := by
  obtain ⟨h1, _⟩ := keep_bounds n hb
  unfold rN
  rcases Nat.lt_or_ge (keep n) 2048 with h | h
  · exact ⟨_, _, h, rfl⟩
  · refine ⟨1024, cutOf n + 1, by omega, ?_⟩
    rw [show keep n = 2048 by omega, Nat.pow_succ]; omega

/-- No number of eleven bits is nearer. -/
theorem rN_near (n f : Nat) (hb : big n) (hf : inF f) : (rN n + f ≤ 2 * n ∧ f ≤ rN n) ∨ (2 * n ≤ rN n + f ∧ rN n ≤ f) := by
  obtain ⟨k, E, hk, rfl⟩ := hf
  by_cases h0 : cutOf n = 0
  · have e : rN n = n := by unfold rN; rw [keep_zero n h0, h0]; simp
    rw [e]; omega
  rcases Nat.lt_or_ge E (cutOf n) with hE | hE
  · have h1 := cut_lo n hb h0
    have h2 : k * 2 ^ E ≤ 2 ^ (10 + cutOf n) := by
      have e11 : (2 : Nat) ^ 11 = 2048 := by decide
      have g : k * 2 ^ E ≤ 2 ^ 11 * 2 ^ E := Nat.mul_le_mul_right _ (by omega)
      rw [← Nat.pow_add] at g
      exact Nat.le_trans g (Nat.pow_le_pow_right (by omega) (by omega))
    have h3 := nsh_near n (cutOf n) (2 ^ 10)
    rw [← Nat.pow_add] at h3
    have h4 : 2 ^ 10 ≤ keep n := (keep_bounds n hb).2 h0
    have h5 : 2 ^ (10 + cutOf n) ≤ rN n := by unfold rN; rw [Nat.pow_add]; exact Nat.mul_le_mul_right _ h4
    have e : nsh n (cutOf n) false * 2 ^ cutOf n = rN n := rfl
    rw [e] at h3
    left
    omega
  · have h3 := nsh_near n (cutOf n) (k * 2 ^ (E - cutOf n))
    rw [Nat.mul_assoc, ← Nat.pow_add, show E - cutOf n + cutOf n = E by omega] at h3
    exact h3

theorem rN_exact (n : Nat) (hb : big n) (h : inF n) : rN n = n := by
  rcases rN_near n n hb h with h | h <;> omega

theorem rN_mono (m n : Nat) (hm : big m) (hn : big n) (h : m ≤ n) : rN m ≤ rN n := by
  rcases Nat.lt_or_ge m n with h2 | h2
  · have a := rN_near m (rN n) hm (inF_rN n hn)
    have b := rN_near n (rN m) hn (inF_rN m hm)
    omega
  · obtain rfl : m = n := by omega
    exact Nat.le_refl _

/-- How far the rounded one may be. -/
theorem rN_err (n t : Nat) (hb : big n) (h : n < 2 ^ (11 + t)) : 2 * rN n ≤ 2 * n + 2 ^ t ∧ 2 * n ≤ 2 * rN n + 2 ^ t := by
  have hc := cut_of n t hb h
  obtain ⟨q, r, P, hP, hn, hr, _, _, hk, h1, h2⟩ := nsh_parts n (cutOf n) false
  have hP2 : P ≤ 2 ^ t := by rw [hP]; exact Nat.pow_le_pow_right (by omega) hc
  have e : rN n = nsh n (cutOf n) false * P := by rw [hP]; rfl
  rw [e]
  generalize nsh n (cutOf n) false = k at *
  rcases hk with rfl | rfl
  · have := h1 rfl; omega
  · have := h2 rfl; rw [Nat.add_mul]; omega

/-- What is rounded is a multiple of what its size allows. -/
theorem rN_mult (n t : Nat) (hb : big n) (h : t = 0 ∨ 2 ^ (10 + t) ≤ n) : ∃ j, rN n = j * 2 ^ t := by
  have hc : t ≤ cutOf n := by
    rcases h with rfl | h
    · omega
    · exact cut_ge n t hb h
  refine ⟨keep n * 2 ^ (cutOf n - t), ?_⟩
  unfold rN
  rw [Nat.mul_assoc, ← Nat.pow_add, show cutOf n - t + t = cutOf n by omega]

/-- The bits of the nearest half, were there no greatest one. -/
def bitsN (n : Nat) : Nat := cutOf n * 1024 + keep n
/-- What the bits of a half say. -/
def valN (T : Nat) : Nat := if T / 1024 = 0 then T % 1024 else (T % 1024 + 1024) * 2 ^ (T / 1024 - 1)

theorem val_put (t k : Nat) (h1 : k ≤ 2048) (h2 : t ≠ 0 → 1024 ≤ k) : valN (t * 1024 + k) = k * 2 ^ t := by
  unfold valN
  by_cases h3 : k < 1024
  · obtain rfl : t = 0 := by
      by_cases h : t = 0
      · exact h
      · have := h2 h; omega
    rw [if_pos (by omega)]
    simp; omega
  · by_cases h4 : k = 2048
    · subst h4
      rw [if_neg (by omega), show (t * 1024 + 2048) / 1024 - 1 = t + 1 by omega, show (t * 1024 + 2048) % 1024 = 0 by omega, Nat.pow_succ]
      omega
    · rw [if_neg (by omega), show (t * 1024 + k) / 1024 - 1 = t by omega, show (t * 1024 + k) % 1024 + 1024 = k by omega]
theorem val_bits (n : Nat) (hb : big n) : valN (bitsN n) = rN n := by
  obtain ⟨h1, h2⟩ := keep_bounds n hb
  exact val_put _ _ h1 h2

theorem told_half (n : Nat) (hb : big n) : toldOf 10 (-24) n (-24) false = bitsN n := by
  unfold toldOf bitsN
  by_cases h0 : n = 0
  · subst h0
    rw [if_pos rfl]
    have : cutOf 0 = 0 := by unfold cutOf; rw [bl_zero]
    rw [keep_zero 0 this, this]
  · rw [if_neg h0]
    have e : lastOf 10 (-24) n (-24) = (cutOf n : Int) - 24 := by unfold lastOf cutOf; omega
    rw [e]
    have e2 : keptOf 10 (-24) n (-24) false = keep n := by
      unfold keptOf
      rw [e]
      by_cases h : cutOf n = 0
      · rw [if_neg (by omega), keep_zero n h, h]; simp
      · rw [if_pos (by omega), show ((cutOf n : Int) - 24 - -24).toNat = cutOf n by omega]; rfl
    rw [e2, show ((cutOf n : Int) - 24 - -24).toNat = cutOf n by omega]

/-- What is below the greatest one's next is finite. -/
theorem bits_fin (n : Nat) (hb : big n) (h : n ≤ 1098974756864) : bitsN n < 31744 := by
  obtain ⟨h1, h2⟩ := keep_bounds n hb
  have hc : cutOf n ≤ 29 := cut_of n 29 hb (Nat.lt_of_le_of_lt h (by decide))
  unfold bitsN
  by_cases h3 : cutOf n = 29
  · have hm := rN_mono n 1098974756864 hb (by unfold big; omega) h
    rw [rN_exact 1098974756864 (by unfold big; omega) ⟨2047, 29, by omega, by decide⟩] at hm
    unfold rN at hm
    rw [h3] at hm
    have : (2 : Nat) ^ 29 = 536870912 := by decide
    rw [this] at hm
    omega
  · omega
/-- What is told as finite is what is nearest, and it is no more than the greatest one. -/
theorem fin_bits (n : Nat) (hb : big n) (h : bitsN n < 31744) : rN n ≤ 1098974756864 := by
  obtain ⟨h1, h2⟩ := keep_bounds n hb
  unfold bitsN at h
  unfold rN
  by_cases h3 : cutOf n = 30
  · have := h2 (by omega); omega
  · by_cases h4 : cutOf n = 29
    · have : (2 : Nat) ^ 29 = 536870912 := by decide
      rw [h4, this]; omega
    · by_cases h5 : cutOf n ≤ 28
      · have : 2 ^ cutOf n ≤ 2 ^ 28 := Nat.pow_le_pow_right (by omega) h5
        have e : (2 : Nat) ^ 28 = 268435456 := by decide
        have : keep n * 2 ^ cutOf n ≤ 2048 * 268435456 := Nat.mul_le_mul h1 (by omega)
        omega
      · omega

end Go.Proofs.Ytnimlkobcginjaa
