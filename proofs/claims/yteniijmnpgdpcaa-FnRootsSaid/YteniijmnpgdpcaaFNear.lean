/-
  What is told is nearest: plain facts on rounding, for any number that is told by its first bits and whether more follows.
-/
import Derived.Test.YteniijmnpgdpcaaFHalf
namespace Go.Proofs.Yteniijmnpgdpcaa

/-- k 2^t is nearest to X / B, the even one of two; X / B is where such numbers are. -/
def NearBy (X B t k : Nat) : Prop := 2 * X ≤ 2 * (k * (2 ^ t * B)) + 2 ^ t * B ∧ 2 * (k * (2 ^ t * B)) ≤ 2 * X + 2 ^ t * B ∧ ((2 * X = 2 * (k * (2 ^ t * B)) + 2 ^ t * B ∨ 2 * (k * (2 ^ t * B)) = 2 * X + 2 ^ t * B) → k % 2 = 0) ∧ (t ≠ 0 → 1024 * (2 ^ t * B) ≤ X) ∧ X ≤ 2048 * (2 ^ t * B)

theorem nsh_scale (M j D Y : Nat) (more : Bool) (_hD : 0 < D) (_hL : M * D ≤ Y) (hH : Y < (M + 1) * D) (hE : more = false → Y = M * D) (hS : more = true → 1 ≤ j ∧ M * D < Y) :
    2 * Y ≤ 2 * (nsh M j more * (2 ^ j * D)) + 2 ^ j * D ∧ 2 * (nsh M j more * (2 ^ j * D)) ≤ 2 * Y + 2 ^ j * D ∧ ((2 * Y = 2 * (nsh M j more * (2 ^ j * D)) + 2 ^ j * D ∨ 2 * (nsh M j more * (2 ^ j * D)) = 2 * Y + 2 ^ j * D) → nsh M j more % 2 = 0) := by
  have hp := Nat.two_pow_pos j
  have hev : more = true → 2 ^ j % 2 = 0 := fun h => by
    obtain ⟨i, hi⟩ : ∃ i, j = i + 1 := ⟨j - 1, by have := (hS h).1; omega⟩
    rw [hi, Nat.pow_succ]; omega
  unfold nsh
  have hdm := Nat.div_add_mod M (2 ^ j)
  have hr : M % 2 ^ j < 2 ^ j := Nat.mod_lt _ hp
  rw [Nat.mul_comm] at hdm
  generalize M / 2 ^ j = q at *
  generalize M % 2 ^ j = r at *
  generalize 2 ^ j = P at *
  have e1 : M * D = q * (P * D) + r * D := by rw [← hdm, Nat.add_mul, Nat.mul_assoc]
  have e2 : (M + 1) * D = q * (P * D) + r * D + D := by rw [Nat.add_mul, e1]; omega
  rw [e2] at hH
  rw [e1] at hE hS
  have a1 : r * D + D ≤ P * D := by have := Nat.mul_le_mul_right D hr; rw [Nat.succ_mul] at this; exact this
  have a2 : 2 * r + 2 ≤ P → 2 * (r * D) + 2 * D ≤ P * D := fun h => by
    have := Nat.mul_le_mul_right D h; rw [Nat.add_mul, Nat.mul_assoc] at this; exact this
  have a3 : 2 * r ≤ P → 2 * (r * D) ≤ P * D := fun h => by
    have := Nat.mul_le_mul_right D h; rw [Nat.mul_assoc] at this; exact this
  have a4 : P ≤ 2 * r → P * D ≤ 2 * (r * D) := fun h => by
    have := Nat.mul_le_mul_right D h; rw [Nat.mul_assoc] at this; exact this
  have a5 : P + 1 ≤ 2 * r → P * D + D ≤ 2 * (r * D) := fun h => by
    have := Nat.mul_le_mul_right D h; rw [Nat.add_mul, Nat.mul_assoc, Nat.one_mul] at this; exact this
  have a6 : 2 * r + 1 ≤ P → 2 * (r * D) + D ≤ P * D := fun h => by
    have := Nat.mul_le_mul_right D h; rw [Nat.add_mul, Nat.mul_assoc, Nat.one_mul] at this; exact this
  have e3 : (q + 1) * (P * D) = q * (P * D) + P * D := Nat.succ_mul _ _
  split
  · rename_i hc
    rw [e3]
    generalize q * (P * D) = Q at *
    generalize P * D = Z at *
    generalize r * D = rD at *
    cases more
    · have hY := hE rfl
      rcases hc with h | ⟨h, h2⟩
      · have := a5 h; omega
      · have := a4 (by omega); have := a3 (by omega)
        have h3 : q % 2 = 1 := by rcases h2 with h2 | h2; exact absurd h2 (by decide); exact h2
        omega
    · have hY := (hS rfl).2
      have := a4 (by omega)
      omega
  · rename_i hc
    generalize q * (P * D) = Q at *
    generalize P * D = Z at *
    generalize r * D = rD at *
    cases more
    · have hY := hE rfl
      by_cases h : 2 * r = P
      · have := a3 (by omega); have := a4 (by omega)
        have h3 : q % 2 = 0 := by
          by_cases g : q % 2 = 1
          · exact absurd (Or.inr ⟨h.symm, Or.inr g⟩) hc
          · omega
        omega
      · have := a6 (by omega); omega
    · have hY := (hS rfl).2
      have hv := hev rfl
      have : 2 * r + 2 ≤ P := by
        have g1 : ¬ P < 2 * r := fun h => hc (Or.inl h)
        have g2 : ¬ P = 2 * r := fun h => hc (Or.inr ⟨h, Or.inl rfl⟩)
        omega
      have := a2 this
      omega

theorem told_near (M : Nat) (e : Int) (more : Bool) (X B c : Nat) (hM : M ≠ 0) (hMb : big M) (hc : 24 ≤ c) (hec : 0 ≤ e + c) (hB : 0 < B)
    (hL : M * (2 ^ (e + c).toNat * B) ≤ X * 2 ^ (c - 24)) (hH : X * 2 ^ (c - 24) < (M + 1) * (2 ^ (e + c).toNat * B))
    (hE : more = false → X * 2 ^ (c - 24) = M * (2 ^ (e + c).toNat * B)) (hS : more = true → 2 ^ 12 ≤ M ∧ M * (2 ^ (e + c).toNat * B) < X * 2 ^ (c - 24)) :
    ∃ t k, toldOf 10 (-24) M e more = t * 1024 + k ∧ k ≤ 2048 ∧ (t ≠ 0 → 1024 ≤ k) ∧ NearBy X B t k := by
  obtain ⟨b1, b2, b3, b4⟩ := bl_is M hMb hM
  obtain ⟨k1, k2⟩ := kept_bounds 10 (-24) M e more hM hMb
  have hl : lastOf 10 (-24) M e = max (e + Lib.bitLen M - 10 - 1) (-24) := by unfold lastOf; rfl
  have hld : toldOf 10 (-24) M e more = (lastOf 10 (-24) M e - -24).toNat * 1024 + keptOf 10 (-24) M e more := by
    unfold toldOf; rw [if_neg hM]
  rw [hld]
  refine ⟨(lastOf 10 (-24) M e - -24).toNat, keptOf 10 (-24) M e more, rfl, k1, fun h => k2 (by omega), ?_⟩
  unfold keptOf
  generalize lastOf 10 (-24) M e = l at *
  obtain ⟨t, ht⟩ : ∃ t, (l - -24).toNat = t := ⟨_, rfl⟩
  rw [ht]
  have hU : 0 < 2 ^ (c - 24) := Nat.two_pow_pos _
  have hD : 0 < 2 ^ (e + c).toNat * B := Nat.mul_pos (Nat.two_pow_pos _) hB
  have eS : 2 ^ t * B * 2 ^ (c - 24) = 2 ^ (t + (c - 24)) * B := by rw [Nat.mul_right_comm, ← Nat.pow_add]
  -- where it is
  have lo : t ≠ 0 → 1024 * (2 ^ t * B) ≤ X := fun h => by
    refine Nat.le_of_mul_le_mul_right (c := 2 ^ (c - 24)) ?_ hU
    refine Nat.le_trans ?_ hL
    rw [Nat.mul_assoc, eS, show (1024 : Nat) = 2 ^ 10 by decide, ← Nat.mul_assoc, ← Nat.pow_add]
    have g : 2 ^ (Lib.bitLen M - 1) * (2 ^ (e + c).toNat * B) ≤ M * (2 ^ (e + c).toNat * B) := Nat.mul_le_mul_right _ b3
    refine Nat.le_trans (Nat.le_of_eq ?_) g
    rw [← Nat.mul_assoc, ← Nat.pow_add]
    congr 2
    omega
  have hi : X ≤ 2048 * (2 ^ t * B) := by
    refine Nat.le_of_mul_le_mul_right (c := 2 ^ (c - 24)) ?_ hU
    refine Nat.le_trans (Nat.le_of_lt hH) ?_
    have e0 : 2048 * (2 ^ t * B) * 2 ^ (c - 24) = 2 ^ (11 + (t + (c - 24))) * B := by
      rw [Nat.mul_assoc, eS, show (2048 : Nat) = 2 ^ 11 by decide, ← Nat.mul_assoc, ← Nat.pow_add]
    rw [e0]
    have g : (M + 1) * (2 ^ (e + c).toNat * B) ≤ 2 ^ Lib.bitLen M * (2 ^ (e + c).toNat * B) := Nat.mul_le_mul_right _ b4
    refine Nat.le_trans g ?_
    rw [← Nat.mul_assoc, ← Nat.pow_add]
    exact Nat.mul_le_mul_right _ (Nat.pow_le_pow_right (by omega) (by omega))
  unfold NearBy
  by_cases hlt : e < l
  · rw [if_pos hlt]
    have key := nsh_scale M (l - e).toNat (2 ^ (e + c).toNat * B) (X * 2 ^ (c - 24)) more hD hL hH hE (fun h => ⟨by omega, (hS h).2⟩)
    have eZ : 2 ^ (l - e).toNat * (2 ^ (e + c).toNat * B) = 2 ^ t * B * 2 ^ (c - 24) := by
      rw [eS, ← Nat.mul_assoc, ← Nat.pow_add]
      congr 2
      omega
    rw [eZ] at key
    generalize nsh M (l - e).toNat more = k at *
    generalize 2 ^ t * B = S at *
    generalize 2 ^ (c - 24) = U at *
    obtain ⟨x1, x2, x3⟩ := key
    have c1 : 2 * (X * U) = (2 * X) * U := by rw [Nat.mul_assoc]
    have c2 : 2 * (k * (S * U)) + S * U = (2 * (k * S) + S) * U := by rw [Nat.add_mul, Nat.mul_assoc, Nat.mul_assoc]
    have c3 : 2 * (k * (S * U)) = (2 * (k * S)) * U := by rw [Nat.mul_assoc, Nat.mul_assoc]
    have c4 : 2 * (X * U) + S * U = (2 * X + S) * U := by rw [Nat.add_mul, Nat.mul_assoc]
    refine ⟨?_, ?_, ?_, lo, hi⟩
    · rw [c1, c2] at x1; exact Nat.le_of_mul_le_mul_right x1 hU
    · rw [c3, c4] at x2; exact Nat.le_of_mul_le_mul_right x2 hU
    · rintro (h | h)
      · exact x3 (Or.inl (by rw [c1, c2, h]))
      · exact x3 (Or.inr (by rw [c3, c4, h]))
  · rw [if_neg hlt]
    have hm : more = false := by
      cases more
      · rfl
      · exfalso
        have := bl_ge M 12 hMb (hS rfl).1
        omega
    have hY := hE hm
    have hX : X = M * 2 ^ (e - l).toNat * (2 ^ t * B) := by
      refine Nat.eq_of_mul_eq_mul_right hU ?_
      rw [hY, Nat.mul_assoc (M * 2 ^ (e - l).toNat), eS, Nat.mul_assoc M, ← Nat.mul_assoc (2 ^ (e - l).toNat), ← Nat.pow_add]
      congr 3
      omega
    have hS0 : 0 < 2 ^ t * B := Nat.mul_pos (Nat.two_pow_pos _) hB
    rw [← hX]
    generalize 2 ^ t * B = S at *
    exact ⟨by omega, by omega, fun h => by omega, lo, hi⟩

/-- The next one is no nearer. -/
theorem near_up (X B t k : Nat) (hB : 0 < B) (hk : k ≤ 2048) (hk2 : t ≠ 0 → 1024 ≤ k) (h : NearBy X B t k) :
    ((X : Int) - (valN (t * 1024 + k) * B : Nat)).natAbs ≤ ((X : Int) - (valN (t * 1024 + k + 1) * B : Nat)).natAbs ∧ (((X : Int) - (valN (t * 1024 + k) * B : Nat)).natAbs = ((X : Int) - (valN (t * 1024 + k + 1) * B : Nat)).natAbs → k % 2 = 0) := by
  obtain ⟨h1, h2, h3, h4, h5⟩ := h
  have hS : 0 < 2 ^ t * B := Nat.mul_pos (Nat.two_pow_pos _) hB
  rw [val_put t k hk hk2, Nat.mul_assoc]
  by_cases hk3 : k = 2048
  · subst hk3
    rw [show t * 1024 + 2048 + 1 = (t + 1) * 1024 + 1025 by omega, val_put (t + 1) 1025 (by omega) (by omega), Nat.pow_succ, Nat.mul_assoc, Nat.mul_assoc]
    rw [show 1025 * (2 ^ t * (2 * B)) = 2050 * (2 ^ t * B) by rw [Nat.mul_left_comm (2 ^ t), ← Nat.mul_assoc]]
    generalize 2 ^ t * B = S at *
    omega
  · rw [show t * 1024 + k + 1 = t * 1024 + (k + 1) by omega, val_put t (k + 1) (by omega) (by omega), Nat.mul_assoc (k + 1), Nat.succ_mul k (2 ^ t * B)]
    generalize 2 ^ t * B = S at *
    generalize k * S = Q at *
    omega
/-- .. nor the one below. -/
theorem near_down (X B t k : Nat) (hB : 0 < B) (hk : k ≤ 2048) (hk2 : t ≠ 0 → 1024 ≤ k) (h : NearBy X B t k) (h0 : t * 1024 + k ≠ 0) :
    ((X : Int) - (valN (t * 1024 + k) * B : Nat)).natAbs ≤ ((X : Int) - (valN (t * 1024 + k - 1) * B : Nat)).natAbs ∧ (((X : Int) - (valN (t * 1024 + k) * B : Nat)).natAbs = ((X : Int) - (valN (t * 1024 + k - 1) * B : Nat)).natAbs → k % 2 = 0) := by
  obtain ⟨h1, h2, h3, h4, h5⟩ := h
  have hS : 0 < 2 ^ t * B := Nat.mul_pos (Nat.two_pow_pos _) hB
  rw [val_put t k hk hk2, Nat.mul_assoc]
  by_cases hk3 : t ≠ 0 ∧ k = 1024
  · obtain ⟨ht, rfl⟩ := hk3
    obtain ⟨u, rfl⟩ : ∃ u, t = u + 1 := ⟨t - 1, by omega⟩
    have h4' := h4 ht
    rw [show (u + 1) * 1024 + 1024 - 1 = u * 1024 + 2047 by omega, val_put u 2047 (by omega) (by omega), Nat.mul_assoc]
    have e : 2 ^ (u + 1) * B = 2 * (2 ^ u * B) := by rw [Nat.pow_succ, Nat.mul_right_comm, Nat.mul_comm]
    rw [e] at h1 h2 h4' h5 ⊢
    clear h3 h4 e hS
    generalize 2 ^ u * B = S at *
    omega
  · obtain ⟨j, rfl⟩ : ∃ j, k = j + 1 := ⟨k - 1, by
      by_cases ht : t = 0
      · subst ht; omega
      · have := hk2 ht; omega⟩
    rw [show t * 1024 + (j + 1) - 1 = t * 1024 + j by omega, val_put t j (by omega) (by omega), Nat.mul_assoc j, Nat.succ_mul j (2 ^ t * B)]
    rw [Nat.succ_mul j (2 ^ t * B)] at h1 h2 h3
    generalize 2 ^ t * B = S at *
    generalize j * S = Q at *
    omega
/-- Beyond the greatest one. -/
theorem near_top (X B t k : Nat) (hB : 0 < B) (hk : k ≤ 2048) (h : NearBy X B t k) (h0 : 31744 ≤ t * 1024 + k) : 1099243192320 * B ≤ X := by
  obtain ⟨h1, h2, h3, h4, h5⟩ := h
  by_cases ht : t = 29
  · subst ht
    obtain rfl : k = 2048 := by omega
    rw [show (2 : Nat) ^ 29 = 536870912 by decide] at h2
    omega
  · have h6 := h4 (by omega)
    have : 2 ^ 30 * B ≤ 2 ^ t * B := Nat.mul_le_mul_right _ (Nat.pow_le_pow_right (by omega) (by omega))
    rw [show (2 : Nat) ^ 30 = 1073741824 by decide] at this
    omega

end Go.Proofs.Yteniijmnpgdpcaa
