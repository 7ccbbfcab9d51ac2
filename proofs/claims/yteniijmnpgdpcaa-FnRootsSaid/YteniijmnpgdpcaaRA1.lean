/-
  What is told is nearest: plain facts on rounding, for any number that is told by its first bits and whether more follows.
-/
import Derived.Test.YteniijmnpgdpcaaFHalf
import Derived.Test.YteniijmnpgdpcaaFSqM
namespace Go.Proofs.Yteniijmnpgdpcaa

/-- k 2^t is nearest to X / B, the even one of two; X / B is where such numbers are. -/
def NearBy (X B t k : Nat) : Prop := 2 * X ≤ 2 * (k * (2 ^ t * B)) + 2 ^ t * B ∧ 2 * (k * (2 ^ t * B)) ≤ 2 * X + 2 ^ t * B ∧ ((2 * X = 2 * (k * (2 ^ t * B)) + 2 ^ t * B ∨ 2 * (k * (2 ^ t * B)) = 2 * X + 2 ^ t * B) → k % 2 = 0) ∧ (t ≠ 0 → 1024 * (2 ^ t * B) ≤ X) ∧ X ≤ 2048 * (2 ^ t * B)

theorem nsh_scale (M j D Y : Nat) (more : Bool) (_hD : 0 < D) (_hL : M * D ≤ Y) (hH : Y < (M + 1) * D) (hE : more = false → Y = M * D) (hS : more = true → 1 ≤ j ∧ M * D < Y) :
    2 * Y ≤ 2 * (nsh M j more * (2 ^ j * D)) + 2 ^ j * D ∧ 2 * (nsh M j more * (2 ^ j * D)) ≤ 2 * Y + 2 ^ j * D ∧ ((2 * Y = 2 * (nsh M j more * (2 ^ j * D)) + 2 ^ j * D ∨ 2 * (nsh M j more * (2 ^ j * D)) = 2 * Y + 2 ^ j * D) → nsh M j more % 2 = 0) := by
  have hp := Nat.two_pow_pos j
  have hev : more = true → 2 ^ j % 2 = 0 := fun h => by
    obtain ⟨i, hi⟩ : ∃ i, j = i + 1 := ⟨j - 1, by have := (hS h).1; omega⟩
    rw [hi, Nat.pow_succ]; omega
  unfold nsh
  have hdm := Nat.div_add_mod M (2 ^ j)
  have hr : M % 2 ^ j < 2 ^ j := Nat.mod_lt _ hp
  rw [Nat.mul_comm] at hdm
  generalize M / 2 ^ j = q at *
  generalize M % 2 ^ j = r at *
  generalize 2 ^ j = P at *
  have e1 : M * D = q * (P * D) + r * D := by rw [← hdm, Nat.add_mul, Nat.mul_assoc]
  have e2 : (M + 1) * D = q * (P * D) + r * D + D := by rw [Nat.add_mul, e1]; omega
  rw [e2] at hH
  rw [e1] at hE hS
  have a1 : r * D + D ≤ P * D := by have := Nat.mul_le_mul_right D hr; rw [Nat.succ_mul] at this; exact this
  have a2 : 2 * r + 2 ≤ P → 2 * (r * D) + 2 * D ≤ P * D := fun h => by
    have := Nat.mul_le_mul_right D h; rw [Nat.add_mul, Nat.mul_assoc] at this; exact this
  have a3 : 2 * r ≤ P → 2 * (r * D) ≤ P * D := fun h => by
    have := Nat.mul_le_mul_right D h; rw [Nat.mul_assoc] at this; exact this
  have a4 : P ≤ 2 * r → P * D ≤ 2 * (r * D) := fun h => by
    have := Nat.mul_le_mul_right D h; rw [Nat.mul_assoc] at this; exact this
  have a5 : P + 1 ≤ 2 * r → P * D + D ≤ 2 * (r * D) := fun h => by
    have := Nat.mul_le_mul_right D h; rw [Nat.add_mul, Nat.mul_assoc, Nat.one_mul] at this; exact this
  have a6 : 2 * r + 1 ≤ P → 2 * (r * D) + D ≤ P * D := fun h => by
    have := Nat.mul_le_mul_right D h; rw [Nat.add_mul, Nat.mul_assoc, Nat.one_mul] at this; exact this
  have e3 : (q + 1) * (P * D) = q * (P * D) + P * D := Nat.succ_mul _ _
  split
  · rename_i hc
    rw [e3]
    generalize q * (P * D) = Q at *
    generalize P * D = Z at *
    generalize r * D = rD at *
    cases more
    · have hY := hE rfl
      rcases hc with h | ⟨h, h2⟩
      · have := a5 h; omega
      · have := a4 (by omega); have := a3 (by omega)
        have h3 : q % 2 = 1 := by rcases h2 with h2 | h2; exact absurd h2 (by decide); exact h2
        omega
    · have hY := (hS rfl).2
      have := a4 (by omega)
      omega
  · rename_i hc
    generalize q * (P * D) = Q at *
    generalize P * D = Z at *
    generalize r * D = rD at *
    cases more
    · have hY := hE rfl
      by_cases h : 2 * r = P
      · have := a3 (by omega); have := a4 (by omega)
        have h3 : q % 2 = 0 := by
          by_cases g : q % 2 = 1
          · exact absurd (Or.inr ⟨h.symm, Or.inr g⟩) hc
          · omega
        omega
      · have := a6 (by omega); omega
    · have hY := (hS rfl).2
      have hv := hev rfl
      have : 2 * r + 2 ≤ P := by
        have g1 : ¬ P < 2 * r := fun h => hc (Or.inl h)
        have g2 : ¬ P = 2 * r := fun h => hc (Or.inr ⟨h, Or.inl rfl⟩)
        omega
      have := a2 this
      omega

theorem told_near (M : Nat) (e : Int) (more : Bool) (X B c : Nat) (hM : M ≠ 0) (hMb : big M) (hc : 24 ≤ c) (hec : 0 ≤ e + c) (hB : 0 < B)
    (hL : M * (2 ^ (e + c).toNat * B) ≤ X * 2 ^ (c - 24)) (hH : X * 2 ^ (c - 24) < (M + 1) * (2 ^ (e + c).toNat * B))
    (hE : more = false → X * 2 ^ (c - 24) = M * (2 ^ (e + c).toNat * B)) (hS : more = true → 2 ^ 12 ≤ M ∧ M * (2 ^ (e + c).toNat * B) < X * 2 ^ (c - 24)) :
    ∃ t k, toldOf 10 (-24) M e more = t * 1024 + k ∧ k ≤ 2048 ∧ (t ≠ 0 → 1024 ≤ k) ∧ NearBy X B t k := by
  obtain ⟨b1, b2, b3, b4⟩ := bl_is M hMb hM
  obtain ⟨k1, k2⟩ := kept_bounds 10 (-24) M e more hM hMb
  have hl : lastOf 10 (-24) M e = max (e + Lib.bitLen M - 10 - 1) (-24) := by unfold lastOf; rfl
  have hld : toldOf 10 (-24) M e more = (lastOf 10 (-24) M e - -24).toNat * 1024 + keptOf 10 (-24) M e more := by
    unfold toldOf; rw [if_neg hM]
  rw [hld]
  refine ⟨(lastOf 10 (-24) M e - -24).toNat, keptOf 10 (-24) M e more, rfl, k1, fun h => k2 (by omega), ?_⟩
  unfold keptOf
  generalize lastOf 10 (-24) M e = l at *
  obtain ⟨t, ht⟩ : ∃ t, (l - -24).toNat = t := ⟨_, rfl⟩
  rw [ht]
  have hU : 0 < 2 ^ (c - 24) := Nat.two_pow_pos _
  have hD : 0 < 2 ^ (e + c).toNat * B := Nat.mul_pos (Nat.two_pow_pos _) hB
  have eS : 2 ^ t * B * 2 ^ (c - 24) = 2 ^ (t + (c - 24)) * B := by rw [Nat.mul_right_comm, ← Nat.pow_add]
  -- where it is
  have lo : t ≠ 0 → 1024 * (2 ^ t * B) ≤ X := fun h => by
    refine Nat.le_of_mul_le_mul_right (c := 2 ^ (c - 24)) ?_ hU
    refine Nat.le_trans ?_ hL
    rw [Nat.mul_assoc, eS, show (1024 : Nat) = 2 ^ 10 by decide, ← Nat.mul_assoc, ← Nat.pow_add]
    have g : 2 ^ (Lib.bitLen M - 1) * (2 ^ (e + c).toNat * B) ≤ M * (2 ^ (e + c).toNat * B) := Nat.mul_le_mul_right _ b3
    refine Nat.le_trans (Nat.le_of_eq ?_) g
    rw [← Nat.mul_assoc, ← Nat.pow_add]
    congr 2
    omega
  have hi : X ≤ 2048 * (2 ^ t * B) := by
    refine Nat.le_of_mul_le_mul_right (c := 2 ^ (c - 24)) ?_ hU
    refine Nat.le_trans (Nat.le_of_lt hH) ?_
    have e0 : 2048 * (2 ^ t * B) * 2 ^ (c - 24) = 2 ^ (11 + (t + (c - 24))) * B := by
      rw [Nat.mul_assoc, eS, show (2048 : Nat) = 2 ^ 11 by decide, ← Nat.mul_assoc, ← Nat.pow_add]
    rw [e0]
    have g : (M + 1) * (2 ^ (e + c).toNat * B) ≤ 2 ^ Lib.bitLen M * (2 ^ (e + c).toNat * B) := Nat.mul_le_mul_right _ b4
    refine Nat.le_trans g ?_
    rw [← Nat.mul_assoc, ← Nat.pow_add]
    exact Nat.mul_le_mul_right _ (Nat.pow_le_pow_right (by omega) (by omega))
  unfold NearBy
  by_cases hlt : e < l
  · rw [if_pos hlt]
    have key := nsh_scale M (l - e).toNat (2 ^ (e + c).toNat * B) (X * 2 ^ (c - 24)) more hD hL hH hE (fun h => ⟨by omega, (hS h).2⟩)
    have eZ : 2 ^ (l - e).toNat * (2 ^ (e + c).toNat * B) = 2 ^ t * B * 2 ^ (c - 24) := by
      rw [eS, ← Nat.mul_assoc, ← Nat.pow_add]
      congr 2
      omega
    rw [eZ] at key
    generalize nsh M (l - e).toNat more = k at *
    generalize 2 ^ t * B = S at *
    generalize 2 ^ (c - 24) = U at *
    obtain ⟨x1, x2, x3⟩ := key
    have c1 : 2 * (X * U) = (2 * X) * U := by rw [Nat.mul_assoc]
    have c2 : 2 * (k * (S * U)) + S * U = (2 * (k * S) + S) * U := by rw [Nat.add_mul, Nat.mul_assoc, Nat.mul_assoc]
    have c3 : 2 * (k * (S * U)) = (2 * (k * S)) * U := by rw [Nat.mul_assoc, Nat.mul_assoc]
    have c4 : 2 * (X * U) + S * U = (2 * X + S) * U := by rw [Nat.add_mul, Nat.mul_assoc]
    refine ⟨?_, ?_, ?_, lo, hi⟩
    · rw [c1, c2] at x1; exact Nat.le_of_mul_le_mul_right x1 hU
    · rw [c3, c4] at x2; exact Nat.le_of_mul_le_mul_right x2 hU
    · rintro (h | h)
      · exact x3 (Or.inl (by rw [c1, c2, h]))
      · exact x3 (Or.inr (by rw [c3, c4, h]))
  · rw [if_neg hlt]
    have hm : more = false := by
      cases more
      · rfl
      · exfalso
        have := bl_ge M 12 hMb (hS rfl).1
        omega
    have hY := hE hm
    have hX : X = M * 2 ^ (e - l).toNat * (2 ^ t * B) := by
      refine Nat.eq_of_mul_eq_mul_right hU ?_
      rw [hY, Nat.mul_assoc (M * 2 ^ (e - l).toNat), eS, Nat.mul_assoc M, ← Nat.mul_assoc (2 ^ (e - l).toNat), ← Nat.pow_add]
      congr 3
      omega
    have hS0 : 0 < 2 ^ t * B := Nat.mul_pos (Nat.two_pow_pos _) hB
    rw [← hX]
    generalize 2 ^ t * B = S at *
    exact ⟨by omega, by omega, fun h => by omega, lo, hi⟩

/-- The next one is no nearer. -/
theorem near_up (X B t k : Nat) (hB : 0 < B) (hk : k ≤ 2048) (hk2 : t ≠ 0 → 1024 ≤ k) (h : NearBy X B t k) :
    ((X : Int) - (valN (t * 1024 + k) * B : Nat)).natAbs ≤ ((X : Int) - (valN (t * 1024 + k + 1) * B : Nat)).natAbs ∧ (((X : Int) - (valN (t * 1024 + k) * B : Nat)).natAbs = ((X : Int) - (valN (t * 1024 + k + 1) * B : Nat)).natAbs → k % 2 = 0) := by
  obtain ⟨h1, h2, h3, h4, h5⟩ := h
  have hS : 0 < 2 ^ t * B := Nat.mul_pos (Nat.two_pow_pos _) hB
  rw [val_put t k hk hk2, Nat.mul_assoc]
  by_cases hk3 : k = 2048
  · subst hk3
    rw [show t * 1024 + 2048 + 1 = (t + 1) * 1024 + 1025 by omega, val_put (t + 1) 1025 (by omega) (by omega), Nat.pow_succ, Nat.mul_assoc, Nat.mul_assoc]
    rw [show 1025 * (2 ^ t * (2 * B)) = 2050 * (2 ^ t * B) by rw [Nat.mul_left_comm (2 ^ t), ← Nat.mul_assoc]]
    generalize 2 ^ t * B = S at *
    omega
  · rw [show t * 1024 + k + 1 = t * 1024 + (k + 1) by omega, val_put t (k + 1) (by omega) (by omega), Nat.mul_assoc (k + 1), Nat.succ_mul k (2 ^ t * B)]
    generalize 2 ^ t * B = S at *
    generalize k * S = Q at *
    omega
/-- .. nor the one below. -/
theorem near_down (X B t k : Nat) (hB : 0 < B) (hk : k ≤ 2048) (hk2 : t ≠ 0 → 1024 ≤ k) (h : NearBy X B t k) (h0 : t * 1024 + k ≠ 0) :
    ((X : Int) - (valN (t * 1024 + k) * B : Nat)).natAbs ≤ ((X : Int) - (valN (t * 1024 + k - 1) * B : Nat)).natAbs ∧ (((X : Int) - (valN (t * 1024 + k) * B : Nat)).natAbs = ((X : Int) - (valN (t * 1024 + k - 1) * B : Nat)).natAbs → k % 2 = 0) := by
  obtain ⟨h1, h2, h3, h4, h5⟩ := h
  have hS : 0 < 2 ^ t * B := Nat.mul_pos (Nat.two_pow_pos _) hB
  rw [val_put t k hk hk2, Nat.mul_assoc]
  by_cases hk3 : t ≠ 0 ∧ k = 1024
  · obtain ⟨ht, rfl⟩ := hk3
    obtain ⟨u, rfl⟩ : ∃ u, t = u + 1 := ⟨t - 1, by omega⟩
    have h4' := h4 ht
    rw [show (u + 1) * 1024 + 1024 - 1 = u * 1024 + 2047 by omega, val_put u 2047 (by omega) (by omega), Nat.mul_assoc]
    have e : 2 ^ (u + 1) * B = 2 * (2 ^ u * B) := by rw [Nat.pow_succ, Nat.mul_right_comm, Nat.mul_comm]
    rw [e] at h1 h2 h4' h5 ⊢
    clear h3 h4 e hS
    generalize 2 ^ u * B = S at *
    omega
  · obtain ⟨j, rfl⟩ : ∃ j, k = j + 1 := ⟨k - 1, by
      by_cases ht : t = 0
      · subst ht; omega
      · have := hk2 ht; omega⟩
    rw [show t * 1024 + (j + 1) - 1 = t * 1024 + j by omega, val_put t j (by omega) (by omega), Nat.mul_assoc j, Nat.succ_mul j (2 ^ t * B)]
    rw [Nat.succ_mul j (2 ^ t * B)] at h1 h2 h3
    generalize 2 ^ t * B = S at *
    generalize j * S = Q at *
    omega
/-- Beyond the greatest one. -/
theorem near_top (X B t k : Nat) (hB : 0 < B) (hk : k ≤ 2048) (h : NearBy X B t k) (h0 : 31744 ≤ t * 1024 + k) : 1099243192320 * B ≤ X := by
  obtain ⟨h1, h2, h3, h4, h5⟩ := h
  by_cases ht : t = 29
  · subst ht
    obtain rfl : k = 2048 := by omega
    rw [show (2 : Nat) ^ 29 = 536870912 by decide] at h2
    omega
  · have h6 := h4 (by omega)
    have : 2 ^ 30 * B ≤ 2 ^ t * B := Nat.mul_le_mul_right _ (Nat.pow_le_pow_right (by omega) (by omega))
    rw [show (2 : Nat) ^ 30 = 1073741824 by decide] at this
    omega

end Go.Proofs.Yteniijmnpgdpcaa

namespace Go.Proofs.Yteniijmnpgdpcaa

theorem sq_le {a b : Nat} (h : a ≤ b) : a * a ≤ b * b := Nat.mul_le_mul h h
/-- The root of N lies within half a step of what is kept of its first bits. -/
theorem nsh_root (N s j : Nat) (hj : 1 ≤ j) (t1 : s * s ≤ N) (t2 : N < (s + 1) * (s + 1)) :
    4 * N ≤ ((2 * nsh s j (decide (s * s ≠ N)) + 1) * 2 ^ j) * ((2 * nsh s j (decide (s * s ≠ N)) + 1) * 2 ^ j) ∧ ∀ d, d + 1 = 2 * nsh s j (decide (s * s ≠ N)) → d * 2 ^ j * (d * 2 ^ j) ≤ 4 * N := by
  have hp := Nat.two_pow_pos j
  have hev : 2 ^ j % 2 = 0 := by
    obtain ⟨i, rfl⟩ : ∃ i, j = i + 1 := ⟨j - 1, by omega⟩
    rw [Nat.pow_succ]; omega
  have hdm := Nat.div_add_mod s (2 ^ j)
  have hr : s % 2 ^ j < 2 ^ j := Nat.mod_lt _ hp
  rw [Nat.mul_comm] at hdm
  unfold nsh
  generalize s / 2 ^ j = q at *
  generalize s % 2 ^ j = r at *
  generalize 2 ^ j = P at *
  have e4 : ∀ a : Nat, 4 * (a * a) = (2 * a) * (2 * a) := fun a => by rw [Nat.mul_mul_mul_comm]
  have up : ∀ k : Nat, 2 * (s + 1) ≤ (2 * k + 1) * P → 4 * N ≤ (2 * k + 1) * P * ((2 * k + 1) * P) := fun k h => by
    have := sq_le h
    rw [← e4] at this
    omega
  have ex : ∀ k : Nat, s * s = N → 2 * s ≤ (2 * k + 1) * P → 4 * N ≤ (2 * k + 1) * P * ((2 * k + 1) * P) := fun k h0 h => by
    have := sq_le h
    rw [← e4, h0] at this
    exact this
  have lo : ∀ d : Nat, d * P ≤ 2 * s → d * P * (d * P) ≤ 4 * N := fun d h => by
    have := sq_le h
    rw [← e4] at this
    omega
  split
  · rename_i hc
    have h2 : P ≤ 2 * r := by omega
    refine ⟨up (q + 1) ?_, fun d hd => lo d ?_⟩
    · rw [show 2 * (q + 1) + 1 = 2 * q + 3 by omega, Nat.add_mul, Nat.mul_assoc]; omega
    · obtain rfl : d = 2 * q + 1 := by omega
      rw [Nat.add_mul, Nat.mul_assoc]; omega
  · rename_i hc
    refine ⟨?_, fun d hd => lo d ?_⟩
    · by_cases h : 2 * r = P
      · have hm : s * s = N := by
          by_cases g : s * s = N
          · exact g
          · exact absurd (Or.inr ⟨h.symm, Or.inl (by simpa using g)⟩) hc
        refine ex q hm ?_
        rw [Nat.add_mul, Nat.mul_assoc]; omega
      · refine up q ?_
        have g1 : ¬ P < 2 * r := fun h => hc (Or.inl h)
        rw [Nat.add_mul, Nat.mul_assoc]; omega
    · have : d * P ≤ 2 * q * P := Nat.mul_le_mul_right _ (by omega)
      rw [Nat.mul_assoc] at this
      omega

theorem val_next (t k : Nat) (k1 : k ≤ 2048) (k2 : 1024 ≤ k) : ∃ g, valN (t * 1024 + k + 1) = k * 2 ^ t + 2 ^ t + g ∧ g ≤ 2 ^ t := by
  by_cases h : k = 2048
  · subst h
    refine ⟨2 ^ t, ?_, Nat.le_refl _⟩
    rw [show t * 1024 + 2048 + 1 = (t + 1) * 1024 + 1025 by omega, val_put (t + 1) 1025 (by omega) (by omega), Nat.pow_succ]
    omega
  · refine ⟨0, ?_, Nat.zero_le _⟩
    rw [show t * 1024 + k + 1 = t * 1024 + (k + 1) by omega, val_put t (k + 1) (by omega) (by omega), Nat.add_mul]
    omega

theorem root_math (n U s0 : Nat) (z : Int) (hn : n ≠ 0) (hb : n < 2048) (hz0 : -24 ≤ z) (hz1 : z ≤ 5) (hU : U + Lib.bitLen n = 60 ∨ U + Lib.bitLen n = 59) (hp : (z - U) % 2 = 0)
    (t1 : s0 * s0 ≤ n * 2 ^ U) (t2 : n * 2 ^ U < (s0 + 1) * (s0 + 1)) :
    ∃ T : Nat, toldOf 10 (-24) s0 ((z - U) / 2) (decide (s0 * s0 ≠ n * 2 ^ U)) = T ∧ 1 ≤ T ∧ T + 1 < 31744 ∧ 0 < valN T ∧ valN (T + 1) ≤ 8589934592 ∧ valN T ≤ 8589934592 ∧ valN (T - 1) ≤ 8589934592 ∧
      (valN T + valN (T - 1)) * (valN T + valN (T - 1)) ≤ n * 2 ^ (z + 24).toNat * 67108864 ∧ n * 2 ^ (z + 24).toNat * 67108864 ≤ (valN T + valN (T + 1)) * (valN T + valN (T + 1)) := by
  obtain ⟨l1, _, l3, l4⟩ := bl_is n (by omega) hn
  have hL : Lib.bitLen n ≤ 11 := bl_le n 11 (by omega) (by omega)
  have N1 : 2 ^ 58 ≤ n * 2 ^ U := by
    refine Nat.le_trans ?_ (Nat.mul_le_mul_right _ l3)
    rw [← Nat.pow_add]
    exact Nat.pow_le_pow_right (by omega) (by omega)
  have N2 : n * 2 ^ U < 2 ^ 60 := by
    have h := Nat.mul_lt_mul_of_pos_right l4 (Nat.two_pow_pos U)
    rw [← Nat.pow_add] at h
    exact Nat.lt_of_lt_of_le h (Nat.pow_le_pow_right (by omega) (by omega))
  obtain ⟨N, hN⟩ : ∃ N, n * 2 ^ U = N := ⟨_, rfl⟩
  rw [hN] at t1 t2 N1 N2 ⊢
  have p58 : (2 : Nat) ^ 58 = 288230376151711744 := by decide
  have p60 : (2 : Nat) ^ 60 = 1152921504606846976 := by decide
  rw [p58] at N1
  rw [p60] at N2
  have s1 : 536870912 ≤ s0 := root_up N s0 536870912 (by omega) t2
  have s2 : s0 < 1073741824 := root_down N s0 1073741824 (by omega) t1
  have hbl : Lib.bitLen s0 = 30 := bl_eq s0 30 (by omega) (by omega) (by rw [show (2 : Nat) ^ (30 - 1) = 536870912 by decide]; omega) (by rw [show (2 : Nat) ^ 30 = 1073741824 by decide]; omega)
  obtain ⟨e, he⟩ : ∃ e, (z - (U : Int)) / 2 = e := ⟨_, rfl⟩
  rw [he]
  have h2e : 2 * e = z - U := by omega
  obtain ⟨t, ht⟩ : ∃ t : Nat, e + 43 = t := ⟨(e + 43).toNat, by omega⟩
  have ht1 : 2 ≤ t ∧ t ≤ 21 := by omega
  have hlast : lastOf 10 (-24) s0 e = e + 19 := by unfold lastOf; rw [hbl]; omega
  have hkb := kept_bounds 10 (-24) s0 e (decide (s0 * s0 ≠ N)) (by omega) (by omega)
  rw [hlast] at hkb
  have hk : keptOf 10 (-24) s0 e (decide (s0 * s0 ≠ N)) = nsh s0 19 (decide (s0 * s0 ≠ N)) := by
    unfold keptOf
    rw [hlast, if_pos (by omega), show (e + 19 - e).toNat = 19 by omega]
  rw [hk] at hkb
  have hT : toldOf 10 (-24) s0 e (decide (s0 * s0 ≠ N)) = t * 1024 + nsh s0 19 (decide (s0 * s0 ≠ N)) := by
    unfold toldOf
    rw [if_neg (by omega), hlast, hk, show (e + 19 - -24).toNat = t by omega]
  obtain ⟨q1, q2⟩ := nsh_root N s0 19 (by omega) t1 t2
  have hsk : nsh s0 19 (decide (s0 * s0 ≠ N)) * 2 ^ 19 ≤ s0 + 2 ^ 19 ∧ 1024 * 2 ^ 19 ≤ s0 := by
    obtain ⟨q, r, P, hP, hsn, hr, _, _, hkk, _, _⟩ := nsh_parts s0 19 (decide (s0 * s0 ≠ N))
    rw [← hP]
    rw [show (2 : Nat) ^ 19 = 524288 by decide] at hP
    generalize nsh s0 19 (decide (s0 * s0 ≠ N)) = k at *
    rcases hkk with rfl | rfl
    · omega
    · rw [Nat.add_mul]; omega
  generalize nsh s0 19 (decide (s0 * s0 ≠ N)) = k at *
  rw [hT]
  have k1 : k ≤ 2048 := hkb.1
  have k2 : 1024 ≤ k := hkb.2 (by omega)
  clear hkb hk hT hlast hbl
  -- what is asked, against N
  obtain ⟨Z, hZ⟩ : ∃ Z, n * 2 ^ (z + 24).toNat * 67108864 = Z := ⟨_, rfl⟩
  have key : Z * (2 ^ 19 * 2 ^ 19) = 4 * N * (2 ^ t * 2 ^ t) := by
    rw [← hZ, ← hN, show (67108864 : Nat) = 2 ^ 26 by decide, show (4 : Nat) = 2 ^ 2 by decide]
    rw [Nat.mul_assoc n, ← Nat.pow_add, ← Nat.pow_add, Nat.mul_assoc n, ← Nat.pow_add, Nat.mul_left_comm (2 ^ 2) n, ← Nat.pow_add, ← Nat.pow_add, Nat.mul_assoc n, ← Nat.pow_add]
    congr 2
    omega
  have p19 : 0 < 2 ^ 19 * 2 ^ 19 := by decide
  have sw : ∀ a b : Nat, a * b * (a * b) = a * a * (b * b) := fun a b => Nat.mul_mul_mul_comm a b a b
  have upZ : Z ≤ ((2 * k + 1) * 2 ^ t) * ((2 * k + 1) * 2 ^ t) := by
    refine Nat.le_of_mul_le_mul_right (c := 2 ^ 19 * 2 ^ 19) ?_ p19
    rw [key, sw (2 * k + 1) (2 ^ t), Nat.mul_right_comm ((2 * k + 1) * (2 * k + 1)), ← sw (2 * k + 1) (2 ^ 19)]
    exact Nat.mul_le_mul_right _ q1
  have loZ : ∀ d, d + 1 = 2 * k → d * 2 ^ t * (d * 2 ^ t) ≤ Z := fun d hd => by
    refine Nat.le_of_mul_le_mul_right (c := 2 ^ 19 * 2 ^ 19) ?_ p19
    rw [key, sw d (2 ^ t), Nat.mul_right_comm (d * d), ← sw d (2 ^ 19)]
    exact Nat.mul_le_mul_right _ (q2 d hd)
  have loZ2 : 2048 * 2 ^ t * (2048 * 2 ^ t) ≤ Z := by
    refine Nat.le_of_mul_le_mul_right (c := 2 ^ 19 * 2 ^ 19) ?_ p19
    rw [key, sw 2048 (2 ^ t), Nat.mul_right_comm (2048 * 2048), ← sw 2048 (2 ^ 19)]
    refine Nat.mul_le_mul_right _ ?_
    have h := sq_le (show 2048 * 2 ^ 19 ≤ 2 * s0 by have := hsk.2; rw [show (2048 : Nat) * 2 ^ 19 = 2 * (1024 * 2 ^ 19) by decide]; omega)
    rw [show 2 * s0 * (2 * s0) = 4 * (s0 * s0) by rw [Nat.mul_mul_mul_comm]] at h
    omega
  have hpt := Nat.two_pow_pos t
  have hpt2 : 2 ^ t ≤ 2 ^ 21 := Nat.pow_le_pow_right (by omega) ht1.2
  rw [show (2 : Nat) ^ 21 = 2097152 by decide] at hpt2
  have hkt : k * 2 ^ t ≤ 2048 * 2097152 := Nat.mul_le_mul k1 hpt2
  have v0 : valN (t * 1024 + k) = k * 2 ^ t := val_put t k k1 (fun _ => k2)
  obtain ⟨g, v1, hg'⟩ := val_next t k k1 k2
  have hg : g ≤ 2097152 := Nat.le_trans hg' hpt2
  refine ⟨_, rfl, by omega, by omega, ?_, ?_, ?_, ?_, ?_, ?_⟩
  · rw [v0]; exact Nat.mul_pos (by omega) hpt
  · rw [v1]; omega
  · rw [v0]; omega
  · by_cases h : k = 1024
    · subst h
      obtain ⟨u, rfl⟩ : ∃ u, t = u + 1 := ⟨t - 1, by omega⟩
      rw [show (u + 1) * 1024 + 1024 - 1 = u * 1024 + 2047 by omega, val_put u 2047 (by omega) (by omega)]
      rw [Nat.pow_succ] at hpt2
      omega
    · rw [show t * 1024 + k - 1 = t * 1024 + (k - 1) by omega, val_put t (k - 1) (by omega) (by omega)]
      have : (k - 1) * 2 ^ t ≤ k * 2 ^ t := Nat.mul_le_mul_right _ (by omega)
      omega
  · rw [v0, hZ]
    by_cases h : k = 1024
    · subst h
      obtain ⟨u, rfl⟩ : ∃ u, t = u + 1 := ⟨t - 1, by omega⟩
      rw [show (u + 1) * 1024 + 1024 - 1 = u * 1024 + 2047 by omega, val_put u 2047 (by omega) (by omega)]
      refine Nat.le_trans (sq_le ?_) loZ2
      rw [Nat.pow_succ]
      omega
    · rw [show t * 1024 + k - 1 = t * 1024 + (k - 1) by omega, val_put t (k - 1) (by omega) (by omega)]
      refine Nat.le_trans (Nat.le_of_eq ?_) (loZ (2 * k - 1) (by omega))
      have : k * 2 ^ t + (k - 1) * 2 ^ t = (2 * k - 1) * 2 ^ t := by rw [← Nat.add_mul]; congr 1; omega
      rw [this]
  · rw [v0, v1, hZ]
    refine Nat.le_trans upZ (sq_le ?_)
    rw [Nat.add_mul, Nat.mul_assoc]
    omega

end Go.Proofs.Yteniijmnpgdpcaa
