/-
  A root that is told is nearest: plain facts.
-/
import Derived.Test.YteniijmnpgdpcaaFNear
import Derived.Test.YteniijmnpgdpcaaFSqM
namespace Go.Proofs.Yteniijmnpgdpcaa

theorem sq_le {a b : Nat} (h : a ≤ b) : a * a ≤ b * b := Nat.mul_le_mul h h
/-- The root of N lies within half a step of what is kept of its first bits. -/
theorem nsh_root (N s j : Nat) (hj : 1 ≤ j) (t1 : s * s ≤ N) (t2 : N < (s + 1) * (s + 1)) :
    4 * N ≤ ((2 * nsh s j (decide (s * s ≠ N)) + 1) * 2 ^ j) * ((2 * nsh s j (decide (s * s ≠ N)) + 1) * 2 ^ j) ∧ ∀ d, d + 1 = 2 * nsh s j (decide (s * s ≠ N)) → d * 2 ^ j * (d * 2 ^ j) ≤ 4 * N := by
  have hp := Nat.two_pow_pos j
  have hev : 2 ^ j % 2 = 0 := by
    obtain ⟨i, rfl⟩ : ∃ i, j = i + 1 := ⟨j - 1, by omega⟩
    rw [Nat.pow_succ]; omega
  have hdm := Nat.div_add_mod s (2 ^ j)
  have hr : s % 2 ^ j < 2 ^ j := Nat.mod_lt _ hp
  rw [Nat.mul_comm] at hdm
  unfold nsh
  generalize s / 2 ^ j = q at *
  generalize s % 2 ^ j = r at *
  generalize 2 ^ j = P at *
  have e4 : ∀ a : Nat, 4 * (a * a) = (2 * a) * (2 * a) := fun a => by rw [Nat.mul_mul_mul_comm]
  have up : ∀ k : Nat, 2 * (s + 1) ≤ (2 * k + 1) * P → 4 * N ≤ (2 * k + 1) * P * ((2 * k + 1) * P) := fun k h => by
    have := sq_le h
    rw [← e4] at this
    omega
  have ex : ∀ k : Nat, s * s = N → 2 * s ≤ (2 * k + 1) * P → 4 * N ≤ (2 * k + 1) * P * ((2 * k + 1) * P) := fun k h0 h => by
    have := sq_le h
    rw [← e4, h0] at this
    exact this
  have lo : ∀ d : Nat, d * P ≤ 2 * s → d * P * (d * P) ≤ 4 * N := fun d h => by
    have := sq_le h
    rw [← e4] at this
    omega
  split
  · rename_i hc
    have h2 : P ≤ 2 * r := by omega
    refine ⟨up (q + 1) ?_, fun d hd => lo d ?_⟩
    · rw [show 2 * (q + 1) + 1 = 2 * q + 3 by omega, Nat.add_mul, Nat.mul_assoc]; omega
    · obtain rfl : d = 2 * q + 1 := by omega
      rw [Nat.add_mul, Nat.mul_assoc]; omega
  · rename_i hc
    refine ⟨?_, fun d hd => lo d ?_⟩
    · by_cases h : 2 * r = P
      · have hm : s * s = N := by
          by_cases g : s * s = N
          · exact g
          · exact absurd (Or.inr ⟨h.symm, Or.inl (by simpa using g)⟩) hc
        refine ex q hm ?_
        rw [Nat.add_mul, Nat.mul_assoc]; omega
      · refine up q ?_
        have g1 : ¬ P < 2 * r := fun h => hc (Or.inl h)
        rw [Nat.add_mul, Nat.mul_assoc]; omega
    · have : d * P ≤ 2 * q * P := Nat.mul_le_mul_right _ (by omega)
      rw [Nat.mul_assoc] at this
      omega

theorem val_next (t k : Nat) (k1 : k ≤ 2048) (k2 : 1024 ≤ k) : ∃ g, valN (t * 1024 + k + 1) = k * 2 ^ t + 2 ^ t + g ∧ g ≤ 2 ^ t := by
  by_cases h : k = 2048
  · subst h
    refine ⟨2 ^ t, ?_, Nat.le_refl _⟩
    rw [show t * 1024 + 2048 + 1 = (t + 1) * 1024 + 1025 by omega, val_put (t + 1) 1025 (by omega) (by omega), Nat.pow_succ]
    omega
  · refine ⟨0, ?_, Nat.zero_le _⟩
    rw [show t * 1024 + k + 1 = t * 1024 + (k + 1) by omega, val_put t (k + 1) (by omega) (by omega), Nat.add_mul]
    omega

theorem root_math (n U s0 : Nat) (z : Int) (hn : n ≠ 0) (hb : n < 2048) (hz0 : -24 ≤ z) (hz1 : z ≤ 5) (hU : U + Lib.bitLen n = 60 ∨ U + Lib.bitLen n = 59) (hp : (z - U) % 2 = 0)
    (t1 : s0 * s0 ≤ n * 2 ^ U) (t2 : n * 2 ^ U < (s0 + 1) * (s0 + 1)) :
    ∃ T : Nat, toldOf 10 (-24) s0 ((z - U) / 2) (decide (s0 * s0 ≠ n * 2 ^ U)) = T ∧ 1 ≤ T ∧ T + 1 < 31744 ∧ 0 < valN T ∧ valN (T + 1) ≤ 8589934592 ∧ valN T ≤ 8589934592 ∧ valN (T - 1) ≤ 8589934592 ∧
      (valN T + valN (T - 1)) * (valN T + valN (T - 1)) ≤ n * 2 ^ (z + 24).toNat * 67108864 ∧ n * 2 ^ (z + 24).toNat * 67108864 ≤ (valN T + valN (T + 1)) * (valN T + valN (T + 1)) := by
  obtain ⟨l1, _, l3, l4⟩ := bl_is n (by omega) hn
  have hL : Lib.bitLen n ≤ 11 := bl_le n 11 (by omega) (by omega)
  have N1 : 2 ^ 58 ≤ n * 2 ^ U := by
    refine Nat.le_trans ?_ (Nat.mul_le_mul_right _ l3)
    rw [← Nat.pow_add]
    exact Nat.pow_le_pow_right (by omega) (by omega)
  have N2 : n * 2 ^ U < 2 ^ 60 := by
    have h := Nat.mul_lt_mul_of_pos_right l4 (Nat.two_pow_pos U)
    rw [← Nat.pow_add] at h
    exact Nat.lt_of_lt_of_le h (Nat.pow_le_pow_right (by omega) (by omega))
  obtain ⟨N, hN⟩ : ∃ N, n * 2 ^ U = N := ⟨_, rfl⟩
  rw [hN] at t1 t2 N1 N2 ⊢
  have p58 : (2 : Nat) ^ 58 = 288230376151711744 := by decide
  have p60 : (2 : Nat) ^ 60 = 1152921504606846976 := by decide
  rw [p58] at N1
  rw [p60] at N2
  have s1 : 536870912 ≤ s0 := root_up N s0 536870912 (by omega) t2
  have s2 : s0 < 1073741824 := root_down N s0 1073741824 (by omega) t1
  have hbl : Lib.bitLen s0 = 30 := bl_eq s0 30 (by omega) (by omega) (by rw [show (2 : Nat) ^ (30 - 1) = 536870912 by decide]; omega) (by rw [show (2 : Nat) ^ 30 = 1073741824 by decide]; omega)
  obtain ⟨e, he⟩ : ∃ e, (z - (U : Int)) / 2 = e := ⟨_, rfl⟩
  rw [he]
  have h2e : 2 * e = z - U := by omega
  obtain ⟨t, ht⟩ : ∃ t : Nat, e + 43 = t := ⟨(e + 43).toNat, by omega⟩
  have ht1 : 2 ≤ t ∧ t ≤ 21 := by omega
  have hlast : lastOf 10 (-24) s0 e = e + 19 := by unfold lastOf; rw [hbl]; omega
  have hkb := kept_bounds 10 (-24) s0 e (decide (s0 * s0 ≠ N)) (by omega) (by omega)
  rw [hlast] at hkb
  have hk : keptOf 10 (-24) s0 e (decide (s0 * s0 ≠ N)) = nsh s0 19 (decide (s0 * s0 ≠ N)) := by
    unfold keptOf
    rw [hlast, if_pos (by omega), show (e + 19 - e).toNat = 19 by omega]
  rw [hk] at hkb
  have hT : toldOf 10 (-24) s0 e (decide (s0 * s0 ≠ N)) = t * 1024 + nsh s0 19 (decide (s0 * s0 ≠ N)) := by
    unfold toldOf
    rw [if_neg (by omega), hlast, hk, show (e + 19 - -24).toNat = t by omega]
  obtain ⟨q1, q2⟩ := nsh_root N s0 19 (by omega) t1 t2
  have hsk : nsh s0 19 (decide (s0 * s0 ≠ N)) * 2 ^ 19 ≤ s0 + 2 ^ 19 ∧ 1024 * 2 ^ 19 ≤ s0 := by
    obtain ⟨q, r, P, hP, hsn, hr, _, _, hkk, _, _⟩ := nsh_parts s0 19 (decide (s0 * s0 ≠ N))
    rw [← hP]
    rw [show (2 : Nat) ^ 19 = 524288 by decide] at hP
    generalize nsh s0 19 (decide (s0 * s0 ≠ N)) = k at *
    rcases hkk with rfl | rfl
    · omega
    · rw [Nat.add_mul]; omega
  generalize nsh s0 19 (decide (s0 * s0 ≠ N)) = k at *
  rw [hT]
  have k1 : k ≤ 2048 := hkb.1
  have k2 : 1024 ≤ k := hkb.2 (by omega)
  clear hkb hk hT hlast hbl
  -- what is asked, against N
  obtain ⟨Z, hZ⟩ : ∃ Z, n * 2 ^ (z + 24).toNat * 67108864 = Z := ⟨_, rfl⟩
  have key : Z * (2 ^ 19 * 2 ^ 19) = 4 * N * (2 ^ t * 2 ^ t) := by
    rw [← hZ, ← hN, show (67108864 : Nat) = 2 ^ 26 by decide, show (4 : Nat) = 2 ^ 2 by decide]
    rw [Nat.mul_assoc n, ← Nat.pow_add, ← Nat.pow_add, Nat.mul_assoc n, ← Nat.pow_add, Nat.mul_left_comm (2 ^ 2) n, ← Nat.pow_add, ← Nat.pow_add, Nat.mul_assoc n, ← Nat.pow_add]
    congr 2
    omega
  have p19 : 0 < 2 ^ 19 * 2 ^ 19 := by decide
  have sw : ∀ a b : Nat, a * b * (a * b) = a * a * (b * b) := fun a b => Nat.mul_mul_mul_comm a b a b
  have upZ : Z ≤ ((2 * k + 1) * 2 ^ t) * ((2 * k + 1) * 2 ^ t) := by
    refine Nat.le_of_mul_le_mul_right (c := 2 ^ 19 * 2 ^ 19) ?_ p19
    rw [key, sw (2 * k + 1) (2 ^ t), Nat.mul_right_comm ((2 * k + 1) * (2 * k + 1)), ← sw (2 * k + 1) (2 ^ 19)]
    exact Nat.mul_le_mul_right _ q1
  have loZ : ∀ d, d + 1 = 2 * k → d * 2 ^ t * (d * 2 ^ t) ≤ Z := fun d hd => by
    refine Nat.le_of_mul_le_mul_right (c := 2 ^ 19 * 2 ^ 19) ?_ p19
    rw [key, sw d (2 ^ t), Nat.mul_right_comm (d * d), ← sw d (2 ^ 19)]
    exact Nat.mul_le_mul_right _ (q2 d hd)
  have loZ2 : 2048 * 2 ^ t * (2048 * 2 ^ t) ≤ Z := by
    refine Nat.le_of_mul_le_mul_right (c := 2 ^ 19 * 2 ^ 19) ?_ p19
    rw [key, sw 2048 (2 ^ t), Nat.mul_right_comm (2048 * 2048), ← sw 2048 (2 ^ 19)]
    refine Nat.mul_le_mul_right _ ?_
    have h := sq_le (show 2048 * 2 ^ 19 ≤ 2 * s0 by have := hsk.2; rw [show (2048 : Nat) * 2 ^ 19 = 2 * (1024 * 2 ^ 19) by decide]; omega)
    rw [show 2 * s0 * (2 * s0) = 4 * (s0 * s0) by rw [Nat.mul_mul_mul_comm]] at h
    omega
  have hpt := Nat.two_pow_pos t
  have hpt2 : 2 ^ t ≤ 2 ^ 21 := Nat.pow_le_pow_right (by omega) ht1.2
  rw [show (2 : Nat) ^ 21 = 2097152 by decide] at hpt2
  have hkt : k * 2 ^ t ≤ 2048 * 2097152 := Nat.mul_le_mul k1 hpt2
  have v0 : valN (t * 1024 + k) = k * 2 ^ t := val_put t k k1 (fun _ => k2)
  obtain ⟨g, v1, hg'⟩ := val_next t k k1 k2
  have hg : g ≤ 2097152 := Nat.le_trans hg' hpt2
  refine ⟨_, rfl, by omega, by omega, ?_, ?_, ?_, ?_, ?_, ?_⟩
  · rw [v0]; exact Nat.mul_pos (by omega) hpt
  · rw [v1]; omega
  · rw [v0]; omega
  · by_cases h : k = 1024
    · subst h
      obtain ⟨u, rfl⟩ : ∃ u, t = u + 1 := ⟨t - 1, by omega⟩
      rw [show (u + 1) * 1024 + 1024 - 1 = u * 1024 + 2047 by omega, val_put u 2047 (by omega) (by omega)]
      rw [Nat.pow_succ] at hpt2
      omega
    · rw [show t * 1024 + k - 1 = t * 1024 + (k - 1) by omega, val_put t (k - 1) (by omega) (by omega)]
      have : (k - 1) * 2 ^ t ≤ k * 2 ^ t := Nat.mul_le_mul_right _ (by omega)
      omega
  · rw [v0, hZ]
    by_cases h : k = 1024
    · subst h
      obtain ⟨u, rfl⟩ : ∃ u, t = u + 1 := ⟨t - 1, by omega⟩
      rw [show (u + 1) * 1024 + 1024 - 1 = u * 1024 + 2047 by omega, val_put u 2047 (by omega) (by omega)]
      refine Nat.le_trans (sq_le ?_) loZ2
      rw [Nat.pow_succ]
      omega
    · rw [show t * 1024 + k - 1 = t * 1024 + (k - 1) by omega, val_put t (k - 1) (by omega) (by omega)]
      refine Nat.le_trans (Nat.le_of_eq ?_) (loZ (2 * k - 1) (by omega))
      have : k * 2 ^ t + (k - 1) * 2 ^ t = (2 * k - 1) * 2 ^ t := by rw [← Nat.add_mul]; congr 1; omega
      rw [this]
  · rw [v0, v1, hZ]
    refine Nat.le_trans upZ (sq_le ?_)
    rw [Nat.add_mul, Nat.mul_assoc]
    omega

end Go.Proofs.Yteniijmnpgdpcaa
