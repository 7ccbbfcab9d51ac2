/-
  What is told is nearest: plain facts on rounding, for any number that is told by its first bits and whether more follows.
-/
import Derived.Test.YteniijmnpgdpcaaFHalf
import Derived.Test.YteniijmnpgdpcaaRC1
import Derived.Test.YteniijmnpgdpcaaFMulL
import Derived.Test.YteniijmnpgdpcaaFDivL
namespace Go.Proofs.Yteniijmnpgdpcaa

/-- k 2^t is nearest to X / B, the even one of two; X / B is where such numbers are. -/
def NearBy (X B t k : Nat) : Prop := 2 * X ≤ 2 * (k * (2 ^ t * B)) + 2 ^ t * B ∧ 2 * (k * (2 ^ t * B)) ≤ 2 * X + 2 ^ t * B ∧ ((2 * X = 2 * (k * (2 ^ t * B)) + 2 ^ t * B ∨ 2 * (k * (2 ^ t * B)) = 2 * X + 2 ^ t * B) → k % 2 = 0) ∧ (t ≠ 0 → 1024 * (2 ^ t * B) ≤ X) ∧ X ≤ 2048 * (2 ^ t * B)

theorem nsh_scale (M j D Y : Nat) (more : Bool) (_hD : 0 < D) (_hL : M * D ≤ Y) (hH : Y < (M + 1) * D) (hE : more = false → Y = M * D) (hS : more = true → 1 ≤ j ∧ M * D < Y) :
    2 * Y ≤ 2 * (nsh M j more * (2 ^ j * D)) + 2 ^ j * D ∧ 2 * (nsh M j more * (2 ^ j * D)) ≤ 2 * Y + 2 ^ j * D ∧ ((2 * Y = 2 * (nsh M j more * (2 ^ j * D)) + 2 ^ j * D ∨ 2 * (nsh M j more * (2 ^ j * D)) = 2 * Y + 2 ^ j * D) → nsh M j more % 2 = 0) := by
  have hp := Nat.two_pow_pos j
  have hev : more = true → 2 ^ j % 2 = 0 := fun h => by
    obtain ⟨i, hi⟩ : ∃ i, j = i + 1 := ⟨j - 1, by have := (hS h).1; omega⟩
    rw [hi, Nat.pow_succ]; omega
  unfold nsh
  have hdm := Nat.div_add_mod M (2 ^ j)
  have hr : M % 2 ^ j < 2 ^ j := Nat.mod_lt _ hp
  rw [Nat.mul_comm] at hdm
  generalize M / 2 ^ j = q at *
  generalize M % 2 ^ j = r at *
  generalize 2 ^ j = P at *
  have e1 : M * D = q * (P * D) + r * D := by rw [← hdm, Nat.add_mul, Nat.mul_assoc]
  have e2 : (M + 1) * D = q * (P * D) + r * D + D := by rw [Nat.add_mul, e1]; omega
  rw [e2] at hH
  rw [e1] at hE hS
  have a1 : r * D + D ≤ P * D := by have := Nat.mul_le_mul_right D hr; rw [Nat.succ_mul] at this; exact this
  have a2 : 2 * r + 2 ≤ P → 2 * (r * D) + 2 * D ≤ P * D := fun h => by
    have := Nat.mul_le_mul_right D h; rw [Nat.add_mul, Nat.mul_assoc] at this; exact this
  have a3 : 2 * r ≤ P → 2 * (r * D) ≤ P * D := fun h => by
    have := Nat.mul_le_mul_right D h; rw [Nat.mul_assoc] at this; exact this
  have a4 : P ≤ 2 * r → P * D ≤ 2 * (r * D) := fun h => by
    have := Nat.mul_le_mul_right D h; rw [Nat.mul_assoc] at this; exact this
  have a5 : P + 1 ≤ 2 * r → P * D + D ≤ 2 * (r * D) := fun h => by
    have := Nat.mul_le_mul_right D h; rw [Nat.add_mul, Nat.mul_assoc, Nat.one_mul] at this; exact this
  have a6 : 2 * r + 1 ≤ P → 2 * (r * D) + D ≤ P * D := fun h => by
    have := Nat.mul_le_mul_right D h; rw [Nat.add_mul, Nat.mul_assoc, Nat.one_mul] at this; exact this
  have e3 : (q + 1) * (P * D) = q * (P * D) + P * D := Nat.succ_mul _ _
  split
  · rename_i hc
    rw [e3]
    generalize q * (P * D) = Q at *
    generalize P * D = Z at *
    generalize r * D = rD at *
    cases more
    · have hY := hE rfl
      rcases hc with h | ⟨h, h2⟩
      · have := a5 h; omega
      · have := a4 (by omega); have := a3 (by omega)
        have h3 : q % 2 = 1 := by rcases h2 with h2 | h2; exact absurd h2 (by decide); exact h2
        omega
    · have hY := (hS rfl).2
      have := a4 (by omega)
      omega
  · rename_i hc
    generalize q * (P * D) = Q at *
    generalize P * D = Z at *
    generalize r * D = rD at *
    cases more
    · have hY := hE rfl
      by_cases h : 2 * r = P
      · have := a3 (by omega); have := a4 (by omega)
        have h3 : q % 2 = 0 := by
          by_cases g : q % 2 = 1
          · exact absurd (Or.inr ⟨h.symm, Or.inr g⟩) hc
          · omega
        omega
      · have := a6 (by omega); omega
    · have hY := (hS rfl).2
      have hv := hev rfl
      have : 2 * r + 2 ≤ P := by
        have g1 : ¬ P < 2 * r := fun h => hc (Or.inl h)
        have g2 : ¬ P = 2 * r := fun h => hc (Or.inr ⟨h, Or.inl rfl⟩)
        omega
      have := a2 this
      omega

theorem told_near (M : Nat) (e : Int) (more : Bool) (X B c : Nat) (hM : M ≠ 0) (hMb : big M) (hc : 24 ≤ c) (hec : 0 ≤ e + c) (hB : 0 < B)
    (hL : M * (2 ^ (e + c).toNat * B) ≤ X * 2 ^ (c - 24)) (hH : X * 2 ^ (c - 24) < (M + 1) * (2 ^ (e + c).toNat * B))
    (hE : more = false → X * 2 ^ (c - 24) = M * (2 ^ (e + c).toNat * B)) (hS : more = true → 2 ^ 12 ≤ M ∧ M * (2 ^ (e + c).toNat * B) < X * 2 ^ (c - 24)) :
    ∃ t k, toldOf 10 (-24) M e more = t * 1024 + k ∧ k ≤ 2048 ∧ (t ≠ 0 → 1024 ≤ k) ∧ NearBy X B t k := by
  obtain ⟨b1, b2, b3, b4⟩ := bl_is M hMb hM
  obtain ⟨k1, k2⟩ := kept_bounds 10 (-24) M e more hM hMb
  have hl : lastOf 10 (-24) M e = max (e + Lib.bitLen M - 10 - 1) (-24) := by unfold lastOf; rfl
  have hld : toldOf 10 (-24) M e more = (lastOf 10 (-24) M e - -24).toNat * 1024 + keptOf 10 (-24) M e more := by
    unfold toldOf; rw [if_neg hM]
  rw [hld]
  refine ⟨(lastOf 10 (-24) M e - -24).toNat, keptOf 10 (-24) M e more, rfl, k1, fun h => k2 (by omega), ?_⟩
  unfold keptOf
  generalize lastOf 10 (-24) M e = l at *
  obtain ⟨t, ht⟩ : ∃ t, (l - -24).toNat = t := ⟨_, rfl⟩
  rw [ht]
  have hU : 0 < 2 ^ (c - 24) := Nat.two_pow_pos _
  have hD : 0 < 2 ^ (e + c).toNat * B := Nat.mul_pos (Nat.two_pow_pos _) hB
  have eS : 2 ^ t * B * 2 ^ (c - 24) = 2 ^ (t + (c - 24)) * B := by rw [Nat.mul_right_comm, ← Nat.pow_add]
  -- where it is
  have lo : t ≠ 0 → 1024 * (2 ^ t * B) ≤ X := fun h => by
    refine Nat.le_of_mul_le_mul_right (c := 2 ^ (c - 24)) ?_ hU
    refine Nat.le_trans ?_ hL
    rw [Nat.mul_assoc, eS, show (1024 : Nat) = 2 ^ 10 by decide, ← Nat.mul_assoc, ← Nat.pow_add]
    have g : 2 ^ (Lib.bitLen M - 1) * (2 ^ (e + c).toNat * B) ≤ M * (2 ^ (e + c).toNat * B) := Nat.mul_le_mul_right _ b3
    refine Nat.le_trans (Nat.le_of_eq ?_) g
    rw [← Nat.mul_assoc, ← Nat.pow_add]
    congr 2
    omega
  have hi : X ≤ 2048 * (2 ^ t * B) := by
    refine Nat.le_of_mul_le_mul_right (c := 2 ^ (c - 24)) ?_ hU
    refine Nat.le_trans (Nat.le_of_lt hH) ?_
    have e0 : 2048 * (2 ^ t * B) * 2 ^ (c - 24) = 2 ^ (11 + (t + (c - 24))) * B := by
      rw [Nat.mul_assoc, eS, show (2048 : Nat) = 2 ^ 11 by decide, ← Nat.mul_assoc, ← Nat.pow_add]
    rw [e0]
    have g : (M + 1) * (2 ^ (e + c).toNat * B) ≤ 2 ^ Lib.bitLen M * (2 ^ (e + c).toNat * B) := Nat.mul_le_mul_right _ b4
    refine Nat.le_trans g ?_
    rw [← Nat.mul_assoc, ← Nat.pow_add]
    exact Nat.mul_le_mul_right _ (Nat.pow_le_pow_right (by omega) (by omega))
  unfold NearBy
  by_cases hlt : e < l
  · rw [if_pos hlt]
    have key := nsh_scale M (l - e).toNat (2 ^ (e + c).toNat * B) (X * 2 ^ (c - 24)) more hD hL hH hE (fun h => ⟨by omega, (hS h).2⟩)
    have eZ : 2 ^ (l - e).toNat * (2 ^ (e + c).toNat * B) = 2 ^ t * B * 2 ^ (c - 24) := by
      rw [eS, ← Nat.mul_assoc, ← Nat.pow_add]
      congr 2
      omega
    rw [eZ] at key
    generalize nsh M (l - e).toNat more = k at *
    generalize 2 ^ t * B = S at *
    generalize 2 ^ (c - 24) = U at *
    obtain ⟨x1, x2, x3⟩ := key
    have c1 : 2 * (X * U) = (2 * X) * U := by rw [Nat.mul_assoc]
    have c2 : 2 * (k * (S * U)) + S * U = (2 * (k * S) + S) * U := by rw [Nat.add_mul, Nat.mul_assoc, Nat.mul_assoc]
    have c3 : 2 * (k * (S * U)) = (2 * (k * S)) * U := by rw [Nat.mul_assoc, Nat.mul_assoc]
    have c4 : 2 * (X * U) + S * U = (2 * X + S) * U := by rw [Nat.add_mul, Nat.mul_assoc]
    refine ⟨?_, ?_, ?_, lo, hi⟩
    · rw [c1, c2] at x1; exact Nat.le_of_mul_le_mul_right x1 hU
    · rw [c3, c4] at x2; exact Nat.le_of_mul_le_mul_right x2 hU
    · rintro (h | h)
      · exact x3 (Or.inl (by rw [c1, c2, h]))
      · exact x3 (Or.inr (by rw [c3, c4, h]))
  · rw [if_neg hlt]
    have hm : more = false := by
      cases more
      · rfl
      · exfalso
        have := bl_ge M 12 hMb (hS rfl).1
        omega
    have hY := hE hm
    have hX : X = M * 2 ^ (e - l).toNat * (2 ^ t * B) := by
      refine Nat.eq_of_mul_eq_mul_right hU ?_
      rw [hY, Nat.mul_assoc (M * 2 ^ (e - l).toNat), eS, Nat.mul_assoc M, ← Nat.mul_assoc (2 ^ (e - l).toNat), ← Nat.pow_add]
      congr 3
      omega
    have hS0 : 0 < 2 ^ t * B := Nat.mul_pos (Nat.two_pow_pos _) hB
    rw [← hX]
    generalize 2 ^ t * B = S at *
    exact ⟨by omega, by omega, fun h => by omega, lo, hi⟩

/-- The next one is no nearer. -/
theorem near_up (X B t k : Nat) (hB : 0 < B) (hk : k ≤ 2048) (hk2 : t ≠ 0 → 1024 ≤ k) (h : NearBy X B t k) :
    ((X : Int) - (valN (t * 1024 + k) * B : Nat)).natAbs ≤ ((X : Int) - (valN (t * 1024 + k + 1) * B : Nat)).natAbs ∧ (((X : Int) - (valN (t * 1024 + k) * B : Nat)).natAbs = ((X : Int) - (valN (t * 1024 + k + 1) * B : Nat)).natAbs → k % 2 = 0) := by
  obtain ⟨h1, h2, h3, h4, h5⟩ := h
  have hS : 0 < 2 ^ t * B := Nat.mul_pos (Nat.two_pow_pos _) hB
  rw [val_put t k hk hk2, Nat.mul_assoc]
  by_cases hk3 : k = 2048
  · subst hk3
    rw [show t * 1024 + 2048 + 1 = (t + 1) * 1024 + 1025 by omega, val_put (t + 1) 1025 (by omega) (by omega), Nat.pow_succ, Nat.mul_assoc, Nat.mul_assoc]
    rw [show 1025 * (2 ^ t * (2 * B)) = 2050 * (2 ^ t * B) by rw [Nat.mul_left_comm (2 ^ t), ← Nat.mul_assoc]]
    generalize 2 ^ t * B = S at *
    omega
  · rw [show t * 1024 + k + 1 = t * 1024 + (k + 1) by omega, val_put t (k + 1) (by omega) (by omega), Nat.mul_assoc (k + 1), Nat.succ_mul k (2 ^ t * B)]
    generalize 2 ^ t * B = S at *
    generalize k * S = Q at *
    omega
/-- .. nor the one below. -/
theorem near_down (X B t k : Nat) (hB : 0 < B) (hk : k ≤ 2048) (hk2 : t ≠ 0 → 1024 ≤ k) (h : NearBy X B t k) (h0 : t * 1024 + k ≠ 0) :
    ((X : Int) - (valN (t * 1024 + k) * B : Nat)).natAbs ≤ ((X : Int) - (valN (t * 1024 + k - 1) * B : Nat)).natAbs ∧ (((X : Int) - (valN (t * 1024 + k) * B : Nat)).natAbs = ((X : Int) - (valN (t * 1024 + k - 1) * B : Nat)).natAbs → k % 2 = 0) := by
  obtain ⟨h1, h2, h3, h4, h5⟩ := h
  have hS : 0 < 2 ^ t * B := Nat.mul_pos (Nat.two_pow_pos _) hB
  rw [val_put t k hk hk2, Nat.mul_assoc]
  by_cases hk3 : t ≠ 0 ∧ k = 1024
  · obtain ⟨ht, rfl⟩ := hk3
    obtain ⟨u, rfl⟩ : ∃ u, t = u + 1 := ⟨t - 1, by omega⟩
    have h4' := h4 ht
    rw [show (u + 1) * 1024 + 1024 - 1 = u * 1024 + 2047 by omega, val_put u 2047 (by omega) (by omega), Nat.mul_assoc]
    have e : 2 ^ (u + 1) * B = 2 * (2 ^ u * B) := by rw [Nat.pow_succ, Nat.mul_right_comm, Nat.mul_comm]
    rw [e] at h1 h2 h4' h5 ⊢
    clear h3 h4 e hS
    generalize 2 ^ u * B = S at *
    omega
  · obtain ⟨j, rfl⟩ : ∃ j, k = j + 1 := ⟨k - 1, by
      by_cases ht : t = 0
      · subst ht; omega
      · have := hk2 ht; omega⟩
    rw [show t * 1024 + (j + 1) - 1 = t * 1024 + j by omega, val_put t j (by omega) (by omega), Nat.mul_assoc j, Nat.succ_mul j (2 ^ t * B)]
    rw [Nat.succ_mul j (2 ^ t * B)] at h1 h2 h3
    generalize 2 ^ t * B = S at *
    generalize j * S = Q at *
    omega
/-- Beyond the greatest one. -/
theorem near_top (X B t k : Nat) (hB : 0 < B) (hk : k ≤ 2048) (h : NearBy X B t k) (h0 : 31744 ≤ t * 1024 + k) : 1099243192320 * B ≤ X := by
  obtain ⟨h1, h2, h3, h4, h5⟩ := h
  by_cases ht : t = 29
  · subst ht
    obtain rfl : k = 2048 := by omega
    rw [show (2 : Nat) ^ 29 = 536870912 by decide] at h2
    omega
  · have h6 := h4 (by omega)
    have : 2 ^ 30 * B ≤ 2 ^ t * B := Nat.mul_le_mul_right _ (Nat.pow_le_pow_right (by omega) (by omega))
    rw [show (2 : Nat) ^ 30 = 1073741824 by decide] at this
    omega

end Go.Proofs.Yteniijmnpgdpcaa

namespace Go.Proofs.Yteniijmnpgdpcaa
open Go.RowKit


theorem addBothC16 (s1 s2 : Bool) (c1 c2 m1 m2 e1 e2 : Int) (f1 : Fv16 c1 m1 e1) (f2 : Fv16 c2 m2 e2) : ∃ r : Int,
    (∀ w, Calls Try.prog 37 #[(.agg #[.int .u64 5, .int .u64 10]), (.agg #[.bool s1, .bool (c1 == 1), .bool (c1 == 2), .int .u64 m1, .int .i64 e1]), (.agg #[.bool s2, .bool (c2 == 1), .bool (c2 == 2), .int .u64 m2, .int .i64 e2])] w fun e w' => e = .returned (.int .u32 r) ∧ Below w.heap.size w w') ∧
    (∀ w, Calls Try.prog 28 #[(.agg #[.int .i64 10, .int .i64 15, .int .u32 31]), (.agg #[.int .i64 c1, .bool s1, .int .u64 m1, .int .i64 e1]), (.agg #[.int .i64 c2, .bool s2, .int .u64 m2, .int .i64 e2])] w fun e w' => e = .returned (.int .u32 r) ∧ Below w.heap.size w w') ∧
    (∀ w, Calls Try.prog 28 #[(.agg #[.int .i64 10, .int .i64 15, .int .u32 31]), (.agg #[.int .i64 c2, .bool s2, .int .u64 m2, .int .i64 e2]), (.agg #[.int .i64 c1, .bool s1, .int .u64 m1, .int .i64 e1])] w fun e w' => e = .returned (.int .u32 r) ∧ Below w.heap.size w w') := by
  obtain ⟨k1, a1, a2, a3, a4, a5, _⟩ := f1
  obtain ⟨k2, b1, b2, b3, b4, b5, _⟩ := f2
  have hs : s2 = s1 ∨ s2 = !s1 := by cases s1 <;> cases s2 <;> simp
  rcases k1 with rfl | rfl | rfl
  · rcases k2 with rfl | rfl | rfl
    · obtain ⟨n1, rfl⟩ := Int.eq_ofNat_of_zero_le a1
      obtain ⟨n2, rfl⟩ := Int.eq_ofNat_of_zero_le b1
      by_cases h : e2 ≤ e1
      · obtain ⟨r, S, I, J⟩ := finOrd16 s1 s2 n1 n2 e1 e2 (by omega) (by omega) h b3 (by omega) (fun h => by have := a5 rfl h; omega)
        exact ⟨r, S, cIF16 s1 s2 n1 n2 e1 e2 r I, cIF16 s2 s1 n2 n1 e2 e1 r J⟩
      · obtain ⟨r, S, J, I⟩ := finOrd16 s2 s1 n2 n1 e2 e1 (by omega) (by omega) (by omega) a3 (by omega) (fun h => by have := b5 rfl h; omega)
        exact ⟨r, cSR16 s1 s2 n1 n2 e1 e2 r (by omega) S, cIF16 s1 s2 n1 n2 e1 e2 r I, cIF16 s2 s1 n2 n1 e2 e1 r J⟩
    · exact ⟨_, cSE16 s1 s2 m1 m2 e1 e2, cIE16 s1 s2 m1 m2 e1 e2, cID16 s2 s1 m2 m1 e2 e1⟩
    · exact ⟨_, cSB016 s1 s2 m1 m2 e1 e2, cIB016 s1 s2 m1 m2 e1 e2, cIA16 s2 s1 0 m2 m1 e2 e1⟩
  · rcases k2 with rfl | rfl | rfl
    · exact ⟨_, cSD16 s1 s2 m1 m2 e1 e2, cID16 s1 s2 m1 m2 e1 e2, cIE16 s2 s1 m2 m1 e2 e1⟩
    · rcases hs with rfl | rfl
      · exact ⟨_, cSCs16 _ m1 m2 e1 e2, cICs16 _ m1 m2 e1 e2, cICs16 _ m2 m1 e2 e1⟩
      · have J := cICd16 (!s1) m2 m1 e2 e1
        rw [Bool.not_not] at J
        exact ⟨_, cSCd16 _ m1 m2 e1 e2, cICd16 _ m1 m2 e1 e2, J⟩
    · exact ⟨_, cSB116 s1 s2 m1 m2 e1 e2, cIB116 s1 s2 m1 m2 e1 e2, cIA16 s2 s1 1 m2 m1 e2 e1⟩
  · rcases k2 with rfl | rfl | rfl
    · exact ⟨_, cSA16 s1 s2 _ _ _ m1 m2 e1 e2, cIA16 s1 s2 0 m1 m2 e1 e2, cIB016 s2 s1 m2 m1 e2 e1⟩
    · exact ⟨_, cSA16 s1 s2 _ _ _ m1 m2 e1 e2, cIA16 s1 s2 1 m1 m2 e1 e2, cIB116 s2 s1 m2 m1 e2 e1⟩
    · exact ⟨_, cSA16 s1 s2 _ _ _ m1 m2 e1 e2, cIA16 s1 s2 2 m1 m2 e1 e2, cIA16 s2 s1 2 m2 m1 e2 e1⟩


theorem addBothC32 (s1 s2 : Bool) (c1 c2 m1 m2 e1 e2 : Int) (f1 : Fv32 c1 m1 e1) (f2 : Fv32 c2 m2 e2) : ∃ r : Int,
    (∀ w, Calls Try.prog 37 #[(.agg #[.int .u64 8, .int .u64 23]), (.agg #[.bool s1, .bool (c1 == 1), .bool (c1 == 2), .int .u64 m1, .int .i64 e1]), (.agg #[.bool s2, .bool (c2 == 1), .bool (c2 == 2), .int .u64 m2, .int .i64 e2])] w fun e w' => e = .returned (.int .u32 r) ∧ Below w.heap.size w w') ∧
    (∀ w, Calls Try.prog 28 #[(.agg #[.int .i64 23, .int .i64 127, .int .u32 255]), (.agg #[.int .i64 c1, .bool s1, .int .u64 m1, .int .i64 e1]), (.agg #[.int .i64 c2, .bool s2, .int .u64 m2, .int .i64 e2])] w fun e w' => e = .returned (.int .u32 r) ∧ Below w.heap.size w w') ∧
    (∀ w, Calls Try.prog 28 #[(.agg #[.int .i64 23, .int .i64 127, .int .u32 255]), (.agg #[.int .i64 c2, .bool s2, .int .u64 m2, .int .i64 e2]), (.agg #[.int .i64 c1, .bool s1, .int .u64 m1, .int .i64 e1])] w fun e w' => e = .returned (.int .u32 r) ∧ Below w.heap.size w w') := by
  obtain ⟨k1, a1, a2, a3, a4, a5, _⟩ := f1
  obtain ⟨k2, b1, b2, b3, b4, b5, _⟩ := f2
  have hs : s2 = s1 ∨ s2 = !s1 := by cases s1 <;> cases s2 <;> simp
  rcases k1 with rfl | rfl | rfl
  · rcases k2 with rfl | rfl | rfl
    · obtain ⟨n1, rfl⟩ := Int.eq_ofNat_of_zero_le a1
      obtain ⟨n2, rfl⟩ := Int.eq_ofNat_of_zero_le b1
      by_cases h : e2 ≤ e1
      · obtain ⟨r, S, I, J⟩ := finOrd32 s1 s2 n1 n2 e1 e2 (by omega) (by omega) h b3 (by omega) (fun h => by have := a5 rfl h; omega)
        exact ⟨r, S, cIF32 s1 s2 n1 n2 e1 e2 r I, cIF32 s2 s1 n2 n1 e2 e1 r J⟩
      · obtain ⟨r, S, J, I⟩ := finOrd32 s2 s1 n2 n1 e2 e1 (by omega) (by omega) (by omega) a3 (by omega) (fun h => by have := b5 rfl h; omega)
        exact ⟨r, cSR32 s1 s2 n1 n2 e1 e2 r (by omega) S, cIF32 s1 s2 n1 n2 e1 e2 r I, cIF32 s2 s1 n2 n1 e2 e1 r J⟩
    · exact ⟨_, cSE32 s1 s2 m1 m2 e1 e2, cIE32 s1 s2 m1 m2 e1 e2, cID32 s2 s1 m2 m1 e2 e1⟩
    · exact ⟨_, cSB032 s1 s2 m1 m2 e1 e2, cIB032 s1 s2 m1 m2 e1 e2, cIA32 s2 s1 0 m2 m1 e2 e1⟩
  · rcases k2 with rfl | rfl | rfl
    · exact ⟨_, cSD32 s1 s2 m1 m2 e1 e2, cID32 s1 s2 m1 m2 e1 e2, cIE32 s2 s1 m2 m1 e2 e1⟩
    · rcases hs with rfl | rfl
      · exact ⟨_, cSCs32 _ m1 m2 e1 e2, cICs32 _ m1 m2 e1 e2, cICs32 _ m2 m1 e2 e1⟩
      · have J := cICd32 (!s1) m2 m1 e2 e1
        rw [Bool.not_not] at J
        exact ⟨_, cSCd32 _ m1 m2 e1 e2, cICd32 _ m1 m2 e1 e2, J⟩
    · exact ⟨_, cSB132 s1 s2 m1 m2 e1 e2, cIB132 s1 s2 m1 m2 e1 e2, cIA32 s2 s1 1 m2 m1 e2 e1⟩
  · rcases k2 with rfl | rfl | rfl
    · exact ⟨_, cSA32 s1 s2 _ _ _ m1 m2 e1 e2, cIA32 s1 s2 0 m1 m2 e1 e2, cIB032 s2 s1 m2 m1 e2 e1⟩
    · exact ⟨_, cSA32 s1 s2 _ _ _ m1 m2 e1 e2, cIA32 s1 s2 1 m1 m2 e1 e2, cIB132 s2 s1 m2 m1 e2 e1⟩
    · exact ⟨_, cSA32 s1 s2 _ _ _ m1 m2 e1 e2, cIA32 s1 s2 2 m1 m2 e1 e2, cIA32 s2 s1 2 m2 m1 e2 e1⟩

theorem bothFAddC16 (a b : Int) (a0 : 0 ≤ a) (a1 : a ≤ 4294967295) (b0 : 0 ≤ b) (b1 : b ≤ 4294967295) : ∃ r : Int,
    (∀ w, Calls Try.prog 12 #[.int .i64 16, .int .u32 a, .int .u32 b] w fun x w' => x = .returned (.int .u32 r) ∧ Below w.heap.size w w') ∧
    (∀ w, Calls Try.prog 8 #[.int .i64 16, .int .u32 a, .int .u32 b] w fun x w' => x = .returned (.int .u32 r) ∧ Below w.heap.size w w') ∧
    (∀ w, Calls Try.prog 8 #[.int .i64 16, .int .u32 b, .int .u32 a] w fun x w' => x = .returned (.int .u32 r) ∧ Below w.heap.size w w') := by
  obtain ⟨r, S, I, J⟩ := addBothC16 (a / 32768 % 2 == 1) (b / 32768 % 2 == 1) _ _ _ _ _ _ (fv16 a) (fv16 b)
  exact ⟨r, wSFAdd16 a b r _ _ (open16 a a0 a1) (open16 b b0 b1) S, wIFAdd16 a b r _ _ (value16 a a0 a1) (value16 b b0 b1) I, wIFAdd16 b a r _ _ (value16 b b0 b1) (value16 a a0 a1) J⟩

theorem bothFAddC32 (a b : Int) (a0 : 0 ≤ a) (a1 : a ≤ 4294967295) (b0 : 0 ≤ b) (b1 : b ≤ 4294967295) : ∃ r : Int,
    (∀ w, Calls Try.prog 12 #[.int .i64 32, .int .u32 a, .int .u32 b] w fun x w' => x = .returned (.int .u32 r) ∧ Below w.heap.size w w') ∧
    (∀ w, Calls Try.prog 8 #[.int .i64 32, .int .u32 a, .int .u32 b] w fun x w' => x = .returned (.int .u32 r) ∧ Below w.heap.size w w') ∧
    (∀ w, Calls Try.prog 8 #[.int .i64 32, .int .u32 b, .int .u32 a] w fun x w' => x = .returned (.int .u32 r) ∧ Below w.heap.size w w') := by
  obtain ⟨r, S, I, J⟩ := addBothC32 (a / 2147483648 % 2 == 1) (b / 2147483648 % 2 == 1) _ _ _ _ _ _ (fv32 a) (fv32 b)
  exact ⟨r, wSFAdd32 a b r _ _ (open32 a a0 a1) (open32 b b0 b1) S, wIFAdd32 a b r _ _ (value32 a a0 a1) (value32 b b0 b1) I, wIFAdd32 b a r _ _ (value32 b b0 b1) (value32 a a0 a1) J⟩

theorem mulRev16 (a b : Int) (n1 : Nat) (z1 : Int) (n2 : Nat) (z2 : Int) (s1 s2 sg : Bool) (V1 : ∀ w, Calls Try.prog 29 #[(.agg #[.int .i64 10, .int .i64 15, .int .u32 31]), .int .u32 a] w fun x w' => x = .returned (.agg #[.int .i64 0, .bool s1, .int .u64 (n1 : Int), .int .i64 z1]) ∧ Below w.heap.size w w') (V2 : ∀ w, Calls Try.prog 29 #[(.agg #[.int .i64 10, .int .i64 15, .int .u32 31]), .int .u32 b] w fun x w' => x = .returned (.agg #[.int .i64 0, .bool s2, .int .u64 (n2 : Int), .int .i64 z2]) ∧ Below w.heap.size w w')
    (hsg' : (!(s2 == s1)) = sg) (M E r : Int) (hM' : IntKind.u64.wrap ((n2 : Int) * (n1 : Int)) = M) (hE' : wrap64 (z2 + z1) = E)
    (RI : ∀ w, Calls Try.prog 33 #[(.agg #[.int .i64 10, .int .i64 15, .int .u32 31]), .bool sg, .int .u64 M, .int .i64 E, .bool false] w fun x w' => x = .returned (.int .u32 r) ∧ Below w.heap.size w w') (w : World) :
    Calls Try.prog 10 #[.int .i64 16, .int .u32 b, .int .u32 a] w fun x w' => x = .returned (.int .u32 r) ∧ Below w.heap.size w w' := by
  by_cases hz : n2 = 0
  · have hz' : ((n2 : Int) == 0) = true := by simp; omega
    exact mulImpl_zf16 b a 0 n2 z2 0 n1 z1 s2 s1 sg V2 V1 hsg' rfl rfl hz' _ _ _ hM' hE' RI w
  · have hz' : ((n2 : Int) == 0) = false := by simp; omega
    exact mulImpl_nf16 b a 0 n2 z2 0 n1 z1 s2 s1 sg V2 V1 hsg' rfl rfl hz' _ _ _ hM' hE' RI w

theorem mulRev32 (a b : Int) (n1 : Nat) (z1 : Int) (n2 : Nat) (z2 : Int) (s1 s2 sg : Bool) (V1 : ∀ w, Calls Try.prog 29 #[(.agg #[.int .i64 23, .int .i64 127, .int .u32 255]), .int .u32 a] w fun x w' => x = .returned (.agg #[.int .i64 0, .bool s1, .int .u64 (n1 : Int), .int .i64 z1]) ∧ Below w.heap.size w w') (V2 : ∀ w, Calls Try.prog 29 #[(.agg #[.int .i64 23, .int .i64 127, .int .u32 255]), .int .u32 b] w fun x w' => x = .returned (.agg #[.int .i64 0, .bool s2, .int .u64 (n2 : Int), .int .i64 z2]) ∧ Below w.heap.size w w')
    (hsg' : (!(s2 == s1)) = sg) (M E r : Int) (hM' : IntKind.u64.wrap ((n2 : Int) * (n1 : Int)) = M) (hE' : wrap64 (z2 + z1) = E)
    (RI : ∀ w, Calls Try.prog 33 #[(.agg #[.int .i64 23, .int .i64 127, .int .u32 255]), .bool sg, .int .u64 M, .int .i64 E, .bool false] w fun x w' => x = .returned (.int .u32 r) ∧ Below w.heap.size w w') (w : World) :
    Calls Try.prog 10 #[.int .i64 32, .int .u32 b, .int .u32 a] w fun x w' => x = .returned (.int .u32 r) ∧ Below w.heap.size w w' := by
  by_cases hz : n2 = 0
  · have hz' : ((n2 : Int) == 0) = true := by simp; omega
    exact mulImpl_zf32 b a 0 n2 z2 0 n1 z1 s2 s1 sg V2 V1 hsg' rfl rfl hz' _ _ _ hM' hE' RI w
  · have hz' : ((n2 : Int) == 0) = false := by simp; omega
    exact mulImpl_nf32 b a 0 n2 z2 0 n1 z1 s2 s1 sg V2 V1 hsg' rfl rfl hz' _ _ _ hM' hE' RI w

theorem mulBothC16 (a b : Int) (a0 : 0 ≤ a) (a1 : a ≤ 4294967295) (b0 : 0 ≤ b) (b1 : b ≤ 4294967295) : ∃ r : Int,
    (∀ w, Calls Try.prog 14 #[.int .i64 16, .int .u32 a, .int .u32 b] w fun x w' => x = .returned (.int .u32 r) ∧ Below w.heap.size w w') ∧
    (∀ w, Calls Try.prog 10 #[.int .i64 16, .int .u32 a, .int .u32 b] w fun x w' => x = .returned (.int .u32 r) ∧ Below w.heap.size w w') ∧
    (∀ w, Calls Try.prog 10 #[.int .i64 16, .int .u32 b, .int .u32 a] w fun x w' => x = .returned (.int .u32 r) ∧ Below w.heap.size w w') ∧
    (cl16 a = 0 → cl16 b = 0 → ∀ n1 n2 : Nat, vm16 a = n1 → vm16 b = n2 → r = ((!((a / 32768 % 2 == 1) == (b / 32768 % 2 == 1))).toNat : Int) * 32768 + ((min (toldOf 10 (-24) (n1 * n2) (ve16 a + ve16 b) false) 31744 : Nat) : Int)) := by
  obtain ⟨c1, m1, m1', e1, e1', _, _⟩ := fv16 a
  obtain ⟨c2, m2, m2', e2, e2', _, _⟩ := fv16 b
  have V1 := value16 a a0 a1
  have V2 := value16 b b0 b1
  have O1 := open16 a a0 a1
  have O2 := open16 b b0 b1
  generalize cl16 a = x1 at *
  generalize cl16 b = x2 at *
  generalize vm16 a = y1 at *
  generalize vm16 b = y2 at *
  generalize ve16 a = z1 at *
  generalize ve16 b = z2 at *
  generalize (a / 32768 % 2 == 1) = s1 at *
  generalize (b / 32768 % 2 == 1) = s2 at *
  obtain ⟨sg, hsg⟩ : ∃ sg, (!(s1 == s2)) = sg := ⟨_, rfl⟩
  have hsg' : (!(s2 == s1)) = sg := by rw [← hsg]; cases s1 <;> cases s2 <;> rfl
  rw [hsg]
  obtain ⟨n1, rfl⟩ := Int.eq_ofNat_of_zero_le m1
  obtain ⟨n2, rfl⟩ := Int.eq_ofNat_of_zero_le m2
  have hb : n1 * n2 < 1152921504606846976 := Nat.lt_of_le_of_lt (Nat.mul_le_mul (show n1 ≤ 2 * 1024 by omega) (show n2 ≤ 2 * 1024 by omega)) (by decide)
  have hM : IntKind.u64.wrap ((n1 : Int) * (n2 : Int)) = ((n1 * n2 : Nat) : Int) := by
    rw [show (n1 : Int) * (n2 : Int) = ((n1 * n2 : Nat) : Int) by simp, IntKind.wrap_u64]; omega
  have hE : wrap64 (z1 + z2) = z1 + z2 := by unfold wrap64; omega
  have hM' : IntKind.u64.wrap ((n2 : Int) * (n1 : Int)) = ((n1 * n2 : Nat) : Int) := by rw [Int.mul_comm]; exact hM
  have hE' : wrap64 (z2 + z1) = z1 + z2 := by rw [Int.add_comm]; exact hE
  by_cases h12 : x1 = 2
  · subst h12
    refine ⟨_, mulSpecF16 a b _ _ _ O1 O2 (mulProd_a216 n1 z1 n2 z2 s1 s2 sg _ _ hsg), mulImpl_a216 a b 2 n1 z1 x2 n2 z2 s1 s2 sg V1 V2 hsg rfl, ?_, fun h => absurd h (by decide)⟩
    rcases c2 with rfl | rfl | rfl
    · exact mulImpl_b016 b a 0 n2 z2 2 n1 z1 s2 s1 sg V2 V1 hsg' rfl rfl
    · exact mulImpl_b116 b a 1 n2 z2 2 n1 z1 s2 s1 sg V2 V1 hsg' rfl rfl
    · exact mulImpl_a216 b a 2 n2 z2 2 n1 z1 s2 s1 sg V2 V1 hsg' rfl
  · rcases c2 with rfl | rfl | rfl
    · rcases c1 with rfl | rfl | h
      · have RS := specRound16 sg (n1 * n2) hb (z1 + z2) (by omega) (by omega) false
        have RI := implRound16 sg (n1 * n2) hb (z1 + z2) (by omega) (by omega) false
        by_cases hz : n1 = 0
        · have hz' : ((n1 : Int) == 0) = true := by simp; omega
          exact ⟨_, mulSpecF16 a b _ _ _ O1 O2 (mulProd_nf16 n1 z1 n2 z2 s1 s2 sg hsg _ _ _ hM hE RS), mulImpl_zf16 a b 0 n1 z1 0 n2 z2 s1 s2 sg V1 V2 hsg rfl rfl hz' _ _ _ hM hE RI, mulRev16 a b n1 z1 n2 z2 s1 s2 sg V1 V2 hsg' _ _ _ hM' hE' RI, fun _ _ k1 k2 g1 g2 => (by obtain rfl : n1 = k1 := Int.ofNat.inj g1; obtain rfl : n2 = k2 := Int.ofNat.inj g2; rfl)⟩
        · have hz' : ((n1 : Int) == 0) = false := by simp; omega
          exact ⟨_, mulSpecF16 a b _ _ _ O1 O2 (mulProd_nf16 n1 z1 n2 z2 s1 s2 sg hsg _ _ _ hM hE RS), mulImpl_nf16 a b 0 n1 z1 0 n2 z2 s1 s2 sg V1 V2 hsg rfl rfl hz' _ _ _ hM hE RI, mulRev16 a b n1 z1 n2 z2 s1 s2 sg V1 V2 hsg' _ _ _ hM' hE' RI, fun _ _ k1 k2 g1 g2 => (by obtain rfl : n1 = k1 := Int.ofNat.inj g1; obtain rfl : n2 = k2 := Int.ofNat.inj g2; rfl)⟩
      · by_cases hz : n2 = 0
        · have hz' : (n2 : Int) = 0 := by omega
          exact ⟨_, mulSpecF16 a b _ _ _ O1 O2 (mulProd_iz16 n1 z1 n2 z2 s1 s2 sg hsg hz'), mulImpl_iz16 a b 1 n1 z1 0 n2 z2 s1 s2 sg V1 V2 hsg rfl rfl hz', mulImpl_zi16 b a 0 n2 z2 1 n1 z1 s2 s1 sg V2 V1 hsg' rfl rfl hz', fun h => absurd h (by decide)⟩
        · have hz' : ((n2 : Int) == 0) = false := by simp; omega
          exact ⟨_, mulSpecF16 a b _ _ _ O1 O2 (mulProd_in16 n1 z1 n2 z2 s1 s2 sg hsg hz'), mulImpl_in16 a b 1 n1 z1 0 n2 z2 s1 s2 sg V1 V2 hsg rfl rfl hz', mulImpl_ni16 b a 0 n2 z2 1 n1 z1 s2 s1 sg V2 V1 hsg' rfl rfl hz', fun h => absurd h (by decide)⟩
      · exact absurd h h12
    · rcases c1 with rfl | rfl | h
      · by_cases hz : n1 = 0
        · have hz' : (n1 : Int) = 0 := by omega
          exact ⟨_, mulSpecF16 a b _ _ _ O1 O2 (mulProd_zi16 n1 z1 n2 z2 s1 s2 sg hsg hz'), mulImpl_zi16 a b 0 n1 z1 1 n2 z2 s1 s2 sg V1 V2 hsg rfl rfl hz', mulImpl_iz16 b a 1 n2 z2 0 n1 z1 s2 s1 sg V2 V1 hsg' rfl rfl hz', fun _ h => absurd h (by decide)⟩
        · have hz' : ((n1 : Int) == 0) = false := by simp; omega
          exact ⟨_, mulSpecF16 a b _ _ _ O1 O2 (mulProd_ni16 n1 z1 n2 z2 s1 s2 sg hsg hz'), mulImpl_ni16 a b 0 n1 z1 1 n2 z2 s1 s2 sg V1 V2 hsg rfl rfl hz', mulImpl_in16 b a 1 n2 z2 0 n1 z1 s2 s1 sg V2 V1 hsg' rfl rfl hz', fun _ h => absurd h (by decide)⟩
      · exact ⟨_, mulSpecF16 a b _ _ _ O1 O2 (mulProd_ii16 n1 z1 n2 z2 s1 s2 sg hsg), mulImpl_ii16 a b 1 n1 z1 1 n2 z2 s1 s2 sg V1 V2 hsg rfl rfl, mulImpl_ii16 b a 1 n2 z2 1 n1 z1 s2 s1 sg V2 V1 hsg' rfl rfl, fun _ h => absurd h (by decide)⟩
      · exact absurd h h12
    · rcases c1 with rfl | rfl | h
      · exact ⟨_, mulSpecF16 a b _ _ _ O1 O2 (mulProd_b016 n1 z1 n2 z2 s1 s2 sg hsg), mulImpl_b016 a b 0 n1 z1 2 n2 z2 s1 s2 sg V1 V2 hsg rfl rfl, mulImpl_a216 b a 2 n2 z2 0 n1 z1 s2 s1 sg V2 V1 hsg' rfl, fun _ h => absurd h (by decide)⟩
      · exact ⟨_, mulSpecF16 a b _ _ _ O1 O2 (mulProd_b116 n1 z1 n2 z2 s1 s2 sg hsg), mulImpl_b116 a b 1 n1 z1 2 n2 z2 s1 s2 sg V1 V2 hsg rfl rfl, mulImpl_a216 b a 2 n2 z2 1 n1 z1 s2 s1 sg V2 V1 hsg' rfl, fun _ h => absurd h (by decide)⟩
      · exact absurd h h12

theorem mulBothC32 (a b : Int) (a0 : 0 ≤ a) (a1 : a ≤ 4294967295) (b0 : 0 ≤ b) (b1 : b ≤ 4294967295) : ∃ r : Int,
    (∀ w, Calls Try.prog 14 #[.int .i64 32, .int .u32 a, .int .u32 b] w fun x w' => x = .returned (.int .u32 r) ∧ Below w.heap.size w w') ∧
    (∀ w, Calls Try.prog 10 #[.int .i64 32, .int .u32 a, .int .u32 b] w fun x w' => x = .returned (.int .u32 r) ∧ Below w.heap.size w w') ∧
    (∀ w, Calls Try.prog 10 #[.int .i64 32, .int .u32 b, .int .u32 a] w fun x w' => x = .returned (.int .u32 r) ∧ Below w.heap.size w w') ∧
    (cl32 a = 0 → cl32 b = 0 → ∀ n1 n2 : Nat, vm32 a = n1 → vm32 b = n2 → r = ((!((a / 2147483648 % 2 == 1) == (b / 2147483648 % 2 == 1))).toNat : Int) * 2147483648 + ((min (toldOf 23 (-149) (n1 * n2) (ve32 a + ve32 b) false) 2139095040 : Nat) : Int)) := by
  obtain ⟨c1, m1, m1', e1, e1', _, _⟩ := fv32 a
  obtain ⟨c2, m2, m2', e2, e2', _, _⟩ := fv32 b
  have V1 := value32 a a0 a1
  have V2 := value32 b b0 b1
  have O1 := open32 a a0 a1
  have O2 := open32 b b0 b1
  generalize cl32 a = x1 at *
  generalize cl32 b = x2 at *
  generalize vm32 a = y1 at *
  generalize vm32 b = y2 at *
  generalize ve32 a = z1 at *
  generalize ve32 b = z2 at *
  generalize (a / 2147483648 % 2 == 1) = s1 at *
  generalize (b / 2147483648 % 2 == 1) = s2 at *
  obtain ⟨sg, hsg⟩ : ∃ sg, (!(s1 == s2)) = sg := ⟨_, rfl⟩
  have hsg' : (!(s2 == s1)) = sg := by rw [← hsg]; cases s1 <;> cases s2 <;> rfl
  rw [hsg]
  obtain ⟨n1, rfl⟩ := Int.eq_ofNat_of_zero_le m1
  obtain ⟨n2, rfl⟩ := Int.eq_ofNat_of_zero_le m2
  have hb : n1 * n2 < 1152921504606846976 := Nat.lt_of_le_of_lt (Nat.mul_le_mul (show n1 ≤ 2 * 8388608 by omega) (show n2 ≤ 2 * 8388608 by omega)) (by decide)
  have hM : IntKind.u64.wrap ((n1 : Int) * (n2 : Int)) = ((n1 * n2 : Nat) : Int) := by
    rw [show (n1 : Int) * (n2 : Int) = ((n1 * n2 : Nat) : Int) by simp, IntKind.wrap_u64]; omega
  have hE : wrap64 (z1 + z2) = z1 + z2 := by unfold wrap64; omega
  have hM' : IntKind.u64.wrap ((n2 : Int) * (n1 : Int)) = ((n1 * n2 : Nat) : Int) := by rw [Int.mul_comm]; exact hM
  have hE' : wrap64 (z2 + z1) = z1 + z2 := by rw [Int.add_comm]; exact hE
  by_cases h12 : x1 = 2
  · subst h12
    refine ⟨_, mulSpecF32 a b _ _ _ O1 O2 (mulProd_a232 n1 z1 n2 z2 s1 s2 sg _ _ hsg), mulImpl_a232 a b 2 n1 z1 x2 n2 z2 s1 s2 sg V1 V2 hsg rfl, ?_, fun h => absurd h (by decide)⟩
    rcases c2 with rfl | rfl | rfl
    · exact mulImpl_b032 b a 0 n2 z2 2 n1 z1 s2 s1 sg V2 V1 hsg' rfl rfl
    · exact mulImpl_b132 b a 1 n2 z2 2 n1 z1 s2 s1 sg V2 V1 hsg' rfl rfl
    · exact mulImpl_a232 b a 2 n2 z2 2 n1 z1 s2 s1 sg V2 V1 hsg' rfl
  · rcases c2 with rfl | rfl | rfl
    · rcases c1 with rfl | rfl | h
      · have RS := specRound32 sg (n1 * n2) hb (z1 + z2) (by omega) (by omega) false
        have RI := implRound32 sg (n1 * n2) hb (z1 + z2) (by omega) (by omega) false
        by_cases hz : n1 = 0
        · have hz' : ((n1 : Int) == 0) = true := by simp; omega
          exact ⟨_, mulSpecF32 a b _ _ _ O1 O2 (mulProd_nf32 n1 z1 n2 z2 s1 s2 sg hsg _ _ _ hM hE RS), mulImpl_zf32 a b 0 n1 z1 0 n2 z2 s1 s2 sg V1 V2 hsg rfl rfl hz' _ _ _ hM hE RI, mulRev32 a b n1 z1 n2 z2 s1 s2 sg V1 V2 hsg' _ _ _ hM' hE' RI, fun _ _ k1 k2 g1 g2 => (by obtain rfl : n1 = k1 := Int.ofNat.inj g1; obtain rfl : n2 = k2 := Int.ofNat.inj g2; rfl)⟩
        · have hz' : ((n1 : Int) == 0) = false := by simp; omega
          exact ⟨_, mulSpecF32 a b _ _ _ O1 O2 (mulProd_nf32 n1 z1 n2 z2 s1 s2 sg hsg _ _ _ hM hE RS), mulImpl_nf32 a b 0 n1 z1 0 n2 z2 s1 s2 sg V1 V2 hsg rfl rfl hz' _ _ _ hM hE RI, mulRev32 a b n1 z1 n2 z2 s1 s2 sg V1 V2 hsg' _ _ _ hM' hE' RI, fun _ _ k1 k2 g1 g2 => (by obtain rfl : n1 = k1 := Int.ofNat.inj g1; obtain rfl : n2 = k2 := Int.ofNat.inj g2; rfl)⟩
      · by_cases hz : n2 = 0
        · have hz' : (n2 : Int) = 0 := by omega
          exact ⟨_, mulSpecF32 a b _ _ _ O1 O2 (mulProd_iz32 n1 z1 n2 z2 s1 s2 sg hsg hz'), mulImpl_iz32 a b 1 n1 z1 0 n2 z2 s1 s2 sg V1 V2 hsg rfl rfl hz', mulImpl_zi32 b a 0 n2 z2 1 n1 z1 s2 s1 sg V2 V1 hsg' rfl rfl hz', fun h => absurd h (by decide)⟩
        · have hz' : ((n2 : Int) == 0) = false := by simp; omega
          exact ⟨_, mulSpecF32 a b _ _ _ O1 O2 (mulProd_in32 n1 z1 n2 z2 s1 s2 sg hsg hz'), mulImpl_in32 a b 1 n1 z1 0 n2 z2 s1 s2 sg V1 V2 hsg rfl rfl hz', mulImpl_ni32 b a 0 n2 z2 1 n1 z1 s2 s1 sg V2 V1 hsg' rfl rfl hz', fun h => absurd h (by decide)⟩
      · exact absurd h h12
    · rcases c1 with rfl | rfl | h
      · by_cases hz : n1 = 0
        · have hz' : (n1 : Int) = 0 := by omega
          exact ⟨_, mulSpecF32 a b _ _ _ O1 O2 (mulProd_zi32 n1 z1 n2 z2 s1 s2 sg hsg hz'), mulImpl_zi32 a b 0 n1 z1 1 n2 z2 s1 s2 sg V1 V2 hsg rfl rfl hz', mulImpl_iz32 b a 1 n2 z2 0 n1 z1 s2 s1 sg V2 V1 hsg' rfl rfl hz', fun _ h => absurd h (by decide)⟩
        · have hz' : ((n1 : Int) == 0) = false := by simp; omega
          exact ⟨_, mulSpecF32 a b _ _ _ O1 O2 (mulProd_ni32 n1 z1 n2 z2 s1 s2 sg hsg hz'), mulImpl_ni32 a b 0 n1 z1 1 n2 z2 s1 s2 sg V1 V2 hsg rfl rfl hz', mulImpl_in32 b a 1 n2 z2 0 n1 z1 s2 s1 sg V2 V1 hsg' rfl rfl hz', fun _ h => absurd h (by decide)⟩
      · exact ⟨_, mulSpecF32 a b _ _ _ O1 O2 (mulProd_ii32 n1 z1 n2 z2 s1 s2 sg hsg), mulImpl_ii32 a b 1 n1 z1 1 n2 z2 s1 s2 sg V1 V2 hsg rfl rfl, mulImpl_ii32 b a 1 n2 z2 1 n1 z1 s2 s1 sg V2 V1 hsg' rfl rfl, fun _ h => absurd h (by decide)⟩
      · exact absurd h h12
    · rcases c1 with rfl | rfl | h
      · exact ⟨_, mulSpecF32 a b _ _ _ O1 O2 (mulProd_b032 n1 z1 n2 z2 s1 s2 sg hsg), mulImpl_b032 a b 0 n1 z1 2 n2 z2 s1 s2 sg V1 V2 hsg rfl rfl, mulImpl_a232 b a 2 n2 z2 0 n1 z1 s2 s1 sg V2 V1 hsg' rfl, fun _ h => absurd h (by decide)⟩
      · exact ⟨_, mulSpecF32 a b _ _ _ O1 O2 (mulProd_b132 n1 z1 n2 z2 s1 s2 sg hsg), mulImpl_b132 a b 1 n1 z1 2 n2 z2 s1 s2 sg V1 V2 hsg rfl rfl, mulImpl_a232 b a 2 n2 z2 1 n1 z1 s2 s1 sg V2 V1 hsg' rfl, fun _ h => absurd h (by decide)⟩
      · exact absurd h h12

set_option maxHeartbeats 1000000 in
theorem divHalf (a b : Int) (a0 : 0 ≤ a) (a1 : a ≤ 4294967295) (b0 : 0 ≤ b) (b1 : b ≤ 4294967295) : ∃ r : Int,
    (∀ w, Calls Try.prog 15 #[.int .i64 16, .int .u32 a, .int .u32 b] w fun x w' => x = .returned (.int .u32 r) ∧ Below w.heap.size w w') ∧
    (∀ w, Calls Try.prog 11 #[.int .i64 16, .int .u32 a, .int .u32 b] w fun x w' => x = .returned (.int .u32 r) ∧ Below w.heap.size w w') ∧
    (cl16 a = 0 → cl16 b = 0 → ∀ n1 n2 : Nat, vm16 a = n1 → vm16 b = n2 → n2 ≠ 0 → (n1 = 0 → r = ((!((a / 32768 % 2 == 1) == (b / 32768 % 2 == 1))).toNat : Int) * 32768) ∧ (n1 ≠ 0 → ∃ U, U + Lib.bitLen n1 = 60 ∧ r = ((!((a / 32768 % 2 == 1) == (b / 32768 % 2 == 1))).toNat : Int) * 32768 + ((min (toldOf 10 (-24) (n1 * 2 ^ U / n2) (ve16 a - U - ve16 b) (decide (n1 * 2 ^ U % n2 ≠ 0))) 31744 : Nat) : Int))) := by
  obtain ⟨c1, m1, m1', e1, e1', _, _⟩ := fv16 a
  obtain ⟨c2, m2, m2', e2, e2', _, _⟩ := fv16 b
  have V1 := value16 a a0 a1
  have V2 := value16 b b0 b1
  have O1 := open16 a a0 a1
  have O2 := open16 b b0 b1
  generalize cl16 a = x1 at *
  generalize cl16 b = x2 at *
  generalize vm16 a = y1 at *
  generalize vm16 b = y2 at *
  generalize ve16 a = z1 at *
  generalize ve16 b = z2 at *
  generalize (a / 32768 % 2 == 1) = s1 at *
  generalize (b / 32768 % 2 == 1) = s2 at *
  obtain ⟨sg, hsg⟩ : ∃ sg, (!(s1 == s2)) = sg := ⟨_, rfl⟩
  rw [hsg]
  obtain ⟨n1, rfl⟩ := Int.eq_ofNat_of_zero_le m1
  obtain ⟨n2, rfl⟩ := Int.eq_ofNat_of_zero_le m2
  by_cases h12 : x1 = 2
  · subst h12
    exact ⟨_, divSpecF16 a b _ _ _ O1 O2 (divQ_a216 n1 z1 n2 z2 s1 s2 sg _ _ hsg), divImpl_a216 a b 2 n1 z1 x2 n2 z2 s1 s2 sg V1 V2 hsg rfl, fun h => absurd h (by decide)⟩
  · rcases c2 with rfl | rfl | rfl
    · rcases c1 with rfl | rfl | h
      · by_cases hz1 : n1 = 0
        · have hz1' : ((n1 : Int) == 0) = true := by simp; omega
          by_cases hz2 : n2 = 0
          · have hz2' : ((n2 : Int) == 0) = true := by simp; omega
            exact ⟨_, divSpecF16 a b _ _ _ O1 O2 (divQ_zz16 n1 z1 n2 z2 s1 s2 sg hsg hz1' hz2'), divImpl_zz16 a b 0 n1 z1 0 n2 z2 s1 s2 sg V1 V2 hsg rfl rfl hz1' hz2', fun _ _ k1 k2 g1 g2 h => absurd ((Int.ofNat.inj g2).symm.trans hz2) h⟩
          · have hz2' : ((n2 : Int) == 0) = false := by simp; omega
            exact ⟨_, divSpecF16 a b _ _ _ O1 O2 (divQ_zn16 n1 z1 n2 z2 s1 s2 sg hsg hz1' hz2'), divImpl_zn16 a b 0 n1 z1 0 n2 z2 s1 s2 sg V1 V2 hsg rfl rfl hz1' hz2', fun _ _ k1 k2 g1 g2 h => (by obtain rfl : n1 = k1 := Int.ofNat.inj g1; obtain rfl : n2 = k2 := Int.ofNat.inj g2; exact ⟨fun _ => rfl, fun h => absurd hz1 h⟩)⟩
        · have hz1' : ((n1 : Int) == 0) = false := by simp; omega
          by_cases hz2 : n2 = 0
          · have hz2' : ((n2 : Int) == 0) = true := by simp; omega
            exact ⟨_, divSpecF16 a b _ _ _ O1 O2 (divQ_nz16 n1 z1 n2 z2 s1 s2 sg hsg hz1' hz2'), divImpl_nz16 a b 0 n1 z1 0 n2 z2 s1 s2 sg V1 V2 hsg rfl rfl hz1' hz2', fun _ _ k1 k2 g1 g2 h => absurd ((Int.ofNat.inj g2).symm.trans hz2) h⟩
          · have hz2' : ((n2 : Int) == 0) = false := by simp; omega
            obtain ⟨l1, _, l3, l4⟩ := bl_is n1 (by omega) hz1
            have hL25 : Lib.bitLen n1 ≤ 25 := bl_le n1 25 (by omega) (by omega)
            have LN : Hid (∀ w, Calls Try.prog 35 #[.int .u64 (n1 : Int)] w fun e w' => e = .returned (.int .i64 (Lib.bitLen n1 : Int)) ∧ w' = w) := fun w => len64F n1 (by omega) w
            have hX : n1 * 2 ^ (60 - Lib.bitLen n1) < 1152921504606846976 := by
              have h := Nat.mul_lt_mul_of_pos_right l4 (Nat.two_pow_pos (60 - Lib.bitLen n1))
              rw [← Nat.pow_add, show Lib.bitLen n1 + (60 - Lib.bitLen n1) = 60 by omega] at h
              exact h
            have TT := fun (j1 j2 : Nat) => divTold16 n1 n2 j1 j2 (60 - Lib.bitLen n1) z1 z2 hz2 (by omega) hz1
            obtain ⟨U, hU⟩ : ∃ U, 60 - Lib.bitLen n1 = U := ⟨_, rfl⟩
            rw [hU] at hX TT
            have hY : n1 * 2 ^ U / n2 ≤ n1 * 2 ^ U := Nat.div_le_self _ _
            have RI := implRound16 sg (n1 * 2 ^ U / n2) (by omega) (z1 - U - z2) (by omega) (by omega) (decide (n1 * 2 ^ U % n2 ≠ 0))
            refine ⟨_, divSpecF16 a b _ _ _ O1 O2 (divQ_nn16 n1 n2 z1 z2 _ s1 s2 sg hsg hz1 hz2 (by omega) (by omega) (by omega) (by omega) (by omega) (by omega) ?_), divImpl_nn16 a b z1 z2 (z1 - U) (z1 - U - z2) _ n1 n2 (Lib.bitLen n1) U (n1 * 2 ^ U) (n1 * 2 ^ U / n2) (n1 * 2 ^ U % n2) s1 s2 sg _ V1 V2 hsg hz1' hz2' hz2 LN ?_ ?_ ?_ ?_ ?_ ?_ ?_ ?_ ?_ RI, ?_⟩
            · intro j1 j2 i1 i2 k1 k2 w
              have hp2 := Nat.two_pow_pos j2
              have hj1 := pow_le16 n1 j1 hz1 i2
              have hj2 := pow_le16 n2 j2 hz2 k2
              have hle : n1 * 2 ^ j1 * 1073741824 / (n2 * 2 ^ j2) ≤ n1 * 2 ^ j1 * 1073741824 := Nat.div_le_self _ _
              rw [← TT j1 j2 i1 i2 k2]
              exact specRound16 sg _ (by omega) _ (by omega) (by omega) _ w
            · unfold wrap64; omega
            · omega
            · rw [show (n1 : Int) * 2 ^ U = ((n1 * 2 ^ U : Nat) : Int) by simp, IntKind.wrap_u64]; omega
            · simp
            · rw [IntKind.wrap_i64]; omega
            · rw [IntKind.wrap_i64]; omega
            · generalize n1 * 2 ^ U / n2 = Y at *; generalize n1 * 2 ^ U = X at *; rw [IntKind.wrap_u64]; omega
            · rw [Int.tmod_eq_emod_of_nonneg (by omega)]; simp
            · generalize n1 * 2 ^ U % n2 = R at *; by_cases h : R = 0 <;> simp [h]
            · exact fun _ _ k1 k2 g1 g2 h => (by obtain rfl : n1 = k1 := Int.ofNat.inj g1; obtain rfl : n2 = k2 := Int.ofNat.inj g2; exact ⟨fun h => absurd h hz1, fun _ => ⟨U, by omega, rfl⟩⟩)
      · exact ⟨_, divSpecF16 a b _ _ _ O1 O2 (divQ_if16 n1 z1 n2 z2 s1 s2 sg hsg), divImpl_if16 a b 1 n1 z1 0 n2 z2 s1 s2 sg V1 V2 hsg rfl rfl, fun h => absurd h (by decide)⟩
      · exact absurd h h12
    · rcases c1 with rfl | rfl | h
      · by_cases hz : n1 = 0
        · have hz' : ((n1 : Int) == 0) = true := by simp; omega
          exact ⟨_, divSpecF16 a b _ _ _ O1 O2 (divQ_fi16 n1 z1 n2 z2 s1 s2 sg hsg), divImpl_zi16 a b 0 n1 z1 1 n2 z2 s1 s2 sg V1 V2 hsg rfl rfl hz', fun _ h => absurd h (by decide)⟩
        · have hz' : ((n1 : Int) == 0) = false := by simp; omega
          exact ⟨_, divSpecF16 a b _ _ _ O1 O2 (divQ_fi16 n1 z1 n2 z2 s1 s2 sg hsg), divImpl_ni16 a b 0 n1 z1 1 n2 z2 s1 s2 sg V1 V2 hsg rfl rfl hz', fun _ h => absurd h (by decide)⟩
      · exact ⟨_, divSpecF16 a b _ _ _ O1 O2 (divQ_ii16 n1 z1 n2 z2 s1 s2 sg hsg), divImpl_ii16 a b 1 n1 z1 1 n2 z2 s1 s2 sg V1 V2 hsg rfl rfl, fun _ h => absurd h (by decide)⟩
      · exact absurd h h12
    · rcases c1 with rfl | rfl | h
      · exact ⟨_, divSpecF16 a b _ _ _ O1 O2 (divQ_b016 n1 z1 n2 z2 s1 s2 sg hsg), divImpl_b016 a b 0 n1 z1 2 n2 z2 s1 s2 sg V1 V2 hsg rfl rfl, fun _ h => absurd h (by decide)⟩
      · exact ⟨_, divSpecF16 a b _ _ _ O1 O2 (divQ_b116 n1 z1 n2 z2 s1 s2 sg hsg), divImpl_b116 a b 1 n1 z1 2 n2 z2 s1 s2 sg V1 V2 hsg rfl rfl, fun _ h => absurd h (by decide)⟩
      · exact absurd h h12

end Go.Proofs.Yteniijmnpgdpcaa

namespace Go.Proofs.Yteniijmnpgdpcaa
open Go.RowKit

/-- Sums by their classes, and what they are. -/
theorem addAnyC (s1 s2 : Bool) (c1 c2 m1 m2 e1 e2 : Int) (f1 : Fv16 c1 m1 e1) (f2 : Fv16 c2 m2 e2) : ∃ r : Int,
    (∀ w, Calls Try.prog 37 #[(.agg #[.int .u64 5, .int .u64 10]), (.agg #[.bool s1, .bool (c1 == 1), .bool (c1 == 2), .int .u64 m1, .int .i64 e1]), (.agg #[.bool s2, .bool (c2 == 1), .bool (c2 == 2), .int .u64 m2, .int .i64 e2])] w fun e w' => e = .returned (.int .u32 r) ∧ Below w.heap.size w w') ∧
    (∀ w, Calls Try.prog 28 #[(.agg #[.int .i64 10, .int .i64 15, .int .u32 31]), (.agg #[.int .i64 c1, .bool s1, .int .u64 m1, .int .i64 e1]), (.agg #[.int .i64 c2, .bool s2, .int .u64 m2, .int .i64 e2])] w fun e w' => e = .returned (.int .u32 r) ∧ Below w.heap.size w w') ∧
    (∀ w, Calls Try.prog 28 #[(.agg #[.int .i64 10, .int .i64 15, .int .u32 31]), (.agg #[.int .i64 c2, .bool s2, .int .u64 m2, .int .i64 e2]), (.agg #[.int .i64 c1, .bool s1, .int .u64 m1, .int .i64 e1])] w fun e w' => e = .returned (.int .u32 r) ∧ Below w.heap.size w w') ∧
    (c1 = 0 → c2 = 0 → r = hv (zz s1 m1.toNat e1 + zz s2 m2.toNat e2) (s1 && s2)) ∧ (c1 ≠ 0 ∨ c2 ≠ 0 → cl16 r ≠ 0 ∧ 0 ≤ r ∧ r ≤ 65535) := by
  obtain ⟨k1, a1, a2, a3, a4, a5, _⟩ := f1
  obtain ⟨k2, b1, b2, b3, b4, b5, _⟩ := f2
  have hs : s2 = s1 ∨ s2 = !s1 := by cases s1 <;> cases s2 <;> simp
  have hnan : cl16 (31744 + 512) ≠ 0 ∧ (0 : Int) ≤ 31744 + 512 ∧ (31744 + 512 : Int) ≤ 65535 := by decide
  have hinf : ∀ s : Bool, cl16 ((s.toNat : Int) * 32768 + 31744) ≠ 0 ∧ (0 : Int) ≤ (s.toNat : Int) * 32768 + 31744 ∧ (s.toNat : Int) * 32768 + 31744 ≤ 65535 := by intro s; cases s <;> decide
  rcases k1 with rfl | rfl | rfl
  · rcases k2 with rfl | rfl | rfl
    · obtain ⟨n1, rfl⟩ := Int.eq_ofNat_of_zero_le a1
      obtain ⟨n2, rfl⟩ := Int.eq_ofNat_of_zero_le b1
      simp only [Int.toNat_natCast]
      by_cases h : e2 ≤ e1
      · obtain ⟨S, I, J⟩ := finV s1 s2 n1 n2 e1 e2 (by omega) (by omega) h b3 (by omega) (fun h => by have := a5 rfl h; omega)
        exact ⟨_, S, cIF16 s1 s2 n1 n2 e1 e2 _ I, cIF16 s2 s1 n2 n1 e2 e1 _ J, fun _ _ => rfl, fun h => by rcases h with h | h <;> exact absurd rfl h⟩
      · obtain ⟨S, J, I⟩ := finV s2 s1 n2 n1 e2 e1 (by omega) (by omega) (by omega) a3 (by omega) (fun h => by have := b5 rfl h; omega)
        exact ⟨_, cSR16 s1 s2 n1 n2 e1 e2 _ (by omega) S, cIF16 s1 s2 n1 n2 e1 e2 _ I, cIF16 s2 s1 n2 n1 e2 e1 _ J, fun _ _ => by rw [Int.add_comm, Bool.and_comm], fun h => by rcases h with h | h <;> exact absurd rfl h⟩
    · exact ⟨_, cSE16 s1 s2 m1 m2 e1 e2, cIE16 s1 s2 m1 m2 e1 e2, cID16 s2 s1 m2 m1 e2 e1, fun _ h => absurd h (by decide), fun _ => hinf _⟩
    · exact ⟨_, cSB016 s1 s2 m1 m2 e1 e2, cIB016 s1 s2 m1 m2 e1 e2, cIA16 s2 s1 0 m2 m1 e2 e1, fun _ h => absurd h (by decide), fun _ => hnan⟩
  · rcases k2 with rfl | rfl | rfl
    · exact ⟨_, cSD16 s1 s2 m1 m2 e1 e2, cID16 s1 s2 m1 m2 e1 e2, cIE16 s2 s1 m2 m1 e2 e1, fun h => absurd h (by decide), fun _ => hinf _⟩
    · rcases hs with rfl | rfl
      · exact ⟨_, cSCs16 _ m1 m2 e1 e2, cICs16 _ m1 m2 e1 e2, cICs16 _ m2 m1 e2 e1, fun h => absurd h (by decide), fun _ => hinf _⟩
      · have J := cICd16 (!s1) m2 m1 e2 e1
        rw [Bool.not_not] at J
        exact ⟨_, cSCd16 _ m1 m2 e1 e2, cICd16 _ m1 m2 e1 e2, J, fun h => absurd h (by decide), fun _ => hnan⟩
    · exact ⟨_, cSB116 s1 s2 m1 m2 e1 e2, cIB116 s1 s2 m1 m2 e1 e2, cIA16 s2 s1 1 m2 m1 e2 e1, fun h => absurd h (by decide), fun _ => hnan⟩
  · rcases k2 with rfl | rfl | rfl
    · exact ⟨_, cSA16 s1 s2 _ _ _ m1 m2 e1 e2, cIA16 s1 s2 0 m1 m2 e1 e2, cIB016 s2 s1 m2 m1 e2 e1, fun h => absurd h (by decide), fun _ => hnan⟩
    · exact ⟨_, cSA16 s1 s2 _ _ _ m1 m2 e1 e2, cIA16 s1 s2 1 m1 m2 e1 e2, cIB116 s2 s1 m2 m1 e2 e1, fun h => absurd h (by decide), fun _ => hnan⟩
    · exact ⟨_, cSA16 s1 s2 _ _ _ m1 m2 e1 e2, cIA16 s1 s2 2 m1 m2 e1 e2, cIA16 s2 s1 2 m2 m1 e2 e1, fun h => absurd h (by decide), fun _ => hnan⟩

/-- FAdd of halves. -/
theorem addHalfC (a b : Int) (a0 : 0 ≤ a) (a1 : a ≤ 4294967295) (b0 : 0 ≤ b) (b1 : b ≤ 4294967295) : ∃ r : Int,
    (∀ w, Calls Try.prog 12 #[.int .i64 16, .int .u32 a, .int .u32 b] w fun x w' => x = .returned (.int .u32 r) ∧ Below w.heap.size w w') ∧
    (∀ w, Calls Try.prog 8 #[.int .i64 16, .int .u32 a, .int .u32 b] w fun x w' => x = .returned (.int .u32 r) ∧ Below w.heap.size w w') ∧
    (∀ w, Calls Try.prog 8 #[.int .i64 16, .int .u32 b, .int .u32 a] w fun x w' => x = .returned (.int .u32 r) ∧ Below w.heap.size w w') ∧
    (cl16 a = 0 → cl16 b = 0 → ∃ s, r = hv (exa a + exa b) s) ∧ (cl16 a ≠ 0 ∨ cl16 b ≠ 0 → cl16 r ≠ 0 ∧ 0 ≤ r ∧ r ≤ 65535) := by
  obtain ⟨r, S, I, J, hf, hn⟩ := addAnyC (a / 32768 % 2 == 1) (b / 32768 % 2 == 1) _ _ _ _ _ _ (fv16 a) (fv16 b)
  refine ⟨r, wSFAdd16 a b r _ _ (open16 a a0 a1) (open16 b b0 b1) S, wIFAdd16 a b r _ _ (value16 a a0 a1) (value16 b b0 b1) I, wIFAdd16 b a r _ _ (value16 b b0 b1) (value16 a a0 a1) J, fun h1 h2 => ⟨(a / 32768 % 2 == 1) && (b / 32768 % 2 == 1), ?_⟩, hn⟩
  · rw [hf h1 h2]
    obtain ⟨m, hm, _, _, _, he⟩ := exa_zz a h1
    obtain ⟨m', hm', _, _, _, he'⟩ := exa_zz b h2
    rw [he, he', hm, hm']
    simp only [Int.toNat_natCast]

theorem w63_ok (x : Int) (h0 : -9223372036854775808 ≤ x) (h1 : x ≤ 9223372036854775807) : wrap64 x = x := by unfold wrap64; omega
theorem neg_ok (x : Int) (h0 : -9223372036854775807 ≤ x) (h1 : x < 0) : wrap64 (-x) = ((x.natAbs : Nat) : Int) := by rw [w63_ok _ (by omega) (by omega)]; omega
set_option maxHeartbeats 400000 in
theorem sizeC (n : Int) (h0 : -9223372036854775807 ≤ n) (w : World) :
    Calls Try.prog 18 #[.int .i64 n] w fun e w' => e = .returned (.int .i64 ((n.natAbs : Nat) : Int)) ∧ w' = w := by
  by_cases h : n < 0
  · have v := neg_ok n h0 h
    obtain ⟨R, hR⟩ : ∃ R : Int, ((n.natAbs : Nat) : Int) = R := ⟨_, rfl⟩
    rw [hR] at v ⊢
    clear hR h0
    go_enter Try.func18, Try.ntmps18
    go_wp2
    go_ret
    exact ⟨by first | rfl | exact congrArg (fun z => Ending.returned (.int .i64 z)) v, rfl⟩
  · have v : n = ((n.natAbs : Nat) : Int) := by omega
    rw [← v]
    clear v h0
    go_enter Try.func18, Try.ntmps18
    go_wp2
    go_ret
    exact ⟨rfl, rfl⟩

theorem and_low (r b T : Nat) (hr : r = b * 32768 + T) (hb : b ≤ 1) (hT : T < 32768) : bits .and .u32 (r : Int) 32767 = (T : Int) := by
  have h := and32_nat r 32767 (by omega) (by omega)
  rw [show ((32767 : Nat) : Int) = 32767 by rfl] at h
  rw [h, show (32767 : Nat) = 2 ^ 15 - 1 by decide, Nat.and_two_pow_sub_one_eq_mod, show (2 : Nat) ^ 15 = 32768 by decide]
  omega
theorem and_sign (r b T : Nat) (hr : r = b * 32768 + T) (hb : b ≤ 1) (hT : T < 32768) : bits .and .u32 (r : Int) 32768 = ((b * 32768 : Nat) : Int) := by
  have h := and32_nat r 32768 (by omega) (by omega)
  rw [show ((32768 : Nat) : Int) = 32768 by rfl] at h
  rw [h]
  congr 1
  have e : r.testBit 15 = decide (b = 1) := by
    rw [Nat.testBit_eq_decide_div_mod_eq, show (2 : Nat) ^ 15 = 32768 by decide]
    have e1 : r / 32768 % 2 = b := by omega
    rw [e1]
  apply Nat.eq_of_testBit_eq
  intro i
  rw [Nat.testBit_and, show (32768 : Nat) = 2 ^ 15 by decide, Nat.testBit_two_pow]
  rcases (by omega : b = 0 ∨ b = 1) with rfl | rfl
  · by_cases hi : 15 = i
    · subst hi; rw [e]; simp
    · simp [hi]
  · rw [Nat.one_mul, Nat.testBit_two_pow]
    by_cases hi : 15 = i
    · subst hi; rw [e]; simp
    · simp [hi]
theorem and_one (r b T : Nat) (hr : r = b * 32768 + T) (hb : b ≤ 1) (hT : T < 32768) : bits .and .u32 (r : Int) 1 = ((T % 2 : Nat) : Int) := by
  have h := and32_nat r 1 (by omega) (by omega)
  rw [show ((1 : Nat) : Int) = 1 by rfl] at h
  rw [h, Nat.and_one_is_mod]
  omega
theorem or_sign (b T : Nat) (hb : b ≤ 1) (hT : T < 32768) : bits .or .u32 (T : Int) ((b * 32768 : Nat) : Int) = ((b * 32768 + T : Nat) : Int) := by
  have h := or32_nat T (b * 32768) (by omega) (by omega)
  rw [h, Nat.or_comm]
  have e := Nat.two_pow_add_eq_or_of_lt (i := 15) (b := T) (by rw [show (2 : Nat) ^ 15 = 32768 by decide]; exact hT) b
  rw [show (2 : Nat) ^ 15 = 32768 by decide, Nat.mul_comm] at e
  rw [← e]

end Go.Proofs.Yteniijmnpgdpcaa

namespace Go.Proofs.Yteniijmnpgdpcaa
open Go.RowKit

/-- A number with a sign. -/
def sgn (b : Nat) (X : Nat) : Int := if b = 1 then -(X : Int) else (X : Int)
theorem sgn_sub (b X Y : Nat) : (sgn b X - sgn b Y).natAbs = ((X : Int) - (Y : Int)).natAbs := by unfold sgn; split <;> omega
theorem sgn_mul (b v B : Nat) : sgn b v * (B : Int) = sgn b (v * B) := by unfold sgn; split <;> simp [Int.neg_mul]

/-- All that a round is asked: what the other one is, and how both lie. -/
structure NearAt (x by' v : Int) (r n wv : Int) (fin : Bool) (odd : Bool) : Prop where
  room0 : wrap64 (v * by') = v * by'
  room1 : fin = true → wrap64 (wv * by') = wv * by'
  dif0 : -9223372036854775807 ≤ x - v * by' ∧ x - v * by' ≤ 9223372036854775807
  dif1 : fin = true → -9223372036854775807 ≤ x - wv * by' ∧ x - wv * by' ≤ 9223372036854775807
  le : fin = true → (x - v * by').natAbs ≤ (x - wv * by').natAbs
  tie : fin = true → (x - v * by').natAbs = (x - wv * by').natAbs → odd = false

/-- What lies about a number that is nearest. -/
theorem near_bound (X B t k : Nat) (hB : 0 < B) (hk : k ≤ 2048) (hk2 : t ≠ 0 → 1024 ≤ k) (h : NearBy X B t k) (hX : X ≤ 4611686018427387904) (hB2 : B ≤ 4398046511104) :
    valN (t * 1024 + k) * B ≤ 4700000000000000000 ∧ valN (t * 1024 + k + 1) * B ≤ 4700000000000000000 ∧ valN (t * 1024 + k - 1) * B ≤ 4700000000000000000 := by
  obtain ⟨h1, h2, h3, h4, h5⟩ := h
  have hS : 2 ^ t * B ≤ 5000000000000000 := by
    by_cases ht : t = 0
    · subst ht; simp; omega
    · have := h4 ht; omega
  have v0 : valN (t * 1024 + k) * B = k * (2 ^ t * B) := by rw [val_put t k hk hk2, Nat.mul_assoc]
  have v1 : valN (t * 1024 + k + 1) * B ≤ k * (2 ^ t * B) + 2 * (2 ^ t * B) := by
    by_cases e : k = 2048
    · subst e
      rw [show t * 1024 + 2048 + 1 = (t + 1) * 1024 + 1025 by omega, val_put (t + 1) 1025 (by omega) (by omega), Nat.pow_succ, Nat.mul_assoc, Nat.mul_assoc]
      rw [show 1025 * (2 ^ t * (2 * B)) = 2050 * (2 ^ t * B) by rw [Nat.mul_left_comm (2 ^ t), ← Nat.mul_assoc]]
      omega
    · rw [show t * 1024 + k + 1 = t * 1024 + (k + 1) by omega, val_put t (k + 1) (by omega) (by omega), Nat.mul_assoc, Nat.succ_mul]
      omega
  have v2 : valN (t * 1024 + k - 1) * B ≤ k * (2 ^ t * B) := by
    by_cases e : t ≠ 0 ∧ k = 1024
    · obtain ⟨ht, rfl⟩ := e
      obtain ⟨u, rfl⟩ : ∃ u, t = u + 1 := ⟨t - 1, by omega⟩
      rw [show (u + 1) * 1024 + 1024 - 1 = u * 1024 + 2047 by omega, val_put u 2047 (by omega) (by omega), Nat.mul_assoc]
      have e2 : 2 ^ (u + 1) * B = 2 * (2 ^ u * B) := by rw [Nat.pow_succ, Nat.mul_right_comm, Nat.mul_comm]
      rw [e2]
      omega
    · by_cases e3 : k = 0
      · subst e3
        obtain rfl : t = 0 := by
          by_cases ht : t = 0
          · exact ht
          · have := hk2 ht; omega
        simp [valN]
      · rw [show t * 1024 + k - 1 = t * 1024 + (k - 1) by omega, val_put t (k - 1) (by omega) (by omega), Nat.mul_assoc]
        exact Nat.mul_le_mul_right _ (by omega)
  omega

theorem room_of (b Y : Nat) (h : Y ≤ 4700000000000000000) : wrap64 (sgn b Y) = sgn b Y := w63_ok _ (by unfold sgn; split <;> omega) (by unfold sgn; split <;> omega)
theorem dif_of (b X Y : Nat) (h1 : X ≤ 4611686018427387904) (h2 : Y ≤ 4700000000000000000) : -9223372036854775807 ≤ sgn b X - sgn b Y ∧ sgn b X - sgn b Y ≤ 9223372036854775807 := by unfold sgn; split <;> omega

/-- The one above. -/
theorem near_at_up (b X B t k : Nat) (r n : Int) (hB : 0 < B) (hk : k ≤ 2048) (hk2 : t ≠ 0 → 1024 ≤ k) (h : NearBy X B t k) (hX : X ≤ 4611686018427387904) (hB2 : B ≤ 4398046511104) (fin : Bool) :
    NearAt (sgn b X) B (sgn b (valN (t * 1024 + k))) r n (sgn b (valN (t * 1024 + k + 1))) fin (decide ((t * 1024 + k) % 2 = 1)) := by
  obtain ⟨b0, b1, _⟩ := near_bound X B t k hB hk hk2 h hX hB2
  obtain ⟨u1, u2⟩ := near_up X B t k hB hk hk2 h
  refine ⟨?_, fun _ => ?_, ?_, fun _ => ?_, fun _ => ?_, fun _ e => ?_⟩
  · rw [sgn_mul]; exact room_of b _ b0
  · rw [sgn_mul]; exact room_of b _ b1
  · rw [sgn_mul]; exact dif_of b X _ hX b0
  · rw [sgn_mul]; exact dif_of b X _ hX b1
  · rw [sgn_mul, sgn_mul, sgn_sub, sgn_sub]; exact u1
  · rw [sgn_mul, sgn_mul, sgn_sub, sgn_sub] at e
    have := u2 e
    exact decide_eq_false (by omega)
/-- The one below. -/
theorem near_at_down (b X B t k : Nat) (r n : Int) (hB : 0 < B) (hk : k ≤ 2048) (hk2 : t ≠ 0 → 1024 ≤ k) (h : NearBy X B t k) (hX : X ≤ 4611686018427387904) (hB2 : B ≤ 4398046511104) (h0 : t * 1024 + k ≠ 0) :
    NearAt (sgn b X) B (sgn b (valN (t * 1024 + k))) r n (sgn b (valN (t * 1024 + k - 1))) true (decide ((t * 1024 + k) % 2 = 1)) := by
  obtain ⟨b0, _, b1⟩ := near_bound X B t k hB hk hk2 h hX hB2
  obtain ⟨u1, u2⟩ := near_down X B t k hB hk hk2 h h0
  refine ⟨?_, fun _ => ?_, ?_, fun _ => ?_, fun _ => ?_, fun _ e => ?_⟩
  · rw [sgn_mul]; exact room_of b _ b0
  · rw [sgn_mul]; exact room_of b _ b1
  · rw [sgn_mul]; exact dif_of b X _ hX b0
  · rw [sgn_mul]; exact dif_of b X _ hX b1
  · rw [sgn_mul, sgn_mul, sgn_sub, sgn_sub]; exact u1
  · rw [sgn_mul, sgn_mul, sgn_sub, sgn_sub] at e
    have := u2 e
    exact decide_eq_false (by omega)
/-- The one on the other side of nought. -/
theorem near_at_nought (b X B : Nat) (r n : Int) (_hb : b ≤ 1) (hB : 0 < B) (h : NearBy X B 0 0) (hB2 : B ≤ 4398046511104) :
    NearAt (sgn b X) B (sgn b (valN (0 * 1024 + 0))) r n (sgn (1 - b) 1) true (decide ((0 * 1024 + 0) % 2 = 1)) := by
  obtain ⟨h1, h2, h3, h4, h5⟩ := h
  simp at h1
  have v0 : valN (0 * 1024 + 0) = 0 := by decide
  rw [v0]
  have e0 : sgn b 0 * (B : Int) = 0 := by rw [sgn_mul, Nat.zero_mul]; unfold sgn; split <;> rfl
  have e1 : sgn (1 - b) 1 * (B : Int) = sgn (1 - b) B := by rw [sgn_mul, Nat.one_mul]
  rw [Nat.zero_mul] at *
  refine ⟨by rw [e0]; exact w63_ok 0 (by decide) (by decide), fun _ => ?_, ?_, fun _ => ?_, fun _ => ?_, fun _ _ => rfl⟩
  · rw [e1]; exact room_of _ _ (by omega)
  · rw [e0]; unfold sgn; split <;> omega
  · rw [e1]; unfold sgn; split <;> split <;> omega
  · rw [e0, e1]; unfold sgn; split <;> split <;> omega

end Go.Proofs.Yteniijmnpgdpcaa
