/-
  Sums of halves: what they are told as, by the whole numbers that they are.
-/
import Derived.Test.YteniijmnpgdpcaaFAddC
import Derived.Test.YteniijmnpgdpcaaFTwo
namespace Go.Proofs.Yteniijmnpgdpcaa
open Go.RowKit

/-- The half told for z parts of 2 to the -24; s: the sign of a nought. -/
def hv (z : Int) (s : Bool) : Int := (if z < 0 then 32768 else if z = 0 then (s.toNat : Int) * 32768 else 0) + ((min (bitsN z.natAbs) 31744 : Nat) : Int)
theorem hv_neg (n : Nat) (s : Bool) (h : n ≠ 0) : hv (-(n : Int)) s = 32768 + ((min (bitsN n) 31744 : Nat) : Int) := by
  unfold hv; rw [if_pos (by omega), Int.natAbs_neg]; rfl
theorem hv_pos (n : Nat) (s : Bool) (h : n ≠ 0) : hv (n : Int) s = ((min (bitsN n) 31744 : Nat) : Int) := by
  unfold hv; rw [if_neg (by omega), if_neg (by omega), Int.zero_add]; rfl
theorem hv_zero (s : Bool) : hv 0 s = (s.toNat : Int) * 32768 := by
  have : bitsN 0 = 0 := by decide
  unfold hv; rw [if_neg (by omega), if_pos rfl]; simp [this]
theorem hv_sg (s : Bool) (n : Nat) (t : Bool) (h : n = 0 → t = s) : (s.toNat : Int) * 32768 + ((min (bitsN n) 31744 : Nat) : Int) = hv (if s = true then -(n : Int) else n) t := by
  by_cases h0 : n = 0
  · subst h0
    rw [h rfl]
    have e : (if s = true then -((0 : Nat) : Int) else ((0 : Nat) : Int)) = 0 := by split <;> rfl
    have : bitsN 0 = 0 := by decide
    rw [e, hv_zero, this]; simp
  · cases s
    · rw [if_neg (by decide), hv_pos n t h0]; simp
    · rw [if_pos rfl, hv_neg n t h0]; simp

/-- What m 2^e is, in parts of 2 to the -24. -/
def zz (s : Bool) (m : Nat) (e : Int) : Int := if s = true then -((m * 2 ^ (e + 24).toNat : Nat) : Int) else ((m * 2 ^ (e + 24).toNat : Nat) : Int)

theorem told_at (X : Nat) (e : Int) (j : Nat) (hj : e + 24 = j) (hb : X * 2 ^ j < 18446744073709551616) : toldOf 10 (-24) X e false = bitsN (X * 2 ^ j) := by
  have h := told_scale 10 (-24) X j e hb
  rw [← h, show e - (j : Int) = -24 by omega]
  exact told_half _ hb

theorem finEsV (s : Bool) (m1 m2 : Nat) (e : Int) (h1 : m1 < 2048) (h2 : m2 < 2048) (he0 : -200 ≤ e) (he1 : e ≤ 200) : FinBoth16 s s m1 m2 e e (s.toNat * 32768 + ((min (toldOf 10 (-24) (m1 + m2) e false) 31744 : Nat) : Int)) := by
  have S := specRound16 s (m1 + m2) (by omega) e (by omega) (by omega) false
  have I := implRound16 s (m1 * 1073741824 + m2 * 1073741824) (by omega) (e - 30) (by omega) (by omega) false
  rw [near_told 10 (-24) (m1 + m2) _ 0 e e (by omega) (by omega) (by omega) (by omega)] at I
  refine ⟨sumNs16 s m1 m2 e e m1 ((m1 + m2 : Nat) : Int) _ 0 (by omega) (by rw [Int.sub_self]; unfold wrap64; rw [IntKind.wrap_u64]; decide) (by decide) (by decide) (by rw [IntKind.wrap_u64]; simp; omega) (by rw [IntKind.wrap_u64]; omega) S, ?_⟩
  have hE : IntKind.i64.wrap (e - 30) = e - 30 := by rw [IntKind.wrap_i64]; omega
  have hA : IntKind.u64.wrap ((m1 : Int) * 1073741824) = ((m1 * 1073741824 : Nat) : Int) := by rw [IntKind.wrap_u64]; omega
  have hB : IntKind.u64.wrap ((m2 : Int) * 1073741824) = ((m2 * 1073741824 : Nat) : Int) := by rw [IntKind.wrap_u64]; omega
  rcases Nat.lt_trichotomy m1 m2 with h | h | h
  · have k3 : ((m2 : Int) == (m1 : Int)) = false := by simp; omega
    have hM : IntKind.u64.wrap (((m2 * 1073741824 : Nat) : Int) + ((m1 * 1073741824 : Nat) : Int)) = ((m1 * 1073741824 + m2 * 1073741824 : Nat) : Int) := by rw [IntKind.wrap_u64]; omega
    exact ⟨addW1s16 s false m2 m1 e _ _ _ _ _ (by omega) k3 hB hA hM hE (lost0 (m1 * 1073741824) (by omega)) I, addO1s16 s false m2 m1 e _ _ _ _ _ (by omega) k3 hB hA hM hE (lost0 (m1 * 1073741824) (by omega)) I⟩
  · subst h
    have hM : IntKind.u64.wrap (((m1 * 1073741824 : Nat) : Int) + ((m1 * 1073741824 : Nat) : Int)) = ((m1 * 1073741824 + m1 * 1073741824 : Nat) : Int) := by rw [IntKind.wrap_u64]; omega
    have H := addE1s16 s false m1 e _ _ _ _ hA hM hE (lost0 (m1 * 1073741824) (by omega)) I
    exact ⟨H, H⟩
  · have k3 : ((m1 : Int) == (m2 : Int)) = false := by simp; omega
    have hM : IntKind.u64.wrap (((m1 * 1073741824 : Nat) : Int) + ((m2 * 1073741824 : Nat) : Int)) = ((m1 * 1073741824 + m2 * 1073741824 : Nat) : Int) := by rw [IntKind.wrap_u64]; omega
    exact ⟨addO1s16 s false m1 m2 e _ _ _ _ _ (by omega) k3 hA hB hM hE (lost0 (m2 * 1073741824) (by omega)) I, addW1s16 s false m1 m2 e _ _ _ _ _ (by omega) k3 hA hB hM hE (lost0 (m2 * 1073741824) (by omega)) I⟩

theorem finEdV (s : Bool) (m1 m2 : Nat) (e : Int) (h1 : m1 < 2048) (h2 : m2 < 2048) (he0 : -200 ≤ e) (he1 : e ≤ 200) : ∃ r, FinBoth16 s (!s) m1 m2 e e r ∧
    (m1 < m2 → r = ((!s).toNat : Int) * 32768 + ((min (toldOf 10 (-24) (m2 - m1) e false) 31744 : Nat) : Int)) ∧ (m1 = m2 → r = 0) ∧ (m2 < m1 → r = (s.toNat : Int) * 32768 + ((min (toldOf 10 (-24) (m1 - m2) e false) 31744 : Nat) : Int)) := by
  have w0 : IntKind.u64.wrap (wrap64 (e - e)) = ((0 : Nat) : Int) := by rw [Int.sub_self]; unfold wrap64; rw [IntKind.wrap_u64]; decide
  have w1 : IntKind.u64.wrap ((m1 : Int) * 2 ^ 0) = (m1 : Int) := by rw [IntKind.wrap_u64]; simp; omega
  rcases Nat.lt_trichotomy m1 m2 with h | h | h
  · have S := specRound16 (!s) (m2 - m1) (by omega) e (by omega) (by omega) false
    generalize hr : ((!s).toNat : Int) * 32768 + ((min (toldOf 10 (-24) (m2 - m1) e false) 31744 : Nat) : Int) = r at S
    have H := finEgI16 (!s) m2 m1 e h2 h he0 he1 r hr
    rw [Bool.not_not] at H
    have v := sub_u64 m2 m1 (m2 - m1) (by omega) (by omega)
    have k : (m1 : Int) < (m2 : Int) := by omega
    refine ⟨r, ⟨?_, H.2, H.1⟩, fun _ => rfl, fun g => by omega, fun g => by omega⟩
    clear hr
    generalize m2 - m1 = X at *
    exact sumNb16 s m1 m2 e e m1 X r 0 (by omega) w0 (by decide) (by decide) w1 k v S
  · subst h
    have H := addO1z16 (!s) m1 e
    rw [Bool.not_not] at H
    exact ⟨0, ⟨sumNz16 s m1 m1 e e m1 0 (by omega) w0 (by decide) (by decide) w1 (by omega) (by rw [Int.sub_self]; decide), addO1z16 s m1 e, H⟩, fun g => by omega, fun _ => rfl, fun g => by omega⟩
  · have S := specRound16 s (m1 - m2) (by omega) e (by omega) (by omega) false
    generalize hr : (s.toNat : Int) * 32768 + ((min (toldOf 10 (-24) (m1 - m2) e false) 31744 : Nat) : Int) = r at S
    have H := finEgI16 s m1 m2 e h1 h he0 he1 r hr
    have v := sub_u64 m1 m2 (m1 - m2) (by omega) (by omega)
    have k : ¬ (m1 : Int) < (m2 : Int) := by omega
    have k5 : (((m1 - m2 : Nat) : Int) == 0) = false := by simp; omega
    refine ⟨r, ⟨?_, H.1, H.2⟩, fun g => by omega, fun g => by omega, fun _ => rfl⟩
    clear hr
    generalize m1 - m2 = X at *
    exact sumNa16 s m1 m2 e e m1 X r 0 (by omega) w0 (by decide) (by decide) w1 k v k5 S

theorem finNsV (s : Bool) (m1 m2 d : Nat) (e1 e2 : Int) (h1 : m1 < 2048) (h2 : m2 < 2048) (hd0 : 1 ≤ d) (hd : d ≤ 30) (he : e1 = e2 + d) (he0 : -200 ≤ e2) (he1 : e1 ≤ 200) : FinBoth16 s s m1 m2 e1 e2 ((s.toNat : Int) * 32768 + ((min (toldOf 10 (-24) (m1 * 2 ^ d + m2) e2 false) 31744 : Nat) : Int)) := by
  obtain ⟨A, hA⟩ : ∃ A, m1 * 1073741824 = A := ⟨_, rfl⟩
  obtain ⟨B, hB⟩ : ∃ B, m2 * 1073741824 = B := ⟨_, rfl⟩
  obtain ⟨L, hL⟩ : ∃ L, B / 2 ^ d = L := ⟨_, rfl⟩
  obtain ⟨N, hN⟩ : ∃ N, m1 * 2 ^ d = N := ⟨_, rfl⟩
  have hnd := near_div m2 d hd
  rw [hB, hL] at hnd
  have hnm := near_mul m1 d hd
  rw [hA, hN] at hnm
  have hNA := pow_near m1 d hd
  rw [hN, hA] at hNA
  have hL2 : L ≤ B := by rw [← hL]; exact Nat.div_le_self _ _
  have hMM : A + L = (N + m2) * 2 ^ (30 - d) := by rw [hnm, hnd.1, Nat.add_mul]
  have S := specRound16 s (N + m2) (by omega) e2 (by omega) (by omega) false
  have I := implRound16 s (A + L) (by omega) (e1 - 30) (by omega) (by omega) false
  rw [near_told 10 (-24) (N + m2) (A + L) d e1 e2 hd he hMM (by omega)] at I
  have LT := lostAny B d (by omega)
  rw [hnd.2, show decide ((0 : Nat) ≠ 0) = false by decide] at LT
  have v3 := shr_any B d (by omega)
  rw [hL] at v3
  have vA := mul_u64 m1 A hA (by omega)
  have vB := mul_u64 m2 B hB (by omega)
  have v4 := add_u64 A L (A + L) rfl (by omega)
  have vS := add_u64 N m2 (N + m2) rfl (by omega)
  have v0 := sub_i64 e1 e2 d he (by omega)
  have vN := pow_u64 m1 d N hN (by omega)
  have hE : IntKind.i64.wrap (e1 - 30) = e1 - 30 := by rw [IntKind.wrap_i64]; omega
  have k1 : ¬ e1 < e2 := by omega
  have k1' : e2 < e1 := by omega
  have k2 : (e1 == e2) = false := by simp; omega
  have kd : (d : Int) ≤ 30 := by omega
  have km : min d 64 = d := by omega
  rw [hN]
  generalize (s.toNat : Int) * 32768 + ((min (toldOf 10 (-24) (N + m2) e2 false) 31744 : Nat) : Int) = r at *
  generalize A + L = M at *
  generalize N + m2 = X at *
  clear hMM hnm hnd hL2 hNA hA hB hL hN he he0 he1 hd hd0 h1 h2
  exact ⟨sumNs16 s m1 m2 e1 e2 N X r d k1 v0.2 kd km vN vS S, addO2s16 s false m1 m2 e1 e2 A B L M (e1 - 30) r k1 k2 d v0.1 vA vB v3 v4 hE LT I, addW2s16 s false m1 m2 e1 e2 A B L M (e1 - 30) r k1' k2 d v0.1 vA vB v3 v4 hE LT I⟩

theorem finNdV (s : Bool) (m1 m2 d : Nat) (e1 e2 : Int) (h1 : m1 < 2048) (h2 : m2 < 2048) (hp : 1024 ≤ m1) (hd0 : 1 ≤ d) (hd : d ≤ 30) (he : e1 = e2 + d) (he0 : -200 ≤ e2) (he1 : e1 ≤ 200) : m2 < m1 * 2 ^ d ∧ FinBoth16 s (!s) m1 m2 e1 e2 ((s.toNat : Int) * 32768 + ((min (toldOf 10 (-24) (m1 * 2 ^ d - m2) e2 false) 31744 : Nat) : Int)) := by
  have hgt := near_gt m1 m2 d 1024 hp h2 hd0
  refine ⟨hgt, ?_⟩
  obtain ⟨A, hA⟩ : ∃ A, m1 * 1073741824 = A := ⟨_, rfl⟩
  obtain ⟨B, hB⟩ : ∃ B, m2 * 1073741824 = B := ⟨_, rfl⟩
  obtain ⟨L, hL⟩ : ∃ L, B / 2 ^ d = L := ⟨_, rfl⟩
  obtain ⟨N, hN⟩ : ∃ N, m1 * 2 ^ d = N := ⟨_, rfl⟩
  rw [hN] at hgt
  have hnd := near_div m2 d hd
  rw [hB, hL] at hnd
  have hnm := near_mul m1 d hd
  rw [hA, hN] at hnm
  have hNA := pow_near m1 d hd
  rw [hN, hA] at hNA
  obtain ⟨X, hX⟩ : ∃ X, N = m2 + X := ⟨N - m2, by omega⟩
  obtain ⟨M, hM⟩ : ∃ M, X * 2 ^ (30 - d) = M := ⟨_, rfl⟩
  have hMM : A = L + M := by rw [hnm, hnd.1, hX, Nat.add_mul, hM]
  have S := specRound16 s X (by omega) e2 (by omega) (by omega) false
  have I := implRound16 s M (by omega) (e1 - 30) (by omega) (by omega) false
  rw [near_told 10 (-24) X M d e1 e2 hd he hM.symm (by omega)] at I
  have hL2 : L ≤ B := by rw [← hL]; exact Nat.div_le_self _ _
  have LT := lostAny B d (by omega)
  rw [hnd.2, show decide ((0 : Nat) ≠ 0) = false by decide] at LT
  have v3 := shr_any B d (by omega)
  rw [hL] at v3
  have vA := mul_u64 m1 A hA (by omega)
  have vB := mul_u64 m2 B hB (by omega)
  have v4 := sub_u64 A L M hMM (by omega)
  have v5 : IntKind.u64.wrap ((M : Int) - ((false.toNat : Nat) : Int)) = (M : Int) := by
    rw [show (M : Int) - ((false.toNat : Nat) : Int) = (M : Int) by simp]; exact u64n M (by omega)
  have vS := sub_u64 N m2 X hX (by omega)
  have v0 := sub_i64 e1 e2 d he (by omega)
  have vN := pow_u64 m1 d N hN (by omega)
  have hE : IntKind.i64.wrap (e1 - 30) = e1 - 30 := by rw [IntKind.wrap_i64]; omega
  have k1 : ¬ e1 < e2 := by omega
  have k1' : e2 < e1 := by omega
  have k2 : (e1 == e2) = false := by simp; omega
  have k4 : ¬ (N : Int) < (m2 : Int) := by omega
  have k5 : ((X : Int) == 0) = false := by simp; omega
  have kd : (d : Int) ≤ 30 := by omega
  have km : min d 64 = d := by omega
  rw [hN, show N - m2 = X by omega]
  generalize (s.toNat : Int) * 32768 + ((min (toldOf 10 (-24) X e2 false) 31744 : Nat) : Int) = r at *
  clear hMM hnm hnd hL2 hNA hA hB hL hN he he0 he1 hd hd0 h1 h2 hX hM hgt hp
  exact ⟨sumNa16 s m1 m2 e1 e2 N X r d k1 v0.2 kd km vN k4 vS k5 S, addO2d16 s false m1 m2 e1 e2 A B L M (e1 - 30) r k1 k2 d v0.1 vA vB v3 M v4 v5 hE LT I, addW2d16 s false m1 m2 e1 e2 A B L M (e1 - 30) r k1' k2 d v0.1 vA vB v3 M v4 v5 hE LT I⟩

/-- All of them. -/
theorem finV (s1 s2 : Bool) (m1 m2 : Nat) (e1 e2 : Int) (h1 : m1 < 2048) (h2 : m2 < 2048) (he : e2 ≤ e1) (he0 : -24 ≤ e2) (he1 : e1 ≤ 5) (hp : -24 < e1 → 1024 ≤ m1) : FinBoth16 s1 s2 m1 m2 e1 e2 (hv (zz s1 m1 e1 + zz s2 m2 e2) (s1 && s2)) := by
  obtain ⟨d, hd⟩ : ∃ d : Nat, e1 = e2 + d := ⟨(e1 - e2).toNat, by omega⟩
  obtain ⟨j, hj⟩ : ∃ j : Nat, e2 + 24 = j := ⟨(e2 + 24).toNat, by omega⟩
  have hj2 : (e2 + 24).toNat = j := by omega
  have hj1 : (e1 + 24).toNat = d + j := by omega
  have hdj : d + j ≤ 29 := by omega
  have b1 : m1 * 2 ^ (d + j) ≤ 2048 * 2 ^ 29 := Nat.mul_le_mul (by omega) (Nat.pow_le_pow_right (by omega) hdj)
  have b2 : m2 * 2 ^ j ≤ 2048 * 2 ^ 29 := Nat.mul_le_mul (by omega) (Nat.pow_le_pow_right (by omega) (by omega))
  have p29 : (2 : Nat) ^ 29 = 536870912 := by decide
  rw [p29] at b1 b2
  have x1 : m1 * 2 ^ d * 2 ^ j = m1 * 2 ^ (d + j) := by rw [Nat.mul_assoc, ← Nat.pow_add]
  unfold zz
  rw [hj1, hj2]
  have hs : s2 = s1 ∨ s2 = !s1 := by cases s1 <;> cases s2 <;> simp
  by_cases h0 : d = 0
  · subst h0
    obtain rfl : e1 = e2 := by omega
    rw [Nat.zero_add] at b1 ⊢
    rcases hs with rfl | rfl
    · have H := finEsV s2 m1 m2 e1 h1 h2 (by omega) (by omega)
      rw [told_at (m1 + m2) e1 j hj (by rw [Nat.add_mul]; omega), Nat.add_mul, hv_sg s2 _ (s2 && s2) (by intro _; simp)] at H
      cases s2
      · simpa using H
      · rw [if_pos rfl] at H
        rw [if_pos rfl, if_pos rfl]
        rw [show -((m1 * 2 ^ j : Nat) : Int) + -((m2 * 2 ^ j : Nat) : Int) = -((m1 * 2 ^ j + m2 * 2 ^ j : Nat) : Int) by omega]
        exact H
    · obtain ⟨r, H, q1, q2, q3⟩ := finEdV s1 m1 m2 e1 h1 h2 (by omega) (by omega)
      have hr : r = hv ((if s1 = true then -((m1 * 2 ^ j : Nat) : Int) else ((m1 * 2 ^ j : Nat) : Int)) + (if (!s1) = true then -((m2 * 2 ^ j : Nat) : Int) else ((m2 * 2 ^ j : Nat) : Int))) (s1 && !s1) := by
        have hpj := Nat.two_pow_pos j
        rcases Nat.lt_trichotomy m1 m2 with g | g | g
        · have g2 : m1 * 2 ^ j < m2 * 2 ^ j := Nat.mul_lt_mul_of_pos_right g hpj
          rw [q1 g, told_at (m2 - m1) e1 j hj (by rw [Nat.sub_mul]; omega), Nat.sub_mul, hv_sg (!s1) _ (s1 && !s1) (by intro h; omega)]
          congr 1
          generalize m1 * 2 ^ j = a at *
          generalize m2 * 2 ^ j = b at *
          cases s1 <;> simp <;> omega
        · subst g
          rw [q2 rfl]
          have : (if s1 = true then -((m1 * 2 ^ j : Nat) : Int) else ((m1 * 2 ^ j : Nat) : Int)) + (if (!s1) = true then -((m1 * 2 ^ j : Nat) : Int) else ((m1 * 2 ^ j : Nat) : Int)) = 0 := by
            generalize m1 * 2 ^ j = a
            cases s1 <;> simp <;> omega
          rw [this, hv_zero]
          cases s1 <;> rfl
        · have g2 : m2 * 2 ^ j < m1 * 2 ^ j := Nat.mul_lt_mul_of_pos_right g hpj
          rw [q3 g, told_at (m1 - m2) e1 j hj (by rw [Nat.sub_mul]; omega), Nat.sub_mul, hv_sg s1 _ (s1 && !s1) (by intro h; omega)]
          congr 1
          generalize m1 * 2 ^ j = a at *
          generalize m2 * 2 ^ j = b at *
          cases s1 <;> simp <;> omega
      rw [← hr]
      exact H
  · have hp' := hp (by omega)
    rcases hs with rfl | rfl
    · have H := finNsV s2 m1 m2 d e1 e2 h1 h2 (by omega) (by omega) hd (by omega) (by omega)
      rw [told_at (m1 * 2 ^ d + m2) e2 j hj (by rw [Nat.add_mul, x1]; omega), Nat.add_mul, x1, hv_sg s2 _ (s2 && s2) (by intro _; simp)] at H
      cases s2
      · simpa using H
      · rw [if_pos rfl] at H
        rw [if_pos rfl, if_pos rfl]
        rw [show -((m1 * 2 ^ (d + j) : Nat) : Int) + -((m2 * 2 ^ j : Nat) : Int) = -((m1 * 2 ^ (d + j) + m2 * 2 ^ j : Nat) : Int) by omega]
        exact H
    · obtain ⟨g, H⟩ := finNdV s1 m1 m2 d e1 e2 h1 h2 hp' (by omega) (by omega) hd (by omega) (by omega)
      have g2 : m2 * 2 ^ j < m1 * 2 ^ (d + j) := by rw [← x1]; exact Nat.mul_lt_mul_of_pos_right g (Nat.two_pow_pos j)
      rw [told_at (m1 * 2 ^ d - m2) e2 j hj (by rw [Nat.sub_mul, x1]; omega), Nat.sub_mul, x1, hv_sg s1 _ (s1 && !s1) (by intro h; omega)] at H
      have e : (if s1 = true then -((m1 * 2 ^ (d + j) - m2 * 2 ^ j : Nat) : Int) else ((m1 * 2 ^ (d + j) - m2 * 2 ^ j : Nat) : Int)) = (if s1 = true then -((m1 * 2 ^ (d + j) : Nat) : Int) else ((m1 * 2 ^ (d + j) : Nat) : Int)) + (if (!s1) = true then -((m2 * 2 ^ j : Nat) : Int) else ((m2 * 2 ^ j : Nat) : Int)) := by
        generalize m1 * 2 ^ (d + j) = a at *
        generalize m2 * 2 ^ j = b at *
        cases s1 <;> simp <;> omega
      rw [← e]
      exact H

end Go.Proofs.Yteniijmnpgdpcaa
