/-
  Sums of finite floats of other exponents: both sides tell the same.
-/
import Derived.Test.YteniijmnpgdpcaaFAddD
namespace Go.Proofs.Yteniijmnpgdpcaa
open Go.RowKit

theorem sub_i64 (e1 e2 : Int) (d : Nat) (h : e1 = e2 + d) (hd : d ≤ 1000) : wrap64 (e1 - e2) = (d : Int) ∧ IntKind.u64.wrap (wrap64 (e1 - e2)) = (d : Int) := by
  have h1 : wrap64 (e1 - e2) = (d : Int) := by unfold wrap64; omega
  rw [h1]
  exact ⟨rfl, u64n d (by omega)⟩
theorem pow_u64 (m d A : Nat) (h : m * 2 ^ d = A) (hA : A < 18446744073709551616) : IntKind.u64.wrap ((m : Int) * 2 ^ d) = (A : Int) := by
  rw [show (m : Int) * 2 ^ d = (A : Int) by rw [← h]; simp]
  exact u64n A hA

/-- At most thirty places apart, the same sign. -/
theorem finNs16 (s : Bool) (m1 m2 d : Nat) (e1 e2 : Int) (h1 : m1 < 2 * 1024) (h2 : m2 < 2 * 1024) (hd0 : 1 ≤ d) (hd : d ≤ 30) (he : e1 = e2 + d) (he0 : -200 ≤ e2) (he1 : e1 ≤ 200) : ∃ r, FinBoth16 s s m1 m2 e1 e2 r := by
  obtain ⟨A, hA⟩ : ∃ A, m1 * 1073741824 = A := ⟨_, rfl⟩
  obtain ⟨B, hB⟩ : ∃ B, m2 * 1073741824 = B := ⟨_, rfl⟩
  obtain ⟨L, hL⟩ : ∃ L, B / 2 ^ d = L := ⟨_, rfl⟩
  obtain ⟨N, hN⟩ : ∃ N, m1 * 2 ^ d = N := ⟨_, rfl⟩
  have hnd := near_div m2 d hd
  rw [hB, hL] at hnd
  have hnm := near_mul m1 d hd
  rw [hA, hN] at hnm
  have hNA := pow_near m1 d hd
  rw [hN, hA] at hNA
  have hL2 : L ≤ B := by rw [← hL]; exact Nat.div_le_self _ _
  have hMM : A + L = (N + m2) * 2 ^ (30 - d) := by rw [hnm, hnd.1, Nat.add_mul]
  have S := specRound16 s (N + m2) (by omega) e2 (by omega) (by omega) false
  have I := implRound16 s (A + L) (by omega) (e1 - 30) (by omega) (by omega) false
  rw [near_told 10 (-24) (N + m2) (A + L) d e1 e2 hd he hMM (by omega)] at I
  have LT := lostAny B d (by omega)
  rw [hnd.2, show decide ((0 : Nat) ≠ 0) = false by decide] at LT
  have v3 := shr_any B d (by omega)
  rw [hL] at v3
  have vA := mul_u64 m1 A hA (by omega)
  have vB := mul_u64 m2 B hB (by omega)
  have v4 := add_u64 A L (A + L) rfl (by omega)
  have vS := add_u64 N m2 (N + m2) rfl (by omega)
  have v0 := sub_i64 e1 e2 d he (by omega)
  have vN := pow_u64 m1 d N hN (by omega)
  have hE : IntKind.i64.wrap (e1 - 30) = e1 - 30 := by rw [IntKind.wrap_i64]; omega
  have k1 : ¬ e1 < e2 := by omega
  have k1' : e2 < e1 := by omega
  have k2 : (e1 == e2) = false := by simp; omega
  have kd : (d : Int) ≤ 30 := by omega
  have km : min d 64 = d := by omega
  generalize (s.toNat : Int) * 32768 + ((min (toldOf 10 (-24) (N + m2) e2 false) 31744 : Nat) : Int) = r at *
  generalize A + L = M at *
  generalize N + m2 = X at *
  clear hMM hnm hnd hL2 hNA hA hB hL hN he he0 he1 hd hd0 h1 h2
  exact ⟨r, sumNs16 s m1 m2 e1 e2 N X r d k1 v0.2 kd km vN vS S, addO2s16 s false m1 m2 e1 e2 A B L M (e1 - 30) r k1 k2 d v0.1 vA vB v3 v4 hE LT I, addW2s16 s false m1 m2 e1 e2 A B L M (e1 - 30) r k1' k2 d v0.1 vA vB v3 v4 hE LT I⟩

/-- At most thirty places apart, the same sign. -/
theorem finNs32 (s : Bool) (m1 m2 d : Nat) (e1 e2 : Int) (h1 : m1 < 2 * 8388608) (h2 : m2 < 2 * 8388608) (hd0 : 1 ≤ d) (hd : d ≤ 30) (he : e1 = e2 + d) (he0 : -200 ≤ e2) (he1 : e1 ≤ 200) : ∃ r, FinBoth32 s s m1 m2 e1 e2 r := by
  obtain ⟨A, hA⟩ : ∃ A, m1 * 1073741824 = A := ⟨_, rfl⟩
  obtain ⟨B, hB⟩ : ∃ B, m2 * 1073741824 = B := ⟨_, rfl⟩
  obtain ⟨L, hL⟩ : ∃ L, B / 2 ^ d = L := ⟨_, rfl⟩
  obtain ⟨N, hN⟩ : ∃ N, m1 * 2 ^ d = N := ⟨_, rfl⟩
  have hnd := near_div m2 d hd
  rw [hB, hL] at hnd
  have hnm := near_mul m1 d hd
  rw [hA, hN] at hnm
  have hNA := pow_near m1 d hd
  rw [hN, hA] at hNA
  have hL2 : L ≤ B := by rw [← hL]; exact Nat.div_le_self _ _
  have hMM : A + L = (N + m2) * 2 ^ (30 - d) := by rw [hnm, hnd.1, Nat.add_mul]
  have S := specRound32 s (N + m2) (by omega) e2 (by omega) (by omega) false
  have I := implRound32 s (A + L) (by omega) (e1 - 30) (by omega) (by omega) false
  rw [near_told 23 (-149) (N + m2) (A + L) d e1 e2 hd he hMM (by omega)] at I
  have LT := lostAny B d (by omega)
  rw [hnd.2, show decide ((0 : Nat) ≠ 0) = false by decide] at LT
  have v3 := shr_any B d (by omega)
  rw [hL] at v3
  have vA := mul_u64 m1 A hA (by omega)
  have vB := mul_u64 m2 B hB (by omega)
  have v4 := add_u64 A L (A + L) rfl (by omega)
  have vS := add_u64 N m2 (N + m2) rfl (by omega)
  have v0 := sub_i64 e1 e2 d he (by omega)
  have vN := pow_u64 m1 d N hN (by omega)
  have hE : IntKind.i64.wrap (e1 - 30) = e1 - 30 := by rw [IntKind.wrap_i64]; omega
  have k1 : ¬ e1 < e2 := by omega
  have k1' : e2 < e1 := by omega
  have k2 : (e1 == e2) = false := by simp; omega
  have kd : (d : Int) ≤ 30 := by omega
  have km : min d 64 = d := by omega
  generalize (s.toNat : Int) * 2147483648 + ((min (toldOf 23 (-149) (N + m2) e2 false) 2139095040 : Nat) : Int) = r at *
  generalize A + L = M at *
  generalize N + m2 = X at *
  clear hMM hnm hnd hL2 hNA hA hB hL hN he he0 he1 hd hd0 h1 h2
  exact ⟨r, sumNs32 s m1 m2 e1 e2 N X r d k1 v0.2 kd km vN vS S, addO2s32 s false m1 m2 e1 e2 A B L M (e1 - 30) r k1 k2 d v0.1 vA vB v3 v4 hE LT I, addW2s32 s false m1 m2 e1 e2 A B L M (e1 - 30) r k1' k2 d v0.1 vA vB v3 v4 hE LT I⟩

/-- .. other signs. -/
theorem finNd16 (s : Bool) (m1 m2 d : Nat) (e1 e2 : Int) (h1 : m1 < 2 * 1024) (h2 : m2 < 2 * 1024) (hp : 1024 ≤ m1) (hd0 : 1 ≤ d) (hd : d ≤ 30) (he : e1 = e2 + d) (he0 : -200 ≤ e2) (he1 : e1 ≤ 200) : ∃ r, FinBoth16 s (!s) m1 m2 e1 e2 r := by
  have hgt := near_gt m1 m2 d 1024 hp h2 hd0
  obtain ⟨A, hA⟩ : ∃ A, m1 * 1073741824 = A := ⟨_, rfl⟩
  obtain ⟨B, hB⟩ : ∃ B, m2 * 1073741824 = B := ⟨_, rfl⟩
  obtain ⟨L, hL⟩ : ∃ L, B / 2 ^ d = L := ⟨_, rfl⟩
  obtain ⟨N, hN⟩ : ∃ N, m1 * 2 ^ d = N := ⟨_, rfl⟩
  rw [hN] at hgt
  have hnd := near_div m2 d hd
  rw [hB, hL] at hnd
  have hnm := near_mul m1 d hd
  rw [hA, hN] at hnm
  have hNA := pow_near m1 d hd
  rw [hN, hA] at hNA
  obtain ⟨X, hX⟩ : ∃ X, N = m2 + X := ⟨N - m2, by omega⟩
  obtain ⟨M, hM⟩ : ∃ M, X * 2 ^ (30 - d) = M := ⟨_, rfl⟩
  have hMM : A = L + M := by rw [hnm, hnd.1, hX, Nat.add_mul, hM]
  have S := specRound16 s X (by omega) e2 (by omega) (by omega) false
  have I := implRound16 s M (by omega) (e1 - 30) (by omega) (by omega) false
  rw [near_told 10 (-24) X M d e1 e2 hd he hM.symm (by omega)] at I
  have hL2 : L ≤ B := by rw [← hL]; exact Nat.div_le_self _ _
  have LT := lostAny B d (by omega)
  rw [hnd.2, show decide ((0 : Nat) ≠ 0) = false by decide] at LT
  have v3 := shr_any B d (by omega)
  rw [hL] at v3
  have vA := mul_u64 m1 A hA (by omega)
  have vB := mul_u64 m2 B hB (by omega)
  have v4 := sub_u64 A L M hMM (by omega)
  have v5 : IntKind.u64.wrap ((M : Int) - ((false.toNat : Nat) : Int)) = (M : Int) := by
    rw [show (M : Int) - ((false.toNat : Nat) : Int) = (M : Int) by simp]; exact u64n M (by omega)
  have vS := sub_u64 N m2 X hX (by omega)
  have v0 := sub_i64 e1 e2 d he (by omega)
  have vN := pow_u64 m1 d N hN (by omega)
  have hE : IntKind.i64.wrap (e1 - 30) = e1 - 30 := by rw [IntKind.wrap_i64]; omega
  have k1 : ¬ e1 < e2 := by omega
  have k1' : e2 < e1 := by omega
  have k2 : (e1 == e2) = false := by simp; omega
  have k4 : ¬ (N : Int) < (m2 : Int) := by omega
  have k5 : ((X : Int) == 0) = false := by simp; omega
  have kd : (d : Int) ≤ 30 := by omega
  have km : min d 64 = d := by omega
  generalize (s.toNat : Int) * 32768 + ((min (toldOf 10 (-24) X e2 false) 31744 : Nat) : Int) = r at *
  clear hMM hnm hnd hL2 hNA hA hB hL hN he he0 he1 hd hd0 h1 h2 hX hM hgt hp
  exact ⟨r, sumNa16 s m1 m2 e1 e2 N X r d k1 v0.2 kd km vN k4 vS k5 S, addO2d16 s false m1 m2 e1 e2 A B L M (e1 - 30) r k1 k2 d v0.1 vA vB v3 M v4 v5 hE LT I, addW2d16 s false m1 m2 e1 e2 A B L M (e1 - 30) r k1' k2 d v0.1 vA vB v3 M v4 v5 hE LT I⟩

/-- .. other signs. -/
theorem finNd32 (s : Bool) (m1 m2 d : Nat) (e1 e2 : Int) (h1 : m1 < 2 * 8388608) (h2 : m2 < 2 * 8388608) (hp : 8388608 ≤ m1) (hd0 : 1 ≤ d) (hd : d ≤ 30) (he : e1 = e2 + d) (he0 : -200 ≤ e2) (he1 : e1 ≤ 200) : ∃ r, FinBoth32 s (!s) m1 m2 e1 e2 r := by
  have hgt := near_gt m1 m2 d 8388608 hp h2 hd0
  obtain ⟨A, hA⟩ : ∃ A, m1 * 1073741824 = A := ⟨_, rfl⟩
  obtain ⟨B, hB⟩ : ∃ B, m2 * 1073741824 = B := ⟨_, rfl⟩
  obtain ⟨L, hL⟩ : ∃ L, B / 2 ^ d = L := ⟨_, rfl⟩
  obtain ⟨N, hN⟩ : ∃ N, m1 * 2 ^ d = N := ⟨_, rfl⟩
  rw [hN] at hgt
  have hnd := near_div m2 d hd
  rw [hB, hL] at hnd
  have hnm := near_mul m1 d hd
  rw [hA, hN] at hnm
  have hNA := pow_near m1 d hd
  rw [hN, hA] at hNA
  obtain ⟨X, hX⟩ : ∃ X, N = m2 + X := ⟨N - m2, by omega⟩
  obtain ⟨M, hM⟩ : ∃ M, X * 2 ^ (30 - d) = M := ⟨_, rfl⟩
  have hMM : A = L + M := by rw [hnm, hnd.1, hX, Nat.add_mul, hM]
  have S := specRound32 s X (by omega) e2 (by omega) (by omega) false
  have I := implRound32 s M (by omega) (e1 - 30) (by omega) (by omega) false
  rw [near_told 23 (-149) X M d e1 e2 hd he hM.symm (by omega)] at I
  have hL2 : L ≤ B := by rw [← hL]; exact Nat.div_le_self _ _
  have LT := lostAny B d (by omega)
  rw [hnd.2, show decide ((0 : Nat) ≠ 0) = false by decide] at LT
  have v3 := shr_any B d (by omega)
  rw [hL] at v3
  have vA := mul_u64 m1 A hA (by omega)
  have vB := mul_u64 m2 B hB (by omega)
  have v4 := sub_u64 A L M hMM (by omega)
  have v5 : IntKind.u64.wrap ((M : Int) - ((false.toNat : Nat) : Int)) = (M : Int) := by
    rw [show (M : Int) - ((false.toNat : Nat) : Int) = (M : Int) by simp]; exact u64n M (by omega)
  have vS := sub_u64 N m2 X hX (by omega)
  have v0 := sub_i64 e1 e2 d he (by omega)
  have vN := pow_u64 m1 d N hN (by omega)
  have hE : IntKind.i64.wrap (e1 - 30) = e1 - 30 := by rw [IntKind.wrap_i64]; omega
  have k1 : ¬ e1 < e2 := by omega
  have k1' : e2 < e1 := by omega
  have k2 : (e1 == e2) = false := by simp; omega
  have k4 : ¬ (N : Int) < (m2 : Int) := by omega
  have k5 : ((X : Int) == 0) = false := by simp; omega
  have kd : (d : Int) ≤ 30 := by omega
  have km : min d 64 = d := by omega
  generalize (s.toNat : Int) * 2147483648 + ((min (toldOf 23 (-149) X e2 false) 2139095040 : Nat) : Int) = r at *
  clear hMM hnm hnd hL2 hNA hA hB hL hN he he0 he1 hd hd0 h1 h2 hX hM hgt hp
  exact ⟨r, sumNa32 s m1 m2 e1 e2 N X r d k1 v0.2 kd km vN k4 vS k5 S, addO2d32 s false m1 m2 e1 e2 A B L M (e1 - 30) r k1 k2 d v0.1 vA vB v3 M v4 v5 hE LT I, addW2d32 s false m1 m2 e1 e2 A B L M (e1 - 30) r k1' k2 d v0.1 vA vB v3 M v4 v5 hE LT I⟩

/-- Further apart: what spec's side tells, the same sign and others. -/
theorem farS16 (s more : Bool) (m1 m2 d A L : Nat) (e1 e2 : Int) (h2 : m2 < 2 * 1024) (hd : 30 < d) (hd2 : d ≤ 1000) (he : e1 = e2 + d) (he0 : -200 ≤ e2) (he1 : e1 ≤ 200) (hA : m1 * 1073741824 = A) (hA1 : A < 36028797018963968)
    (hL : m2 * 1073741824 / 2 ^ d = L) (hm : decide (m2 * 1073741824 % 2 ^ d ≠ 0) = more) (hLA : L + 1 < A) :
    (∀ r : Int, (∀ w, Calls Try.prog 58 #[(.agg #[.int .u64 5, .int .u64 10]), .bool s, .int .u64 ((A + L : Nat) : Int), .int .i64 (e1 - 30), .bool more] w fun e w' => e = .returned (.int .u32 r) ∧ Below w.heap.size w w') →
      ∀ w, Calls Try.prog 37 #[(.agg #[.int .u64 5, .int .u64 10]), (.agg #[.bool s, .bool false, .bool false, .int .u64 (m1 : Int), .int .i64 e1]), (.agg #[.bool s, .bool false, .bool false, .int .u64 (m2 : Int), .int .i64 e2])] w fun e w' => e = .returned (.int .u32 r) ∧ Below w.heap.size w w') ∧
    (∀ r : Int, (∀ w, Calls Try.prog 58 #[(.agg #[.int .u64 5, .int .u64 10]), .bool s, .int .u64 ((A - L - more.toNat : Nat) : Int), .int .i64 (e1 - 30), .bool more] w fun e w' => e = .returned (.int .u32 r) ∧ Below w.heap.size w w') →
      ∀ w, Calls Try.prog 37 #[(.agg #[.int .u64 5, .int .u64 10]), (.agg #[.bool s, .bool false, .bool false, .int .u64 (m1 : Int), .int .i64 e1]), (.agg #[.bool (!s), .bool false, .bool false, .int .u64 (m2 : Int), .int .i64 e2])] w fun e w' => e = .returned (.int .u32 r) ∧ Below w.heap.size w w') := by
  rw [(far_div m2 d hd).1] at hL
  rw [far_more m2 d hd] at hm
  obtain ⟨u, hu⟩ : ∃ u, d - 30 = u := ⟨_, rfl⟩
  rw [hu] at hL hm
  have v0 := (sub_i64 e1 e2 d he hd2).2
  have h1 : ¬ e1 < e2 := by omega
  have k2 : ¬ (d : Int) ≤ 30 := by omega
  have v3 : IntKind.u64.wrap ((d : Int) - 30) = (u : Int) := by rw [show (d : Int) - 30 = (u : Int) by omega]; exact u64n u (by omega)
  have v1 := mul_u64 m1 A hA (by omega)
  have v6 : wrap64 (e1 - 30) = e1 - 30 := by unfold wrap64; omega
  have v2 := add_u64 A L (A + L) rfl (by omega)
  have v2' := sub_u64 A L (A - L) (by omega) (by omega)
  have hM : (if more = true then IntKind.u64.wrap (((A - L : Nat) : Int) - 1) else ((A - L : Nat) : Int)) = ((A - L - more.toNat : Nat) : Int) := by
    cases more
    · simp
    · rw [if_pos rfl]; exact sub_u64 (A - L) 1 (A - L - 1) (by omega) (by omega)
  have h4 : ¬ (A : Int) < (L : Int) := by omega
  have h5 : ((((A - L - more.toNat : Nat) : Int)) == 0) = false := by cases more <;> simp <;> omega
  by_cases h60 : 60 < u
  · have hg := gone m2 u (by omega) h60
    rw [hg.1] at hL
    subst hL
    rw [hg.2] at hm
    have k60 : (60 : Int) < (u : Int) := by omega
    have hm' : ((m2 : Int) != 0) = more := by
      rw [← hm]
      by_cases h0 : m2 = 0
      · subst h0; rfl
      · simp [h0]
    simp only [Nat.add_zero, Nat.sub_zero] at *
    have v9 := u64n A (by omega)
    refine ⟨fun r RR => ?_, fun r RR => ?_⟩
    · exact sumGs16 s more m1 m2 e1 e2 A d (e1 - 30) A r u h1 v0 k2 v3 v1 v6 k60 hm' v9 RR
    · exact sumGd16 s more m1 m2 e1 e2 A d (e1 - 30) A _ r u h1 v0 k2 v3 v1 v6 k60 hm' (by omega) v9 hM h5 RR
  · have k60 : ¬ (60 : Int) < (u : Int) := by omega
    have km : min u 64 = u := by omega
    have hpu : 2 ^ u ≤ 2 ^ 60 := Nat.pow_le_pow_right (by omega) (by omega)
    have hpu' : (2 : Nat) ^ 60 = 1152921504606846976 := by decide
    have hpp := Nat.two_pow_pos u
    have v8 : IntKind.u64.wrap (IntKind.u64.wrap (2 ^ u) - 1) = ((2 ^ u - 1 : Nat) : Int) := by
      have e1 : (2 : Int) ^ u = ((2 ^ u : Nat) : Int) := by simp
      rw [e1, u64n (2 ^ u) (by omega)]
      exact sub_u64 (2 ^ u) 1 (2 ^ u - 1) (by omega) (by omega)
    have hbm : (bits .and .u64 (m2 : Int) ((2 ^ u - 1 : Nat) : Int) != 0) = more := by
      rw [bits_and_u64_nat m2 (2 ^ u - 1) (by omega) (by omega), Nat.and_two_pow_sub_one_eq_mod, ← hm]
      by_cases h0 : m2 % 2 ^ u = 0
      · rw [h0]; rfl
      · have : ((m2 % 2 ^ u : Nat) : Int) ≠ 0 := by omega
        simp only [bne_iff_ne.2 this, decide_eq_true h0]
    have v4 : (m2 : Int) / 2 ^ u = (L : Int) := by rw [← hL]; simp
    refine ⟨fun r RR => ?_, fun r RR => ?_⟩
    · exact sumFs16 s more m1 m2 e1 e2 A d (e1 - 30) _ r _ L u h1 v0 k2 v3 v1 v6 k60 km v8 hbm v4 v2 RR
    · exact sumFd16 s more m1 m2 e1 e2 A d (e1 - 30) _ _ r _ L u h1 v0 k2 v3 v1 v6 k60 km v8 hbm v4 h4 v2' hM h5 RR

/-- Further apart: what spec's side tells, the same sign and others. -/
theorem farS32 (s more : Bool) (m1 m2 d A L : Nat) (e1 e2 : Int) (h2 : m2 < 2 * 8388608) (hd : 30 < d) (hd2 : d ≤ 1000) (he : e1 = e2 + d) (he0 : -200 ≤ e2) (he1 : e1 ≤ 200) (hA : m1 * 1073741824 = A) (hA1 : A < 36028797018963968)
    (hL : m2 * 1073741824 / 2 ^ d = L) (hm : decide (m2 * 1073741824 % 2 ^ d ≠ 0) = more) (hLA : L + 1 < A) :
    (∀ r : Int, (∀ w, Calls Try.prog 58 #[(.agg #[.int .u64 8, .int .u64 23]), .bool s, .int .u64 ((A + L : Nat) : Int), .int .i64 (e1 - 30), .bool more] w fun e w' => e = .returned (.int .u32 r) ∧ Below w.heap.size w w') →
      ∀ w, Calls Try.prog 37 #[(.agg #[.int .u64 8, .int .u64 23]), (.agg #[.bool s, .bool false, .bool false, .int .u64 (m1 : Int), .int .i64 e1]), (.agg #[.bool s, .bool false, .bool false, .int .u64 (m2 : Int), .int .i64 e2])] w fun e w' => e = .returned (.int .u32 r) ∧ Below w.heap.size w w') ∧
    (∀ r : Int, (∀ w, Calls Try.prog 58 #[(.agg #[.int .u64 8, .int .u64 23]), .bool s, .int .u64 ((A - L - more.toNat : Nat) : Int), .int .i64 (e1 - 30), .bool more] w fun e w' => e = .returned (.int .u32 r) ∧ Below w.heap.size w w') →
      ∀ w, Calls Try.prog 37 #[(.agg #[.int .u64 8, .int .u64 23]), (.agg #[.bool s, .bool false, .bool false, .int .u64 (m1 : Int), .int .i64 e1]), (.agg #[.bool (!s), .bool false, .bool false, .int .u64 (m2 : Int), .int .i64 e2])] w fun e w' => e = .returned (.int .u32 r) ∧ Below w.heap.size w w') := by
  rw [(far_div m2 d hd).1] at hL
  rw [far_more m2 d hd] at hm
  obtain ⟨u, hu⟩ : ∃ u, d - 30 = u := ⟨_, rfl⟩
  rw [hu] at hL hm
  have v0 := (sub_i64 e1 e2 d he hd2).2
  have h1 : ¬ e1 < e2 := by omega
  have k2 : ¬ (d : Int) ≤ 30 := by omega
  have v3 : IntKind.u64.wrap ((d : Int) - 30) = (u : Int) := by rw [show (d : Int) - 30 = (u : Int) by omega]; exact u64n u (by omega)
  have v1 := mul_u64 m1 A hA (by omega)
  have v6 : wrap64 (e1 - 30) = e1 - 30 := by unfold wrap64; omega
  have v2 := add_u64 A L (A + L) rfl (by omega)
  have v2' := sub_u64 A L (A - L) (by omega) (by omega)
  have hM : (if more = true then IntKind.u64.wrap (((A - L : Nat) : Int) - 1) else ((A - L : Nat) : Int)) = ((A - L - more.toNat : Nat) : Int) := by
    cases more
    · simp
    · rw [if_pos rfl]; exact sub_u64 (A - L) 1 (A - L - 1) (by omega) (by omega)
  have h4 : ¬ (A : Int) < (L : Int) := by omega
  have h5 : ((((A - L - more.toNat : Nat) : Int)) == 0) = false := by cases more <;> simp <;> omega
  by_cases h60 : 60 < u
  · have hg := gone m2 u (by omega) h60
    rw [hg.1] at hL
    subst hL
    rw [hg.2] at hm
    have k60 : (60 : Int) < (u : Int) := by omega
    have hm' : ((m2 : Int) != 0) = more := by
      rw [← hm]
      by_cases h0 : m2 = 0
      · subst h0; rfl
      · simp [h0]
    simp only [Nat.add_zero, Nat.sub_zero] at *
    have v9 := u64n A (by omega)
    refine ⟨fun r RR => ?_, fun r RR => ?_⟩
    · exact sumGs32 s more m1 m2 e1 e2 A d (e1 - 30) A r u h1 v0 k2 v3 v1 v6 k60 hm' v9 RR
    · exact sumGd32 s more m1 m2 e1 e2 A d (e1 - 30) A _ r u h1 v0 k2 v3 v1 v6 k60 hm' (by omega) v9 hM h5 RR
  · have k60 : ¬ (60 : Int) < (u : Int) := by omega
    have km : min u 64 = u := by omega
    have hpu : 2 ^ u ≤ 2 ^ 60 := Nat.pow_le_pow_right (by omega) (by omega)
    have hpu' : (2 : Nat) ^ 60 = 1152921504606846976 := by decide
    have hpp := Nat.two_pow_pos u
    have v8 : IntKind.u64.wrap (IntKind.u64.wrap (2 ^ u) - 1) = ((2 ^ u - 1 : Nat) : Int) := by
      have e1 : (2 : Int) ^ u = ((2 ^ u : Nat) : Int) := by simp
      rw [e1, u64n (2 ^ u) (by omega)]
      exact sub_u64 (2 ^ u) 1 (2 ^ u - 1) (by omega) (by omega)
    have hbm : (bits .and .u64 (m2 : Int) ((2 ^ u - 1 : Nat) : Int) != 0) = more := by
      rw [bits_and_u64_nat m2 (2 ^ u - 1) (by omega) (by omega), Nat.and_two_pow_sub_one_eq_mod, ← hm]
      by_cases h0 : m2 % 2 ^ u = 0
      · rw [h0]; rfl
      · have : ((m2 % 2 ^ u : Nat) : Int) ≠ 0 := by omega
        simp only [bne_iff_ne.2 this, decide_eq_true h0]
    have v4 : (m2 : Int) / 2 ^ u = (L : Int) := by rw [← hL]; simp
    refine ⟨fun r RR => ?_, fun r RR => ?_⟩
    · exact sumFs32 s more m1 m2 e1 e2 A d (e1 - 30) _ r _ L u h1 v0 k2 v3 v1 v6 k60 km v8 hbm v4 v2 RR
    · exact sumFd32 s more m1 m2 e1 e2 A d (e1 - 30) _ _ r _ L u h1 v0 k2 v3 v1 v6 k60 km v8 hbm v4 h4 v2' hM h5 RR

theorem finF16 (s s2 : Bool) (m1 m2 d : Nat) (e1 e2 : Int) (h1 : m1 < 2 * 1024) (h2 : m2 < 2 * 1024) (hp : 1024 ≤ m1) (hd : 30 < d) (hd2 : d ≤ 1000) (he : e1 = e2 + d) (he0 : -200 ≤ e2) (he1 : e1 ≤ 200) : ∃ r, FinBoth16 s s2 m1 m2 e1 e2 r := by
  obtain ⟨A, hA⟩ : ∃ A, m1 * 1073741824 = A := ⟨_, rfl⟩
  obtain ⟨B, hB⟩ : ∃ B, m2 * 1073741824 = B := ⟨_, rfl⟩
  obtain ⟨L, hL⟩ : ∃ L, B / 2 ^ d = L := ⟨_, rfl⟩
  obtain ⟨more, hm⟩ : ∃ more, decide (B % 2 ^ d ≠ 0) = more := ⟨_, rfl⟩
  have hlb := less_by m2 d (by omega)
  rw [hB, hL] at hlb
  have hLA : L + 1 < A := by omega
  have F := farS16 s more m1 m2 d A L e1 e2 h2 hd hd2 he he0 he1 hA (by omega) (by rw [hB]; exact hL) (by rw [hB]; exact hm) hLA
  have LT := lostAny B d (by omega)
  rw [hm] at LT
  have v3 := shr_any B d (by omega)
  rw [hL] at v3
  have vA := mul_u64 m1 A hA (by omega)
  have vB := mul_u64 m2 B hB (by omega)
  have v0 := (sub_i64 e1 e2 d he (by omega)).1
  have hE : IntKind.i64.wrap (e1 - 30) = e1 - 30 := by rw [IntKind.wrap_i64]; omega
  have k1 : ¬ e1 < e2 := by omega
  have k1' : e2 < e1 := by omega
  have k2 : (e1 == e2) = false := by simp; omega
  by_cases hs : s2 = s
  · subst hs
    have S := specRound16 s2 (A + L) (by omega) (e1 - 30) (by omega) (by omega) more
    have I := implRound16 s2 (A + L) (by omega) (e1 - 30) (by omega) (by omega) more
    have v4 := add_u64 A L (A + L) rfl (by omega)
    generalize (s2.toNat : Int) * 32768 + ((min (toldOf 10 (-24) (A + L) (e1 - 30) more) 31744 : Nat) : Int) = r at *
    have F1 := F.1 r S
    clear F S
    generalize A + L = M at *
    exact ⟨r, F1, addO2s16 s2 more m1 m2 e1 e2 A B L M (e1 - 30) r k1 k2 d v0 vA vB v3 v4 hE LT I, addW2s16 s2 more m1 m2 e1 e2 A B L M (e1 - 30) r k1' k2 d v0 vA vB v3 v4 hE LT I⟩
  · obtain rfl : s2 = !s := by cases s <;> cases s2 <;> simp_all
    have hmb : more.toNat ≤ 1 := by cases more <;> decide
    have S := specRound16 s (A - L - more.toNat) (by omega) (e1 - 30) (by omega) (by omega) more
    have I := implRound16 s (A - L - more.toNat) (by omega) (e1 - 30) (by omega) (by omega) more
    have v4 := sub_u64 A L (A - L) (by omega) (by omega)
    have v5 := sub_u64 (A - L) more.toNat (A - L - more.toNat) (by omega) (by omega)
    generalize (s.toNat : Int) * 32768 + ((min (toldOf 10 (-24) (A - L - more.toNat) (e1 - 30) more) 31744 : Nat) : Int) = r at *
    have F1 := F.2 r S
    clear F S
    generalize A - L - more.toNat = M at *
    generalize A - L = X at *
    exact ⟨r, F1, addO2d16 s more m1 m2 e1 e2 A B L M (e1 - 30) r k1 k2 d v0 vA vB v3 X v4 v5 hE LT I, addW2d16 s more m1 m2 e1 e2 A B L M (e1 - 30) r k1' k2 d v0 vA vB v3 X v4 v5 hE LT I⟩

theorem finF32 (s s2 : Bool) (m1 m2 d : Nat) (e1 e2 : Int) (h1 : m1 < 2 * 8388608) (h2 : m2 < 2 * 8388608) (hp : 8388608 ≤ m1) (hd : 30 < d) (hd2 : d ≤ 1000) (he : e1 = e2 + d) (he0 : -200 ≤ e2) (he1 : e1 ≤ 200) : ∃ r, FinBoth32 s s2 m1 m2 e1 e2 r := by
  obtain ⟨A, hA⟩ : ∃ A, m1 * 1073741824 = A := ⟨_, rfl⟩
  obtain ⟨B, hB⟩ : ∃ B, m2 * 1073741824 = B := ⟨_, rfl⟩
  obtain ⟨L, hL⟩ : ∃ L, B / 2 ^ d = L := ⟨_, rfl⟩
  obtain ⟨more, hm⟩ : ∃ more, decide (B % 2 ^ d ≠ 0) = more := ⟨_, rfl⟩
  have hlb := less_by m2 d (by omega)
  rw [hB, hL] at hlb
  have hLA : L + 1 < A := by omega
  have F := farS32 s more m1 m2 d A L e1 e2 h2 hd hd2 he he0 he1 hA (by omega) (by rw [hB]; exact hL) (by rw [hB]; exact hm) hLA
  have LT := lostAny B d (by omega)
  rw [hm] at LT
  have v3 := shr_any B d (by omega)
  rw [hL] at v3
  have vA := mul_u64 m1 A hA (by omega)
  have vB := mul_u64 m2 B hB (by omega)
  have v0 := (sub_i64 e1 e2 d he (by omega)).1
  have hE : IntKind.i64.wrap (e1 - 30) = e1 - 30 := by rw [IntKind.wrap_i64]; omega
  have k1 : ¬ e1 < e2 := by omega
  have k1' : e2 < e1 := by omega
  have k2 : (e1 == e2) = false := by simp; omega
  by_cases hs : s2 = s
  · subst hs
    have S := specRound32 s2 (A + L) (by omega) (e1 - 30) (by omega) (by omega) more
    have I := implRound32 s2 (A + L) (by omega) (e1 - 30) (by omega) (by omega) more
    have v4 := add_u64 A L (A + L) rfl (by omega)
    generalize (s2.toNat : Int) * 2147483648 + ((min (toldOf 23 (-149) (A + L) (e1 - 30) more) 2139095040 : Nat) : Int) = r at *
    have F1 := F.1 r S
    clear F S
    generalize A + L = M at *
    exact ⟨r, F1, addO2s32 s2 more m1 m2 e1 e2 A B L M (e1 - 30) r k1 k2 d v0 vA vB v3 v4 hE LT I, addW2s32 s2 more m1 m2 e1 e2 A B L M (e1 - 30) r k1' k2 d v0 vA vB v3 v4 hE LT I⟩
  · obtain rfl : s2 = !s := by cases s <;> cases s2 <;> simp_all
    have hmb : more.toNat ≤ 1 := by cases more <;> decide
    have S := specRound32 s (A - L - more.toNat) (by omega) (e1 - 30) (by omega) (by omega) more
    have I := implRound32 s (A - L - more.toNat) (by omega) (e1 - 30) (by omega) (by omega) more
    have v4 := sub_u64 A L (A - L) (by omega) (by omega)
    have v5 := sub_u64 (A - L) more.toNat (A - L - more.toNat) (by omega) (by omega)
    generalize (s.toNat : Int) * 2147483648 + ((min (toldOf 23 (-149) (A - L - more.toNat) (e1 - 30) more) 2139095040 : Nat) : Int) = r at *
    have F1 := F.2 r S
    clear F S
    generalize A - L - more.toNat = M at *
    generalize A - L = X at *
    exact ⟨r, F1, addO2d32 s more m1 m2 e1 e2 A B L M (e1 - 30) r k1 k2 d v0 vA vB v3 X v4 v5 hE LT I, addW2d32 s more m1 m2 e1 e2 A B L M (e1 - 30) r k1' k2 d v0 vA vB v3 X v4 v5 hE LT I⟩

/-- Finite floats, the first one's exponent not less. -/
theorem finOrd16 (s1 s2 : Bool) (m1 m2 : Nat) (e1 e2 : Int) (h1 : m1 < 2 * 1024) (h2 : m2 < 2 * 1024) (he : e2 ≤ e1) (he0 : (-24) ≤ e2) (he1 : e1 ≤ 200) (hp : (-24) < e1 → 1024 ≤ m1) : ∃ r, FinBoth16 s1 s2 m1 m2 e1 e2 r := by
  obtain ⟨d, hd⟩ : ∃ d : Nat, e1 = e2 + d := ⟨(e1 - e2).toNat, by omega⟩
  have hs : s2 = s1 ∨ s2 = !s1 := by cases s1 <;> cases s2 <;> simp
  by_cases h0 : d = 0
  · obtain rfl : e1 = e2 := by omega
    rcases hs with rfl | rfl
    · exact finEs16 _ m1 m2 e1 h1 h2 (by omega) he1
    · exact finEd16 _ m1 m2 e1 h1 h2 (by omega) he1
  · have hp' := hp (by omega)
    by_cases h30 : d ≤ 30
    · rcases hs with rfl | rfl
      · exact finNs16 _ m1 m2 d e1 e2 h1 h2 (by omega) h30 hd (by omega) he1
      · exact finNd16 _ m1 m2 d e1 e2 h1 h2 hp' (by omega) h30 hd (by omega) he1
    · exact finF16 s1 s2 m1 m2 d e1 e2 h1 h2 hp' (by omega) (by omega) hd (by omega) he1

/-- Finite floats, the first one's exponent not less. -/
theorem finOrd32 (s1 s2 : Bool) (m1 m2 : Nat) (e1 e2 : Int) (h1 : m1 < 2 * 8388608) (h2 : m2 < 2 * 8388608) (he : e2 ≤ e1) (he0 : (-149) ≤ e2) (he1 : e1 ≤ 200) (hp : (-149) < e1 → 8388608 ≤ m1) : ∃ r, FinBoth32 s1 s2 m1 m2 e1 e2 r := by
  obtain ⟨d, hd⟩ : ∃ d : Nat, e1 = e2 + d := ⟨(e1 - e2).toNat, by omega⟩
  have hs : s2 = s1 ∨ s2 = !s1 := by cases s1 <;> cases s2 <;> simp
  by_cases h0 : d = 0
  · obtain rfl : e1 = e2 := by omega
    rcases hs with rfl | rfl
    · exact finEs32 _ m1 m2 e1 h1 h2 (by omega) he1
    · exact finEd32 _ m1 m2 e1 h1 h2 (by omega) he1
  · have hp' := hp (by omega)
    by_cases h30 : d ≤ 30
    · rcases hs with rfl | rfl
      · exact finNs32 _ m1 m2 d e1 e2 h1 h2 (by omega) h30 hd (by omega) he1
      · exact finNd32 _ m1 m2 d e1 e2 h1 h2 hp' (by omega) h30 hd (by omega) he1
    · exact finF32 s1 s2 m1 m2 d e1 e2 h1 h2 hp' (by omega) (by omega) hd (by omega) he1

end Go.Proofs.Yteniijmnpgdpcaa
