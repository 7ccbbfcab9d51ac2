/-
  FSqrt: both sides, and its law.
-/
import Derived.Test.YteniijmnpgdpcaaFSqS
import Derived.OpenShut
namespace Go.Proofs.Yteniijmnpgdpcaa
open Go.RowKit

theorem len_full (n j p : Nat) (hn : n ≠ 0) (h64 : n < 18446744073709551616) (a1 : 2 ^ p ≤ n * 2 ^ j) (a2 : n * 2 ^ j < 2 ^ (p + 1)) : Lib.bitLen n + j = p + 1 := by
  obtain ⟨l1, _, l3, l4⟩ := bl_is n h64 hn
  have u1 : Lib.bitLen n - 1 + j < p + 1 := by
    refine (Nat.pow_lt_pow_iff_right (a := 2) (by omega)).1 ?_
    rw [Nat.pow_add]
    exact Nat.lt_of_le_of_lt (Nat.mul_le_mul_right _ l3) a2
  have u2 : p < Lib.bitLen n + j := by
    refine (Nat.pow_lt_pow_iff_right (a := 2) (by omega)).1 ?_
    rw [Nat.pow_add]
    exact Nat.lt_of_le_of_lt a1 (Nat.mul_lt_mul_of_pos_right l4 (Nat.two_pow_pos _))
  omega

theorem root_one (X s t : Nat) (h1 : s * s ≤ X) (h2 : X < (s + 1) * (s + 1)) (h3 : t * t ≤ X) (h4 : X < (t + 1) * (t + 1)) : s = t := by
  have := root_up X s t h3 h2
  have := root_up X t s h1 h4
  omega

/-- Both roots are rounded alike. -/
theorem sqTold16 (n j sh U s r : Nat) (e1 : Int) (hn : n ≠ 0) (hb : n < 2 * 1024) (a1 : 1024 ≤ n * 2 ^ j) (a2 : n * 2 ^ j < 2 * 1024) (hsh : sh = 57 - 10 ∨ sh = 56 - 10) (p1 : (e1 - j - sh) % 2 = 0) (hU : U + Lib.bitLen n = 60 ∨ U + Lib.bitLen n = 59) (p2 : (e1 - U) % 2 = 0)
    (s1 : s * s ≤ n * 2 ^ j * 2 ^ sh) (s2 : n * 2 ^ j * 2 ^ sh < (s + 1) * (s + 1)) (r1 : r * r ≤ n * 2 ^ U) (r2 : n * 2 ^ U < (r + 1) * (r + 1)) :
    toldOf 10 (-24) s ((e1 - j - sh) / 2) (decide (s * s ≠ n * 2 ^ j * 2 ^ sh)) = toldOf 10 (-24) r ((e1 - U) / 2) (decide (r * r ≠ n * 2 ^ U)) ∧ s < 1152921504606846976 := by
  have hl := len_full n j 10 hn (by omega) (by rw [show (2 : Nat) ^ 10 = 1024 by decide]; exact a1) (by rw [show (2 : Nat) ^ (10 + 1) = 2 * 1024 by decide]; exact a2)
  have hUe : U = j + sh + 2 := by omega
  have hX : n * 2 ^ U = 4 * (n * 2 ^ j * 2 ^ sh) := by
    rw [hUe, Nat.pow_add, Nat.pow_add, Nat.mul_comm 4, Nat.mul_assoc, Nat.mul_assoc, Nat.mul_assoc]
  have b1 : 72057594037927936 ≤ n * 2 ^ j * 2 ^ sh := by
    rcases hsh with rfl | rfl
    · exact Nat.le_trans (by decide) (Nat.mul_le_mul_right _ a1)
    · exact Nat.le_trans (by decide) (Nat.mul_le_mul_right _ a1)
  have b2 : n * 2 ^ j * 2 ^ sh < 288230376151711744 := by
    rcases hsh with rfl | rfl
    · exact Nat.lt_of_lt_of_le (Nat.mul_lt_mul_of_pos_right a2 (Nat.two_pow_pos _)) (by decide)
    · exact Nat.lt_of_lt_of_le (Nat.mul_lt_mul_of_pos_right a2 (Nat.two_pow_pos _)) (by decide)
  rw [hX] at r1 r2 ⊢
  generalize n * 2 ^ j * 2 ^ sh = M at *
  refine ⟨?_, ?_⟩
  · rw [root_told 10 (-24) M r s ((e1 - j - sh) / 2) (by omega) b1 b2 r1 r2 s1 s2, show (e1 - (j : Int) - sh) / 2 - 1 = (e1 - (U : Int)) / 2 by omega]
  · have := root_down M s 1073741824 (by omega) s1
    omega

/-- Both roots are rounded alike. -/
theorem sqTold32 (n j sh U s r : Nat) (e1 : Int) (hn : n ≠ 0) (hb : n < 2 * 8388608) (a1 : 8388608 ≤ n * 2 ^ j) (a2 : n * 2 ^ j < 2 * 8388608) (hsh : sh = 57 - 23 ∨ sh = 56 - 23) (p1 : (e1 - j - sh) % 2 = 0) (hU : U + Lib.bitLen n = 60 ∨ U + Lib.bitLen n = 59) (p2 : (e1 - U) % 2 = 0)
    (s1 : s * s ≤ n * 2 ^ j * 2 ^ sh) (s2 : n * 2 ^ j * 2 ^ sh < (s + 1) * (s + 1)) (r1 : r * r ≤ n * 2 ^ U) (r2 : n * 2 ^ U < (r + 1) * (r + 1)) :
    toldOf 23 (-149) s ((e1 - j - sh) / 2) (decide (s * s ≠ n * 2 ^ j * 2 ^ sh)) = toldOf 23 (-149) r ((e1 - U) / 2) (decide (r * r ≠ n * 2 ^ U)) ∧ s < 1152921504606846976 := by
  have hl := len_full n j 23 hn (by omega) (by rw [show (2 : Nat) ^ 23 = 8388608 by decide]; exact a1) (by rw [show (2 : Nat) ^ (23 + 1) = 2 * 8388608 by decide]; exact a2)
  have hUe : U = j + sh + 2 := by omega
  have hX : n * 2 ^ U = 4 * (n * 2 ^ j * 2 ^ sh) := by
    rw [hUe, Nat.pow_add, Nat.pow_add, Nat.mul_comm 4, Nat.mul_assoc, Nat.mul_assoc, Nat.mul_assoc]
  have b1 : 72057594037927936 ≤ n * 2 ^ j * 2 ^ sh := by
    rcases hsh with rfl | rfl
    · exact Nat.le_trans (by decide) (Nat.mul_le_mul_right _ a1)
    · exact Nat.le_trans (by decide) (Nat.mul_le_mul_right _ a1)
  have b2 : n * 2 ^ j * 2 ^ sh < 288230376151711744 := by
    rcases hsh with rfl | rfl
    · exact Nat.lt_of_lt_of_le (Nat.mul_lt_mul_of_pos_right a2 (Nat.two_pow_pos _)) (by decide)
    · exact Nat.lt_of_lt_of_le (Nat.mul_lt_mul_of_pos_right a2 (Nat.two_pow_pos _)) (by decide)
  rw [hX] at r1 r2 ⊢
  generalize n * 2 ^ j * 2 ^ sh = M at *
  refine ⟨?_, ?_⟩
  · rw [root_told 23 (-149) M r s ((e1 - j - sh) / 2) (by omega) b1 b2 r1 r2 s1 s2, show (e1 - (j : Int) - sh) / 2 - 1 = (e1 - (U : Int)) / 2 by omega]
  · have := root_down M s 1073741824 (by omega) s1
    omega

set_option maxHeartbeats 1000000 in
theorem sqBoth16 (a : Int) (a0 : 0 ≤ a) (a1 : a ≤ 4294967295) : ∃ r : Int,
    (∀ w, Calls Try.prog 22 #[.int .i64 16, .int .u32 a] w fun x w' => x = .returned (.int .u32 r) ∧ Below w.heap.size w w') ∧
    (∀ w, Calls Try.prog 21 #[.int .i64 16, .int .u32 a] w fun x w' => x = .returned (.int .u32 r) ∧ Below w.heap.size w w') := by
  obtain ⟨c1, m1, m1', e1, e1', _, _⟩ := fv16 a
  have V1 := value16 a a0 a1
  have O1 := open16 a a0 a1
  generalize cl16 a = x1 at *
  generalize vm16 a = y1 at *
  generalize ve16 a = z1 at *
  generalize (a / 32768 % 2 == 1) = s1 at *
  obtain ⟨n, rfl⟩ := Int.eq_ofNat_of_zero_le m1
  rcases c1 with rfl | rfl | rfl
  · by_cases hz : n = 0
    · have hz' : ((n : Int) == 0) = true := by simp; omega
      have hz2 : ((n : Int) != 0) = false := by simp; omega
      cases s1
      · exact ⟨_, sqSpecF16 a _ _ O1 (sqQ_zp16 n z1 hz'), sqImpl_zero16 a z1 n false V1 hz'⟩
      · exact ⟨_, sqSpecF16 a _ _ O1 (sqQ_zn16 n z1 hz' hz2), sqImpl_zero16 a z1 n true V1 hz'⟩
    · have hz' : ((n : Int) == 0) = false := by simp; omega
      have hz2 : ((n : Int) != 0) = true := by simp; omega
      cases s1
      · obtain ⟨l1, _, l3, l4⟩ := bl_is n (by omega) hz
        have hL25 : Lib.bitLen n ≤ 25 := bl_le n 25 (by omega) (by omega)
        have LN : Hid (∀ w, Calls Try.prog 35 #[.int .u64 (n : Int)] w fun e w' => e = .returned (.int .i64 (Lib.bitLen n : Int)) ∧ w' = w) := fun w => len64F n (by omega) w
        obtain ⟨U0, hU0⟩ : ∃ U0, 60 - Lib.bitLen n = U0 := ⟨_, rfl⟩
        obtain ⟨odd, hodd⟩ : ∃ odd : Bool, ((z1 - (U0 : Int)).tmod 2 != 0) = odd := ⟨_, rfl⟩
        have hpar : odd = false → (z1 - (U0 : Int)) % 2 = 0 := by
          rintro rfl
          have h0 : (z1 - (U0 : Int)).tmod 2 = 0 := by simpa using hodd
          exact Int.emod_eq_zero_of_dvd (Int.dvd_of_tmod_eq_zero h0)
        have hpar2 : odd = true → (z1 - (U0 : Int)) % 2 ≠ 0 := by
          rintro rfl h
          have h0 : (z1 - (U0 : Int)).tmod 2 = 0 := Int.tmod_eq_zero_of_dvd (Int.dvd_of_emod_eq_zero h)
          rw [h0] at hodd
          exact absurd hodd (by decide)
        obtain ⟨U, hU⟩ : ∃ U : Nat, (if odd then U0 - 1 else U0) = U := ⟨_, rfl⟩
        have hUo : (odd = true → U = U0 - 1) ∧ (odd = false → U = U0) := by
          cases odd <;> simp at hU <;> simp [hU]
        have hUL : U + Lib.bitLen n = 60 ∨ U + Lib.bitLen n = 59 := by
          cases odd
          · have := hUo.2 rfl; omega
          · have := hUo.1 rfl; omega
        have hUp : (z1 - (U : Int)) % 2 = 0 := by
          cases odd
          · have := hUo.2 rfl; have := hpar rfl; omega
          · have := hUo.1 rfl; have := hpar2 rfl; omega
        have hX : n * 2 ^ U < 1152921504606846976 := by
          have h := Nat.mul_lt_mul_of_pos_right l4 (Nat.two_pow_pos U)
          rw [← Nat.pow_add] at h
          exact Nat.lt_of_lt_of_le h (Nat.pow_le_pow_right (by omega) (show Lib.bitLen n + U ≤ 60 by omega))
        have hX0 : n * 2 ^ U ≠ 0 := Nat.mul_ne_zero hz (by have := Nat.two_pow_pos U; omega)
        obtain ⟨s0, t1, t2⟩ := root_ex (n * 2 ^ U)
        have hs0 : s0 < 1073741824 := root_down (n * 2 ^ U) s0 1073741824 (by omega) t1
        have RI := implRound16 false s0 (by omega) ((z1 - U) / 2) (by omega) (by omega) (decide (s0 * s0 ≠ n * 2 ^ U))
        refine ⟨(false.toNat : Int) * 32768 + ((min (toldOf 10 (-24) s0 ((z1 - U) / 2) (decide (s0 * s0 ≠ n * 2 ^ U))) 31744 : Nat) : Int), sqSpecF16 a _ _ O1 (sqQ_nn16 n z1 _ hz (by omega) (by omega) (by omega) ?_), sqImpl_nn16 a z1 _ ((z1 - U) / 2) _ n (Lib.bitLen n) U0 U (n * 2 ^ U) odd V1 hz' LN ?_ ?_ rfl hodd ?_ ?_ ?_ ?_ ?_ ?_ ?_ hX0 hX ?_⟩
        · intro j sh i1 i2 hsh p1 s g1 g2 w
          have hj : j < 25 := by
            have hjp : 2 ^ j ≤ n * 2 ^ j := Nat.le_mul_of_pos_left _ (by omega)
            have h2j : 2 ^ j < 2 ^ 25 := Nat.lt_of_le_of_lt (Nat.le_trans hjp (Nat.le_of_lt i2)) (by decide)
            exact (Nat.pow_lt_pow_iff_right (by omega)).1 h2j
          obtain ⟨tt, hs⟩ := sqTold16 n j sh U s s0 z1 hz (by omega) i1 i2 hsh p1 hUL hUp g1 g2 t1 t2
          rw [← tt]
          exact specRound16 false s hs _ (by omega) (by omega) _ w
        · unfold wrap64; omega
        · unfold wrap64; omega
        · intro h; have := hUo.1 h; unfold wrap64; omega
        · intro h; exact (hUo.2 h).symm
        · omega
        · rw [show (n : Int) * 2 ^ U = ((n * 2 ^ U : Nat) : Int) by simp, IntKind.wrap_u64]; omega
        · unfold wrap64; omega
        · exact Int.tdiv_eq_ediv_of_dvd (Int.dvd_of_emod_eq_zero hUp)
        · unfold wrap64; omega
        · intro s g1 g2
          obtain rfl := root_one _ s s0 g1 g2 t1 t2
          exact RI
      · exact ⟨_, sqSpecF16 a _ _ O1 (sqQ_neg16 n z1 hz2), sqImpl_neg16 a z1 n V1 hz'⟩
  · cases s1
    · exact ⟨_, sqSpecF16 a _ _ O1 (sqQ_inf16 n z1), sqImpl_inf16 a z1 n V1⟩
    · exact ⟨_, sqSpecF16 a _ _ O1 (sqQ_neginf16 n z1), sqImpl_neginf16 a z1 n V1⟩
  · exact ⟨_, sqSpecF16 a _ _ O1 (sqQ_nan16 n z1 s1), sqImpl_nan16 a z1 n s1 V1⟩

set_option maxHeartbeats 1000000 in
theorem sqBoth32 (a : Int) (a0 : 0 ≤ a) (a1 : a ≤ 4294967295) : ∃ r : Int,
    (∀ w, Calls Try.prog 22 #[.int .i64 32, .int .u32 a] w fun x w' => x = .returned (.int .u32 r) ∧ Below w.heap.size w w') ∧
    (∀ w, Calls Try.prog 21 #[.int .i64 32, .int .u32 a] w fun x w' => x = .returned (.int .u32 r) ∧ Below w.heap.size w w') := by
  obtain ⟨c1, m1, m1', e1, e1', _, _⟩ := fv32 a
  have V1 := value32 a a0 a1
  have O1 := open32 a a0 a1
  generalize cl32 a = x1 at *
  generalize vm32 a = y1 at *
  generalize ve32 a = z1 at *
  generalize (a / 2147483648 % 2 == 1) = s1 at *
  obtain ⟨n, rfl⟩ := Int.eq_ofNat_of_zero_le m1
  rcases c1 with rfl | rfl | rfl
  · by_cases hz : n = 0
    · have hz' : ((n : Int) == 0) = true := by simp; omega
      have hz2 : ((n : Int) != 0) = false := by simp; omega
      cases s1
      · exact ⟨_, sqSpecF32 a _ _ O1 (sqQ_zp32 n z1 hz'), sqImpl_zero32 a z1 n false V1 hz'⟩
      · exact ⟨_, sqSpecF32 a _ _ O1 (sqQ_zn32 n z1 hz' hz2), sqImpl_zero32 a z1 n true V1 hz'⟩
    · have hz' : ((n : Int) == 0) = false := by simp; omega
      have hz2 : ((n : Int) != 0) = true := by simp; omega
      cases s1
      · obtain ⟨l1, _, l3, l4⟩ := bl_is n (by omega) hz
        have hL25 : Lib.bitLen n ≤ 25 := bl_le n 25 (by omega) (by omega)
        have LN : Hid (∀ w, Calls Try.prog 35 #[.int .u64 (n : Int)] w fun e w' => e = .returned (.int .i64 (Lib.bitLen n : Int)) ∧ w' = w) := fun w => len64F n (by omega) w
        obtain ⟨U0, hU0⟩ : ∃ U0, 60 - Lib.bitLen n = U0 := ⟨_, rfl⟩
        obtain ⟨odd, hodd⟩ : ∃ odd : Bool, ((z1 - (U0 : Int)).tmod 2 != 0) = odd := ⟨_, rfl⟩
        have hpar : odd = false → (z1 - (U0 : Int)) % 2 = 0 := by
          rintro rfl
          have h0 : (z1 - (U0 : Int)).tmod 2 = 0 := by simpa using hodd
          exact Int.emod_eq_zero_of_dvd (Int.dvd_of_tmod_eq_zero h0)
        have hpar2 : odd = true → (z1 - (U0 : Int)) % 2 ≠ 0 := by
          rintro rfl h
          have h0 : (z1 - (U0 : Int)).tmod 2 = 0 := Int.tmod_eq_zero_of_dvd (Int.dvd_of_emod_eq_zero h)
          rw [h0] at hodd
          exact absurd hodd (by decide)
        obtain ⟨U, hU⟩ : ∃ U : Nat, (if odd then U0 - 1 else U0) = U := ⟨_, rfl⟩
        have hUo : (odd = true → U = U0 - 1) ∧ (odd = false → U = U0) := by
          cases odd <;> simp at hU <;> simp [hU]
        have hUL : U + Lib.bitLen n = 60 ∨ U + Lib.bitLen n = 59 := by
          cases odd
          · have := hUo.2 rfl; omega
          · have := hUo.1 rfl; omega
        have hUp : (z1 - (U : Int)) % 2 = 0 := by
          cases odd
          · have := hUo.2 rfl; have := hpar rfl; omega
          · have := hUo.1 rfl; have := hpar2 rfl; omega
        have hX : n * 2 ^ U < 1152921504606846976 := by
          have h := Nat.mul_lt_mul_of_pos_right l4 (Nat.two_pow_pos U)
          rw [← Nat.pow_add] at h
          exact Nat.lt_of_lt_of_le h (Nat.pow_le_pow_right (by omega) (show Lib.bitLen n + U ≤ 60 by omega))
        have hX0 : n * 2 ^ U ≠ 0 := Nat.mul_ne_zero hz (by have := Nat.two_pow_pos U; omega)
        obtain ⟨s0, t1, t2⟩ := root_ex (n * 2 ^ U)
        have hs0 : s0 < 1073741824 := root_down (n * 2 ^ U) s0 1073741824 (by omega) t1
        have RI := implRound32 false s0 (by omega) ((z1 - U) / 2) (by omega) (by omega) (decide (s0 * s0 ≠ n * 2 ^ U))
        refine ⟨(false.toNat : Int) * 2147483648 + ((min (toldOf 23 (-149) s0 ((z1 - U) / 2) (decide (s0 * s0 ≠ n * 2 ^ U))) 2139095040 : Nat) : Int), sqSpecF32 a _ _ O1 (sqQ_nn32 n z1 _ hz (by omega) (by omega) (by omega) ?_), sqImpl_nn32 a z1 _ ((z1 - U) / 2) _ n (Lib.bitLen n) U0 U (n * 2 ^ U) odd V1 hz' LN ?_ ?_ rfl hodd ?_ ?_ ?_ ?_ ?_ ?_ ?_ hX0 hX ?_⟩
        · intro j sh i1 i2 hsh p1 s g1 g2 w
          have hj : j < 25 := by
            have hjp : 2 ^ j ≤ n * 2 ^ j := Nat.le_mul_of_pos_left _ (by omega)
            have h2j : 2 ^ j < 2 ^ 25 := Nat.lt_of_le_of_lt (Nat.le_trans hjp (Nat.le_of_lt i2)) (by decide)
            exact (Nat.pow_lt_pow_iff_right (by omega)).1 h2j
          obtain ⟨tt, hs⟩ := sqTold32 n j sh U s s0 z1 hz (by omega) i1 i2 hsh p1 hUL hUp g1 g2 t1 t2
          rw [← tt]
          exact specRound32 false s hs _ (by omega) (by omega) _ w
        · unfold wrap64; omega
        · unfold wrap64; omega
        · intro h; have := hUo.1 h; unfold wrap64; omega
        · intro h; exact (hUo.2 h).symm
        · omega
        · rw [show (n : Int) * 2 ^ U = ((n * 2 ^ U : Nat) : Int) by simp, IntKind.wrap_u64]; omega
        · unfold wrap64; omega
        · exact Int.tdiv_eq_ediv_of_dvd (Int.dvd_of_emod_eq_zero hUp)
        · unfold wrap64; omega
        · intro s g1 g2
          obtain rfl := root_one _ s s0 g1 g2 t1 t2
          exact RI
      · exact ⟨_, sqSpecF32 a _ _ O1 (sqQ_neg32 n z1 hz2), sqImpl_neg32 a z1 n V1 hz'⟩
  · cases s1
    · exact ⟨_, sqSpecF32 a _ _ O1 (sqQ_inf32 n z1), sqImpl_inf32 a z1 n V1⟩
    · exact ⟨_, sqSpecF32 a _ _ O1 (sqQ_neginf32 n z1), sqImpl_neginf32 a z1 n V1⟩
  · exact ⟨_, sqSpecF32 a _ _ O1 (sqQ_nan32 n z1 s1), sqImpl_nan32 a z1 n s1 V1⟩

theorem sqNo (kind a : Int) (h1 : kind ≠ 16) (h2 : kind ≠ 32) :
    (∀ w, Calls Try.prog 22 #[.int .i64 kind, .int .u32 a] w fun x w' => x = .returned (.int .u32 0) ∧ Below w.heap.size w w') ∧
    (∀ w, Calls Try.prog 21 #[.int .i64 kind, .int .u32 a] w fun x w' => x = .returned (.int .u32 0) ∧ Below w.heap.size w w') := by
  refine ⟨fun w => ?_, fun w => ?_⟩
  · go_enter Try.func22, Try.ntmps22
    go_wp2_with fail
    refine (l4KindNo kind h1 h2 _).mono ?_
    rintro x w1 ⟨rfl, B1⟩
    go_wp2
    go_ret
    refine ⟨rfl, ?_⟩
    ((repeat (first | refine bel_alloc ?_ _ | refine bel_dN ?_ _ | refine Below.drew ?_ | refine Below.setCell ?_ (by first | (simp; done) | (simp; omega)) _)); refine bel_step ?_ B1; (repeat (first | refine bel_alloc ?_ _ | refine bel_dN ?_ _ | refine Below.drew ?_ | refine Below.setCell ?_ (by first | (simp; done) | (simp; omega)) _)); exact Below.refl _ _)
  · go_enter Try.func21, Try.ntmps21
    go_wp2_with fail
    refine (formNo kind h1 h2 _).mono ?_
    rintro x w1 ⟨rfl, B1⟩
    go_wp2
    go_ret
    refine ⟨rfl, ?_⟩
    ((repeat (first | refine bel_alloc ?_ _ | refine bel_dN ?_ _ | refine Below.drew ?_ | refine Below.setCell ?_ (by first | (simp; done) | (simp; omega)) _)); refine bel_step ?_ B1; (repeat (first | refine bel_alloc ?_ _ | refine bel_dN ?_ _ | refine Below.drew ?_ | refine Below.setCell ?_ (by first | (simp; done) | (simp; omega)) _)); exact Below.refl _ _)

end Go.Proofs.Yteniijmnpgdpcaa
