/-
  FSqrt of halves: what it is told as.
-/
import Derived.Test.YteniijmnpgdpcaaFSqL
namespace Go.Proofs.Yteniijmnpgdpcaa
open Go.RowKit

set_option maxHeartbeats 1000000 in
theorem sqHalf (a : Int) (a0 : 0 ≤ a) (a1 : a ≤ 4294967295) : ∃ r : Int,
    (∀ w, Calls Try.prog 22 #[.int .i64 16, .int .u32 a] w fun x w' => x = .returned (.int .u32 r) ∧ Below w.heap.size w w') ∧
    (∀ w, Calls Try.prog 21 #[.int .i64 16, .int .u32 a] w fun x w' => x = .returned (.int .u32 r) ∧ Below w.heap.size w w') ∧
    (cl16 a = 0 → (a / 32768 % 2 == 1) = false → ∀ n : Nat, vm16 a = n → n ≠ 0 → ∃ U s0 : Nat, (U + Lib.bitLen n = 60 ∨ U + Lib.bitLen n = 59) ∧ (ve16 a - U) % 2 = 0 ∧ s0 * s0 ≤ n * 2 ^ U ∧ n * 2 ^ U < (s0 + 1) * (s0 + 1) ∧ r = ((min (toldOf 10 (-24) s0 ((ve16 a - U) / 2) (decide (s0 * s0 ≠ n * 2 ^ U))) 31744 : Nat) : Int)) := by
  obtain ⟨c1, m1, m1', e1, e1', _, _⟩ := fv16 a
  have V1 := value16 a a0 a1
  have O1 := open16 a a0 a1
  generalize cl16 a = x1 at *
  generalize vm16 a = y1 at *
  generalize ve16 a = z1 at *
  generalize (a / 32768 % 2 == 1) = s1 at *
  obtain ⟨n, rfl⟩ := Int.eq_ofNat_of_zero_le m1
  rcases c1 with rfl | rfl | rfl
  · by_cases hz : n = 0
    · have hz' : ((n : Int) == 0) = true := by simp; omega
      have hz2 : ((n : Int) != 0) = false := by simp; omega
      cases s1
      · exact ⟨_, sqSpecF16 a _ _ O1 (sqQ_zp16 n z1 hz'), sqImpl_zero16 a z1 n false V1 hz', fun _ _ m hm h0 => absurd (by omega) h0⟩
      · exact ⟨_, sqSpecF16 a _ _ O1 (sqQ_zn16 n z1 hz' hz2), sqImpl_zero16 a z1 n true V1 hz', fun _ h => absurd h (by decide)⟩
    · have hz' : ((n : Int) == 0) = false := by simp; omega
      have hz2 : ((n : Int) != 0) = true := by simp; omega
      cases s1
      · obtain ⟨l1, _, l3, l4⟩ := bl_is n (by omega) hz
        have hL25 : Lib.bitLen n ≤ 25 := bl_le n 25 (by omega) (by omega)
        have LN : Hid (∀ w, Calls Try.prog 35 #[.int .u64 (n : Int)] w fun e w' => e = .returned (.int .i64 (Lib.bitLen n : Int)) ∧ w' = w) := fun w => len64F n (by omega) w
        obtain ⟨U0, hU0⟩ : ∃ U0, 60 - Lib.bitLen n = U0 := ⟨_, rfl⟩
        obtain ⟨odd, hodd⟩ : ∃ odd : Bool, ((z1 - (U0 : Int)).tmod 2 != 0) = odd := ⟨_, rfl⟩
        have hpar : odd = false → (z1 - (U0 : Int)) % 2 = 0 := by
          rintro rfl
          have h0 : (z1 - (U0 : Int)).tmod 2 = 0 := by simpa using hodd
          exact Int.emod_eq_zero_of_dvd (Int.dvd_of_tmod_eq_zero h0)
        have hpar2 : odd = true → (z1 - (U0 : Int)) % 2 ≠ 0 := by
          rintro rfl h
          have h0 : (z1 - (U0 : Int)).tmod 2 = 0 := Int.tmod_eq_zero_of_dvd (Int.dvd_of_emod_eq_zero h)
          rw [h0] at hodd
          exact absurd hodd (by decide)
        obtain ⟨U, hU⟩ : ∃ U : Nat, (if odd then U0 - 1 else U0) = U := ⟨_, rfl⟩
        have hUo : (odd = true → U = U0 - 1) ∧ (odd = false → U = U0) := by
          cases odd <;> simp at hU <;> simp [hU]
        have hUL : U + Lib.bitLen n = 60 ∨ U + Lib.bitLen n = 59 := by
          cases odd
          · have := hUo.2 rfl; omega
          · have := hUo.1 rfl; omega
        have hUp : (z1 - (U : Int)) % 2 = 0 := by
          cases odd
          · have := hUo.2 rfl; have := hpar rfl; omega
          · have := hUo.1 rfl; have := hpar2 rfl; omega
        have hX : n * 2 ^ U < 1152921504606846976 := by
          have h := Nat.mul_lt_mul_of_pos_right l4 (Nat.two_pow_pos U)
          rw [← Nat.pow_add] at h
          exact Nat.lt_of_lt_of_le h (Nat.pow_le_pow_right (by omega) (show Lib.bitLen n + U ≤ 60 by omega))
        have hX0 : n * 2 ^ U ≠ 0 := Nat.mul_ne_zero hz (by have := Nat.two_pow_pos U; omega)
        obtain ⟨s0, t1, t2⟩ := root_ex (n * 2 ^ U)
        have hs0 : s0 < 1073741824 := root_down (n * 2 ^ U) s0 1073741824 (by omega) t1
        have RI := implRound16 false s0 (by omega) ((z1 - U) / 2) (by omega) (by omega) (decide (s0 * s0 ≠ n * 2 ^ U))
        refine ⟨(false.toNat : Int) * 32768 + ((min (toldOf 10 (-24) s0 ((z1 - U) / 2) (decide (s0 * s0 ≠ n * 2 ^ U))) 31744 : Nat) : Int), sqSpecF16 a _ _ O1 (sqQ_nn16 n z1 _ hz (by omega) (by omega) (by omega) ?_), sqImpl_nn16 a z1 _ ((z1 - U) / 2) _ n (Lib.bitLen n) U0 U (n * 2 ^ U) odd V1 hz' LN ?_ ?_ rfl hodd ?_ ?_ ?_ ?_ ?_ ?_ ?_ hX0 hX ?_, ?_⟩
        · intro j sh i1 i2 hsh p1 s g1 g2 w
          have hj : j < 25 := by
            have hjp : 2 ^ j ≤ n * 2 ^ j := Nat.le_mul_of_pos_left _ (by omega)
            have h2j : 2 ^ j < 2 ^ 25 := Nat.lt_of_le_of_lt (Nat.le_trans hjp (Nat.le_of_lt i2)) (by decide)
            exact (Nat.pow_lt_pow_iff_right (by omega)).1 h2j
          obtain ⟨tt, hs⟩ := sqTold16 n j sh U s s0 z1 hz (by omega) i1 i2 hsh p1 hUL hUp g1 g2 t1 t2
          rw [← tt]
          exact specRound16 false s hs _ (by omega) (by omega) _ w
        · unfold wrap64; omega
        · unfold wrap64; omega
        · intro h; have := hUo.1 h; unfold wrap64; omega
        · intro h; exact (hUo.2 h).symm
        · omega
        · rw [show (n : Int) * 2 ^ U = ((n * 2 ^ U : Nat) : Int) by simp, IntKind.wrap_u64]; omega
        · unfold wrap64; omega
        · exact Int.tdiv_eq_ediv_of_dvd (Int.dvd_of_emod_eq_zero hUp)
        · unfold wrap64; omega
        · intro s g1 g2
          obtain rfl := root_one _ s s0 g1 g2 t1 t2
          exact RI
        · intro _ _ m hm _
          obtain rfl : n = m := by omega
          exact ⟨U, s0, hUL, hUp, t1, t2, by simp⟩
      · exact ⟨_, sqSpecF16 a _ _ O1 (sqQ_neg16 n z1 hz2), sqImpl_neg16 a z1 n V1 hz', fun _ h => absurd h (by decide)⟩
  · cases s1
    · exact ⟨_, sqSpecF16 a _ _ O1 (sqQ_inf16 n z1), sqImpl_inf16 a z1 n V1, fun h => absurd h (by decide)⟩
    · exact ⟨_, sqSpecF16 a _ _ O1 (sqQ_neginf16 n z1), sqImpl_neginf16 a z1 n V1, fun h => absurd h (by decide)⟩
  · exact ⟨_, sqSpecF16 a _ _ O1 (sqQ_nan16 n z1 s1), sqImpl_nan16 a z1 n s1 V1, fun h => absurd h (by decide)⟩

end Go.Proofs.Yteniijmnpgdpcaa
