/-
  FToInt: both sides, and its law.
-/
import Derived.Test.YtlkbalmkljabhabFTiJ
import Derived.Test.YtlkbalmkljabhabFTiS
import Derived.Test.YtlkbalmkljabhabFTiSB32
import Derived.Test.YtlkbalmkljabhabFTiSC32
import Derived.Test.YtlkbalmkljabhabFTiSB64
import Derived.Test.YtlkbalmkljabhabFTiSC64
import Derived.Test.YtlkbalmkljabhabFRoundL
import Derived.OpenShut
namespace Go.Proofs.Ytlkbalmkljabhab
open Go.RowKit

theorem size_room (n L : Nat) (e : Int) (h : n < 2 ^ L) (he : 0 ≤ e) (hL : (L : Int) + e ≤ 64) : n * 2 ^ e.toNat < 18446744073709551616 := by
  have h1 := Nat.mul_lt_mul_of_pos_right h (Nat.two_pow_pos e.toNat)
  rw [← Nat.pow_add] at h1
  exact Nat.lt_of_lt_of_le h1 (Nat.le_trans (Nat.pow_le_pow_right (by omega) (show L + e.toNat ≤ 64 by omega)) (by decide))

theorem toi_is (T M : Int) (s : Bool) (V : Int) (sg : Bool) : ∃ x y : Int, toi T M s V sg = .tuple #[.int .u64 x, .int .i64 y] := by
  unfold toi
  split
  · exact ⟨_, _, rfl⟩
  · exact ⟨_, _, rfl⟩

set_option maxHeartbeats 1000000 in
theorem toiBoth32_16 (a : Int) (sg : Bool) (a0 : 0 ≤ a) (a1 : a ≤ 4294967295) : ∃ x y : Int,
    (∀ w, Calls Try.prog 26 #[(.agg #[.int .u64 5, .int .u64 10]), .int .u32 a, .int .i64 32, .bool sg] w fun e w' => e = .returned (.tuple #[.int .u64 x, .int .i64 y]) ∧ Below w.heap.size w w') ∧
    (∀ w, Calls Try.prog 11 #[.int .i64 16, .int .u32 a, .int .i64 32, .bool sg] w fun e w' => e = .returned (.tuple #[.int .u64 x, .int .i64 y]) ∧ Below w.heap.size w w') := by
  obtain ⟨c1, m1, m1', e1, e1', q1, _⟩ := fv16 a
  have V1 := value16 a a0 a1
  have O1 := open16 a a0 a1
  generalize cl16 a = x1 at *
  generalize vm16 a = y1 at *
  generalize ve16 a = z1 at *
  generalize (a / 32768 % 2 == 1) = s at *
  obtain ⟨n, rfl⟩ := Int.eq_ofNat_of_zero_le m1
  rcases c1 with rfl | rfl | rfl
  · have hlen : n < 2 ^ Lib.bitLen n := by
      by_cases h : n = 0
      · subst h; decide
      · exact (bl_is n (by omega) h).2.2.2
    have hL25 : Lib.bitLen n ≤ 25 := bl_le n 25 (by omega) (by omega)
    have LN : Hid (∀ w, Calls Try.prog 21 #[.int .u64 (n : Int)] w fun e w' => e = .returned (.int .i64 (Lib.bitLen n : Int)) ∧ w' = w) := fun w => len64F n (by omega) w
    have SZ := fun w => sizeYes n (Lib.bitLen n) z1 s LN (by omega) (by omega) (by omega) (by omega) (fun h1 h2 => size_room n (Lib.bitLen n) z1 hlen h2 h1) w
    by_cases hfar : (Lib.bitLen n : Int) + z1 ≤ 64
    · simp only [if_pos hfar] at SZ
      have hVb : sizeOf n z1 < 18446744073709551616 := by
        unfold sizeOf
        split
        · rename_i h
          exact size_room n (Lib.bitLen n) z1 hlen h hfar
        · have := Nat.div_le_self n (2 ^ (-z1).toNat)
          omega
      obtain ⟨x, y, hxy⟩ := toi_is 2147483648 4294967296 s ((sizeOf n z1 : Nat) : Int) sg
      refine ⟨x, y, ?_, by rw [← hxy]; exact toiYes32_16 a 0 n z1 _ s sg V1 SZ (by omega) (by omega)⟩
      rw [← hxy]
      have NO : sizeOf n z1 = 0 → ∀ b : Int, b = s.toNat * 32768 + ((0 : Nat) : Int) → (∀ w, Calls Try.prog 47 #[(.agg #[.int .u64 5, .int .u64 10]), .int .i64 3, .agg #[.bool s, .bool false, .bool false, .int .u64 (n : Int), .int .i64 z1]] w fun x w' => x = .returned (.int .u32 b) ∧ Below w.heap.size w w') → ∀ w, Calls Try.prog 26 #[(.agg #[.int .u64 5, .int .u64 10]), .int .u32 a, .int .i64 32, .bool sg] w fun e w' => e = .returned (toi 2147483648 4294967296 s ((sizeOf n z1 : Nat) : Int) sg) ∧ Below w.heap.size w w' := by
        intro h0 b hb WH
        subst hb
        rw [h0]
        first
          | exact toiS_D32_16 a _ n z1 (-24) s sg O1 WH (openNought16 s) (by omega) (by omega)
          | exact toiS_C32_16 a _ n z1 0 (-24) 0 s sg O1 WH (openNought16 s) 24 (by omega) (by omega) (by omega) (by decide) (by omega) (by omega)
      by_cases hz : n = 0
      · subst hz
        have h0 : sizeOf 0 z1 = 0 := by unfold sizeOf; split <;> simp
        refine NO h0 _ rfl (wholeRnd16 3 z1 _ _ s (Or.inr rfl) ?_)
        intro w
        have h := specRound16 s 0 (by omega) z1 (by omega) (by omega) false w
        rw [show min (toldOf 10 (-24) 0 z1 false) 31744 = 0 by simp [toldOf]] at h
        exact h
      · by_cases he : 0 ≤ z1
        · have hP : (1024 : Int) ≤ (n : Int) := q1 rfl (by omega)
          have hl : Lib.bitLen n = 10 + 1 := bl_eq n (10 + 1) (by omega) (by omega) (by rw [show (2 : Nat) ^ (10 + 1 - 1) = 1024 by decide]; omega) (by rw [show (2 : Nat) ^ (10 + 1) = 2 * 1024 by decide]; omega)
          obtain ⟨E, rfl⟩ := Int.eq_ofNat_of_zero_le he
          have hV : sizeOf n (E : Int) = n * 2 ^ E := by unfold sizeOf; rw [if_pos he, Int.toNat_natCast]
          have O2 : Hid (∀ w, Calls Try.prog 14 #[(.agg #[.int .u64 5, .int .u64 10]), .int .u32 (s.toNat * 32768 + ((min (toldOf 10 (-24) n (E : Int) false) 31744 : Nat) : Int))] w fun x w' => x = .returned (.agg #[.bool s, .bool false, .bool false, .int .u64 (n : Int), .int .i64 (E : Int)]) ∧ Below w.heap.size w w') := by
            intro w
            have h := openExact16 s n (E : Int) hz (by omega) (by omega) (by omega) w
            rw [hl, show (E : Int) + ((10 + 1 : Nat) : Int) - 10 - 1 = (E : Int) by omega, show n * 2 ^ (10 + 1 - (10 + 1)) = n by simp] at h
            exact h
          refine toiS_B32_16 a _ n (E : Int) n (E : Int) _ s sg O1 (wholeRnd16 3 (E : Int) _ _ s (Or.inl he) (specRound16 s n (by omega) (E : Int) (by omega) (by omega) false)) O2 E rfl (by omega) ?_ (by omega) (by omega)
          rw [hV] at hVb ⊢
          rw [show (n : Int) * 2 ^ E = ((n * 2 ^ E : Nat) : Int) by simp, IntKind.wrap_u64]; omega
        · obtain ⟨t, ht⟩ : ∃ t : Nat, z1 = -(t : Int) := ⟨(-z1).toNat, by omega⟩
          have hV : sizeOf n z1 = n / 2 ^ t := by unfold sizeOf; rw [if_neg he, show (-z1).toNat = t by omega]
          have hle := Nat.div_le_self n (2 ^ t)
          have hwh : wh 3 s n t = n / 2 ^ t := by unfold wh; rw [if_neg (by decide), if_neg (by simp)]
          have RS := fun w => specRound16 s (n / 2 ^ t) (by omega) 0 (by omega) (by omega) false w
          have WH := fun (r : Int) (RR : ∀ w, Calls Try.prog 35 #[(.agg #[.int .u64 5, .int .u64 10]), .bool s, .int .u64 ((n / 2 ^ t : Nat) : Int), .int .i64 0, .bool false] w fun x w' => x = .returned (.int .u32 r) ∧ Below w.heap.size w w') => wholeSpec16 3 z1 s n t ht (by omega) (by omega) (by omega) hz (by omega) (by omega) r (by rw [hwh]; exact RR)
          by_cases hz2 : n / 2 ^ t = 0
          · refine NO (by rw [hV, hz2]) _ rfl (WH _ ?_)
            intro w
            have h := RS w
            rw [hz2] at h ⊢
            rw [show min (toldOf 10 (-24) 0 0 false) 31744 = 0 by simp [toldOf]] at h
            exact h
          · have hb2 : n / 2 ^ t < 2 * 1024 := by omega
            obtain ⟨l1, _, l3, l4⟩ := bl_is (n / 2 ^ t) (by omega) hz2
            have l5 : Lib.bitLen (n / 2 ^ t) ≤ 10 + 1 := bl_le _ (10 + 1) (by omega) (by rw [show (2 : Nat) ^ (10 + 1) = 2 * 1024 by decide]; exact hb2)
            have O2 := fun w => openExact16 s (n / 2 ^ t) 0 hz2 hb2 (by omega) (by omega) w
            have WHx := WH _ RS
            rw [hV] at hVb ⊢
            generalize n / 2 ^ t = Z at *
            obtain ⟨E, hE⟩ : ∃ E : Nat, 10 + 1 - Lib.bitLen Z = E := ⟨_, rfl⟩
            rw [hE] at O2
            have hp0 := Nat.two_pow_pos E
            by_cases hE0 : E = 0
            · subst hE0
              refine toiS_B32_16 a _ n z1 _ _ _ s sg O1 WHx O2 0 (by omega) (by omega) ?_ (by omega) (by omega)
              simp
              rw [IntKind.wrap_u64]; omega
            · refine toiS_C32_16 a _ n z1 _ _ _ s sg O1 WHx O2 E (by omega) (by omega) (by omega) ?_ (by omega) (by omega)
              rw [show (2 : Int) ^ E = ((2 ^ E : Nat) : Int) by simp, ← Int.natCast_ediv, Nat.mul_div_cancel _ hp0]
    · simp only [if_neg hfar] at SZ
      refine ⟨0, 2, ?_, toiNo32_16 a 0 n z1 s sg V1 SZ⟩
      have hP : (1024 : Int) ≤ (n : Int) := q1 rfl (by omega)
      have hl : Lib.bitLen n = 10 + 1 := bl_eq n (10 + 1) (by omega) (by omega) (by rw [show (2 : Nat) ^ (10 + 1 - 1) = 1024 by decide]; omega) (by rw [show (2 : Nat) ^ (10 + 1) = 2 * 1024 by decide]; omega)
      have O2 : Hid (∀ w, Calls Try.prog 14 #[(.agg #[.int .u64 5, .int .u64 10]), .int .u32 (s.toNat * 32768 + ((min (toldOf 10 (-24) n z1 false) 31744 : Nat) : Int))] w fun x w' => x = .returned (.agg #[.bool s, .bool false, .bool false, .int .u64 (n : Int), .int .i64 z1]) ∧ Below w.heap.size w w') := by
        intro w
        have h := openExact16 s n z1 (by omega) (by omega) (by omega) (by omega) w
        rw [hl, show z1 + ((10 + 1 : Nat) : Int) - 10 - 1 = z1 by omega, show n * 2 ^ (10 + 1 - (10 + 1)) = n by simp] at h
        exact h
      exact toiS_far32_16 a _ n z1 n z1 s sg O1 (wholeRnd16 3 z1 _ _ s (Or.inl (by omega)) (specRound16 s n (by omega) z1 (by omega) (by omega) false)) O2 (by omega)
  · exact ⟨0, 2, toiS_inf32_16 a n z1 s sg O1, toiNo32_16 a 1 n z1 s sg V1 (sizeNo 1 n z1 s rfl)⟩
  · exact ⟨0, 2, toiS_nan32_16 a n z1 s sg _ O1, toiNo32_16 a 2 n z1 s sg V1 (sizeNo 2 n z1 s rfl)⟩

set_option maxHeartbeats 1000000 in
theorem toiBoth32_32 (a : Int) (sg : Bool) (a0 : 0 ≤ a) (a1 : a ≤ 4294967295) : ∃ x y : Int,
    (∀ w, Calls Try.prog 26 #[(.agg #[.int .u64 8, .int .u64 23]), .int .u32 a, .int .i64 32, .bool sg] w fun e w' => e = .returned (.tuple #[.int .u64 x, .int .i64 y]) ∧ Below w.heap.size w w') ∧
    (∀ w, Calls Try.prog 11 #[.int .i64 32, .int .u32 a, .int .i64 32, .bool sg] w fun e w' => e = .returned (.tuple #[.int .u64 x, .int .i64 y]) ∧ Below w.heap.size w w') := by
  obtain ⟨c1, m1, m1', e1, e1', q1, _⟩ := fv32 a
  have V1 := value32 a a0 a1
  have O1 := open32 a a0 a1
  generalize cl32 a = x1 at *
  generalize vm32 a = y1 at *
  generalize ve32 a = z1 at *
  generalize (a / 2147483648 % 2 == 1) = s at *
  obtain ⟨n, rfl⟩ := Int.eq_ofNat_of_zero_le m1
  rcases c1 with rfl | rfl | rfl
  · have hlen : n < 2 ^ Lib.bitLen n := by
      by_cases h : n = 0
      · subst h; decide
      · exact (bl_is n (by omega) h).2.2.2
    have hL25 : Lib.bitLen n ≤ 25 := bl_le n 25 (by omega) (by omega)
    have LN : Hid (∀ w, Calls Try.prog 21 #[.int .u64 (n : Int)] w fun e w' => e = .returned (.int .i64 (Lib.bitLen n : Int)) ∧ w' = w) := fun w => len64F n (by omega) w
    have SZ := fun w => sizeYes n (Lib.bitLen n) z1 s LN (by omega) (by omega) (by omega) (by omega) (fun h1 h2 => size_room n (Lib.bitLen n) z1 hlen h2 h1) w
    by_cases hfar : (Lib.bitLen n : Int) + z1 ≤ 64
    · simp only [if_pos hfar] at SZ
      have hVb : sizeOf n z1 < 18446744073709551616 := by
        unfold sizeOf
        split
        · rename_i h
          exact size_room n (Lib.bitLen n) z1 hlen h hfar
        · have := Nat.div_le_self n (2 ^ (-z1).toNat)
          omega
      obtain ⟨x, y, hxy⟩ := toi_is 2147483648 4294967296 s ((sizeOf n z1 : Nat) : Int) sg
      refine ⟨x, y, ?_, by rw [← hxy]; exact toiYes32_32 a 0 n z1 _ s sg V1 SZ (by omega) (by omega)⟩
      rw [← hxy]
      have NO : sizeOf n z1 = 0 → ∀ b : Int, b = s.toNat * 2147483648 + ((0 : Nat) : Int) → (∀ w, Calls Try.prog 47 #[(.agg #[.int .u64 8, .int .u64 23]), .int .i64 3, .agg #[.bool s, .bool false, .bool false, .int .u64 (n : Int), .int .i64 z1]] w fun x w' => x = .returned (.int .u32 b) ∧ Below w.heap.size w w') → ∀ w, Calls Try.prog 26 #[(.agg #[.int .u64 8, .int .u64 23]), .int .u32 a, .int .i64 32, .bool sg] w fun e w' => e = .returned (toi 2147483648 4294967296 s ((sizeOf n z1 : Nat) : Int) sg) ∧ Below w.heap.size w w' := by
        intro h0 b hb WH
        subst hb
        rw [h0]
        first
          | exact toiS_D32_32 a _ n z1 (-149) s sg O1 WH (openNought32 s) (by omega) (by omega)
          | exact toiS_C32_32 a _ n z1 0 (-149) 0 s sg O1 WH (openNought32 s) 24 (by omega) (by omega) (by omega) (by decide) (by omega) (by omega)
      by_cases hz : n = 0
      · subst hz
        have h0 : sizeOf 0 z1 = 0 := by unfold sizeOf; split <;> simp
        refine NO h0 _ rfl (wholeRnd32 3 z1 _ _ s (Or.inr rfl) ?_)
        intro w
        have h := specRound32 s 0 (by omega) z1 (by omega) (by omega) false w
        rw [show min (toldOf 23 (-149) 0 z1 false) 2139095040 = 0 by simp [toldOf]] at h
        exact h
      · by_cases he : 0 ≤ z1
        · have hP : (8388608 : Int) ≤ (n : Int) := q1 rfl (by omega)
          have hl : Lib.bitLen n = 23 + 1 := bl_eq n (23 + 1) (by omega) (by omega) (by rw [show (2 : Nat) ^ (23 + 1 - 1) = 8388608 by decide]; omega) (by rw [show (2 : Nat) ^ (23 + 1) = 2 * 8388608 by decide]; omega)
          obtain ⟨E, rfl⟩ := Int.eq_ofNat_of_zero_le he
          have hV : sizeOf n (E : Int) = n * 2 ^ E := by unfold sizeOf; rw [if_pos he, Int.toNat_natCast]
          have O2 : Hid (∀ w, Calls Try.prog 14 #[(.agg #[.int .u64 8, .int .u64 23]), .int .u32 (s.toNat * 2147483648 + ((min (toldOf 23 (-149) n (E : Int) false) 2139095040 : Nat) : Int))] w fun x w' => x = .returned (.agg #[.bool s, .bool false, .bool false, .int .u64 (n : Int), .int .i64 (E : Int)]) ∧ Below w.heap.size w w') := by
            intro w
            have h := openExact32 s n (E : Int) hz (by omega) (by omega) (by omega) w
            rw [hl, show (E : Int) + ((23 + 1 : Nat) : Int) - 23 - 1 = (E : Int) by omega, show n * 2 ^ (23 + 1 - (23 + 1)) = n by simp] at h
            exact h
          refine toiS_B32_32 a _ n (E : Int) n (E : Int) _ s sg O1 (wholeRnd32 3 (E : Int) _ _ s (Or.inl he) (specRound32 s n (by omega) (E : Int) (by omega) (by omega) false)) O2 E rfl (by omega) ?_ (by omega) (by omega)
          rw [hV] at hVb ⊢
          rw [show (n : Int) * 2 ^ E = ((n * 2 ^ E : Nat) : Int) by simp, IntKind.wrap_u64]; omega
        · obtain ⟨t, ht⟩ : ∃ t : Nat, z1 = -(t : Int) := ⟨(-z1).toNat, by omega⟩
          have hV : sizeOf n z1 = n / 2 ^ t := by unfold sizeOf; rw [if_neg he, show (-z1).toNat = t by omega]
          have hle := Nat.div_le_self n (2 ^ t)
          have hwh : wh 3 s n t = n / 2 ^ t := by unfold wh; rw [if_neg (by decide), if_neg (by simp)]
          have RS := fun w => specRound32 s (n / 2 ^ t) (by omega) 0 (by omega) (by omega) false w
          have WH := fun (r : Int) (RR : ∀ w, Calls Try.prog 35 #[(.agg #[.int .u64 8, .int .u64 23]), .bool s, .int .u64 ((n / 2 ^ t : Nat) : Int), .int .i64 0, .bool false] w fun x w' => x = .returned (.int .u32 r) ∧ Below w.heap.size w w') => wholeSpec32 3 z1 s n t ht (by omega) (by omega) (by omega) hz (by omega) (by omega) r (by rw [hwh]; exact RR)
          by_cases hz2 : n / 2 ^ t = 0
          · refine NO (by rw [hV, hz2]) _ rfl (WH _ ?_)
            intro w
            have h := RS w
            rw [hz2] at h ⊢
            rw [show min (toldOf 23 (-149) 0 0 false) 2139095040 = 0 by simp [toldOf]] at h
            exact h
          · have hb2 : n / 2 ^ t < 2 * 8388608 := by omega
            obtain ⟨l1, _, l3, l4⟩ := bl_is (n / 2 ^ t) (by omega) hz2
            have l5 : Lib.bitLen (n / 2 ^ t) ≤ 23 + 1 := bl_le _ (23 + 1) (by omega) (by rw [show (2 : Nat) ^ (23 + 1) = 2 * 8388608 by decide]; exact hb2)
            have O2 := fun w => openExact32 s (n / 2 ^ t) 0 hz2 hb2 (by omega) (by omega) w
            have WHx := WH _ RS
            rw [hV] at hVb ⊢
            generalize n / 2 ^ t = Z at *
            obtain ⟨E, hE⟩ : ∃ E : Nat, 23 + 1 - Lib.bitLen Z = E := ⟨_, rfl⟩
            rw [hE] at O2
            have hp0 := Nat.two_pow_pos E
            by_cases hE0 : E = 0
            · subst hE0
              refine toiS_B32_32 a _ n z1 _ _ _ s sg O1 WHx O2 0 (by omega) (by omega) ?_ (by omega) (by omega)
              simp
              rw [IntKind.wrap_u64]; omega
            · refine toiS_C32_32 a _ n z1 _ _ _ s sg O1 WHx O2 E (by omega) (by omega) (by omega) ?_ (by omega) (by omega)
              rw [show (2 : Int) ^ E = ((2 ^ E : Nat) : Int) by simp, ← Int.natCast_ediv, Nat.mul_div_cancel _ hp0]
    · simp only [if_neg hfar] at SZ
      refine ⟨0, 2, ?_, toiNo32_32 a 0 n z1 s sg V1 SZ⟩
      have hP : (8388608 : Int) ≤ (n : Int) := q1 rfl (by omega)
      have hl : Lib.bitLen n = 23 + 1 := bl_eq n (23 + 1) (by omega) (by omega) (by rw [show (2 : Nat) ^ (23 + 1 - 1) = 8388608 by decide]; omega) (by rw [show (2 : Nat) ^ (23 + 1) = 2 * 8388608 by decide]; omega)
      have O2 : Hid (∀ w, Calls Try.prog 14 #[(.agg #[.int .u64 8, .int .u64 23]), .int .u32 (s.toNat * 2147483648 + ((min (toldOf 23 (-149) n z1 false) 2139095040 : Nat) : Int))] w fun x w' => x = .returned (.agg #[.bool s, .bool false, .bool false, .int .u64 (n : Int), .int .i64 z1]) ∧ Below w.heap.size w w') := by
        intro w
        have h := openExact32 s n z1 (by omega) (by omega) (by omega) (by omega) w
        rw [hl, show z1 + ((23 + 1 : Nat) : Int) - 23 - 1 = z1 by omega, show n * 2 ^ (23 + 1 - (23 + 1)) = n by simp] at h
        exact h
      exact toiS_far32_32 a _ n z1 n z1 s sg O1 (wholeRnd32 3 z1 _ _ s (Or.inl (by omega)) (specRound32 s n (by omega) z1 (by omega) (by omega) false)) O2 (by omega)
  · exact ⟨0, 2, toiS_inf32_32 a n z1 s sg O1, toiNo32_32 a 1 n z1 s sg V1 (sizeNo 1 n z1 s rfl)⟩
  · exact ⟨0, 2, toiS_nan32_32 a n z1 s sg _ O1, toiNo32_32 a 2 n z1 s sg V1 (sizeNo 2 n z1 s rfl)⟩

set_option maxHeartbeats 1000000 in
theorem toiBoth64_16 (a : Int) (sg : Bool) (a0 : 0 ≤ a) (a1 : a ≤ 4294967295) : ∃ x y : Int,
    (∀ w, Calls Try.prog 26 #[(.agg #[.int .u64 5, .int .u64 10]), .int .u32 a, .int .i64 64, .bool sg] w fun e w' => e = .returned (.tuple #[.int .u64 x, .int .i64 y]) ∧ Below w.heap.size w w') ∧
    (∀ w, Calls Try.prog 11 #[.int .i64 16, .int .u32 a, .int .i64 64, .bool sg] w fun e w' => e = .returned (.tuple #[.int .u64 x, .int .i64 y]) ∧ Below w.heap.size w w') := by
  obtain ⟨c1, m1, m1', e1, e1', q1, _⟩ := fv16 a
  have V1 := value16 a a0 a1
  have O1 := open16 a a0 a1
  generalize cl16 a = x1 at *
  generalize vm16 a = y1 at *
  generalize ve16 a = z1 at *
  generalize (a / 32768 % 2 == 1) = s at *
  obtain ⟨n, rfl⟩ := Int.eq_ofNat_of_zero_le m1
  rcases c1 with rfl | rfl | rfl
  · have hlen : n < 2 ^ Lib.bitLen n := by
      by_cases h : n = 0
      · subst h; decide
      · exact (bl_is n (by omega) h).2.2.2
    have hL25 : Lib.bitLen n ≤ 25 := bl_le n 25 (by omega) (by omega)
    have LN : Hid (∀ w, Calls Try.prog 21 #[.int .u64 (n : Int)] w fun e w' => e = .returned (.int .i64 (Lib.bitLen n : Int)) ∧ w' = w) := fun w => len64F n (by omega) w
    have SZ := fun w => sizeYes n (Lib.bitLen n) z1 s LN (by omega) (by omega) (by omega) (by omega) (fun h1 h2 => size_room n (Lib.bitLen n) z1 hlen h2 h1) w
    by_cases hfar : (Lib.bitLen n : Int) + z1 ≤ 64
    · simp only [if_pos hfar] at SZ
      have hVb : sizeOf n z1 < 18446744073709551616 := by
        unfold sizeOf
        split
        · rename_i h
          exact size_room n (Lib.bitLen n) z1 hlen h hfar
        · have := Nat.div_le_self n (2 ^ (-z1).toNat)
          omega
      obtain ⟨x, y, hxy⟩ := toi_is 9223372036854775808 18446744073709551616 s ((sizeOf n z1 : Nat) : Int) sg
      refine ⟨x, y, ?_, by rw [← hxy]; exact toiYes64_16 a 0 n z1 _ s sg V1 SZ (by omega) (by omega)⟩
      rw [← hxy]
      have NO : sizeOf n z1 = 0 → ∀ b : Int, b = s.toNat * 32768 + ((0 : Nat) : Int) → (∀ w, Calls Try.prog 47 #[(.agg #[.int .u64 5, .int .u64 10]), .int .i64 3, .agg #[.bool s, .bool false, .bool false, .int .u64 (n : Int), .int .i64 z1]] w fun x w' => x = .returned (.int .u32 b) ∧ Below w.heap.size w w') → ∀ w, Calls Try.prog 26 #[(.agg #[.int .u64 5, .int .u64 10]), .int .u32 a, .int .i64 64, .bool sg] w fun e w' => e = .returned (toi 9223372036854775808 18446744073709551616 s ((sizeOf n z1 : Nat) : Int) sg) ∧ Below w.heap.size w w' := by
        intro h0 b hb WH
        subst hb
        rw [h0]
        first
          | exact toiS_D64_16 a _ n z1 (-24) s sg O1 WH (openNought16 s) (by omega) (by omega)
          | exact toiS_C64_16 a _ n z1 0 (-24) 0 s sg O1 WH (openNought16 s) 24 (by omega) (by omega) (by omega) (by decide) (by omega) (by omega)
      by_cases hz : n = 0
      · subst hz
        have h0 : sizeOf 0 z1 = 0 := by unfold sizeOf; split <;> simp
        refine NO h0 _ rfl (wholeRnd16 3 z1 _ _ s (Or.inr rfl) ?_)
        intro w
        have h := specRound16 s 0 (by omega) z1 (by omega) (by omega) false w
        rw [show min (toldOf 10 (-24) 0 z1 false) 31744 = 0 by simp [toldOf]] at h
        exact h
      · by_cases he : 0 ≤ z1
        · have hP : (1024 : Int) ≤ (n : Int) := q1 rfl (by omega)
          have hl : Lib.bitLen n = 10 + 1 := bl_eq n (10 + 1) (by omega) (by omega) (by rw [show (2 : Nat) ^ (10 + 1 - 1) = 1024 by decide]; omega) (by rw [show (2 : Nat) ^ (10 + 1) = 2 * 1024 by decide]; omega)
          obtain ⟨E, rfl⟩ := Int.eq_ofNat_of_zero_le he
          have hV : sizeOf n (E : Int) = n * 2 ^ E := by unfold sizeOf; rw [if_pos he, Int.toNat_natCast]
          have O2 : Hid (∀ w, Calls Try.prog 14 #[(.agg #[.int .u64 5, .int .u64 10]), .int .u32 (s.toNat * 32768 + ((min (toldOf 10 (-24) n (E : Int) false) 31744 : Nat) : Int))] w fun x w' => x = .returned (.agg #[.bool s, .bool false, .bool false, .int .u64 (n : Int), .int .i64 (E : Int)]) ∧ Below w.heap.size w w') := by
            intro w
            have h := openExact16 s n (E : Int) hz (by omega) (by omega) (by omega) w
            rw [hl, show (E : Int) + ((10 + 1 : Nat) : Int) - 10 - 1 = (E : Int) by omega, show n * 2 ^ (10 + 1 - (10 + 1)) = n by simp] at h
            exact h
          refine toiS_B64_16 a _ n (E : Int) n (E : Int) _ s sg O1 (wholeRnd16 3 (E : Int) _ _ s (Or.inl he) (specRound16 s n (by omega) (E : Int) (by omega) (by omega) false)) O2 E rfl (by omega) ?_ (by omega) (by omega)
          rw [hV] at hVb ⊢
          rw [show (n : Int) * 2 ^ E = ((n * 2 ^ E : Nat) : Int) by simp, IntKind.wrap_u64]; omega
        · obtain ⟨t, ht⟩ : ∃ t : Nat, z1 = -(t : Int) := ⟨(-z1).toNat, by omega⟩
          have hV : sizeOf n z1 = n / 2 ^ t := by unfold sizeOf; rw [if_neg he, show (-z1).toNat = t by omega]
          have hle := Nat.div_le_self n (2 ^ t)
          have hwh : wh 3 s n t = n / 2 ^ t := by unfold wh; rw [if_neg (by decide), if_neg (by simp)]
          have RS := fun w => specRound16 s (n / 2 ^ t) (by omega) 0 (by omega) (by omega) false w
          have WH := fun (r : Int) (RR : ∀ w, Calls Try.prog 35 #[(.agg #[.int .u64 5, .int .u64 10]), .bool s, .int .u64 ((n / 2 ^ t : Nat) : Int), .int .i64 0, .bool false] w fun x w' => x = .returned (.int .u32 r) ∧ Below w.heap.size w w') => wholeSpec16 3 z1 s n t ht (by omega) (by omega) (by omega) hz (by omega) (by omega) r (by rw [hwh]; exact RR)
          by_cases hz2 : n / 2 ^ t = 0
          · refine NO (by rw [hV, hz2]) _ rfl (WH _ ?_)
            intro w
            have h := RS w
            rw [hz2] at h ⊢
            rw [show min (toldOf 10 (-24) 0 0 false) 31744 = 0 by simp [toldOf]] at h
            exact h
          · have hb2 : n / 2 ^ t < 2 * 1024 := by omega
            obtain ⟨l1, _, l3, l4⟩ := bl_is (n / 2 ^ t) (by omega) hz2
            have l5 : Lib.bitLen (n / 2 ^ t) ≤ 10 + 1 := bl_le _ (10 + 1) (by omega) (by rw [show (2 : Nat) ^ (10 + 1) = 2 * 1024 by decide]; exact hb2)
            have O2 := fun w => openExact16 s (n / 2 ^ t) 0 hz2 hb2 (by omega) (by omega) w
            have WHx := WH _ RS
            rw [hV] at hVb ⊢
            generalize n / 2 ^ t = Z at *
            obtain ⟨E, hE⟩ : ∃ E : Nat, 10 + 1 - Lib.bitLen Z = E := ⟨_, rfl⟩
            rw [hE] at O2
            have hp0 := Nat.two_pow_pos E
            by_cases hE0 : E = 0
            · subst hE0
              refine toiS_B64_16 a _ n z1 _ _ _ s sg O1 WHx O2 0 (by omega) (by omega) ?_ (by omega) (by omega)
              simp
              rw [IntKind.wrap_u64]; omega
            · refine toiS_C64_16 a _ n z1 _ _ _ s sg O1 WHx O2 E (by omega) (by omega) (by omega) ?_ (by omega) (by omega)
              rw [show (2 : Int) ^ E = ((2 ^ E : Nat) : Int) by simp, ← Int.natCast_ediv, Nat.mul_div_cancel _ hp0]
    · simp only [if_neg hfar] at SZ
      refine ⟨0, 2, ?_, toiNo64_16 a 0 n z1 s sg V1 SZ⟩
      have hP : (1024 : Int) ≤ (n : Int) := q1 rfl (by omega)
      have hl : Lib.bitLen n = 10 + 1 := bl_eq n (10 + 1) (by omega) (by omega) (by rw [show (2 : Nat) ^ (10 + 1 - 1) = 1024 by decide]; omega) (by rw [show (2 : Nat) ^ (10 + 1) = 2 * 1024 by decide]; omega)
      have O2 : Hid (∀ w, Calls Try.prog 14 #[(.agg #[.int .u64 5, .int .u64 10]), .int .u32 (s.toNat * 32768 + ((min (toldOf 10 (-24) n z1 false) 31744 : Nat) : Int))] w fun x w' => x = .returned (.agg #[.bool s, .bool false, .bool false, .int .u64 (n : Int), .int .i64 z1]) ∧ Below w.heap.size w w') := by
        intro w
        have h := openExact16 s n z1 (by omega) (by omega) (by omega) (by omega) w
        rw [hl, show z1 + ((10 + 1 : Nat) : Int) - 10 - 1 = z1 by omega, show n * 2 ^ (10 + 1 - (10 + 1)) = n by simp] at h
        exact h
      exact toiS_far64_16 a _ n z1 n z1 s sg O1 (wholeRnd16 3 z1 _ _ s (Or.inl (by omega)) (specRound16 s n (by omega) z1 (by omega) (by omega) false)) O2 (by omega)
  · exact ⟨0, 2, toiS_inf64_16 a n z1 s sg O1, toiNo64_16 a 1 n z1 s sg V1 (sizeNo 1 n z1 s rfl)⟩
  · exact ⟨0, 2, toiS_nan64_16 a n z1 s sg _ O1, toiNo64_16 a 2 n z1 s sg V1 (sizeNo 2 n z1 s rfl)⟩

set_option maxHeartbeats 1000000 in
theorem toiBoth64_32 (a : Int) (sg : Bool) (a0 : 0 ≤ a) (a1 : a ≤ 4294967295) : ∃ x y : Int,
    (∀ w, Calls Try.prog 26 #[(.agg #[.int .u64 8, .int .u64 23]), .int .u32 a, .int .i64 64, .bool sg] w fun e w' => e = .returned (.tuple #[.int .u64 x, .int .i64 y]) ∧ Below w.heap.size w w') ∧
    (∀ w, Calls Try.prog 11 #[.int .i64 32, .int .u32 a, .int .i64 64, .bool sg] w fun e w' => e = .returned (.tuple #[.int .u64 x, .int .i64 y]) ∧ Below w.heap.size w w') := by
  obtain ⟨c1, m1, m1', e1, e1', q1, _⟩ := fv32 a
  have V1 := value32 a a0 a1
  have O1 := open32 a a0 a1
  generalize cl32 a = x1 at *
  generalize vm32 a = y1 at *
  generalize ve32 a = z1 at *
  generalize (a / 2147483648 % 2 == 1) = s at *
  obtain ⟨n, rfl⟩ := Int.eq_ofNat_of_zero_le m1
  rcases c1 with rfl | rfl | rfl
  · have hlen : n < 2 ^ Lib.bitLen n := by
      by_cases h : n = 0
      · subst h; decide
      · exact (bl_is n (by omega) h).2.2.2
    have hL25 : Lib.bitLen n ≤ 25 := bl_le n 25 (by omega) (by omega)
    have LN : Hid (∀ w, Calls Try.prog 21 #[.int .u64 (n : Int)] w fun e w' => e = .returned (.int .i64 (Lib.bitLen n : Int)) ∧ w' = w) := fun w => len64F n (by omega) w
    have SZ := fun w => sizeYes n (Lib.bitLen n) z1 s LN (by omega) (by omega) (by omega) (by omega) (fun h1 h2 => size_room n (Lib.bitLen n) z1 hlen h2 h1) w
    by_cases hfar : (Lib.bitLen n : Int) + z1 ≤ 64
    · simp only [if_pos hfar] at SZ
      have hVb : sizeOf n z1 < 18446744073709551616 := by
        unfold sizeOf
        split
        · rename_i h
          exact size_room n (Lib.bitLen n) z1 hlen h hfar
        · have := Nat.div_le_self n (2 ^ (-z1).toNat)
          omega
      obtain ⟨x, y, hxy⟩ := toi_is 9223372036854775808 18446744073709551616 s ((sizeOf n z1 : Nat) : Int) sg
      refine ⟨x, y, ?_, by rw [← hxy]; exact toiYes64_32 a 0 n z1 _ s sg V1 SZ (by omega) (by omega)⟩
      rw [← hxy]
      have NO : sizeOf n z1 = 0 → ∀ b : Int, b = s.toNat * 2147483648 + ((0 : Nat) : Int) → (∀ w, Calls Try.prog 47 #[(.agg #[.int .u64 8, .int .u64 23]), .int .i64 3, .agg #[.bool s, .bool false, .bool false, .int .u64 (n : Int), .int .i64 z1]] w fun x w' => x = .returned (.int .u32 b) ∧ Below w.heap.size w w') → ∀ w, Calls Try.prog 26 #[(.agg #[.int .u64 8, .int .u64 23]), .int .u32 a, .int .i64 64, .bool sg] w fun e w' => e = .returned (toi 9223372036854775808 18446744073709551616 s ((sizeOf n z1 : Nat) : Int) sg) ∧ Below w.heap.size w w' := by
        intro h0 b hb WH
        subst hb
        rw [h0]
        first
          | exact toiS_D64_32 a _ n z1 (-149) s sg O1 WH (openNought32 s) (by omega) (by omega)
          | exact toiS_C64_32 a _ n z1 0 (-149) 0 s sg O1 WH (openNought32 s) 24 (by omega) (by omega) (by omega) (by decide) (by omega) (by omega)
      by_cases hz : n = 0
      · subst hz
        have h0 : sizeOf 0 z1 = 0 := by unfold sizeOf; split <;> simp
        refine NO h0 _ rfl (wholeRnd32 3 z1 _ _ s (Or.inr rfl) ?_)
        intro w
        have h := specRound32 s 0 (by omega) z1 (by omega) (by omega) false w
        rw [show min (toldOf 23 (-149) 0 z1 false) 2139095040 = 0 by simp [toldOf]] at h
        exact h
      · by_cases he : 0 ≤ z1
        · have hP : (8388608 : Int) ≤ (n : Int) := q1 rfl (by omega)
          have hl : Lib.bitLen n = 23 + 1 := bl_eq n (23 + 1) (by omega) (by omega) (by rw [show (2 : Nat) ^ (23 + 1 - 1) = 8388608 by decide]; omega) (by rw [show (2 : Nat) ^ (23 + 1) = 2 * 8388608 by decide]; omega)
          obtain ⟨E, rfl⟩ := Int.eq_ofNat_of_zero_le he
          have hV : sizeOf n (E : Int) = n * 2 ^ E := by unfold sizeOf; rw [if_pos he, Int.toNat_natCast]
          have O2 : Hid (∀ w, Calls Try.prog 14 #[(.agg #[.int .u64 8, .int .u64 23]), .int .u32 (s.toNat * 2147483648 + ((min (toldOf 23 (-149) n (E : Int) false) 2139095040 : Nat) : Int))] w fun x w' => x = .returned (.agg #[.bool s, .bool false, .bool false, .int .u64 (n : Int), .int .i64 (E : Int)]) ∧ Below w.heap.size w w') := by
            intro w
            have h := openExact32 s n (E : Int) hz (by omega) (by omega) (by omega) w
            rw [hl, show (E : Int) + ((23 + 1 : Nat) : Int) - 23 - 1 = (E : Int) by omega, show n * 2 ^ (23 + 1 - (23 + 1)) = n by simp] at h
            exact h
          refine toiS_B64_32 a _ n (E : Int) n (E : Int) _ s sg O1 (wholeRnd32 3 (E : Int) _ _ s (Or.inl he) (specRound32 s n (by omega) (E : Int) (by omega) (by omega) false)) O2 E rfl (by omega) ?_ (by omega) (by omega)
          rw [hV] at hVb ⊢
          rw [show (n : Int) * 2 ^ E = ((n * 2 ^ E : Nat) : Int) by simp, IntKind.wrap_u64]; omega
        · obtain ⟨t, ht⟩ : ∃ t : Nat, z1 = -(t : Int) := ⟨(-z1).toNat, by omega⟩
          have hV : sizeOf n z1 = n / 2 ^ t := by unfold sizeOf; rw [if_neg he, show (-z1).toNat = t by omega]
          have hle := Nat.div_le_self n (2 ^ t)
          have hwh : wh 3 s n t = n / 2 ^ t := by unfold wh; rw [if_neg (by decide), if_neg (by simp)]
          have RS := fun w => specRound32 s (n / 2 ^ t) (by omega) 0 (by omega) (by omega) false w
          have WH := fun (r : Int) (RR : ∀ w, Calls Try.prog 35 #[(.agg #[.int .u64 8, .int .u64 23]), .bool s, .int .u64 ((n / 2 ^ t : Nat) : Int), .int .i64 0, .bool false] w fun x w' => x = .returned (.int .u32 r) ∧ Below w.heap.size w w') => wholeSpec32 3 z1 s n t ht (by omega) (by omega) (by omega) hz (by omega) (by omega) r (by rw [hwh]; exact RR)
          by_cases hz2 : n / 2 ^ t = 0
          · refine NO (by rw [hV, hz2]) _ rfl (WH _ ?_)
            intro w
            have h := RS w
            rw [hz2] at h ⊢
            rw [show min (toldOf 23 (-149) 0 0 false) 2139095040 = 0 by simp [toldOf]] at h
            exact h
          · have hb2 : n / 2 ^ t < 2 * 8388608 := by omega
            obtain ⟨l1, _, l3, l4⟩ := bl_is (n / 2 ^ t) (by omega) hz2
            have l5 : Lib.bitLen (n / 2 ^ t) ≤ 23 + 1 := bl_le _ (23 + 1) (by omega) (by rw [show (2 : Nat) ^ (23 + 1) = 2 * 8388608 by decide]; exact hb2)
            have O2 := fun w => openExact32 s (n / 2 ^ t) 0 hz2 hb2 (by omega) (by omega) w
            have WHx := WH _ RS
            rw [hV] at hVb ⊢
            generalize n / 2 ^ t = Z at *
            obtain ⟨E, hE⟩ : ∃ E : Nat, 23 + 1 - Lib.bitLen Z = E := ⟨_, rfl⟩
            rw [hE] at O2
            have hp0 := Nat.two_pow_pos E
            by_cases hE0 : E = 0
            · subst hE0
              refine toiS_B64_32 a _ n z1 _ _ _ s sg O1 WHx O2 0 (by omega) (by omega) ?_ (by omega) (by omega)
              simp
              rw [IntKind.wrap_u64]; omega
            · refine toiS_C64_32 a _ n z1 _ _ _ s sg O1 WHx O2 E (by omega) (by omega) (by omega) ?_ (by omega) (by omega)
              rw [show (2 : Int) ^ E = ((2 ^ E : Nat) : Int) by simp, ← Int.natCast_ediv, Nat.mul_div_cancel _ hp0]
    · simp only [if_neg hfar] at SZ
      refine ⟨0, 2, ?_, toiNo64_32 a 0 n z1 s sg V1 SZ⟩
      have hP : (8388608 : Int) ≤ (n : Int) := q1 rfl (by omega)
      have hl : Lib.bitLen n = 23 + 1 := bl_eq n (23 + 1) (by omega) (by omega) (by rw [show (2 : Nat) ^ (23 + 1 - 1) = 8388608 by decide]; omega) (by rw [show (2 : Nat) ^ (23 + 1) = 2 * 8388608 by decide]; omega)
      have O2 : Hid (∀ w, Calls Try.prog 14 #[(.agg #[.int .u64 8, .int .u64 23]), .int .u32 (s.toNat * 2147483648 + ((min (toldOf 23 (-149) n z1 false) 2139095040 : Nat) : Int))] w fun x w' => x = .returned (.agg #[.bool s, .bool false, .bool false, .int .u64 (n : Int), .int .i64 z1]) ∧ Below w.heap.size w w') := by
        intro w
        have h := openExact32 s n z1 (by omega) (by omega) (by omega) (by omega) w
        rw [hl, show z1 + ((23 + 1 : Nat) : Int) - 23 - 1 = z1 by omega, show n * 2 ^ (23 + 1 - (23 + 1)) = n by simp] at h
        exact h
      exact toiS_far64_32 a _ n z1 n z1 s sg O1 (wholeRnd32 3 z1 _ _ s (Or.inl (by omega)) (specRound32 s n (by omega) z1 (by omega) (by omega) false)) O2 (by omega)
  · exact ⟨0, 2, toiS_inf64_32 a n z1 s sg O1, toiNo64_32 a 1 n z1 s sg V1 (sizeNo 1 n z1 s rfl)⟩
  · exact ⟨0, 2, toiS_nan64_32 a n z1 s sg _ O1, toiNo64_32 a 2 n z1 s sg V1 (sizeNo 2 n z1 s rfl)⟩

theorem toiSpecF16 (a bits x y : Int) (sg : Bool) (hb : (bits == 32 || bits == 64) = true)
    (TI : Hid (∀ w, Calls Try.prog 26 #[(.agg #[.int .u64 5, .int .u64 10]), .int .u32 a, .int .i64 bits, .bool sg] w fun e w' => e = .returned (.tuple #[.int .u64 x, .int .i64 y]) ∧ Below w.heap.size w w')) (w : World) :
    Calls Try.prog 10 #[.int .i64 16, .int .u32 a, .int .i64 bits, .bool sg] w fun e w' => e = .returned (.tuple #[.int .u64 x, .int .i64 y]) ∧ Below w.heap.size w w' := by
  have SB := specBitsT bits
  rw [hb] at SB
  clear hb
  go_enter Try.func10, Try.ntmps10
  go_wp2_with fail
  refine (l4Kind16 _).mono ?_
  rintro e' w1 ⟨rfl, B1⟩
  go_wp2_with fail
  refine (SB _).mono ?_
  rintro e' w2 ⟨rfl, hw2⟩
  obtain rfl := hw2
  go_wp2_with fail
  refine (TI.out _).mono ?_
  rintro e' w3 ⟨rfl, B3⟩
  go_wp2
  refine bodyPost_ret (two_resT Try.results10 _ _ _) rfl ⟨rfl, ?_⟩
  ((repeat (first | refine bel_alloc ?_ _ | refine bel_dN ?_ _ | refine Below.drew ?_ | refine Below.setCell ?_ (by first | (simp; done) | (simp; omega)) _)); refine bel_step ?_ B3; (repeat (first | refine bel_alloc ?_ _ | refine bel_dN ?_ _ | refine Below.drew ?_ | refine Below.setCell ?_ (by first | (simp; done) | (simp; omega)) _)); refine bel_step ?_ B1; (repeat (first | refine bel_alloc ?_ _ | refine bel_dN ?_ _ | refine Below.drew ?_ | refine Below.setCell ?_ (by first | (simp; done) | (simp; omega)) _)); exact Below.refl _ _)

theorem toiSpecF32 (a bits x y : Int) (sg : Bool) (hb : (bits == 32 || bits == 64) = true)
    (TI : Hid (∀ w, Calls Try.prog 26 #[(.agg #[.int .u64 8, .int .u64 23]), .int .u32 a, .int .i64 bits, .bool sg] w fun e w' => e = .returned (.tuple #[.int .u64 x, .int .i64 y]) ∧ Below w.heap.size w w')) (w : World) :
    Calls Try.prog 10 #[.int .i64 32, .int .u32 a, .int .i64 bits, .bool sg] w fun e w' => e = .returned (.tuple #[.int .u64 x, .int .i64 y]) ∧ Below w.heap.size w w' := by
  have SB := specBitsT bits
  rw [hb] at SB
  clear hb
  go_enter Try.func10, Try.ntmps10
  go_wp2_with fail
  refine (l4Kind32 _).mono ?_
  rintro e' w1 ⟨rfl, B1⟩
  go_wp2_with fail
  refine (SB _).mono ?_
  rintro e' w2 ⟨rfl, hw2⟩
  obtain rfl := hw2
  go_wp2_with fail
  refine (TI.out _).mono ?_
  rintro e' w3 ⟨rfl, B3⟩
  go_wp2
  refine bodyPost_ret (two_resT Try.results10 _ _ _) rfl ⟨rfl, ?_⟩
  ((repeat (first | refine bel_alloc ?_ _ | refine bel_dN ?_ _ | refine Below.drew ?_ | refine Below.setCell ?_ (by first | (simp; done) | (simp; omega)) _)); refine bel_step ?_ B3; (repeat (first | refine bel_alloc ?_ _ | refine bel_dN ?_ _ | refine Below.drew ?_ | refine Below.setCell ?_ (by first | (simp; done) | (simp; omega)) _)); refine bel_step ?_ B1; (repeat (first | refine bel_alloc ?_ _ | refine bel_dN ?_ _ | refine Below.drew ?_ | refine Below.setCell ?_ (by first | (simp; done) | (simp; omega)) _)); exact Below.refl _ _)

theorem toiBits16 (a bits : Int) (sg : Bool) (h1 : bits ≠ 32) (h2 : bits ≠ 64) :
    (∀ w, Calls Try.prog 10 #[.int .i64 16, .int .u32 a, .int .i64 bits, .bool sg] w fun e w' => e = .returned (.tuple #[.int .u64 0, .int .i64 3]) ∧ Below w.heap.size w w') ∧
    (∀ w, Calls Try.prog 11 #[.int .i64 16, .int .u32 a, .int .i64 bits, .bool sg] w fun e w' => e = .returned (.tuple #[.int .u64 0, .int .i64 3]) ∧ Below w.heap.size w w') := by
  have SB := specBitsT bits
  rw [show (bits == 32 || bits == 64) = false by simp [h1, h2]] at SB
  have WN := implWidthNoT bits h1 h2
  refine ⟨fun w => ?_, fun w => ?_⟩
  · go_enter Try.func10, Try.ntmps10
    go_wp2_with fail
    refine (l4Kind16 _).mono ?_
    rintro e' w1 ⟨rfl, B1⟩
    go_wp2_with fail
    refine (SB _).mono ?_
    rintro e' w2 ⟨rfl, hw2⟩
    obtain rfl := hw2
    go_wp2
    refine bodyPost_ret (two_resT Try.results10 _ _ _) rfl ⟨rfl, ?_⟩
    ((repeat (first | refine bel_alloc ?_ _ | refine bel_dN ?_ _ | refine Below.drew ?_ | refine Below.setCell ?_ (by first | (simp; done) | (simp; omega)) _)); refine bel_step ?_ B1; (repeat (first | refine bel_alloc ?_ _ | refine bel_dN ?_ _ | refine Below.drew ?_ | refine Below.setCell ?_ (by first | (simp; done) | (simp; omega)) _)); exact Below.refl _ _)
  · go_enter Try.func11, Try.ntmps11
    go_wp2_with fail
    refine (form16 _).mono ?_
    rintro e' w1 ⟨rfl, B1⟩
    go_wp2_with fail
    refine (WN _).mono ?_
    rintro e' w2 ⟨rfl, hw2⟩
    obtain rfl := hw2
    go_wp2
    refine bodyPost_ret (two_resT Try.results11 _ _ _) rfl ⟨rfl, ?_⟩
    ((repeat (first | refine bel_alloc ?_ _ | refine bel_dN ?_ _ | refine Below.drew ?_ | refine Below.setCell ?_ (by first | (simp; done) | (simp; omega)) _)); refine bel_step ?_ B1; (repeat (first | refine bel_alloc ?_ _ | refine bel_dN ?_ _ | refine Below.drew ?_ | refine Below.setCell ?_ (by first | (simp; done) | (simp; omega)) _)); exact Below.refl _ _)

theorem toiBits32 (a bits : Int) (sg : Bool) (h1 : bits ≠ 32) (h2 : bits ≠ 64) :
    (∀ w, Calls Try.prog 10 #[.int .i64 32, .int .u32 a, .int .i64 bits, .bool sg] w fun e w' => e = .returned (.tuple #[.int .u64 0, .int .i64 3]) ∧ Below w.heap.size w w') ∧
    (∀ w, Calls Try.prog 11 #[.int .i64 32, .int .u32 a, .int .i64 bits, .bool sg] w fun e w' => e = .returned (.tuple #[.int .u64 0, .int .i64 3]) ∧ Below w.heap.size w w') := by
  have SB := specBitsT bits
  rw [show (bits == 32 || bits == 64) = false by simp [h1, h2]] at SB
  have WN := implWidthNoT bits h1 h2
  refine ⟨fun w => ?_, fun w => ?_⟩
  · go_enter Try.func10, Try.ntmps10
    go_wp2_with fail
    refine (l4Kind32 _).mono ?_
    rintro e' w1 ⟨rfl, B1⟩
    go_wp2_with fail
    refine (SB _).mono ?_
    rintro e' w2 ⟨rfl, hw2⟩
    obtain rfl := hw2
    go_wp2
    refine bodyPost_ret (two_resT Try.results10 _ _ _) rfl ⟨rfl, ?_⟩
    ((repeat (first | refine bel_alloc ?_ _ | refine bel_dN ?_ _ | refine Below.drew ?_ | refine Below.setCell ?_ (by first | (simp; done) | (simp; omega)) _)); refine bel_step ?_ B1; (repeat (first | refine bel_alloc ?_ _ | refine bel_dN ?_ _ | refine Below.drew ?_ | refine Below.setCell ?_ (by first | (simp; done) | (simp; omega)) _)); exact Below.refl _ _)
  · go_enter Try.func11, Try.ntmps11
    go_wp2_with fail
    refine (form32 _).mono ?_
    rintro e' w1 ⟨rfl, B1⟩
    go_wp2_with fail
    refine (WN _).mono ?_
    rintro e' w2 ⟨rfl, hw2⟩
    obtain rfl := hw2
    go_wp2
    refine bodyPost_ret (two_resT Try.results11 _ _ _) rfl ⟨rfl, ?_⟩
    ((repeat (first | refine bel_alloc ?_ _ | refine bel_dN ?_ _ | refine Below.drew ?_ | refine Below.setCell ?_ (by first | (simp; done) | (simp; omega)) _)); refine bel_step ?_ B1; (repeat (first | refine bel_alloc ?_ _ | refine bel_dN ?_ _ | refine Below.drew ?_ | refine Below.setCell ?_ (by first | (simp; done) | (simp; omega)) _)); exact Below.refl _ _)

theorem toiAll16 (a bits : Int) (sg : Bool) (a0 : 0 ≤ a) (a1 : a ≤ 4294967295) : ∃ x y : Int,
    (∀ w, Calls Try.prog 10 #[.int .i64 16, .int .u32 a, .int .i64 bits, .bool sg] w fun e w' => e = .returned (.tuple #[.int .u64 x, .int .i64 y]) ∧ Below w.heap.size w w') ∧
    (∀ w, Calls Try.prog 11 #[.int .i64 16, .int .u32 a, .int .i64 bits, .bool sg] w fun e w' => e = .returned (.tuple #[.int .u64 x, .int .i64 y]) ∧ Below w.heap.size w w') := by
  by_cases h1 : bits = 32
  · subst h1
    obtain ⟨x, y, S, I⟩ := toiBoth32_16 a sg a0 a1
    exact ⟨x, y, toiSpecF16 a 32 x y sg rfl S, I⟩
  · by_cases h2 : bits = 64
    · subst h2
      obtain ⟨x, y, S, I⟩ := toiBoth64_16 a sg a0 a1
      exact ⟨x, y, toiSpecF16 a 64 x y sg rfl S, I⟩
    · exact ⟨0, 3, toiBits16 a bits sg h1 h2⟩

theorem toiAll32 (a bits : Int) (sg : Bool) (a0 : 0 ≤ a) (a1 : a ≤ 4294967295) : ∃ x y : Int,
    (∀ w, Calls Try.prog 10 #[.int .i64 32, .int .u32 a, .int .i64 bits, .bool sg] w fun e w' => e = .returned (.tuple #[.int .u64 x, .int .i64 y]) ∧ Below w.heap.size w w') ∧
    (∀ w, Calls Try.prog 11 #[.int .i64 32, .int .u32 a, .int .i64 bits, .bool sg] w fun e w' => e = .returned (.tuple #[.int .u64 x, .int .i64 y]) ∧ Below w.heap.size w w') := by
  by_cases h1 : bits = 32
  · subst h1
    obtain ⟨x, y, S, I⟩ := toiBoth32_32 a sg a0 a1
    exact ⟨x, y, toiSpecF32 a 32 x y sg rfl S, I⟩
  · by_cases h2 : bits = 64
    · subst h2
      obtain ⟨x, y, S, I⟩ := toiBoth64_32 a sg a0 a1
      exact ⟨x, y, toiSpecF32 a 64 x y sg rfl S, I⟩
    · exact ⟨0, 3, toiBits32 a bits sg h1 h2⟩

theorem toiNone (kind a bits : Int) (sg : Bool) (h1 : kind ≠ 16) (h2 : kind ≠ 32) :
    (∀ w, Calls Try.prog 10 #[.int .i64 kind, .int .u32 a, .int .i64 bits, .bool sg] w fun e w' => e = .returned (.tuple #[.int .u64 0, .int .i64 0]) ∧ Below w.heap.size w w') ∧
    (∀ w, Calls Try.prog 11 #[.int .i64 kind, .int .u32 a, .int .i64 bits, .bool sg] w fun e w' => e = .returned (.tuple #[.int .u64 0, .int .i64 0]) ∧ Below w.heap.size w w') := by
  refine ⟨fun w => ?_, fun w => ?_⟩
  · go_enter Try.func10, Try.ntmps10
    go_wp2_with fail
    refine (l4KindNo kind h1 h2 _).mono ?_
    rintro x w1 ⟨rfl, B1⟩
    go_wp2
    refine bodyPost_ret (two_resT Try.results10 _ _ _) rfl ⟨rfl, ?_⟩
    ((repeat (first | refine bel_alloc ?_ _ | refine bel_dN ?_ _ | refine Below.drew ?_ | refine Below.setCell ?_ (by first | (simp; done) | (simp; omega)) _)); refine bel_step ?_ B1; (repeat (first | refine bel_alloc ?_ _ | refine bel_dN ?_ _ | refine Below.drew ?_ | refine Below.setCell ?_ (by first | (simp; done) | (simp; omega)) _)); exact Below.refl _ _)
  · go_enter Try.func11, Try.ntmps11
    go_wp2_with fail
    refine (formNo kind h1 h2 _).mono ?_
    rintro x w1 ⟨rfl, B1⟩
    go_wp2
    refine bodyPost_ret (two_resT Try.results11 _ _ _) rfl ⟨rfl, ?_⟩
    ((repeat (first | refine bel_alloc ?_ _ | refine bel_dN ?_ _ | refine Below.drew ?_ | refine Below.setCell ?_ (by first | (simp; done) | (simp; omega)) _)); refine bel_step ?_ B1; (repeat (first | refine bel_alloc ?_ _ | refine bel_dN ?_ _ | refine Below.drew ?_ | refine Below.setCell ?_ (by first | (simp; done) | (simp; omega)) _)); exact Below.refl _ _)

theorem toInt_walk (a0 a1 a2 : Int) (a3 : Bool) (_w0 : (Lit.int .i64 a0).wf = true) (w1 : (Lit.int .u32 a1).wf = true) (_w2 : (Lit.int .i64 a2).wf = true) (w : World) :
    Calls Try.prog 5 #[.int .i64 a0, .int .u32 a1, .int .i64 a2, .bool a3] w fun e w' => e = .returned (.bool true) ∧ Below w.heap.size w w' := by
  have hb1 := bounds_u32 w1
  obtain ⟨x, y, S, I⟩ : ∃ x y : Int, (∀ w, Calls Try.prog 10 #[.int .i64 a0, .int .u32 a1, .int .i64 a2, .bool a3] w fun e w' => e = .returned (.tuple #[.int .u64 x, .int .i64 y]) ∧ Below w.heap.size w w') ∧ (∀ w, Calls Try.prog 11 #[.int .i64 a0, .int .u32 a1, .int .i64 a2, .bool a3] w fun e w' => e = .returned (.tuple #[.int .u64 x, .int .i64 y]) ∧ Below w.heap.size w w') := by
    by_cases h : a0 = 16
    · subst h; exact toiAll16 a1 a2 a3 (by omega) (by omega)
    · by_cases h2 : a0 = 32
      · subst h2; exact toiAll32 a1 a2 a3 (by omega) (by omega)
      · exact ⟨0, 0, toiNone a0 a1 a2 a3 h h2⟩
  clear w1 hb1
  go_enter Try.func5, Try.ntmps5
  go_wp2_with fail
  refine (S _).mono ?_
  rintro e' w1 ⟨rfl, B1⟩
  go_wp2_with fail
  refine (I _).mono ?_
  rintro e' w2 ⟨rfl, B2⟩
  clear S I
  go_wp2
  go_ret
  refine ⟨rfl, ?_⟩
  ((repeat (first | refine bel_alloc ?_ _ | refine bel_dN ?_ _ | refine Below.drew ?_ | refine Below.setCell ?_ (by first | (simp; done) | (simp; omega)) _)); refine bel_step ?_ B2; (repeat (first | refine bel_alloc ?_ _ | refine bel_dN ?_ _ | refine Below.drew ?_ | refine Below.setCell ?_ (by first | (simp; done) | (simp; omega)) _)); refine bel_step ?_ B1; (repeat (first | refine bel_alloc ?_ _ | refine bel_dN ?_ _ | refine Below.drew ?_ | refine Below.setCell ?_ (by first | (simp; done) | (simp; omega)) _)); exact Below.refl _ _)

end Go.Proofs.Ytlkbalmkljabhab
