/-
  FDiv: both sides, and its law.
-/
import Derived.Test.YteniijmnpgdpcaaFDivB
import Derived.Test.YteniijmnpgdpcaaFDivC
import Derived.Test.YteniijmnpgdpcaaFDivM
namespace Go.Proofs.Yteniijmnpgdpcaa
open Go.RowKit

theorem divSpecF16 (a b r : Int) (v1 v2 : Value) (O1 : Hid (∀ w, Calls Try.prog 38 #[(.agg #[.int .u64 5, .int .u64 10]), .int .u32 a] w fun x w' => x = .returned v1 ∧ Below w.heap.size w w')) (O2 : Hid (∀ w, Calls Try.prog 38 #[(.agg #[.int .u64 5, .int .u64 10]), .int .u32 b] w fun x w' => x = .returned v2 ∧ Below w.heap.size w w'))
    (PP : Hid (∀ w, Calls Try.prog 40 #[(.agg #[.int .u64 5, .int .u64 10]), v1, v2] w fun x w' => x = .returned (.int .u32 r) ∧ Below w.heap.size w w')) (w : World) :
    Calls Try.prog 15 #[.int .i64 16, .int .u32 a, .int .u32 b] w fun x w' => x = .returned (.int .u32 r) ∧ Below w.heap.size w w' := by
  go_enter Try.func15, Try.ntmps15
  go_wp2_with fail
  refine (l4Kind16 _).mono ?_
  rintro x w1 ⟨rfl, B1⟩
  go_wp2_with fail
  have k0 : ∀ w, Keeps (w1.alloc (.cells #[.int .u64 5, .int .u64 10] 58)) w → w.cell? ⟨w1.heap.size, 0, none⟩ = some (.int .u64 5) := fun w h => h.cell (by simp) (by simp)
  have k1 : ∀ w, Keeps (w1.alloc (.cells #[.int .u64 5, .int .u64 10] 58)) w → w.cell? ⟨w1.heap.size, 1, none⟩ = some (.int .u64 10) := fun w h => h.cell (by simp) (by simp)
  refine region_q (C := Keeps (w1.alloc (.cells #[.int .u64 5, .int .u64 10] 58))) (by kernel_rfl) (by kernel_rfl) (Keeps.drew _) ?_
  (iterate 9
    (apply wpQuiet_go _ (by rfl)
     · intro wq hq
       go_simp
       first
         | (go_at_call_of 38 a; exact qcall hq (O1.out _))
         | (go_at_call_of 38 b; exact qcall hq (O2.out _))
         | (go_at_call 40; exact qcall hq (PP.out _))
         | exact rfl
     simp only [Act.put, List.setIfInBounds_toArray, List.set_cons_succ, List.set_cons_zero]))
  refine wpQuiet_nil ?_
  intro w3 hk
  have hb := hk.below
  clear k0 k1 hk
  go_wp2
  go_ret
  refine ⟨rfl, ?_⟩
  ((repeat (first | refine bel_alloc ?_ _ | refine bel_dN ?_ _ | refine Below.drew ?_ | refine Below.setCell ?_ (by first | (simp; done) | (simp; omega)) _)); refine bel_step ?_ hb; (repeat (first | refine bel_alloc ?_ _ | refine bel_dN ?_ _ | refine Below.drew ?_ | refine Below.setCell ?_ (by first | (simp; done) | (simp; omega)) _)); refine bel_step ?_ B1; (repeat (first | refine bel_alloc ?_ _ | refine bel_dN ?_ _ | refine Below.drew ?_ | refine Below.setCell ?_ (by first | (simp; done) | (simp; omega)) _)); exact Below.refl _ _)

theorem divSpecF32 (a b r : Int) (v1 v2 : Value) (O1 : Hid (∀ w, Calls Try.prog 38 #[(.agg #[.int .u64 8, .int .u64 23]), .int .u32 a] w fun x w' => x = .returned v1 ∧ Below w.heap.size w w')) (O2 : Hid (∀ w, Calls Try.prog 38 #[(.agg #[.int .u64 8, .int .u64 23]), .int .u32 b] w fun x w' => x = .returned v2 ∧ Below w.heap.size w w'))
    (PP : Hid (∀ w, Calls Try.prog 40 #[(.agg #[.int .u64 8, .int .u64 23]), v1, v2] w fun x w' => x = .returned (.int .u32 r) ∧ Below w.heap.size w w')) (w : World) :
    Calls Try.prog 15 #[.int .i64 32, .int .u32 a, .int .u32 b] w fun x w' => x = .returned (.int .u32 r) ∧ Below w.heap.size w w' := by
  go_enter Try.func15, Try.ntmps15
  go_wp2_with fail
  refine (l4Kind32 _).mono ?_
  rintro x w1 ⟨rfl, B1⟩
  go_wp2_with fail
  have k0 : ∀ w, Keeps (w1.alloc (.cells #[.int .u64 8, .int .u64 23] 58)) w → w.cell? ⟨w1.heap.size, 0, none⟩ = some (.int .u64 8) := fun w h => h.cell (by simp) (by simp)
  have k1 : ∀ w, Keeps (w1.alloc (.cells #[.int .u64 8, .int .u64 23] 58)) w → w.cell? ⟨w1.heap.size, 1, none⟩ = some (.int .u64 23) := fun w h => h.cell (by simp) (by simp)
  refine region_q (C := Keeps (w1.alloc (.cells #[.int .u64 8, .int .u64 23] 58))) (by kernel_rfl) (by kernel_rfl) (Keeps.drew _) ?_
  (iterate 9
    (apply wpQuiet_go _ (by rfl)
     · intro wq hq
       go_simp
       first
         | (go_at_call_of 38 a; exact qcall hq (O1.out _))
         | (go_at_call_of 38 b; exact qcall hq (O2.out _))
         | (go_at_call 40; exact qcall hq (PP.out _))
         | exact rfl
     simp only [Act.put, List.setIfInBounds_toArray, List.set_cons_succ, List.set_cons_zero]))
  refine wpQuiet_nil ?_
  intro w3 hk
  have hb := hk.below
  clear k0 k1 hk
  go_wp2
  go_ret
  refine ⟨rfl, ?_⟩
  ((repeat (first | refine bel_alloc ?_ _ | refine bel_dN ?_ _ | refine Below.drew ?_ | refine Below.setCell ?_ (by first | (simp; done) | (simp; omega)) _)); refine bel_step ?_ hb; (repeat (first | refine bel_alloc ?_ _ | refine bel_dN ?_ _ | refine Below.drew ?_ | refine Below.setCell ?_ (by first | (simp; done) | (simp; omega)) _)); refine bel_step ?_ B1; (repeat (first | refine bel_alloc ?_ _ | refine bel_dN ?_ _ | refine Below.drew ?_ | refine Below.setCell ?_ (by first | (simp; done) | (simp; omega)) _)); exact Below.refl _ _)

/-- Both bring the quotient to places of their own, and both are rounded alike. -/
theorem divTold16 (n1 n2 j1 j2 U : Nat) (z1 z2 : Int) (h2 : n2 ≠ 0) (hU : U + Lib.bitLen n1 = 60) (h1 : n1 ≠ 0) (a1 : 1024 ≤ n1 * 2 ^ j1) (a2 : n1 * 2 ^ j1 < 2 * 1024) (b2 : n2 * 2 ^ j2 < 2 * 1024) :
    toldOf 10 (-24) (n1 * 2 ^ j1 * 1073741824 / (n2 * 2 ^ j2)) (z1 - j1 - 30 - (z2 - j2)) (decide (n1 * 2 ^ j1 * 1073741824 % (n2 * 2 ^ j2) ≠ 0)) = toldOf 10 (-24) (n1 * 2 ^ U / n2) (z1 - U - z2) (decide (n1 * 2 ^ U % n2 ≠ 0)) := by
  have hp1 := Nat.two_pow_pos j1
  have hp2 := Nat.two_pow_pos j2
  have hn1 : n1 < 2 * 1024 := Nat.lt_of_le_of_lt (Nat.le_mul_of_pos_right _ hp1) a2
  have hn2 : n2 ≤ n2 * 2 ^ j2 := Nat.le_mul_of_pos_right _ hp2
  obtain ⟨l1, _, l3, l4⟩ := bl_is n1 (by omega) h1
  have hjl : Lib.bitLen n1 - 1 + j1 < 10 + 1 := by
    refine (Nat.pow_lt_pow_iff_right (a := 2) (by omega)).1 ?_
    rw [Nat.pow_add]
    exact Nat.lt_of_le_of_lt (Nat.mul_le_mul_right _ l3) (Nat.lt_of_lt_of_le a2 (by decide))
  have hX : n1 * 2 ^ U < 1152921504606846976 := by
    have h := Nat.mul_lt_mul_of_pos_right l4 (Nat.two_pow_pos U)
    rw [← Nat.pow_add, show Lib.bitLen n1 + U = 60 by omega] at h
    exact h
  have hpos : 0 < n2 * 2 ^ j2 := Nat.mul_pos (by omega) hp2
  have q1 : 2 ^ (10 + 1) ≤ n1 * 2 ^ j1 * 1073741824 / (n2 * 2 ^ j2) := by
    rw [Nat.le_div_iff_mul_le hpos, show (2 : Nat) ^ (10 + 1) = 2 * 1024 by decide]
    omega
  have q2 : 2 ^ (10 + 1) ≤ n1 * 2 ^ j1 * 1073741824 / n2 := Nat.le_trans q1 (Nat.div_le_div_left hn2 (by omega))
  have L1 := quot_low 10 (-24) (n1 * 2 ^ j1 * 1073741824) n2 j2 (z1 - j1 - 30 - z2) h2 (by omega) q1
  have e1 : n1 * 2 ^ j1 * 1073741824 * 2 ^ (U - (j1 + 30)) = n1 * 2 ^ U := by
    rw [show (1073741824 : Nat) = 2 ^ 30 by decide, Nat.mul_assoc, Nat.mul_assoc, ← Nat.pow_add, ← Nat.pow_add]
    congr 2
    omega
  have L2 := quot_high 10 (-24) (n1 * 2 ^ j1 * 1073741824) n2 (U - (j1 + 30)) (z1 - j1 - 30 - z2) h2 (by rw [e1]; omega) q2
  rw [e1] at L2
  rw [show z1 - (j1 : Int) - 30 - (z2 - (j2 : Int)) = z1 - j1 - 30 - z2 + j2 by omega, L1, L2, show z1 - (j1 : Int) - 30 - z2 - ((U - (j1 + 30) : Nat) : Int) = z1 - U - z2 by omega]

/-- Both bring the quotient to places of their own, and both are rounded alike. -/
theorem divTold32 (n1 n2 j1 j2 U : Nat) (z1 z2 : Int) (h2 : n2 ≠ 0) (hU : U + Lib.bitLen n1 = 60) (h1 : n1 ≠ 0) (a1 : 8388608 ≤ n1 * 2 ^ j1) (a2 : n1 * 2 ^ j1 < 2 * 8388608) (b2 : n2 * 2 ^ j2 < 2 * 8388608) :
    toldOf 23 (-149) (n1 * 2 ^ j1 * 1073741824 / (n2 * 2 ^ j2)) (z1 - j1 - 30 - (z2 - j2)) (decide (n1 * 2 ^ j1 * 1073741824 % (n2 * 2 ^ j2) ≠ 0)) = toldOf 23 (-149) (n1 * 2 ^ U / n2) (z1 - U - z2) (decide (n1 * 2 ^ U % n2 ≠ 0)) := by
  have hp1 := Nat.two_pow_pos j1
  have hp2 := Nat.two_pow_pos j2
  have hn1 : n1 < 2 * 8388608 := Nat.lt_of_le_of_lt (Nat.le_mul_of_pos_right _ hp1) a2
  have hn2 : n2 ≤ n2 * 2 ^ j2 := Nat.le_mul_of_pos_right _ hp2
  obtain ⟨l1, _, l3, l4⟩ := bl_is n1 (by omega) h1
  have hjl : Lib.bitLen n1 - 1 + j1 < 23 + 1 := by
    refine (Nat.pow_lt_pow_iff_right (a := 2) (by omega)).1 ?_
    rw [Nat.pow_add]
    exact Nat.lt_of_le_of_lt (Nat.mul_le_mul_right _ l3) (Nat.lt_of_lt_of_le a2 (by decide))
  have hX : n1 * 2 ^ U < 1152921504606846976 := by
    have h := Nat.mul_lt_mul_of_pos_right l4 (Nat.two_pow_pos U)
    rw [← Nat.pow_add, show Lib.bitLen n1 + U = 60 by omega] at h
    exact h
  have hpos : 0 < n2 * 2 ^ j2 := Nat.mul_pos (by omega) hp2
  have q1 : 2 ^ (23 + 1) ≤ n1 * 2 ^ j1 * 1073741824 / (n2 * 2 ^ j2) := by
    rw [Nat.le_div_iff_mul_le hpos, show (2 : Nat) ^ (23 + 1) = 2 * 8388608 by decide]
    omega
  have q2 : 2 ^ (23 + 1) ≤ n1 * 2 ^ j1 * 1073741824 / n2 := Nat.le_trans q1 (Nat.div_le_div_left hn2 (by omega))
  have L1 := quot_low 23 (-149) (n1 * 2 ^ j1 * 1073741824) n2 j2 (z1 - j1 - 30 - z2) h2 (by omega) q1
  have e1 : n1 * 2 ^ j1 * 1073741824 * 2 ^ (U - (j1 + 30)) = n1 * 2 ^ U := by
    rw [show (1073741824 : Nat) = 2 ^ 30 by decide, Nat.mul_assoc, Nat.mul_assoc, ← Nat.pow_add, ← Nat.pow_add]
    congr 2
    omega
  have L2 := quot_high 23 (-149) (n1 * 2 ^ j1 * 1073741824) n2 (U - (j1 + 30)) (z1 - j1 - 30 - z2) h2 (by rw [e1]; omega) q2
  rw [e1] at L2
  rw [show z1 - (j1 : Int) - 30 - (z2 - (j2 : Int)) = z1 - j1 - 30 - z2 + j2 by omega, L1, L2, show z1 - (j1 : Int) - 30 - z2 - ((U - (j1 + 30) : Nat) : Int) = z1 - U - z2 by omega]

set_option maxHeartbeats 1000000 in
theorem divBoth16 (a b : Int) (a0 : 0 ≤ a) (a1 : a ≤ 4294967295) (b0 : 0 ≤ b) (b1 : b ≤ 4294967295) : ∃ r : Int,
    (∀ w, Calls Try.prog 15 #[.int .i64 16, .int .u32 a, .int .u32 b] w fun x w' => x = .returned (.int .u32 r) ∧ Below w.heap.size w w') ∧
    (∀ w, Calls Try.prog 11 #[.int .i64 16, .int .u32 a, .int .u32 b] w fun x w' => x = .returned (.int .u32 r) ∧ Below w.heap.size w w') := by
  obtain ⟨c1, m1, m1', e1, e1', _, _⟩ := fv16 a
  obtain ⟨c2, m2, m2', e2, e2', _, _⟩ := fv16 b
  have V1 := value16 a a0 a1
  have V2 := value16 b b0 b1
  have O1 := open16 a a0 a1
  have O2 := open16 b b0 b1
  generalize cl16 a = x1 at *
  generalize cl16 b = x2 at *
  generalize vm16 a = y1 at *
  generalize vm16 b = y2 at *
  generalize ve16 a = z1 at *
  generalize ve16 b = z2 at *
  generalize (a / 32768 % 2 == 1) = s1 at *
  generalize (b / 32768 % 2 == 1) = s2 at *
  obtain ⟨sg, hsg⟩ : ∃ sg, (!(s1 == s2)) = sg := ⟨_, rfl⟩
  obtain ⟨n1, rfl⟩ := Int.eq_ofNat_of_zero_le m1
  obtain ⟨n2, rfl⟩ := Int.eq_ofNat_of_zero_le m2
  by_cases h12 : x1 = 2
  · subst h12
    exact ⟨_, divSpecF16 a b _ _ _ O1 O2 (divQ_a216 n1 z1 n2 z2 s1 s2 sg _ _ hsg), divImpl_a216 a b 2 n1 z1 x2 n2 z2 s1 s2 sg V1 V2 hsg rfl⟩
  · rcases c2 with rfl | rfl | rfl
    · rcases c1 with rfl | rfl | h
      · by_cases hz1 : n1 = 0
        · have hz1' : ((n1 : Int) == 0) = true := by simp; omega
          by_cases hz2 : n2 = 0
          · have hz2' : ((n2 : Int) == 0) = true := by simp; omega
            exact ⟨_, divSpecF16 a b _ _ _ O1 O2 (divQ_zz16 n1 z1 n2 z2 s1 s2 sg hsg hz1' hz2'), divImpl_zz16 a b 0 n1 z1 0 n2 z2 s1 s2 sg V1 V2 hsg rfl rfl hz1' hz2'⟩
          · have hz2' : ((n2 : Int) == 0) = false := by simp; omega
            exact ⟨_, divSpecF16 a b _ _ _ O1 O2 (divQ_zn16 n1 z1 n2 z2 s1 s2 sg hsg hz1' hz2'), divImpl_zn16 a b 0 n1 z1 0 n2 z2 s1 s2 sg V1 V2 hsg rfl rfl hz1' hz2'⟩
        · have hz1' : ((n1 : Int) == 0) = false := by simp; omega
          by_cases hz2 : n2 = 0
          · have hz2' : ((n2 : Int) == 0) = true := by simp; omega
            exact ⟨_, divSpecF16 a b _ _ _ O1 O2 (divQ_nz16 n1 z1 n2 z2 s1 s2 sg hsg hz1' hz2'), divImpl_nz16 a b 0 n1 z1 0 n2 z2 s1 s2 sg V1 V2 hsg rfl rfl hz1' hz2'⟩
          · have hz2' : ((n2 : Int) == 0) = false := by simp; omega
            obtain ⟨l1, _, l3, l4⟩ := bl_is n1 (by omega) hz1
            have hL25 : Lib.bitLen n1 ≤ 25 := bl_le n1 25 (by omega) (by omega)
            have LN : Hid (∀ w, Calls Try.prog 35 #[.int .u64 (n1 : Int)] w fun e w' => e = .returned (.int .i64 (Lib.bitLen n1 : Int)) ∧ w' = w) := fun w => len64F n1 (by omega) w
            have hX : n1 * 2 ^ (60 - Lib.bitLen n1) < 1152921504606846976 := by
              have h := Nat.mul_lt_mul_of_pos_right l4 (Nat.two_pow_pos (60 - Lib.bitLen n1))
              rw [← Nat.pow_add, show Lib.bitLen n1 + (60 - Lib.bitLen n1) = 60 by omega] at h
              exact h
            have TT := fun (j1 j2 : Nat) => divTold16 n1 n2 j1 j2 (60 - Lib.bitLen n1) z1 z2 hz2 (by omega) hz1
            obtain ⟨U, hU⟩ : ∃ U, 60 - Lib.bitLen n1 = U := ⟨_, rfl⟩
            rw [hU] at hX TT
            have hY : n1 * 2 ^ U / n2 ≤ n1 * 2 ^ U := Nat.div_le_self _ _
            have RI := implRound16 sg (n1 * 2 ^ U / n2) (by omega) (z1 - U - z2) (by omega) (by omega) (decide (n1 * 2 ^ U % n2 ≠ 0))
            refine ⟨_, divSpecF16 a b _ _ _ O1 O2 (divQ_nn16 n1 n2 z1 z2 _ s1 s2 sg hsg hz1 hz2 (by omega) (by omega) (by omega) (by omega) (by omega) (by omega) ?_), divImpl_nn16 a b z1 z2 (z1 - U) (z1 - U - z2) _ n1 n2 (Lib.bitLen n1) U (n1 * 2 ^ U) (n1 * 2 ^ U / n2) (n1 * 2 ^ U % n2) s1 s2 sg _ V1 V2 hsg hz1' hz2' hz2 LN ?_ ?_ ?_ ?_ ?_ ?_ ?_ ?_ ?_ RI⟩
            · intro j1 j2 i1 i2 k1 k2 w
              have hp2 := Nat.two_pow_pos j2
              have hj1 := pow_le16 n1 j1 hz1 i2
              have hj2 := pow_le16 n2 j2 hz2 k2
              have hle : n1 * 2 ^ j1 * 1073741824 / (n2 * 2 ^ j2) ≤ n1 * 2 ^ j1 * 1073741824 := Nat.div_le_self _ _
              rw [← TT j1 j2 i1 i2 k2]
              exact specRound16 sg _ (by omega) _ (by omega) (by omega) _ w
            · unfold wrap64; omega
            · omega
            · rw [show (n1 : Int) * 2 ^ U = ((n1 * 2 ^ U : Nat) : Int) by simp, IntKind.wrap_u64]; omega
            · simp
            · rw [IntKind.wrap_i64]; omega
            · rw [IntKind.wrap_i64]; omega
            · generalize n1 * 2 ^ U / n2 = Y at *; generalize n1 * 2 ^ U = X at *; rw [IntKind.wrap_u64]; omega
            · rw [Int.tmod_eq_emod_of_nonneg (by omega)]; simp
            · generalize n1 * 2 ^ U % n2 = R at *; by_cases h : R = 0 <;> simp [h]
      · exact ⟨_, divSpecF16 a b _ _ _ O1 O2 (divQ_if16 n1 z1 n2 z2 s1 s2 sg hsg), divImpl_if16 a b 1 n1 z1 0 n2 z2 s1 s2 sg V1 V2 hsg rfl rfl⟩
      · exact absurd h h12
    · rcases c1 with rfl | rfl | h
      · by_cases hz : n1 = 0
        · have hz' : ((n1 : Int) == 0) = true := by simp; omega
          exact ⟨_, divSpecF16 a b _ _ _ O1 O2 (divQ_fi16 n1 z1 n2 z2 s1 s2 sg hsg), divImpl_zi16 a b 0 n1 z1 1 n2 z2 s1 s2 sg V1 V2 hsg rfl rfl hz'⟩
        · have hz' : ((n1 : Int) == 0) = false := by simp; omega
          exact ⟨_, divSpecF16 a b _ _ _ O1 O2 (divQ_fi16 n1 z1 n2 z2 s1 s2 sg hsg), divImpl_ni16 a b 0 n1 z1 1 n2 z2 s1 s2 sg V1 V2 hsg rfl rfl hz'⟩
      · exact ⟨_, divSpecF16 a b _ _ _ O1 O2 (divQ_ii16 n1 z1 n2 z2 s1 s2 sg hsg), divImpl_ii16 a b 1 n1 z1 1 n2 z2 s1 s2 sg V1 V2 hsg rfl rfl⟩
      · exact absurd h h12
    · rcases c1 with rfl | rfl | h
      · exact ⟨_, divSpecF16 a b _ _ _ O1 O2 (divQ_b016 n1 z1 n2 z2 s1 s2 sg hsg), divImpl_b016 a b 0 n1 z1 2 n2 z2 s1 s2 sg V1 V2 hsg rfl rfl⟩
      · exact ⟨_, divSpecF16 a b _ _ _ O1 O2 (divQ_b116 n1 z1 n2 z2 s1 s2 sg hsg), divImpl_b116 a b 1 n1 z1 2 n2 z2 s1 s2 sg V1 V2 hsg rfl rfl⟩
      · exact absurd h h12

set_option maxHeartbeats 1000000 in
theorem divBoth32 (a b : Int) (a0 : 0 ≤ a) (a1 : a ≤ 4294967295) (b0 : 0 ≤ b) (b1 : b ≤ 4294967295) : ∃ r : Int,
    (∀ w, Calls Try.prog 15 #[.int .i64 32, .int .u32 a, .int .u32 b] w fun x w' => x = .returned (.int .u32 r) ∧ Below w.heap.size w w') ∧
    (∀ w, Calls Try.prog 11 #[.int .i64 32, .int .u32 a, .int .u32 b] w fun x w' => x = .returned (.int .u32 r) ∧ Below w.heap.size w w') := by
  obtain ⟨c1, m1, m1', e1, e1', _, _⟩ := fv32 a
  obtain ⟨c2, m2, m2', e2, e2', _, _⟩ := fv32 b
  have V1 := value32 a a0 a1
  have V2 := value32 b b0 b1
  have O1 := open32 a a0 a1
  have O2 := open32 b b0 b1
  generalize cl32 a = x1 at *
  generalize cl32 b = x2 at *
  generalize vm32 a = y1 at *
  generalize vm32 b = y2 at *
  generalize ve32 a = z1 at *
  generalize ve32 b = z2 at *
  generalize (a / 2147483648 % 2 == 1) = s1 at *
  generalize (b / 2147483648 % 2 == 1) = s2 at *
  obtain ⟨sg, hsg⟩ : ∃ sg, (!(s1 == s2)) = sg := ⟨_, rfl⟩
  obtain ⟨n1, rfl⟩ := Int.eq_ofNat_of_zero_le m1
  obtain ⟨n2, rfl⟩ := Int.eq_ofNat_of_zero_le m2
  by_cases h12 : x1 = 2
  · subst h12
    exact ⟨_, divSpecF32 a b _ _ _ O1 O2 (divQ_a232 n1 z1 n2 z2 s1 s2 sg _ _ hsg), divImpl_a232 a b 2 n1 z1 x2 n2 z2 s1 s2 sg V1 V2 hsg rfl⟩
  · rcases c2 with rfl | rfl | rfl
    · rcases c1 with rfl | rfl | h
      · by_cases hz1 : n1 = 0
        · have hz1' : ((n1 : Int) == 0) = true := by simp; omega
          by_cases hz2 : n2 = 0
          · have hz2' : ((n2 : Int) == 0) = true := by simp; omega
            exact ⟨_, divSpecF32 a b _ _ _ O1 O2 (divQ_zz32 n1 z1 n2 z2 s1 s2 sg hsg hz1' hz2'), divImpl_zz32 a b 0 n1 z1 0 n2 z2 s1 s2 sg V1 V2 hsg rfl rfl hz1' hz2'⟩
          · have hz2' : ((n2 : Int) == 0) = false := by simp; omega
            exact ⟨_, divSpecF32 a b _ _ _ O1 O2 (divQ_zn32 n1 z1 n2 z2 s1 s2 sg hsg hz1' hz2'), divImpl_zn32 a b 0 n1 z1 0 n2 z2 s1 s2 sg V1 V2 hsg rfl rfl hz1' hz2'⟩
        · have hz1' : ((n1 : Int) == 0) = false := by simp; omega
          by_cases hz2 : n2 = 0
          · have hz2' : ((n2 : Int) == 0) = true := by simp; omega
            exact ⟨_, divSpecF32 a b _ _ _ O1 O2 (divQ_nz32 n1 z1 n2 z2 s1 s2 sg hsg hz1' hz2'), divImpl_nz32 a b 0 n1 z1 0 n2 z2 s1 s2 sg V1 V2 hsg rfl rfl hz1' hz2'⟩
          · have hz2' : ((n2 : Int) == 0) = false := by simp; omega
            obtain ⟨l1, _, l3, l4⟩ := bl_is n1 (by omega) hz1
            have hL25 : Lib.bitLen n1 ≤ 25 := bl_le n1 25 (by omega) (by omega)
            have LN : Hid (∀ w, Calls Try.prog 35 #[.int .u64 (n1 : Int)] w fun e w' => e = .returned (.int .i64 (Lib.bitLen n1 : Int)) ∧ w' = w) := fun w => len64F n1 (by omega) w
            have hX : n1 * 2 ^ (60 - Lib.bitLen n1) < 1152921504606846976 := by
              have h := Nat.mul_lt_mul_of_pos_right l4 (Nat.two_pow_pos (60 - Lib.bitLen n1))
              rw [← Nat.pow_add, show Lib.bitLen n1 + (60 - Lib.bitLen n1) = 60 by omega] at h
              exact h
            have TT := fun (j1 j2 : Nat) => divTold32 n1 n2 j1 j2 (60 - Lib.bitLen n1) z1 z2 hz2 (by omega) hz1
            obtain ⟨U, hU⟩ : ∃ U, 60 - Lib.bitLen n1 = U := ⟨_, rfl⟩
            rw [hU] at hX TT
            have hY : n1 * 2 ^ U / n2 ≤ n1 * 2 ^ U := Nat.div_le_self _ _
            have RI := implRound32 sg (n1 * 2 ^ U / n2) (by omega) (z1 - U - z2) (by omega) (by omega) (decide (n1 * 2 ^ U % n2 ≠ 0))
            refine ⟨_, divSpecF32 a b _ _ _ O1 O2 (divQ_nn32 n1 n2 z1 z2 _ s1 s2 sg hsg hz1 hz2 (by omega) (by omega) (by omega) (by omega) (by omega) (by omega) ?_), divImpl_nn32 a b z1 z2 (z1 - U) (z1 - U - z2) _ n1 n2 (Lib.bitLen n1) U (n1 * 2 ^ U) (n1 * 2 ^ U / n2) (n1 * 2 ^ U % n2) s1 s2 sg _ V1 V2 hsg hz1' hz2' hz2 LN ?_ ?_ ?_ ?_ ?_ ?_ ?_ ?_ ?_ RI⟩
            · intro j1 j2 i1 i2 k1 k2 w
              have hp2 := Nat.two_pow_pos j2
              have hj1 := pow_le32 n1 j1 hz1 i2
              have hj2 := pow_le32 n2 j2 hz2 k2
              have hle : n1 * 2 ^ j1 * 1073741824 / (n2 * 2 ^ j2) ≤ n1 * 2 ^ j1 * 1073741824 := Nat.div_le_self _ _
              rw [← TT j1 j2 i1 i2 k2]
              exact specRound32 sg _ (by omega) _ (by omega) (by omega) _ w
            · unfold wrap64; omega
            · omega
            · rw [show (n1 : Int) * 2 ^ U = ((n1 * 2 ^ U : Nat) : Int) by simp, IntKind.wrap_u64]; omega
            · simp
            · rw [IntKind.wrap_i64]; omega
            · rw [IntKind.wrap_i64]; omega
            · generalize n1 * 2 ^ U / n2 = Y at *; generalize n1 * 2 ^ U = X at *; rw [IntKind.wrap_u64]; omega
            · rw [Int.tmod_eq_emod_of_nonneg (by omega)]; simp
            · generalize n1 * 2 ^ U % n2 = R at *; by_cases h : R = 0 <;> simp [h]
      · exact ⟨_, divSpecF32 a b _ _ _ O1 O2 (divQ_if32 n1 z1 n2 z2 s1 s2 sg hsg), divImpl_if32 a b 1 n1 z1 0 n2 z2 s1 s2 sg V1 V2 hsg rfl rfl⟩
      · exact absurd h h12
    · rcases c1 with rfl | rfl | h
      · by_cases hz : n1 = 0
        · have hz' : ((n1 : Int) == 0) = true := by simp; omega
          exact ⟨_, divSpecF32 a b _ _ _ O1 O2 (divQ_fi32 n1 z1 n2 z2 s1 s2 sg hsg), divImpl_zi32 a b 0 n1 z1 1 n2 z2 s1 s2 sg V1 V2 hsg rfl rfl hz'⟩
        · have hz' : ((n1 : Int) == 0) = false := by simp; omega
          exact ⟨_, divSpecF32 a b _ _ _ O1 O2 (divQ_fi32 n1 z1 n2 z2 s1 s2 sg hsg), divImpl_ni32 a b 0 n1 z1 1 n2 z2 s1 s2 sg V1 V2 hsg rfl rfl hz'⟩
      · exact ⟨_, divSpecF32 a b _ _ _ O1 O2 (divQ_ii32 n1 z1 n2 z2 s1 s2 sg hsg), divImpl_ii32 a b 1 n1 z1 1 n2 z2 s1 s2 sg V1 V2 hsg rfl rfl⟩
      · exact absurd h h12
    · rcases c1 with rfl | rfl | h
      · exact ⟨_, divSpecF32 a b _ _ _ O1 O2 (divQ_b032 n1 z1 n2 z2 s1 s2 sg hsg), divImpl_b032 a b 0 n1 z1 2 n2 z2 s1 s2 sg V1 V2 hsg rfl rfl⟩
      · exact ⟨_, divSpecF32 a b _ _ _ O1 O2 (divQ_b132 n1 z1 n2 z2 s1 s2 sg hsg), divImpl_b132 a b 1 n1 z1 2 n2 z2 s1 s2 sg V1 V2 hsg rfl rfl⟩
      · exact absurd h h12

theorem divNo (kind a b : Int) (h1 : kind ≠ 16) (h2 : kind ≠ 32) :
    (∀ w, Calls Try.prog 15 #[.int .i64 kind, .int .u32 a, .int .u32 b] w fun x w' => x = .returned (.int .u32 0) ∧ Below w.heap.size w w') ∧
    (∀ w, Calls Try.prog 11 #[.int .i64 kind, .int .u32 a, .int .u32 b] w fun x w' => x = .returned (.int .u32 0) ∧ Below w.heap.size w w') := by
  refine ⟨fun w => ?_, fun w => ?_⟩
  · go_enter Try.func15, Try.ntmps15
    go_wp2_with fail
    refine (l4KindNo kind h1 h2 _).mono ?_
    rintro x w1 ⟨rfl, B1⟩
    go_wp2
    go_ret
    refine ⟨rfl, ?_⟩
    ((repeat (first | refine bel_alloc ?_ _ | refine bel_dN ?_ _ | refine Below.drew ?_ | refine Below.setCell ?_ (by first | (simp; done) | (simp; omega)) _)); refine bel_step ?_ B1; (repeat (first | refine bel_alloc ?_ _ | refine bel_dN ?_ _ | refine Below.drew ?_ | refine Below.setCell ?_ (by first | (simp; done) | (simp; omega)) _)); exact Below.refl _ _)
  · go_enter Try.func11, Try.ntmps11
    go_wp2_with fail
    refine (formNo kind h1 h2 _).mono ?_
    rintro x w1 ⟨rfl, B1⟩
    go_wp2
    go_ret
    refine ⟨rfl, ?_⟩
    ((repeat (first | refine bel_alloc ?_ _ | refine bel_dN ?_ _ | refine Below.drew ?_ | refine Below.setCell ?_ (by first | (simp; done) | (simp; omega)) _)); refine bel_step ?_ B1; (repeat (first | refine bel_alloc ?_ _ | refine bel_dN ?_ _ | refine Below.drew ?_ | refine Below.setCell ?_ (by first | (simp; done) | (simp; omega)) _)); exact Below.refl _ _)

end Go.Proofs.Yteniijmnpgdpcaa
