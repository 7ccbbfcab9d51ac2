/-
  FMul: both sides, and its law.
-/
import Derived.Test.YteniijmnpgdpcaaFMulA
import Derived.Test.YteniijmnpgdpcaaFMulZ
namespace Go.Proofs.Yteniijmnpgdpcaa
open Go.RowKit

theorem mulSpecF16 (a b r : Int) (v1 v2 : Value) (O1 : Hid (∀ w, Calls Try.prog 38 #[(.agg #[.int .u64 5, .int .u64 10]), .int .u32 a] w fun x w' => x = .returned v1 ∧ Below w.heap.size w w')) (O2 : Hid (∀ w, Calls Try.prog 38 #[(.agg #[.int .u64 5, .int .u64 10]), .int .u32 b] w fun x w' => x = .returned v2 ∧ Below w.heap.size w w'))
    (PP : Hid (∀ w, Calls Try.prog 39 #[(.agg #[.int .u64 5, .int .u64 10]), v1, v2] w fun x w' => x = .returned (.int .u32 r) ∧ Below w.heap.size w w')) (w : World) :
    Calls Try.prog 14 #[.int .i64 16, .int .u32 a, .int .u32 b] w fun x w' => x = .returned (.int .u32 r) ∧ Below w.heap.size w w' := by
  go_enter Try.func14, Try.ntmps14
  go_wp2_with fail
  refine (l4Kind16 _).mono ?_
  rintro x w1 ⟨rfl, B1⟩
  go_wp2_with fail
  have k0 : ∀ w, Keeps (w1.alloc (.cells #[.int .u64 5, .int .u64 10] 58)) w → w.cell? ⟨w1.heap.size, 0, none⟩ = some (.int .u64 5) := fun w h => h.cell (by simp) (by simp)
  have k1 : ∀ w, Keeps (w1.alloc (.cells #[.int .u64 5, .int .u64 10] 58)) w → w.cell? ⟨w1.heap.size, 1, none⟩ = some (.int .u64 10) := fun w h => h.cell (by simp) (by simp)
  refine region_q (C := Keeps (w1.alloc (.cells #[.int .u64 5, .int .u64 10] 58))) (by kernel_rfl) (by kernel_rfl) (Keeps.drew _) ?_
  (iterate 9
    (apply wpQuiet_go _ (by rfl)
     · intro wq hq
       go_simp
       first
         | (go_at_call_of 38 a; exact qcall hq (O1.out _))
         | (go_at_call_of 38 b; exact qcall hq (O2.out _))
         | (go_at_call 39; exact qcall hq (PP.out _))
         | exact rfl
     simp only [Act.put, List.setIfInBounds_toArray, List.set_cons_succ, List.set_cons_zero]))
  refine wpQuiet_nil ?_
  intro w3 hk
  have hb := hk.below
  clear k0 k1 hk
  go_wp2
  go_ret
  refine ⟨rfl, ?_⟩
  ((repeat (first | refine bel_alloc ?_ _ | refine bel_dN ?_ _ | refine Below.drew ?_ | refine Below.setCell ?_ (by first | (simp; done) | (simp; omega)) _)); refine bel_step ?_ hb; (repeat (first | refine bel_alloc ?_ _ | refine bel_dN ?_ _ | refine Below.drew ?_ | refine Below.setCell ?_ (by first | (simp; done) | (simp; omega)) _)); refine bel_step ?_ B1; (repeat (first | refine bel_alloc ?_ _ | refine bel_dN ?_ _ | refine Below.drew ?_ | refine Below.setCell ?_ (by first | (simp; done) | (simp; omega)) _)); exact Below.refl _ _)

theorem mulSpecF32 (a b r : Int) (v1 v2 : Value) (O1 : Hid (∀ w, Calls Try.prog 38 #[(.agg #[.int .u64 8, .int .u64 23]), .int .u32 a] w fun x w' => x = .returned v1 ∧ Below w.heap.size w w')) (O2 : Hid (∀ w, Calls Try.prog 38 #[(.agg #[.int .u64 8, .int .u64 23]), .int .u32 b] w fun x w' => x = .returned v2 ∧ Below w.heap.size w w'))
    (PP : Hid (∀ w, Calls Try.prog 39 #[(.agg #[.int .u64 8, .int .u64 23]), v1, v2] w fun x w' => x = .returned (.int .u32 r) ∧ Below w.heap.size w w')) (w : World) :
    Calls Try.prog 14 #[.int .i64 32, .int .u32 a, .int .u32 b] w fun x w' => x = .returned (.int .u32 r) ∧ Below w.heap.size w w' := by
  go_enter Try.func14, Try.ntmps14
  go_wp2_with fail
  refine (l4Kind32 _).mono ?_
  rintro x w1 ⟨rfl, B1⟩
  go_wp2_with fail
  have k0 : ∀ w, Keeps (w1.alloc (.cells #[.int .u64 8, .int .u64 23] 58)) w → w.cell? ⟨w1.heap.size, 0, none⟩ = some (.int .u64 8) := fun w h => h.cell (by simp) (by simp)
  have k1 : ∀ w, Keeps (w1.alloc (.cells #[.int .u64 8, .int .u64 23] 58)) w → w.cell? ⟨w1.heap.size, 1, none⟩ = some (.int .u64 23) := fun w h => h.cell (by simp) (by simp)
  refine region_q (C := Keeps (w1.alloc (.cells #[.int .u64 8, .int .u64 23] 58))) (by kernel_rfl) (by kernel_rfl) (Keeps.drew _) ?_
  (iterate 9
    (apply wpQuiet_go _ (by rfl)
     · intro wq hq
       go_simp
       first
         | (go_at_call_of 38 a; exact qcall hq (O1.out _))
         | (go_at_call_of 38 b; exact qcall hq (O2.out _))
         | (go_at_call 39; exact qcall hq (PP.out _))
         | exact rfl
     simp only [Act.put, List.setIfInBounds_toArray, List.set_cons_succ, List.set_cons_zero]))
  refine wpQuiet_nil ?_
  intro w3 hk
  have hb := hk.below
  clear k0 k1 hk
  go_wp2
  go_ret
  refine ⟨rfl, ?_⟩
  ((repeat (first | refine bel_alloc ?_ _ | refine bel_dN ?_ _ | refine Below.drew ?_ | refine Below.setCell ?_ (by first | (simp; done) | (simp; omega)) _)); refine bel_step ?_ hb; (repeat (first | refine bel_alloc ?_ _ | refine bel_dN ?_ _ | refine Below.drew ?_ | refine Below.setCell ?_ (by first | (simp; done) | (simp; omega)) _)); refine bel_step ?_ B1; (repeat (first | refine bel_alloc ?_ _ | refine bel_dN ?_ _ | refine Below.drew ?_ | refine Below.setCell ?_ (by first | (simp; done) | (simp; omega)) _)); exact Below.refl _ _)

theorem mulBoth16 (a b : Int) (a0 : 0 ≤ a) (a1 : a ≤ 4294967295) (b0 : 0 ≤ b) (b1 : b ≤ 4294967295) : ∃ r : Int,
    (∀ w, Calls Try.prog 14 #[.int .i64 16, .int .u32 a, .int .u32 b] w fun x w' => x = .returned (.int .u32 r) ∧ Below w.heap.size w w') ∧
    (∀ w, Calls Try.prog 10 #[.int .i64 16, .int .u32 a, .int .u32 b] w fun x w' => x = .returned (.int .u32 r) ∧ Below w.heap.size w w') := by
  obtain ⟨c1, m1, m1', e1, e1', _, _⟩ := fv16 a
  obtain ⟨c2, m2, m2', e2, e2', _, _⟩ := fv16 b
  have V1 := value16 a a0 a1
  have V2 := value16 b b0 b1
  have O1 := open16 a a0 a1
  have O2 := open16 b b0 b1
  generalize cl16 a = x1 at *
  generalize cl16 b = x2 at *
  generalize vm16 a = y1 at *
  generalize vm16 b = y2 at *
  generalize ve16 a = z1 at *
  generalize ve16 b = z2 at *
  generalize (a / 32768 % 2 == 1) = s1 at *
  generalize (b / 32768 % 2 == 1) = s2 at *
  obtain ⟨sg, hsg⟩ : ∃ sg, (!(s1 == s2)) = sg := ⟨_, rfl⟩
  obtain ⟨n1, rfl⟩ := Int.eq_ofNat_of_zero_le m1
  obtain ⟨n2, rfl⟩ := Int.eq_ofNat_of_zero_le m2
  have hb : n1 * n2 < 1152921504606846976 := Nat.lt_of_le_of_lt (Nat.mul_le_mul (show n1 ≤ 2 * 1024 by omega) (show n2 ≤ 2 * 1024 by omega)) (by decide)
  have hM : IntKind.u64.wrap ((n1 : Int) * (n2 : Int)) = ((n1 * n2 : Nat) : Int) := by
    rw [show (n1 : Int) * (n2 : Int) = ((n1 * n2 : Nat) : Int) by simp, IntKind.wrap_u64]; omega
  have hE : wrap64 (z1 + z2) = z1 + z2 := by unfold wrap64; omega
  by_cases h12 : x1 = 2
  · subst h12
    exact ⟨_, mulSpecF16 a b _ _ _ O1 O2 (mulProd_a216 n1 z1 n2 z2 s1 s2 sg _ _ hsg), mulImpl_a216 a b 2 n1 z1 x2 n2 z2 s1 s2 sg V1 V2 hsg rfl⟩
  · rcases c2 with rfl | rfl | rfl
    · rcases c1 with rfl | rfl | h
      · have RS := specRound16 sg (n1 * n2) hb (z1 + z2) (by omega) (by omega) false
        have RI := implRound16 sg (n1 * n2) hb (z1 + z2) (by omega) (by omega) false
        by_cases hz : n1 = 0
        · have hz' : ((n1 : Int) == 0) = true := by simp; omega
          exact ⟨_, mulSpecF16 a b _ _ _ O1 O2 (mulProd_nf16 n1 z1 n2 z2 s1 s2 sg hsg _ _ _ hM hE RS), mulImpl_zf16 a b 0 n1 z1 0 n2 z2 s1 s2 sg V1 V2 hsg rfl rfl hz' _ _ _ hM hE RI⟩
        · have hz' : ((n1 : Int) == 0) = false := by simp; omega
          exact ⟨_, mulSpecF16 a b _ _ _ O1 O2 (mulProd_nf16 n1 z1 n2 z2 s1 s2 sg hsg _ _ _ hM hE RS), mulImpl_nf16 a b 0 n1 z1 0 n2 z2 s1 s2 sg V1 V2 hsg rfl rfl hz' _ _ _ hM hE RI⟩
      · by_cases hz : n2 = 0
        · have hz' : (n2 : Int) = 0 := by omega
          exact ⟨_, mulSpecF16 a b _ _ _ O1 O2 (mulProd_iz16 n1 z1 n2 z2 s1 s2 sg hsg hz'), mulImpl_iz16 a b 1 n1 z1 0 n2 z2 s1 s2 sg V1 V2 hsg rfl rfl hz'⟩
        · have hz' : ((n2 : Int) == 0) = false := by simp; omega
          exact ⟨_, mulSpecF16 a b _ _ _ O1 O2 (mulProd_in16 n1 z1 n2 z2 s1 s2 sg hsg hz'), mulImpl_in16 a b 1 n1 z1 0 n2 z2 s1 s2 sg V1 V2 hsg rfl rfl hz'⟩
      · exact absurd h h12
    · rcases c1 with rfl | rfl | h
      · by_cases hz : n1 = 0
        · have hz' : (n1 : Int) = 0 := by omega
          exact ⟨_, mulSpecF16 a b _ _ _ O1 O2 (mulProd_zi16 n1 z1 n2 z2 s1 s2 sg hsg hz'), mulImpl_zi16 a b 0 n1 z1 1 n2 z2 s1 s2 sg V1 V2 hsg rfl rfl hz'⟩
        · have hz' : ((n1 : Int) == 0) = false := by simp; omega
          exact ⟨_, mulSpecF16 a b _ _ _ O1 O2 (mulProd_ni16 n1 z1 n2 z2 s1 s2 sg hsg hz'), mulImpl_ni16 a b 0 n1 z1 1 n2 z2 s1 s2 sg V1 V2 hsg rfl rfl hz'⟩
      · exact ⟨_, mulSpecF16 a b _ _ _ O1 O2 (mulProd_ii16 n1 z1 n2 z2 s1 s2 sg hsg), mulImpl_ii16 a b 1 n1 z1 1 n2 z2 s1 s2 sg V1 V2 hsg rfl rfl⟩
      · exact absurd h h12
    · rcases c1 with rfl | rfl | h
      · exact ⟨_, mulSpecF16 a b _ _ _ O1 O2 (mulProd_b016 n1 z1 n2 z2 s1 s2 sg hsg), mulImpl_b016 a b 0 n1 z1 2 n2 z2 s1 s2 sg V1 V2 hsg rfl rfl⟩
      · exact ⟨_, mulSpecF16 a b _ _ _ O1 O2 (mulProd_b116 n1 z1 n2 z2 s1 s2 sg hsg), mulImpl_b116 a b 1 n1 z1 2 n2 z2 s1 s2 sg V1 V2 hsg rfl rfl⟩
      · exact absurd h h12

theorem mulBoth32 (a b : Int) (a0 : 0 ≤ a) (a1 : a ≤ 4294967295) (b0 : 0 ≤ b) (b1 : b ≤ 4294967295) : ∃ r : Int,
    (∀ w, Calls Try.prog 14 #[.int .i64 32, .int .u32 a, .int .u32 b] w fun x w' => x = .returned (.int .u32 r) ∧ Below w.heap.size w w') ∧
    (∀ w, Calls Try.prog 10 #[.int .i64 32, .int .u32 a, .int .u32 b] w fun x w' => x = .returned (.int .u32 r) ∧ Below w.heap.size w w') := by
  obtain ⟨c1, m1, m1', e1, e1', _, _⟩ := fv32 a
  obtain ⟨c2, m2, m2', e2, e2', _, _⟩ := fv32 b
  have V1 := value32 a a0 a1
  have V2 := value32 b b0 b1
  have O1 := open32 a a0 a1
  have O2 := open32 b b0 b1
  generalize cl32 a = x1 at *
  generalize cl32 b = x2 at *
  generalize vm32 a = y1 at *
  generalize vm32 b = y2 at *
  generalize ve32 a = z1 at *
  generalize ve32 b = z2 at *
  generalize (a / 2147483648 % 2 == 1) = s1 at *
  generalize (b / 2147483648 % 2 == 1) = s2 at *
  obtain ⟨sg, hsg⟩ : ∃ sg, (!(s1 == s2)) = sg := ⟨_, rfl⟩
  obtain ⟨n1, rfl⟩ := Int.eq_ofNat_of_zero_le m1
  obtain ⟨n2, rfl⟩ := Int.eq_ofNat_of_zero_le m2
  have hb : n1 * n2 < 1152921504606846976 := Nat.lt_of_le_of_lt (Nat.mul_le_mul (show n1 ≤ 2 * 8388608 by omega) (show n2 ≤ 2 * 8388608 by omega)) (by decide)
  have hM : IntKind.u64.wrap ((n1 : Int) * (n2 : Int)) = ((n1 * n2 : Nat) : Int) := by
    rw [show (n1 : Int) * (n2 : Int) = ((n1 * n2 : Nat) : Int) by simp, IntKind.wrap_u64]; omega
  have hE : wrap64 (z1 + z2) = z1 + z2 := by unfold wrap64; omega
  by_cases h12 : x1 = 2
  · subst h12
    exact ⟨_, mulSpecF32 a b _ _ _ O1 O2 (mulProd_a232 n1 z1 n2 z2 s1 s2 sg _ _ hsg), mulImpl_a232 a b 2 n1 z1 x2 n2 z2 s1 s2 sg V1 V2 hsg rfl⟩
  · rcases c2 with rfl | rfl | rfl
    · rcases c1 with rfl | rfl | h
      · have RS := specRound32 sg (n1 * n2) hb (z1 + z2) (by omega) (by omega) false
        have RI := implRound32 sg (n1 * n2) hb (z1 + z2) (by omega) (by omega) false
        by_cases hz : n1 = 0
        · have hz' : ((n1 : Int) == 0) = true := by simp; omega
          exact ⟨_, mulSpecF32 a b _ _ _ O1 O2 (mulProd_nf32 n1 z1 n2 z2 s1 s2 sg hsg _ _ _ hM hE RS), mulImpl_zf32 a b 0 n1 z1 0 n2 z2 s1 s2 sg V1 V2 hsg rfl rfl hz' _ _ _ hM hE RI⟩
        · have hz' : ((n1 : Int) == 0) = false := by simp; omega
          exact ⟨_, mulSpecF32 a b _ _ _ O1 O2 (mulProd_nf32 n1 z1 n2 z2 s1 s2 sg hsg _ _ _ hM hE RS), mulImpl_nf32 a b 0 n1 z1 0 n2 z2 s1 s2 sg V1 V2 hsg rfl rfl hz' _ _ _ hM hE RI⟩
      · by_cases hz : n2 = 0
        · have hz' : (n2 : Int) = 0 := by omega
          exact ⟨_, mulSpecF32 a b _ _ _ O1 O2 (mulProd_iz32 n1 z1 n2 z2 s1 s2 sg hsg hz'), mulImpl_iz32 a b 1 n1 z1 0 n2 z2 s1 s2 sg V1 V2 hsg rfl rfl hz'⟩
        · have hz' : ((n2 : Int) == 0) = false := by simp; omega
          exact ⟨_, mulSpecF32 a b _ _ _ O1 O2 (mulProd_in32 n1 z1 n2 z2 s1 s2 sg hsg hz'), mulImpl_in32 a b 1 n1 z1 0 n2 z2 s1 s2 sg V1 V2 hsg rfl rfl hz'⟩
      · exact absurd h h12
    · rcases c1 with rfl | rfl | h
      · by_cases hz : n1 = 0
        · have hz' : (n1 : Int) = 0 := by omega
          exact ⟨_, mulSpecF32 a b _ _ _ O1 O2 (mulProd_zi32 n1 z1 n2 z2 s1 s2 sg hsg hz'), mulImpl_zi32 a b 0 n1 z1 1 n2 z2 s1 s2 sg V1 V2 hsg rfl rfl hz'⟩
        · have hz' : ((n1 : Int) == 0) = false := by simp; omega
          exact ⟨_, mulSpecF32 a b _ _ _ O1 O2 (mulProd_ni32 n1 z1 n2 z2 s1 s2 sg hsg hz'), mulImpl_ni32 a b 0 n1 z1 1 n2 z2 s1 s2 sg V1 V2 hsg rfl rfl hz'⟩
      · exact ⟨_, mulSpecF32 a b _ _ _ O1 O2 (mulProd_ii32 n1 z1 n2 z2 s1 s2 sg hsg), mulImpl_ii32 a b 1 n1 z1 1 n2 z2 s1 s2 sg V1 V2 hsg rfl rfl⟩
      · exact absurd h h12
    · rcases c1 with rfl | rfl | h
      · exact ⟨_, mulSpecF32 a b _ _ _ O1 O2 (mulProd_b032 n1 z1 n2 z2 s1 s2 sg hsg), mulImpl_b032 a b 0 n1 z1 2 n2 z2 s1 s2 sg V1 V2 hsg rfl rfl⟩
      · exact ⟨_, mulSpecF32 a b _ _ _ O1 O2 (mulProd_b132 n1 z1 n2 z2 s1 s2 sg hsg), mulImpl_b132 a b 1 n1 z1 2 n2 z2 s1 s2 sg V1 V2 hsg rfl rfl⟩
      · exact absurd h h12

theorem mulNo (kind a b : Int) (h1 : kind ≠ 16) (h2 : kind ≠ 32) :
    (∀ w, Calls Try.prog 14 #[.int .i64 kind, .int .u32 a, .int .u32 b] w fun x w' => x = .returned (.int .u32 0) ∧ Below w.heap.size w w') ∧
    (∀ w, Calls Try.prog 10 #[.int .i64 kind, .int .u32 a, .int .u32 b] w fun x w' => x = .returned (.int .u32 0) ∧ Below w.heap.size w w') := by
  refine ⟨fun w => ?_, fun w => ?_⟩
  · go_enter Try.func14, Try.ntmps14
    go_wp2_with fail
    refine (l4KindNo kind h1 h2 _).mono ?_
    rintro x w1 ⟨rfl, B1⟩
    go_wp2
    go_ret
    refine ⟨rfl, ?_⟩
    ((repeat (first | refine bel_alloc ?_ _ | refine bel_dN ?_ _ | refine Below.drew ?_ | refine Below.setCell ?_ (by first | (simp; done) | (simp; omega)) _)); refine bel_step ?_ B1; (repeat (first | refine bel_alloc ?_ _ | refine bel_dN ?_ _ | refine Below.drew ?_ | refine Below.setCell ?_ (by first | (simp; done) | (simp; omega)) _)); exact Below.refl _ _)
  · go_enter Try.func10, Try.ntmps10
    go_wp2_with fail
    refine (formNo kind h1 h2 _).mono ?_
    rintro x w1 ⟨rfl, B1⟩
    go_wp2
    go_ret
    refine ⟨rfl, ?_⟩
    ((repeat (first | refine bel_alloc ?_ _ | refine bel_dN ?_ _ | refine Below.drew ?_ | refine Below.setCell ?_ (by first | (simp; done) | (simp; omega)) _)); refine bel_step ?_ B1; (repeat (first | refine bel_alloc ?_ _ | refine bel_dN ?_ _ | refine Below.drew ?_ | refine Below.setCell ?_ (by first | (simp; done) | (simp; omega)) _)); exact Below.refl _ _)

end Go.Proofs.Yteniijmnpgdpcaa
