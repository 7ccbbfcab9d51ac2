/-
  Numbers stored, and bytes copied within: both sides and their laws. (Made by a generator.)
-/
import Derived.Test.YtcnjllecobhalaaMIntL
namespace Go.Proofs.Ytcnjllecobhalaa
open Go.ChangeShapes Go.WideShapes Go.ChangeAt Go.RowKit Go.PlainAid

theorem storeIntI_no (M : Int) (D : ByteArray) (h : D.size ≤ 1048576) (a n x : Int) (c : Int) (hc : c ≠ 0)
    (NC : ∀ w, Calls Try.prog 80 #[.agg #[.int .i64 M, .string D], .int .i64 a, .int .i64 n] w fun e w' => e = .returned (.int .i64 c) ∧ Below w.heap.size w w') (w : World) :
    Calls Try.prog 35 #[.agg #[.int .i64 M, .string D], .int .i64 a, .int .i64 n, .int .u64 x] w fun e w' => e = .returned (.tuple #[.agg #[.int .i64 (kept M D).1, .string (kept M D).2], .int .i64 c]) ∧ Below w.heap.size w w' := by
  have AW := asItWas M D h
  generalize (kept M D).1 = M' at *
  generalize (kept M D).2 = D' at *
  have k : (c == 0) = false := by simp [hc]
  clear hc h
  obtain ⟨g, hgs⟩ : ∃ g, w.heap.size = g := ⟨_, rfl⟩
  go_enter Try.func35, Try.ntmps35
  go_wp2_with fail
  refine (NC _).mono ?_
  rintro e w1 ⟨rfl, B1⟩
  have hw1 := B1.size
  simp at hw1
  have hB : Hid (Below w.heap.size w w1) := by unfold Hid; ((repeat (first | refine bel_alloc ?_ _ | refine bel_dN ?_ _ | refine Below.drew ?_ | refine Below.setCell ?_ (by first | (simp; done) | (simp; omega)) _)); refine bel_step ?_ B1; (repeat (first | refine bel_alloc ?_ _ | refine bel_dN ?_ _ | refine Below.drew ?_ | refine Below.setCell ?_ (by first | (simp; done) | (simp; omega)) _)); exact Below.refl _ _)
  have p0 : w1.cell? ⟨g, 0, none⟩ = some (.int .i64 M) := keepCell B1 (by simp; omega) (by rw [← hgs]; simp)
  have p1 : w1.cell? ⟨g, 1, none⟩ = some (.string D) := keepCell B1 (by simp; omega) (by rw [← hgs]; simp)
  have q0 : w1.cell? ⟨g + 1, 0, none⟩ = some (.int .i64 0) := keepCell B1 (by simp; omega) (by rw [← hgs]; simp)
  have q1 : w1.cell? ⟨g + 1, 1, none⟩ = some (.string ⟨#[]⟩) := keepCell B1 (by simp; omega) (by rw [← hgs]; simp)
  have z0 : w1.frozen? ⟨g + 1, 0, none⟩ = false := keepFree B1 (by simp; omega) (by rw [← hgs]; simp)
  have z1 : w1.frozen? ⟨g + 1, 1, none⟩ = false := keepFree B1 (by simp; omega) (by rw [← hgs]; simp)
  clear B1 NC
  go_wp2_with fail
  refine (AW _).mono ?_
  rintro e w2 ⟨rfl, B2⟩
  have hw2 := B2.size
  replace q0 := keepCell B2 (by omega) q0
  replace q1 := keepCell B2 (by omega) q1
  replace z0 := keepFree B2 (by omega) z0
  replace z1 := keepFree B2 (by omega) z1
  replace hB : Hid (Below w.heap.size w w2) := bel_step hB.out B2
  clear B2 AW
  clear p0 p1
  go_wp2
  refine bodyPost_ret (v := .tuple #[.agg #[.int .i64 M', .string D'], .int .i64 c]) (by simp [results, Try.results35, go_sem, q0, q1]) rfl ⟨rfl, ?_⟩
  first
    | (refine Below.setCell (Below.setCell hB.out ?_ _) ?_ _ <;> simp <;> omega)
    | (rw [← hgs]; refine Below.setCell (Below.setCell hB.out ?_ _) ?_ _ <;> simp <;> omega)

theorem storeIntI_yes (M : Int) (D : ByteArray) (h : D.size ≤ 1048576) (a n x : Nat) (hn : n ≤ 8) (hf : a + n ≤ D.size)
    (NC : ∀ w, Calls Try.prog 80 #[.agg #[.int .i64 M, .string D], .int .i64 (a : Int), .int .i64 (n : Int)] w fun e w' => e = .returned (.int .i64 0) ∧ Below w.heap.size w w') (w : World) :
    Calls Try.prog 35 #[.agg #[.int .i64 M, .string D], .int .i64 (a : Int), .int .i64 (n : Int), .int .u64 (x : Int)] w fun e w' => e = .returned (.tuple #[.agg #[.int .i64 M, .string (laidOver D a ⟨(leB x n).toArray⟩)], .int .i64 0]) ∧ Below w.heap.size w w' := by
  have NB := numberBytes x n hn
  have hs : (⟨(leB x n).toArray⟩ : ByteArray).size = n := by show (leB x n).toArray.size = n; simp [leB_len]
  have ST := stored M D h a ⟨(leB x n).toArray⟩ (by omega)
  generalize laidOver D a ⟨(leB x n).toArray⟩ = Y at *
  generalize (⟨(leB x n).toArray⟩ : ByteArray) = X at *
  clear hs hf hn h
  obtain ⟨g, hgs⟩ : ∃ g, w.heap.size = g := ⟨_, rfl⟩
  go_enter Try.func35, Try.ntmps35
  go_wp2_with fail
  refine (NC _).mono ?_
  rintro e w1 ⟨rfl, B1⟩
  have hw1 := B1.size
  simp at hw1
  have hB : Hid (Below w.heap.size w w1) := by unfold Hid; ((repeat (first | refine bel_alloc ?_ _ | refine bel_dN ?_ _ | refine Below.drew ?_ | refine Below.setCell ?_ (by first | (simp; done) | (simp; omega)) _)); refine bel_step ?_ B1; (repeat (first | refine bel_alloc ?_ _ | refine bel_dN ?_ _ | refine Below.drew ?_ | refine Below.setCell ?_ (by first | (simp; done) | (simp; omega)) _)); exact Below.refl _ _)
  have p0 : w1.cell? ⟨g, 0, none⟩ = some (.int .i64 M) := keepCell B1 (by simp; omega) (by rw [← hgs]; simp)
  have p1 : w1.cell? ⟨g, 1, none⟩ = some (.string D) := keepCell B1 (by simp; omega) (by rw [← hgs]; simp)
  have q0 : w1.cell? ⟨g + 1, 0, none⟩ = some (.int .i64 0) := keepCell B1 (by simp; omega) (by rw [← hgs]; simp)
  have q1 : w1.cell? ⟨g + 1, 1, none⟩ = some (.string ⟨#[]⟩) := keepCell B1 (by simp; omega) (by rw [← hgs]; simp)
  have z0 : w1.frozen? ⟨g + 1, 0, none⟩ = false := keepFree B1 (by simp; omega) (by rw [← hgs]; simp)
  have z1 : w1.frozen? ⟨g + 1, 1, none⟩ = false := keepFree B1 (by simp; omega) (by rw [← hgs]; simp)
  clear B1 NC
  have k0 : ∀ w, Keeps w1 w → w.cell? ⟨g, 0, none⟩ = some (.int .i64 M) := fun w h => h.cell (by omega) p0
  have k1 : ∀ w, Keeps w1 w → w.cell? ⟨g, 1, none⟩ = some (.string D) := fun w h => h.cell (by omega) p1
  have k2 : ∀ w, Keeps w1 w → w.cell? ⟨g + 1, 0, none⟩ = some (.int .i64 0) := fun w h => h.cell (by omega) q0
  have k3 : ∀ w, Keeps w1 w → w.cell? ⟨g + 1, 1, none⟩ = some (.string ⟨#[]⟩) := fun w h => h.cell (by omega) q1
  have y0 : ∀ w, Keeps w1 w → w.frozen? ⟨g + 1, 0, none⟩ = false := fun w h => h.frozen (by omega) z0
  have y1 : ∀ w, Keeps w1 w → w.frozen? ⟨g + 1, 1, none⟩ = false := fun w h => h.frozen (by omega) z1
  clear p0 p1 q0 q1 z0 z1
  go_wp2_with fail
  refine region_qtail (C := Keeps w1) 6 (by kernel_rfl) (by kernel_rfl) (Keeps.drew w1) ?_
  (iterate 6
    (apply wpQuiet_go _ (by rfl)
     · intro wq hq
       go_simp
       first
         | (go_at_call 81; exact qcall hq (NB _))
         | (go_at_call 75; exact qcall hq (ST _))
         | exact rfl
     simp only [Act.put, List.setIfInBounds_toArray, List.set_cons_succ, List.set_cons_zero]))
  refine wpQuiet_nil ?_
  intro wz hk
  have q0 := k2 _ hk
  have q1 := k3 _ hk
  have z0 := y0 _ hk
  have z1 := y1 _ hk
  have hb := hk.below
  have hsz := hb.size
  replace hB : Hid (Below w.heap.size w wz) := bel_step hB.out hb
  clear k0 k1 k2 k3 y0 y1 hk hb NB ST
  go_wp2
  refine bodyPost_ret (v := .tuple #[.agg #[.int .i64 M, .string Y], .int .i64 0]) (by simp [results, Try.results35, go_sem, q0, q1]) rfl ⟨rfl, ?_⟩
  first
    | (refine Below.setCell (Below.setCell hB.out ?_ _) ?_ _ <;> simp <;> omega)
    | (rw [← hgs]; refine Below.setCell (Below.setCell hB.out ?_ _) ?_ _ <;> simp <;> omega)

theorem storeIntS_bad (M : Int) (D : ByteArray) (a n x : Int)
    (HG : ∀ w, Calls Try.prog 76 #[.agg #[.int .i64 M, .string D]] w fun e w' => e = .returned (.bool false) ∧ Below w.heap.size w w') (w : World) :
    Calls Try.prog 36 #[.agg #[.int .i64 M, .string D], .int .i64 a, .int .i64 n, .int .u64 x] w fun e w' => e = .returned (.tuple #[.agg #[.int .i64 0, .string ⟨#[]⟩], .int .i64 1]) ∧ Below w.heap.size w w' := by
  obtain ⟨g, hgs⟩ : ∃ g, w.heap.size = g := ⟨_, rfl⟩
  go_enter Try.func36, Try.ntmps36
  go_wp2_with fail
  refine (HG _).mono ?_
  rintro e w1 ⟨rfl, B1⟩
  have hw1 := B1.size
  simp at hw1
  have hB : Hid (Below w.heap.size w w1) := by unfold Hid; ((repeat (first | refine bel_alloc ?_ _ | refine bel_dN ?_ _ | refine Below.drew ?_ | refine Below.setCell ?_ (by first | (simp; done) | (simp; omega)) _)); refine bel_step ?_ B1; (repeat (first | refine bel_alloc ?_ _ | refine bel_dN ?_ _ | refine Below.drew ?_ | refine Below.setCell ?_ (by first | (simp; done) | (simp; omega)) _)); exact Below.refl _ _)
  have p0 : w1.cell? ⟨g, 0, none⟩ = some (.int .i64 M) := keepCell B1 (by simp; omega) (by rw [← hgs]; simp)
  have p1 : w1.cell? ⟨g, 1, none⟩ = some (.string D) := keepCell B1 (by simp; omega) (by rw [← hgs]; simp)
  have q0 : w1.cell? ⟨g + 1, 0, none⟩ = some (.int .i64 0) := keepCell B1 (by simp; omega) (by rw [← hgs]; simp)
  have q1 : w1.cell? ⟨g + 1, 1, none⟩ = some (.string ⟨#[]⟩) := keepCell B1 (by simp; omega) (by rw [← hgs]; simp)
  have z0 : w1.frozen? ⟨g + 1, 0, none⟩ = false := keepFree B1 (by simp; omega) (by rw [← hgs]; simp)
  have z1 : w1.frozen? ⟨g + 1, 1, none⟩ = false := keepFree B1 (by simp; omega) (by rw [← hgs]; simp)
  clear B1 HG
  clear p0 p1
  go_wp2
  refine bodyPost_ret (v := .tuple #[.agg #[.int .i64 0, .string ⟨#[]⟩], .int .i64 1]) (by simp [results, Try.results36, go_sem, q0, q1]) rfl ⟨rfl, ?_⟩
  first
    | (refine Below.setCell (Below.setCell hB.out ?_ _) ?_ _ <;> simp <;> omega)
    | (rw [← hgs]; refine Below.setCell (Below.setCell hB.out ?_ _) ?_ _ <;> simp <;> omega)

theorem storeIntS_size (M : Int) (D : ByteArray) (a n x : Int)
    (HG : ∀ w, Calls Try.prog 76 #[.agg #[.int .i64 M, .string D]] w fun e w' => e = .returned (.bool true) ∧ Below w.heap.size w w')
    (LZ : ∀ w, Calls Try.prog 82 #[.int .i64 n] w fun e w' => e = .returned (.bool false) ∧ w' = w) (w : World) :
    Calls Try.prog 36 #[.agg #[.int .i64 M, .string D], .int .i64 a, .int .i64 n, .int .u64 x] w fun e w' => e = .returned (.tuple #[.agg #[.int .i64 M, .string D], .int .i64 1]) ∧ Below w.heap.size w w' := by
  obtain ⟨g, hgs⟩ : ∃ g, w.heap.size = g := ⟨_, rfl⟩
  go_enter Try.func36, Try.ntmps36
  go_wp2_with fail
  refine (HG _).mono ?_
  rintro e w1 ⟨rfl, B1⟩
  have hw1 := B1.size
  simp at hw1
  have hB : Hid (Below w.heap.size w w1) := by unfold Hid; ((repeat (first | refine bel_alloc ?_ _ | refine bel_dN ?_ _ | refine Below.drew ?_ | refine Below.setCell ?_ (by first | (simp; done) | (simp; omega)) _)); refine bel_step ?_ B1; (repeat (first | refine bel_alloc ?_ _ | refine bel_dN ?_ _ | refine Below.drew ?_ | refine Below.setCell ?_ (by first | (simp; done) | (simp; omega)) _)); exact Below.refl _ _)
  have p0 : w1.cell? ⟨g, 0, none⟩ = some (.int .i64 M) := keepCell B1 (by simp; omega) (by rw [← hgs]; simp)
  have p1 : w1.cell? ⟨g, 1, none⟩ = some (.string D) := keepCell B1 (by simp; omega) (by rw [← hgs]; simp)
  have q0 : w1.cell? ⟨g + 1, 0, none⟩ = some (.int .i64 0) := keepCell B1 (by simp; omega) (by rw [← hgs]; simp)
  have q1 : w1.cell? ⟨g + 1, 1, none⟩ = some (.string ⟨#[]⟩) := keepCell B1 (by simp; omega) (by rw [← hgs]; simp)
  have z0 : w1.frozen? ⟨g + 1, 0, none⟩ = false := keepFree B1 (by simp; omega) (by rw [← hgs]; simp)
  have z1 : w1.frozen? ⟨g + 1, 1, none⟩ = false := keepFree B1 (by simp; omega) (by rw [← hgs]; simp)
  clear B1 HG
  go_wp2_with fail
  refine (LZ _).mono ?_
  rintro e w' ⟨rfl, hw⟩
  obtain rfl := hw.symm
  clear LZ
  go_wp2
  refine bodyPost_ret (v := .tuple #[.agg #[.int .i64 M, .string D], .int .i64 1]) (by simp [results, Try.results36, go_sem, q0, q1]) rfl ⟨rfl, ?_⟩
  first
    | (refine Below.setCell (Below.setCell hB.out ?_ _) ?_ _ <;> simp <;> omega)
    | (rw [← hgs]; refine Below.setCell (Below.setCell hB.out ?_ _) ?_ _ <;> simp <;> omega)

theorem storeIntS_yes (M : Int) (D : ByteArray) (a : Int) (n x : Nat) (hn : n ≤ 8) (M' : Int) (D' : ByteArray) (c : Int)
    (HG : ∀ w, Calls Try.prog 76 #[.agg #[.int .i64 M, .string D]] w fun e w' => e = .returned (.bool true) ∧ Below w.heap.size w w')
    (LZ : ∀ w, Calls Try.prog 82 #[.int .i64 (n : Int)] w fun e w' => e = .returned (.bool true) ∧ w' = w)
    (ST : ∀ w, Calls Try.prog 32 #[.agg #[.int .i64 M, .string D], .int .i64 a, .string ⟨(leB x n).toArray⟩] w fun e w' => e = .returned (.tuple #[.agg #[.int .i64 M', .string D'], .int .i64 c]) ∧ Below w.heap.size w w') (w : World) :
    Calls Try.prog 36 #[.agg #[.int .i64 M, .string D], .int .i64 a, .int .i64 (n : Int), .int .u64 (x : Int)] w fun e w' => e = .returned (.tuple #[.agg #[.int .i64 M', .string D'], .int .i64 c]) ∧ Below w.heap.size w w' := by
  have NB := l5Bytes x n hn
  generalize (⟨(leB x n).toArray⟩ : ByteArray) = X at *
  clear hn
  obtain ⟨g, hgs⟩ : ∃ g, w.heap.size = g := ⟨_, rfl⟩
  go_enter Try.func36, Try.ntmps36
  go_wp2_with fail
  refine (HG _).mono ?_
  rintro e w1 ⟨rfl, B1⟩
  have hw1 := B1.size
  simp at hw1
  have hB : Hid (Below w.heap.size w w1) := by unfold Hid; ((repeat (first | refine bel_alloc ?_ _ | refine bel_dN ?_ _ | refine Below.drew ?_ | refine Below.setCell ?_ (by first | (simp; done) | (simp; omega)) _)); refine bel_step ?_ B1; (repeat (first | refine bel_alloc ?_ _ | refine bel_dN ?_ _ | refine Below.drew ?_ | refine Below.setCell ?_ (by first | (simp; done) | (simp; omega)) _)); exact Below.refl _ _)
  have p0 : w1.cell? ⟨g, 0, none⟩ = some (.int .i64 M) := keepCell B1 (by simp; omega) (by rw [← hgs]; simp)
  have p1 : w1.cell? ⟨g, 1, none⟩ = some (.string D) := keepCell B1 (by simp; omega) (by rw [← hgs]; simp)
  have q0 : w1.cell? ⟨g + 1, 0, none⟩ = some (.int .i64 0) := keepCell B1 (by simp; omega) (by rw [← hgs]; simp)
  have q1 : w1.cell? ⟨g + 1, 1, none⟩ = some (.string ⟨#[]⟩) := keepCell B1 (by simp; omega) (by rw [← hgs]; simp)
  have z0 : w1.frozen? ⟨g + 1, 0, none⟩ = false := keepFree B1 (by simp; omega) (by rw [← hgs]; simp)
  have z1 : w1.frozen? ⟨g + 1, 1, none⟩ = false := keepFree B1 (by simp; omega) (by rw [← hgs]; simp)
  clear B1 HG
  go_wp2_with fail
  refine (LZ _).mono ?_
  rintro e w' ⟨rfl, hw⟩
  obtain rfl := hw.symm
  clear LZ
  have k0 : ∀ w, Keeps w1 w → w.cell? ⟨g, 0, none⟩ = some (.int .i64 M) := fun w h => h.cell (by omega) p0
  have k1 : ∀ w, Keeps w1 w → w.cell? ⟨g, 1, none⟩ = some (.string D) := fun w h => h.cell (by omega) p1
  have k2 : ∀ w, Keeps w1 w → w.cell? ⟨g + 1, 0, none⟩ = some (.int .i64 0) := fun w h => h.cell (by omega) q0
  have k3 : ∀ w, Keeps w1 w → w.cell? ⟨g + 1, 1, none⟩ = some (.string ⟨#[]⟩) := fun w h => h.cell (by omega) q1
  have y0 : ∀ w, Keeps w1 w → w.frozen? ⟨g + 1, 0, none⟩ = false := fun w h => h.frozen (by omega) z0
  have y1 : ∀ w, Keeps w1 w → w.frozen? ⟨g + 1, 1, none⟩ = false := fun w h => h.frozen (by omega) z1
  clear p0 p1 q0 q1 z0 z1
  go_wp2_with fail
  refine region_qtail (C := Keeps w1) 8 (by kernel_rfl) (by kernel_rfl) (Keeps.drew w1) ?_
  (iterate 8
    (apply wpQuiet_go _ (by rfl)
     · intro wq hq
       go_simp
       first
         | (go_at_call 83; exact qcall hq (NB _))
         | (go_at_call 32; exact qcall hq (ST _))
         | exact rfl
     simp only [Act.put, List.setIfInBounds_toArray, List.set_cons_succ, List.set_cons_zero]))
  refine wpQuiet_nil ?_
  intro wz hk
  have q0 := k2 _ hk
  have q1 := k3 _ hk
  have z0 := y0 _ hk
  have z1 := y1 _ hk
  have hb := hk.below
  have hsz := hb.size
  replace hB : Hid (Below w.heap.size w wz) := bel_step hB.out hb
  clear k0 k1 k2 k3 y0 y1 hk hb NB ST
  go_wp2
  refine bodyPost_ret (v := .tuple #[.agg #[.int .i64 M', .string D'], .int .i64 c]) (by simp [results, Try.results36, go_sem, q0, q1]) rfl ⟨rfl, ?_⟩
  first
    | (refine Below.setCell (Below.setCell hB.out ?_ _) ?_ _ <;> simp <;> omega)
    | (rw [← hgs]; refine Below.setCell (Below.setCell hB.out ?_ _) ?_ _ <;> simp <;> omega)

theorem storeIntYes (M : Int) (D : ByteArray) (h : D.size ≤ 1048576) (a : Int) (n x : Nat) (ha : a ≤ 9223372036854775807) (hn : n ≤ 8)
    (LZ : ∀ w, Calls Try.prog 82 #[.int .i64 (n : Int)] w fun e w' => e = .returned (.bool true) ∧ w' = w)
    (NC : ∀ w, Calls Try.prog 80 #[.agg #[.int .i64 M, .string D], .int .i64 a, .int .i64 (n : Int)] w fun e w' => e = .returned (.int .i64 (codeOf (good M D) D.size [(a, (n : Int))])) ∧ Below w.heap.size w w') :
    ∃ M' D' c, (∀ w, Calls Try.prog 36 #[.agg #[.int .i64 M, .string D], .int .i64 a, .int .i64 (n : Int), .int .u64 (x : Int)] w fun e w' => e = .returned (.tuple #[.agg #[.int .i64 M', .string D'], .int .i64 c]) ∧ Below w.heap.size w w') ∧
      (∀ w, Calls Try.prog 35 #[.agg #[.int .i64 M, .string D], .int .i64 a, .int .i64 (n : Int), .int .u64 (x : Int)] w fun e w' => e = .returned (.tuple #[.agg #[.int .i64 M', .string D'], .int .i64 c]) ∧ Below w.heap.size w w') := by
  have hs : (⟨(leB x n).toArray⟩ : ByteArray).size = n := by show (leB x n).toArray.size = n; simp [leB_len]
  have HG := mGoodS M D h
  cases hg : good M D
  · rw [hg] at HG NC
    rw [code1_bad] at NC
    have hk : kept M D = (0, ⟨#[]⟩) := by simp [kept, hg]
    have I := storeIntI_no M D h a n x 1 (by decide) NC
    rw [hk] at I
    exact ⟨_, _, _, storeIntS_bad M D a n x HG, I⟩
  · rw [hg] at HG
    by_cases hc : codeOf (good M D) D.size [(a, (n : Int))] = 0
    · rw [hc] at NC
      have S := storeS M D h a ⟨(leB x n).toArray⟩ (by omega) ha 0 (by rw [hs]; exact hc) M _ (fun _ => ⟨rfl, rfl⟩) (fun h => absurd rfl h)
      obtain ⟨_, h0, _, h1⟩ := code1_zero hc
      obtain ⟨a, rfl⟩ : ∃ k : Nat, a = (k : Int) := ⟨a.toNat, by omega⟩
      simp only [Int.toNat_natCast] at S
      exact ⟨_, _, _, storeIntS_yes M D a n x hn _ _ _ HG LZ S, storeIntI_yes M D h a n x hn (by omega) NC⟩
    · have S := storeS M D h a ⟨(leB x n).toArray⟩ (by omega) ha _ (by rw [hs]) _ _ (fun h => absurd h hc) (fun _ => rfl)
      exact ⟨_, _, _, storeIntS_yes M D a n x hn _ _ _ HG LZ S, storeIntI_no M D h a n x _ hc NC⟩

theorem storeIntBoth (M : Int) (D : ByteArray) (h : D.size ≤ 1048576) (a n x : Int) (ha : a ≤ 9223372036854775807) (hx : 0 ≤ x) :
    ∃ M' D' c, (∀ w, Calls Try.prog 36 #[.agg #[.int .i64 M, .string D], .int .i64 a, .int .i64 n, .int .u64 x] w fun e w' => e = .returned (.tuple #[.agg #[.int .i64 M', .string D'], .int .i64 c]) ∧ Below w.heap.size w w') ∧
      (∀ w, Calls Try.prog 35 #[.agg #[.int .i64 M, .string D], .int .i64 a, .int .i64 n, .int .u64 x] w fun e w' => e = .returned (.tuple #[.agg #[.int .i64 M', .string D'], .int .i64 c]) ∧ Below w.heap.size w w') := by
  obtain ⟨x, rfl⟩ : ∃ k : Nat, x = (k : Int) := ⟨x.toNat, by omega⟩
  by_cases hn : n = 1 ∨ n = 2 ∨ n = 4 ∨ n = 8
  · rcases hn with rfl | rfl | rfl | rfl
    · exact storeIntYes M D h a 1 x ha (by omega) l5Size1 (numberCode1 M D h a ha)
    · exact storeIntYes M D h a 2 x ha (by omega) l5Size2 (numberCode2 M D h a ha)
    · exact storeIntYes M D h a 4 x ha (by omega) l5Size4 (numberCode4 M D h a ha)
    · exact storeIntYes M D h a 8 x ha (by omega) l5Size8 (numberCode8 M D h a ha)
  · have h1 : n ≠ 1 := fun e => hn (Or.inl e)
    have h2 : n ≠ 2 := fun e => hn (Or.inr (Or.inl e))
    have h4 : n ≠ 4 := fun e => hn (Or.inr (Or.inr (Or.inl e)))
    have h8 : n ≠ 8 := fun e => hn (Or.inr (Or.inr (Or.inr e)))
    have HG := mGoodS M D h
    have I := storeIntI_no M D h a n x 1 (by decide) (numberCode_no M D a n h1 h2 h4 h8)
    cases hg : good M D
    · rw [hg] at HG
      have hk : kept M D = (0, ⟨#[]⟩) := by simp [kept, hg]
      rw [hk] at I
      exact ⟨_, _, _, storeIntS_bad M D a n x HG, I⟩
    · rw [hg] at HG
      have hk : kept M D = (M, D) := by simp [kept, hg]
      rw [hk] at I
      exact ⟨_, _, _, storeIntS_size M D a n x HG (l5Size_no n h1 h2 h4 h8), I⟩

end Go.Proofs.Ytcnjllecobhalaa
