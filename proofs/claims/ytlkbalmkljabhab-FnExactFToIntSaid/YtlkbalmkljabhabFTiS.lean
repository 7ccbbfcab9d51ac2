/-
  FToInt: the law's side.
-/
import Derived.Test.YtlkbalmkljabhabFTiI
namespace Go.Proofs.Ytlkbalmkljabhab
open Go.RowKit

set_option maxHeartbeats 1000000 in
theorem toiS_nan32_16 (a m e1 : Int) (s sg : Bool) (i1 : Bool) (O1 : Hid (∀ w, Calls Try.prog 14 #[(.agg #[.int .u64 5, .int .u64 10]), .int .u32 a] w fun e w' => e = .returned (.agg #[.bool s, .bool i1, .bool true, .int .u64 m, .int .i64 e1]) ∧ Below w.heap.size w w')) (w : World) :
    Calls Try.prog 26 #[(.agg #[.int .u64 5, .int .u64 10]), .int .u32 a, .int .i64 32, .bool sg] w fun e w' => e = .returned tooGreat ∧ Below w.heap.size w w' := by
  go_enter Try.func26, Try.ntmps26
  go_wp2_with fail
  refine (O1.out _).mono ?_
  rintro e' w1 ⟨rfl, B1⟩
  go_wp2
  refine bodyPost_ret (two_resT Try.results26 _ _ _) rfl ⟨rfl, ?_⟩
  ((repeat (first | refine bel_alloc ?_ _ | refine bel_dN ?_ _ | refine Below.drew ?_ | refine Below.setCell ?_ (by first | (simp; done) | (simp; omega)) _)); refine bel_step ?_ B1; (repeat (first | refine bel_alloc ?_ _ | refine bel_dN ?_ _ | refine Below.drew ?_ | refine Below.setCell ?_ (by first | (simp; done) | (simp; omega)) _)); exact Below.refl _ _)

set_option maxHeartbeats 1000000 in
theorem toiS_nan32_32 (a m e1 : Int) (s sg : Bool) (i1 : Bool) (O1 : Hid (∀ w, Calls Try.prog 14 #[(.agg #[.int .u64 8, .int .u64 23]), .int .u32 a] w fun e w' => e = .returned (.agg #[.bool s, .bool i1, .bool true, .int .u64 m, .int .i64 e1]) ∧ Below w.heap.size w w')) (w : World) :
    Calls Try.prog 26 #[(.agg #[.int .u64 8, .int .u64 23]), .int .u32 a, .int .i64 32, .bool sg] w fun e w' => e = .returned tooGreat ∧ Below w.heap.size w w' := by
  go_enter Try.func26, Try.ntmps26
  go_wp2_with fail
  refine (O1.out _).mono ?_
  rintro e' w1 ⟨rfl, B1⟩
  go_wp2
  refine bodyPost_ret (two_resT Try.results26 _ _ _) rfl ⟨rfl, ?_⟩
  ((repeat (first | refine bel_alloc ?_ _ | refine bel_dN ?_ _ | refine Below.drew ?_ | refine Below.setCell ?_ (by first | (simp; done) | (simp; omega)) _)); refine bel_step ?_ B1; (repeat (first | refine bel_alloc ?_ _ | refine bel_dN ?_ _ | refine Below.drew ?_ | refine Below.setCell ?_ (by first | (simp; done) | (simp; omega)) _)); exact Below.refl _ _)

set_option maxHeartbeats 1000000 in
theorem toiS_inf32_16 (a m e1 : Int) (s sg : Bool) (O1 : Hid (∀ w, Calls Try.prog 14 #[(.agg #[.int .u64 5, .int .u64 10]), .int .u32 a] w fun e w' => e = .returned (.agg #[.bool s, .bool true, .bool false, .int .u64 m, .int .i64 e1]) ∧ Below w.heap.size w w')) (w : World) :
    Calls Try.prog 26 #[(.agg #[.int .u64 5, .int .u64 10]), .int .u32 a, .int .i64 32, .bool sg] w fun e w' => e = .returned tooGreat ∧ Below w.heap.size w w' := by
  go_enter Try.func26, Try.ntmps26
  go_wp2_with fail
  refine (O1.out _).mono ?_
  rintro e' w1 ⟨rfl, B1⟩
  go_wp2
  refine bodyPost_ret (two_resT Try.results26 _ _ _) rfl ⟨rfl, ?_⟩
  ((repeat (first | refine bel_alloc ?_ _ | refine bel_dN ?_ _ | refine Below.drew ?_ | refine Below.setCell ?_ (by first | (simp; done) | (simp; omega)) _)); refine bel_step ?_ B1; (repeat (first | refine bel_alloc ?_ _ | refine bel_dN ?_ _ | refine Below.drew ?_ | refine Below.setCell ?_ (by first | (simp; done) | (simp; omega)) _)); exact Below.refl _ _)

set_option maxHeartbeats 1000000 in
theorem toiS_inf32_32 (a m e1 : Int) (s sg : Bool) (O1 : Hid (∀ w, Calls Try.prog 14 #[(.agg #[.int .u64 8, .int .u64 23]), .int .u32 a] w fun e w' => e = .returned (.agg #[.bool s, .bool true, .bool false, .int .u64 m, .int .i64 e1]) ∧ Below w.heap.size w w')) (w : World) :
    Calls Try.prog 26 #[(.agg #[.int .u64 8, .int .u64 23]), .int .u32 a, .int .i64 32, .bool sg] w fun e w' => e = .returned tooGreat ∧ Below w.heap.size w w' := by
  go_enter Try.func26, Try.ntmps26
  go_wp2_with fail
  refine (O1.out _).mono ?_
  rintro e' w1 ⟨rfl, B1⟩
  go_wp2
  refine bodyPost_ret (two_resT Try.results26 _ _ _) rfl ⟨rfl, ?_⟩
  ((repeat (first | refine bel_alloc ?_ _ | refine bel_dN ?_ _ | refine Below.drew ?_ | refine Below.setCell ?_ (by first | (simp; done) | (simp; omega)) _)); refine bel_step ?_ B1; (repeat (first | refine bel_alloc ?_ _ | refine bel_dN ?_ _ | refine Below.drew ?_ | refine Below.setCell ?_ (by first | (simp; done) | (simp; omega)) _)); exact Below.refl _ _)

set_option maxHeartbeats 1000000 in
theorem toiS_nan64_16 (a m e1 : Int) (s sg : Bool) (i1 : Bool) (O1 : Hid (∀ w, Calls Try.prog 14 #[(.agg #[.int .u64 5, .int .u64 10]), .int .u32 a] w fun e w' => e = .returned (.agg #[.bool s, .bool i1, .bool true, .int .u64 m, .int .i64 e1]) ∧ Below w.heap.size w w')) (w : World) :
    Calls Try.prog 26 #[(.agg #[.int .u64 5, .int .u64 10]), .int .u32 a, .int .i64 64, .bool sg] w fun e w' => e = .returned tooGreat ∧ Below w.heap.size w w' := by
  go_enter Try.func26, Try.ntmps26
  go_wp2_with fail
  refine (O1.out _).mono ?_
  rintro e' w1 ⟨rfl, B1⟩
  go_wp2
  refine bodyPost_ret (two_resT Try.results26 _ _ _) rfl ⟨rfl, ?_⟩
  ((repeat (first | refine bel_alloc ?_ _ | refine bel_dN ?_ _ | refine Below.drew ?_ | refine Below.setCell ?_ (by first | (simp; done) | (simp; omega)) _)); refine bel_step ?_ B1; (repeat (first | refine bel_alloc ?_ _ | refine bel_dN ?_ _ | refine Below.drew ?_ | refine Below.setCell ?_ (by first | (simp; done) | (simp; omega)) _)); exact Below.refl _ _)

set_option maxHeartbeats 1000000 in
theorem toiS_nan64_32 (a m e1 : Int) (s sg : Bool) (i1 : Bool) (O1 : Hid (∀ w, Calls Try.prog 14 #[(.agg #[.int .u64 8, .int .u64 23]), .int .u32 a] w fun e w' => e = .returned (.agg #[.bool s, .bool i1, .bool true, .int .u64 m, .int .i64 e1]) ∧ Below w.heap.size w w')) (w : World) :
    Calls Try.prog 26 #[(.agg #[.int .u64 8, .int .u64 23]), .int .u32 a, .int .i64 64, .bool sg] w fun e w' => e = .returned tooGreat ∧ Below w.heap.size w w' := by
  go_enter Try.func26, Try.ntmps26
  go_wp2_with fail
  refine (O1.out _).mono ?_
  rintro e' w1 ⟨rfl, B1⟩
  go_wp2
  refine bodyPost_ret (two_resT Try.results26 _ _ _) rfl ⟨rfl, ?_⟩
  ((repeat (first | refine bel_alloc ?_ _ | refine bel_dN ?_ _ | refine Below.drew ?_ | refine Below.setCell ?_ (by first | (simp; done) | (simp; omega)) _)); refine bel_step ?_ B1; (repeat (first | refine bel_alloc ?_ _ | refine bel_dN ?_ _ | refine Below.drew ?_ | refine Below.setCell ?_ (by first | (simp; done) | (simp; omega)) _)); exact Below.refl _ _)

set_option maxHeartbeats 1000000 in
theorem toiS_inf64_16 (a m e1 : Int) (s sg : Bool) (O1 : Hid (∀ w, Calls Try.prog 14 #[(.agg #[.int .u64 5, .int .u64 10]), .int .u32 a] w fun e w' => e = .returned (.agg #[.bool s, .bool true, .bool false, .int .u64 m, .int .i64 e1]) ∧ Below w.heap.size w w')) (w : World) :
    Calls Try.prog 26 #[(.agg #[.int .u64 5, .int .u64 10]), .int .u32 a, .int .i64 64, .bool sg] w fun e w' => e = .returned tooGreat ∧ Below w.heap.size w w' := by
  go_enter Try.func26, Try.ntmps26
  go_wp2_with fail
  refine (O1.out _).mono ?_
  rintro e' w1 ⟨rfl, B1⟩
  go_wp2
  refine bodyPost_ret (two_resT Try.results26 _ _ _) rfl ⟨rfl, ?_⟩
  ((repeat (first | refine bel_alloc ?_ _ | refine bel_dN ?_ _ | refine Below.drew ?_ | refine Below.setCell ?_ (by first | (simp; done) | (simp; omega)) _)); refine bel_step ?_ B1; (repeat (first | refine bel_alloc ?_ _ | refine bel_dN ?_ _ | refine Below.drew ?_ | refine Below.setCell ?_ (by first | (simp; done) | (simp; omega)) _)); exact Below.refl _ _)

set_option maxHeartbeats 1000000 in
theorem toiS_inf64_32 (a m e1 : Int) (s sg : Bool) (O1 : Hid (∀ w, Calls Try.prog 14 #[(.agg #[.int .u64 8, .int .u64 23]), .int .u32 a] w fun e w' => e = .returned (.agg #[.bool s, .bool true, .bool false, .int .u64 m, .int .i64 e1]) ∧ Below w.heap.size w w')) (w : World) :
    Calls Try.prog 26 #[(.agg #[.int .u64 8, .int .u64 23]), .int .u32 a, .int .i64 64, .bool sg] w fun e w' => e = .returned tooGreat ∧ Below w.heap.size w w' := by
  go_enter Try.func26, Try.ntmps26
  go_wp2_with fail
  refine (O1.out _).mono ?_
  rintro e' w1 ⟨rfl, B1⟩
  go_wp2
  refine bodyPost_ret (two_resT Try.results26 _ _ _) rfl ⟨rfl, ?_⟩
  ((repeat (first | refine bel_alloc ?_ _ | refine bel_dN ?_ _ | refine Below.drew ?_ | refine Below.setCell ?_ (by first | (simp; done) | (simp; omega)) _)); refine bel_step ?_ B1; (repeat (first | refine bel_alloc ?_ _ | refine bel_dN ?_ _ | refine Below.drew ?_ | refine Below.setCell ?_ (by first | (simp; done) | (simp; omega)) _)); exact Below.refl _ _)

set_option maxHeartbeats 1000000 in
theorem toiS_far32_16 (a b m e1 m2 e2 : Int) (s sg : Bool) (O1 : Hid (∀ w, Calls Try.prog 14 #[(.agg #[.int .u64 5, .int .u64 10]), .int .u32 a] w fun e w' => e = .returned (.agg #[.bool s, .bool false, .bool false, .int .u64 m, .int .i64 e1]) ∧ Below w.heap.size w w'))
    (WH : Hid (∀ w, Calls Try.prog 47 #[(.agg #[.int .u64 5, .int .u64 10]), .int .i64 3, .agg #[.bool s, .bool false, .bool false, .int .u64 m, .int .i64 e1]] w fun x w' => x = .returned (.int .u32 b) ∧ Below w.heap.size w w'))
    (O2 : Hid (∀ w, Calls Try.prog 14 #[(.agg #[.int .u64 5, .int .u64 10]), .int .u32 b] w fun e w' => e = .returned (.agg #[.bool s, .bool false, .bool false, .int .u64 m2, .int .i64 e2]) ∧ Below w.heap.size w w')) (he : 40 < e2) (w : World) :
    Calls Try.prog 26 #[(.agg #[.int .u64 5, .int .u64 10]), .int .u32 a, .int .i64 32, .bool sg] w fun e w' => e = .returned tooGreat ∧ Below w.heap.size w w' := by
  go_enter Try.func26, Try.ntmps26
  go_wp2_with fail
  refine (O1.out _).mono ?_
  rintro e' w1 ⟨rfl, B1⟩
  have u0 : w1.cell? ⟨w.heap.size, 0, none⟩ = some (.int .u64 5) := (B1.cell (p := ⟨w.heap.size, 0, none⟩) (by simp)).trans (by simp)
  have u1 : w1.cell? ⟨w.heap.size, 1, none⟩ = some (.int .u64 10) := (B1.cell (p := ⟨w.heap.size, 1, none⟩) (by simp)).trans (by simp)
  have l0 : w.heap.size < w1.heap.size := by have := B1.size; simp at this; omega
  have l0b : w.heap.size < w1.heap.size + 1 := by omega
  go_wp2_with fail
  obtain ⟨W, hW⟩ : ∃ W, w1.alloc (.cells #[.bool s, .bool false, .bool false, .int .u64 m, .int .i64 e1] 38) = W := ⟨_, rfl⟩
  obtain ⟨h, hh⟩ : ∃ h, w1.heap.size = h := ⟨_, rfl⟩
  obtain ⟨g, hg⟩ : ∃ g, w.heap.size = g := ⟨_, rfl⟩
  have HB : Hid (Below w.heap.size w W) := by unfold Hid; rw [← hW]; ((repeat (first | refine bel_alloc ?_ _ | refine bel_dN ?_ _ | refine Below.drew ?_ | refine Below.setCell ?_ (by first | (simp; done) | (simp; omega)) _)); refine bel_step ?_ B1; (repeat (first | refine bel_alloc ?_ _ | refine bel_dN ?_ _ | refine Below.drew ?_ | refine Below.setCell ?_ (by first | (simp; done) | (simp; omega)) _)); exact Below.refl _ _)
  have HG : Hid (w.heap.size ≤ h) := by unfold Hid; omega
  have hs : W.heap.size = h + 1 := by rw [← hW, ← hh]; simp
  have k0 : ∀ w, Keeps W w → w.cell? ⟨g, 0, none⟩ = some (.int .u64 5) := fun w h => h.cell (by omega) (by rw [← hW, ← hg]; simp [go_sem, u0, l0])
  have k1 : ∀ w, Keeps W w → w.cell? ⟨g, 1, none⟩ = some (.int .u64 10) := fun w h => h.cell (by omega) (by rw [← hW, ← hg]; simp [go_sem, u1, l0])
  have k2 : ∀ w, Keeps W w → w.cell? ⟨h, 0, none⟩ = some (.bool s) := fun w h => h.cell (by omega) (by rw [← hW, ← hh]; simp)
  have k3 : ∀ w, Keeps W w → w.cell? ⟨h, 1, none⟩ = some (.bool false) := fun w h => h.cell (by omega) (by rw [← hW, ← hh]; simp)
  have k4 : ∀ w, Keeps W w → w.cell? ⟨h, 2, none⟩ = some (.bool false) := fun w h => h.cell (by omega) (by rw [← hW, ← hh]; simp)
  have k5 : ∀ w, Keeps W w → w.cell? ⟨h, 3, none⟩ = some (.int .u64 m) := fun w h => h.cell (by omega) (by rw [← hW, ← hh]; simp)
  have k6 : ∀ w, Keeps W w → w.cell? ⟨h, 4, none⟩ = some (.int .i64 e1) := fun w h => h.cell (by omega) (by rw [← hW, ← hh]; simp)
  have kz : ∀ j w, Keeps W w → w.frozen? ⟨h, j, none⟩ = false := fun j w h => h.frozen (by omega) (by rw [← hW, ← hh]; simp [go_sem])
  rw [hW, hh, hg]
  clear hW hh hg u0 u1 l0 l0b B1
  refine region_qtail (C := Keeps W) 5 (by kernel_rfl) (by kernel_rfl) (Keeps.drew W) ?_
  (iterate 5
    (apply wpQuiet_go _ (by rfl)
     · intro wq hq
       go_simp
       first
         | (go_at_call 47; exact qcall hq (WH.out _))
         | (go_at_call 14; exact qcall hq (O2.out _))
         | exact rfl
     simp only [Act.put, List.setIfInBounds_toArray, List.set_cons_succ, List.set_cons_zero]))
  refine wpQuiet_nil ?_
  intro w3 hk
  have HB3 : Hid (Below w.heap.size w w3) := bel_step HB.out hk.below
  have y0 := k2 _ hk
  have y1 := k3 _ hk
  have y2 := k4 _ hk
  have y3 := k5 _ hk
  have y4 := k6 _ hk
  have f0 := kz 0 _ hk
  have f1 := kz 1 _ hk
  have f2 := kz 2 _ hk
  have f3 := kz 3 _ hk
  have f4 := kz 4 _ hk
  clear k0 k1 k2 k3 k4 k5 k6 kz hk hs HB
  simp only [List.drop_succ_cons, List.drop_zero]
  go_wp2
  refine bodyPost_ret (two_resT Try.results26 _ _ _) rfl ⟨rfl, ?_⟩
  exact ((((HB3.out.setCell (p := ⟨h, 0, none⟩) HG.out _).setCell (p := ⟨h, 1, none⟩) HG.out _).setCell (p := ⟨h, 2, none⟩) HG.out _).setCell (p := ⟨h, 3, none⟩) HG.out _).setCell (p := ⟨h, 4, none⟩) HG.out _

set_option maxHeartbeats 1000000 in
theorem toiS_far32_32 (a b m e1 m2 e2 : Int) (s sg : Bool) (O1 : Hid (∀ w, Calls Try.prog 14 #[(.agg #[.int .u64 8, .int .u64 23]), .int .u32 a] w fun e w' => e = .returned (.agg #[.bool s, .bool false, .bool false, .int .u64 m, .int .i64 e1]) ∧ Below w.heap.size w w'))
    (WH : Hid (∀ w, Calls Try.prog 47 #[(.agg #[.int .u64 8, .int .u64 23]), .int .i64 3, .agg #[.bool s, .bool false, .bool false, .int .u64 m, .int .i64 e1]] w fun x w' => x = .returned (.int .u32 b) ∧ Below w.heap.size w w'))
    (O2 : Hid (∀ w, Calls Try.prog 14 #[(.agg #[.int .u64 8, .int .u64 23]), .int .u32 b] w fun e w' => e = .returned (.agg #[.bool s, .bool false, .bool false, .int .u64 m2, .int .i64 e2]) ∧ Below w.heap.size w w')) (he : 40 < e2) (w : World) :
    Calls Try.prog 26 #[(.agg #[.int .u64 8, .int .u64 23]), .int .u32 a, .int .i64 32, .bool sg] w fun e w' => e = .returned tooGreat ∧ Below w.heap.size w w' := by
  go_enter Try.func26, Try.ntmps26
  go_wp2_with fail
  refine (O1.out _).mono ?_
  rintro e' w1 ⟨rfl, B1⟩
  have u0 : w1.cell? ⟨w.heap.size, 0, none⟩ = some (.int .u64 8) := (B1.cell (p := ⟨w.heap.size, 0, none⟩) (by simp)).trans (by simp)
  have u1 : w1.cell? ⟨w.heap.size, 1, none⟩ = some (.int .u64 23) := (B1.cell (p := ⟨w.heap.size, 1, none⟩) (by simp)).trans (by simp)
  have l0 : w.heap.size < w1.heap.size := by have := B1.size; simp at this; omega
  have l0b : w.heap.size < w1.heap.size + 1 := by omega
  go_wp2_with fail
  obtain ⟨W, hW⟩ : ∃ W, w1.alloc (.cells #[.bool s, .bool false, .bool false, .int .u64 m, .int .i64 e1] 38) = W := ⟨_, rfl⟩
  obtain ⟨h, hh⟩ : ∃ h, w1.heap.size = h := ⟨_, rfl⟩
  obtain ⟨g, hg⟩ : ∃ g, w.heap.size = g := ⟨_, rfl⟩
  have HB : Hid (Below w.heap.size w W) := by unfold Hid; rw [← hW]; ((repeat (first | refine bel_alloc ?_ _ | refine bel_dN ?_ _ | refine Below.drew ?_ | refine Below.setCell ?_ (by first | (simp; done) | (simp; omega)) _)); refine bel_step ?_ B1; (repeat (first | refine bel_alloc ?_ _ | refine bel_dN ?_ _ | refine Below.drew ?_ | refine Below.setCell ?_ (by first | (simp; done) | (simp; omega)) _)); exact Below.refl _ _)
  have HG : Hid (w.heap.size ≤ h) := by unfold Hid; omega
  have hs : W.heap.size = h + 1 := by rw [← hW, ← hh]; simp
  have k0 : ∀ w, Keeps W w → w.cell? ⟨g, 0, none⟩ = some (.int .u64 8) := fun w h => h.cell (by omega) (by rw [← hW, ← hg]; simp [go_sem, u0, l0])
  have k1 : ∀ w, Keeps W w → w.cell? ⟨g, 1, none⟩ = some (.int .u64 23) := fun w h => h.cell (by omega) (by rw [← hW, ← hg]; simp [go_sem, u1, l0])
  have k2 : ∀ w, Keeps W w → w.cell? ⟨h, 0, none⟩ = some (.bool s) := fun w h => h.cell (by omega) (by rw [← hW, ← hh]; simp)
  have k3 : ∀ w, Keeps W w → w.cell? ⟨h, 1, none⟩ = some (.bool false) := fun w h => h.cell (by omega) (by rw [← hW, ← hh]; simp)
  have k4 : ∀ w, Keeps W w → w.cell? ⟨h, 2, none⟩ = some (.bool false) := fun w h => h.cell (by omega) (by rw [← hW, ← hh]; simp)
  have k5 : ∀ w, Keeps W w → w.cell? ⟨h, 3, none⟩ = some (.int .u64 m) := fun w h => h.cell (by omega) (by rw [← hW, ← hh]; simp)
  have k6 : ∀ w, Keeps W w → w.cell? ⟨h, 4, none⟩ = some (.int .i64 e1) := fun w h => h.cell (by omega) (by rw [← hW, ← hh]; simp)
  have kz : ∀ j w, Keeps W w → w.frozen? ⟨h, j, none⟩ = false := fun j w h => h.frozen (by omega) (by rw [← hW, ← hh]; simp [go_sem])
  rw [hW, hh, hg]
  clear hW hh hg u0 u1 l0 l0b B1
  refine region_qtail (C := Keeps W) 5 (by kernel_rfl) (by kernel_rfl) (Keeps.drew W) ?_
  (iterate 5
    (apply wpQuiet_go _ (by rfl)
     · intro wq hq
       go_simp
       first
         | (go_at_call 47; exact qcall hq (WH.out _))
         | (go_at_call 14; exact qcall hq (O2.out _))
         | exact rfl
     simp only [Act.put, List.setIfInBounds_toArray, List.set_cons_succ, List.set_cons_zero]))
  refine wpQuiet_nil ?_
  intro w3 hk
  have HB3 : Hid (Below w.heap.size w w3) := bel_step HB.out hk.below
  have y0 := k2 _ hk
  have y1 := k3 _ hk
  have y2 := k4 _ hk
  have y3 := k5 _ hk
  have y4 := k6 _ hk
  have f0 := kz 0 _ hk
  have f1 := kz 1 _ hk
  have f2 := kz 2 _ hk
  have f3 := kz 3 _ hk
  have f4 := kz 4 _ hk
  clear k0 k1 k2 k3 k4 k5 k6 kz hk hs HB
  simp only [List.drop_succ_cons, List.drop_zero]
  go_wp2
  refine bodyPost_ret (two_resT Try.results26 _ _ _) rfl ⟨rfl, ?_⟩
  exact ((((HB3.out.setCell (p := ⟨h, 0, none⟩) HG.out _).setCell (p := ⟨h, 1, none⟩) HG.out _).setCell (p := ⟨h, 2, none⟩) HG.out _).setCell (p := ⟨h, 3, none⟩) HG.out _).setCell (p := ⟨h, 4, none⟩) HG.out _

set_option maxHeartbeats 1000000 in
theorem toiS_far64_16 (a b m e1 m2 e2 : Int) (s sg : Bool) (O1 : Hid (∀ w, Calls Try.prog 14 #[(.agg #[.int .u64 5, .int .u64 10]), .int .u32 a] w fun e w' => e = .returned (.agg #[.bool s, .bool false, .bool false, .int .u64 m, .int .i64 e1]) ∧ Below w.heap.size w w'))
    (WH : Hid (∀ w, Calls Try.prog 47 #[(.agg #[.int .u64 5, .int .u64 10]), .int .i64 3, .agg #[.bool s, .bool false, .bool false, .int .u64 m, .int .i64 e1]] w fun x w' => x = .returned (.int .u32 b) ∧ Below w.heap.size w w'))
    (O2 : Hid (∀ w, Calls Try.prog 14 #[(.agg #[.int .u64 5, .int .u64 10]), .int .u32 b] w fun e w' => e = .returned (.agg #[.bool s, .bool false, .bool false, .int .u64 m2, .int .i64 e2]) ∧ Below w.heap.size w w')) (he : 40 < e2) (w : World) :
    Calls Try.prog 26 #[(.agg #[.int .u64 5, .int .u64 10]), .int .u32 a, .int .i64 64, .bool sg] w fun e w' => e = .returned tooGreat ∧ Below w.heap.size w w' := by
  go_enter Try.func26, Try.ntmps26
  go_wp2_with fail
  refine (O1.out _).mono ?_
  rintro e' w1 ⟨rfl, B1⟩
  have u0 : w1.cell? ⟨w.heap.size, 0, none⟩ = some (.int .u64 5) := (B1.cell (p := ⟨w.heap.size, 0, none⟩) (by simp)).trans (by simp)
  have u1 : w1.cell? ⟨w.heap.size, 1, none⟩ = some (.int .u64 10) := (B1.cell (p := ⟨w.heap.size, 1, none⟩) (by simp)).trans (by simp)
  have l0 : w.heap.size < w1.heap.size := by have := B1.size; simp at this; omega
  have l0b : w.heap.size < w1.heap.size + 1 := by omega
  go_wp2_with fail
  obtain ⟨W, hW⟩ : ∃ W, w1.alloc (.cells #[.bool s, .bool false, .bool false, .int .u64 m, .int .i64 e1] 38) = W := ⟨_, rfl⟩
  obtain ⟨h, hh⟩ : ∃ h, w1.heap.size = h := ⟨_, rfl⟩
  obtain ⟨g, hg⟩ : ∃ g, w.heap.size = g := ⟨_, rfl⟩
  have HB : Hid (Below w.heap.size w W) := by unfold Hid; rw [← hW]; ((repeat (first | refine bel_alloc ?_ _ | refine bel_dN ?_ _ | refine Below.drew ?_ | refine Below.setCell ?_ (by first | (simp; done) | (simp; omega)) _)); refine bel_step ?_ B1; (repeat (first | refine bel_alloc ?_ _ | refine bel_dN ?_ _ | refine Below.drew ?_ | refine Below.setCell ?_ (by first | (simp; done) | (simp; omega)) _)); exact Below.refl _ _)
  have HG : Hid (w.heap.size ≤ h) := by unfold Hid; omega
  have hs : W.heap.size = h + 1 := by rw [← hW, ← hh]; simp
  have k0 : ∀ w, Keeps W w → w.cell? ⟨g, 0, none⟩ = some (.int .u64 5) := fun w h => h.cell (by omega) (by rw [← hW, ← hg]; simp [go_sem, u0, l0])
  have k1 : ∀ w, Keeps W w → w.cell? ⟨g, 1, none⟩ = some (.int .u64 10) := fun w h => h.cell (by omega) (by rw [← hW, ← hg]; simp [go_sem, u1, l0])
  have k2 : ∀ w, Keeps W w → w.cell? ⟨h, 0, none⟩ = some (.bool s) := fun w h => h.cell (by omega) (by rw [← hW, ← hh]; simp)
  have k3 : ∀ w, Keeps W w → w.cell? ⟨h, 1, none⟩ = some (.bool false) := fun w h => h.cell (by omega) (by rw [← hW, ← hh]; simp)
  have k4 : ∀ w, Keeps W w → w.cell? ⟨h, 2, none⟩ = some (.bool false) := fun w h => h.cell (by omega) (by rw [← hW, ← hh]; simp)
  have k5 : ∀ w, Keeps W w → w.cell? ⟨h, 3, none⟩ = some (.int .u64 m) := fun w h => h.cell (by omega) (by rw [← hW, ← hh]; simp)
  have k6 : ∀ w, Keeps W w → w.cell? ⟨h, 4, none⟩ = some (.int .i64 e1) := fun w h => h.cell (by omega) (by rw [← hW, ← hh]; simp)
  have kz : ∀ j w, Keeps W w → w.frozen? ⟨h, j, none⟩ = false := fun j w h => h.frozen (by omega) (by rw [← hW, ← hh]; simp [go_sem])
  rw [hW, hh, hg]
  clear hW hh hg u0 u1 l0 l0b B1
  refine region_qtail (C := Keeps W) 5 (by kernel_rfl) (by kernel_rfl) (Keeps.drew W) ?_
  (iterate 5
    (apply wpQuiet_go _ (by rfl)
     · intro wq hq
       go_simp
       first
         | (go_at_call 47; exact qcall hq (WH.out _))
         | (go_at_call 14; exact qcall hq (O2.out _))
         | exact rfl
     simp only [Act.put, List.setIfInBounds_toArray, List.set_cons_succ, List.set_cons_zero]))
  refine wpQuiet_nil ?_
  intro w3 hk
  have HB3 : Hid (Below w.heap.size w w3) := bel_step HB.out hk.below
  have y0 := k2 _ hk
  have y1 := k3 _ hk
  have y2 := k4 _ hk
  have y3 := k5 _ hk
  have y4 := k6 _ hk
  have f0 := kz 0 _ hk
  have f1 := kz 1 _ hk
  have f2 := kz 2 _ hk
  have f3 := kz 3 _ hk
  have f4 := kz 4 _ hk
  clear k0 k1 k2 k3 k4 k5 k6 kz hk hs HB
  simp only [List.drop_succ_cons, List.drop_zero]
  go_wp2
  refine bodyPost_ret (two_resT Try.results26 _ _ _) rfl ⟨rfl, ?_⟩
  exact ((((HB3.out.setCell (p := ⟨h, 0, none⟩) HG.out _).setCell (p := ⟨h, 1, none⟩) HG.out _).setCell (p := ⟨h, 2, none⟩) HG.out _).setCell (p := ⟨h, 3, none⟩) HG.out _).setCell (p := ⟨h, 4, none⟩) HG.out _

set_option maxHeartbeats 1000000 in
theorem toiS_far64_32 (a b m e1 m2 e2 : Int) (s sg : Bool) (O1 : Hid (∀ w, Calls Try.prog 14 #[(.agg #[.int .u64 8, .int .u64 23]), .int .u32 a] w fun e w' => e = .returned (.agg #[.bool s, .bool false, .bool false, .int .u64 m, .int .i64 e1]) ∧ Below w.heap.size w w'))
    (WH : Hid (∀ w, Calls Try.prog 47 #[(.agg #[.int .u64 8, .int .u64 23]), .int .i64 3, .agg #[.bool s, .bool false, .bool false, .int .u64 m, .int .i64 e1]] w fun x w' => x = .returned (.int .u32 b) ∧ Below w.heap.size w w'))
    (O2 : Hid (∀ w, Calls Try.prog 14 #[(.agg #[.int .u64 8, .int .u64 23]), .int .u32 b] w fun e w' => e = .returned (.agg #[.bool s, .bool false, .bool false, .int .u64 m2, .int .i64 e2]) ∧ Below w.heap.size w w')) (he : 40 < e2) (w : World) :
    Calls Try.prog 26 #[(.agg #[.int .u64 8, .int .u64 23]), .int .u32 a, .int .i64 64, .bool sg] w fun e w' => e = .returned tooGreat ∧ Below w.heap.size w w' := by
  go_enter Try.func26, Try.ntmps26
  go_wp2_with fail
  refine (O1.out _).mono ?_
  rintro e' w1 ⟨rfl, B1⟩
  have u0 : w1.cell? ⟨w.heap.size, 0, none⟩ = some (.int .u64 8) := (B1.cell (p := ⟨w.heap.size, 0, none⟩) (by simp)).trans (by simp)
  have u1 : w1.cell? ⟨w.heap.size, 1, none⟩ = some (.int .u64 23) := (B1.cell (p := ⟨w.heap.size, 1, none⟩) (by simp)).trans (by simp)
  have l0 : w.heap.size < w1.heap.size := by have := B1.size; simp at this; omega
  have l0b : w.heap.size < w1.heap.size + 1 := by omega
  go_wp2_with fail
  obtain ⟨W, hW⟩ : ∃ W, w1.alloc (.cells #[.bool s, .bool false, .bool false, .int .u64 m, .int .i64 e1] 38) = W := ⟨_, rfl⟩
  obtain ⟨h, hh⟩ : ∃ h, w1.heap.size = h := ⟨_, rfl⟩
  obtain ⟨g, hg⟩ : ∃ g, w.heap.size = g := ⟨_, rfl⟩
  have HB : Hid (Below w.heap.size w W) := by unfold Hid; rw [← hW]; ((repeat (first | refine bel_alloc ?_ _ | refine bel_dN ?_ _ | refine Below.drew ?_ | refine Below.setCell ?_ (by first | (simp; done) | (simp; omega)) _)); refine bel_step ?_ B1; (repeat (first | refine bel_alloc ?_ _ | refine bel_dN ?_ _ | refine Below.drew ?_ | refine Below.setCell ?_ (by first | (simp; done) | (simp; omega)) _)); exact Below.refl _ _)
  have HG : Hid (w.heap.size ≤ h) := by unfold Hid; omega
  have hs : W.heap.size = h + 1 := by rw [← hW, ← hh]; simp
  have k0 : ∀ w, Keeps W w → w.cell? ⟨g, 0, none⟩ = some (.int .u64 8) := fun w h => h.cell (by omega) (by rw [← hW, ← hg]; simp [go_sem, u0, l0])
  have k1 : ∀ w, Keeps W w → w.cell? ⟨g, 1, none⟩ = some (.int .u64 23) := fun w h => h.cell (by omega) (by rw [← hW, ← hg]; simp [go_sem, u1, l0])
  have k2 : ∀ w, Keeps W w → w.cell? ⟨h, 0, none⟩ = some (.bool s) := fun w h => h.cell (by omega) (by rw [← hW, ← hh]; simp)
  have k3 : ∀ w, Keeps W w → w.cell? ⟨h, 1, none⟩ = some (.bool false) := fun w h => h.cell (by omega) (by rw [← hW, ← hh]; simp)
  have k4 : ∀ w, Keeps W w → w.cell? ⟨h, 2, none⟩ = some (.bool false) := fun w h => h.cell (by omega) (by rw [← hW, ← hh]; simp)
  have k5 : ∀ w, Keeps W w → w.cell? ⟨h, 3, none⟩ = some (.int .u64 m) := fun w h => h.cell (by omega) (by rw [← hW, ← hh]; simp)
  have k6 : ∀ w, Keeps W w → w.cell? ⟨h, 4, none⟩ = some (.int .i64 e1) := fun w h => h.cell (by omega) (by rw [← hW, ← hh]; simp)
  have kz : ∀ j w, Keeps W w → w.frozen? ⟨h, j, none⟩ = false := fun j w h => h.frozen (by omega) (by rw [← hW, ← hh]; simp [go_sem])
  rw [hW, hh, hg]
  clear hW hh hg u0 u1 l0 l0b B1
  refine region_qtail (C := Keeps W) 5 (by kernel_rfl) (by kernel_rfl) (Keeps.drew W) ?_
  (iterate 5
    (apply wpQuiet_go _ (by rfl)
     · intro wq hq
       go_simp
       first
         | (go_at_call 47; exact qcall hq (WH.out _))
         | (go_at_call 14; exact qcall hq (O2.out _))
         | exact rfl
     simp only [Act.put, List.setIfInBounds_toArray, List.set_cons_succ, List.set_cons_zero]))
  refine wpQuiet_nil ?_
  intro w3 hk
  have HB3 : Hid (Below w.heap.size w w3) := bel_step HB.out hk.below
  have y0 := k2 _ hk
  have y1 := k3 _ hk
  have y2 := k4 _ hk
  have y3 := k5 _ hk
  have y4 := k6 _ hk
  have f0 := kz 0 _ hk
  have f1 := kz 1 _ hk
  have f2 := kz 2 _ hk
  have f3 := kz 3 _ hk
  have f4 := kz 4 _ hk
  clear k0 k1 k2 k3 k4 k5 k6 kz hk hs HB
  simp only [List.drop_succ_cons, List.drop_zero]
  go_wp2
  refine bodyPost_ret (two_resT Try.results26 _ _ _) rfl ⟨rfl, ?_⟩
  exact ((((HB3.out.setCell (p := ⟨h, 0, none⟩) HG.out _).setCell (p := ⟨h, 1, none⟩) HG.out _).setCell (p := ⟨h, 2, none⟩) HG.out _).setCell (p := ⟨h, 3, none⟩) HG.out _).setCell (p := ⟨h, 4, none⟩) HG.out _

set_option maxHeartbeats 1000000 in
theorem toiS_D32_16 (a b m e1 e2 : Int) (s sg : Bool) (O1 : Hid (∀ w, Calls Try.prog 14 #[(.agg #[.int .u64 5, .int .u64 10]), .int .u32 a] w fun e w' => e = .returned (.agg #[.bool s, .bool false, .bool false, .int .u64 m, .int .i64 e1]) ∧ Below w.heap.size w w'))
    (WH : Hid (∀ w, Calls Try.prog 47 #[(.agg #[.int .u64 5, .int .u64 10]), .int .i64 3, .agg #[.bool s, .bool false, .bool false, .int .u64 m, .int .i64 e1]] w fun x w' => x = .returned (.int .u32 b) ∧ Below w.heap.size w w'))
    (O2 : Hid (∀ w, Calls Try.prog 14 #[(.agg #[.int .u64 5, .int .u64 10]), .int .u32 b] w fun e w' => e = .returned (.agg #[.bool s, .bool false, .bool false, .int .u64 0, .int .i64 e2]) ∧ Below w.heap.size w w'))
    (he : e2 ≤ -60) (hel : -500 ≤ e2) (w : World) :
    Calls Try.prog 26 #[(.agg #[.int .u64 5, .int .u64 10]), .int .u32 a, .int .i64 32, .bool sg] w fun e w' => e = .returned (toi 2147483648 4294967296 s 0 sg) ∧ Below w.heap.size w w' := by
  have p1 : ¬ 40 < e2 := by omega
  have p2 : ¬ 0 ≤ e2 := by omega
  have p3 : wrap64 (-e2) = -e2 := by unfold wrap64; omega
  have p5 : ¬ -e2 < 60 := by omega
  have MK : Hid (∀ w, Calls Try.prog 48 #[.int .i64 32, .int .u64 0] w fun e w' => e = .returned (.int .u64 0) ∧ w' = w) := by
    intro w
    refine (specMask32T 0 (by omega) (by omega) w).mono ?_
    rintro e w' ⟨rfl, hw⟩
    exact ⟨rfl, hw⟩
  rw [show toi 2147483648 4294967296 s 0 sg = .tuple #[.int .u64 0, .int .i64 0] by cases s <;> cases sg <;> rfl]
  clear he hel
  cases sg
  · cases s
    · skip
      go_enter Try.func26, Try.ntmps26
      go_wp2_with fail
      refine (O1.out _).mono ?_
      rintro e' w1 ⟨rfl, B1⟩
      have u0 : w1.cell? ⟨w.heap.size, 0, none⟩ = some (.int .u64 5) := (B1.cell (p := ⟨w.heap.size, 0, none⟩) (by simp)).trans (by simp)
      have u1 : w1.cell? ⟨w.heap.size, 1, none⟩ = some (.int .u64 10) := (B1.cell (p := ⟨w.heap.size, 1, none⟩) (by simp)).trans (by simp)
      have l0 : w.heap.size < w1.heap.size := by have := B1.size; simp at this; omega
      have l0b : w.heap.size < w1.heap.size + 1 := by omega
      go_wp2_with fail
      obtain ⟨W, hW⟩ : ∃ W, w1.alloc (.cells #[.bool false, .bool false, .bool false, .int .u64 m, .int .i64 e1] 38) = W := ⟨_, rfl⟩
      obtain ⟨h, hh⟩ : ∃ h, w1.heap.size = h := ⟨_, rfl⟩
      obtain ⟨g, hg⟩ : ∃ g, w.heap.size = g := ⟨_, rfl⟩
      have HB : Hid (Below w.heap.size w W) := by unfold Hid; rw [← hW]; ((repeat (first | refine bel_alloc ?_ _ | refine bel_dN ?_ _ | refine Below.drew ?_ | refine Below.setCell ?_ (by first | (simp; done) | (simp; omega)) _)); refine bel_step ?_ B1; (repeat (first | refine bel_alloc ?_ _ | refine bel_dN ?_ _ | refine Below.drew ?_ | refine Below.setCell ?_ (by first | (simp; done) | (simp; omega)) _)); exact Below.refl _ _)
      have HG : Hid (w.heap.size ≤ h) := by unfold Hid; omega
      have hs : W.heap.size = h + 1 := by rw [← hW, ← hh]; simp
      have k0 : ∀ w, Keeps W w → w.cell? ⟨g, 0, none⟩ = some (.int .u64 5) := fun w h => h.cell (by omega) (by rw [← hW, ← hg]; simp [go_sem, u0, l0])
      have k1 : ∀ w, Keeps W w → w.cell? ⟨g, 1, none⟩ = some (.int .u64 10) := fun w h => h.cell (by omega) (by rw [← hW, ← hg]; simp [go_sem, u1, l0])
      have k2 : ∀ w, Keeps W w → w.cell? ⟨h, 0, none⟩ = some (.bool false) := fun w h => h.cell (by omega) (by rw [← hW, ← hh]; simp)
      have k3 : ∀ w, Keeps W w → w.cell? ⟨h, 1, none⟩ = some (.bool false) := fun w h => h.cell (by omega) (by rw [← hW, ← hh]; simp)
      have k4 : ∀ w, Keeps W w → w.cell? ⟨h, 2, none⟩ = some (.bool false) := fun w h => h.cell (by omega) (by rw [← hW, ← hh]; simp)
      have k5 : ∀ w, Keeps W w → w.cell? ⟨h, 3, none⟩ = some (.int .u64 m) := fun w h => h.cell (by omega) (by rw [← hW, ← hh]; simp)
      have k6 : ∀ w, Keeps W w → w.cell? ⟨h, 4, none⟩ = some (.int .i64 e1) := fun w h => h.cell (by omega) (by rw [← hW, ← hh]; simp)
      have kz : ∀ j w, Keeps W w → w.frozen? ⟨h, j, none⟩ = false := fun j w h => h.frozen (by omega) (by rw [← hW, ← hh]; simp [go_sem])
      rw [hW, hh, hg]
      clear hW hh hg u0 u1 l0 l0b B1
      refine region_qtail (C := Keeps W) 5 (by kernel_rfl) (by kernel_rfl) (Keeps.drew W) ?_
      (iterate 5
    (apply wpQuiet_go _ (by rfl)
     · intro wq hq
       go_simp
       first
         | (go_at_call 47; exact qcall hq (WH.out _))
         | (go_at_call 14; exact qcall hq (O2.out _))
         | exact rfl
     simp only [Act.put, List.setIfInBounds_toArray, List.set_cons_succ, List.set_cons_zero]))
      refine wpQuiet_nil ?_
      intro w3 hk
      have HB3 : Hid (Below w.heap.size w w3) := bel_step HB.out hk.below
      have y0 := k2 _ hk
      have y1 := k3 _ hk
      have y2 := k4 _ hk
      have y3 := k5 _ hk
      have y4 := k6 _ hk
      have f0 := kz 0 _ hk
      have f1 := kz 1 _ hk
      have f2 := kz 2 _ hk
      have f3 := kz 3 _ hk
      have f4 := kz 4 _ hk
      clear k0 k1 k2 k3 k4 k5 k6 kz hk hs HB
      simp only [List.drop_succ_cons, List.drop_zero]
      go_wp2_with fail
      refine (MK.out _).mono ?_
      rintro e' w5 ⟨rfl, hw5⟩
      obtain rfl := hw5
      go_wp2
      refine bodyPost_ret (two_resT Try.results26 _ _ _) rfl ⟨rfl, ?_⟩
      exact ((((HB3.out.setCell (p := ⟨h, 0, none⟩) HG.out _).setCell (p := ⟨h, 1, none⟩) HG.out _).setCell (p := ⟨h, 2, none⟩) HG.out _).setCell (p := ⟨h, 3, none⟩) HG.out _).setCell (p := ⟨h, 4, none⟩) HG.out _
    · skip
      go_enter Try.func26, Try.ntmps26
      go_wp2_with fail
      refine (O1.out _).mono ?_
      rintro e' w1 ⟨rfl, B1⟩
      have u0 : w1.cell? ⟨w.heap.size, 0, none⟩ = some (.int .u64 5) := (B1.cell (p := ⟨w.heap.size, 0, none⟩) (by simp)).trans (by simp)
      have u1 : w1.cell? ⟨w.heap.size, 1, none⟩ = some (.int .u64 10) := (B1.cell (p := ⟨w.heap.size, 1, none⟩) (by simp)).trans (by simp)
      have l0 : w.heap.size < w1.heap.size := by have := B1.size; simp at this; omega
      have l0b : w.heap.size < w1.heap.size + 1 := by omega
      go_wp2_with fail
      obtain ⟨W, hW⟩ : ∃ W, w1.alloc (.cells #[.bool true, .bool false, .bool false, .int .u64 m, .int .i64 e1] 38) = W := ⟨_, rfl⟩
      obtain ⟨h, hh⟩ : ∃ h, w1.heap.size = h := ⟨_, rfl⟩
      obtain ⟨g, hg⟩ : ∃ g, w.heap.size = g := ⟨_, rfl⟩
      have HB : Hid (Below w.heap.size w W) := by unfold Hid; rw [← hW]; ((repeat (first | refine bel_alloc ?_ _ | refine bel_dN ?_ _ | refine Below.drew ?_ | refine Below.setCell ?_ (by first | (simp; done) | (simp; omega)) _)); refine bel_step ?_ B1; (repeat (first | refine bel_alloc ?_ _ | refine bel_dN ?_ _ | refine Below.drew ?_ | refine Below.setCell ?_ (by first | (simp; done) | (simp; omega)) _)); exact Below.refl _ _)
      have HG : Hid (w.heap.size ≤ h) := by unfold Hid; omega
      have hs : W.heap.size = h + 1 := by rw [← hW, ← hh]; simp
      have k0 : ∀ w, Keeps W w → w.cell? ⟨g, 0, none⟩ = some (.int .u64 5) := fun w h => h.cell (by omega) (by rw [← hW, ← hg]; simp [go_sem, u0, l0])
      have k1 : ∀ w, Keeps W w → w.cell? ⟨g, 1, none⟩ = some (.int .u64 10) := fun w h => h.cell (by omega) (by rw [← hW, ← hg]; simp [go_sem, u1, l0])
      have k2 : ∀ w, Keeps W w → w.cell? ⟨h, 0, none⟩ = some (.bool true) := fun w h => h.cell (by omega) (by rw [← hW, ← hh]; simp)
      have k3 : ∀ w, Keeps W w → w.cell? ⟨h, 1, none⟩ = some (.bool false) := fun w h => h.cell (by omega) (by rw [← hW, ← hh]; simp)
      have k4 : ∀ w, Keeps W w → w.cell? ⟨h, 2, none⟩ = some (.bool false) := fun w h => h.cell (by omega) (by rw [← hW, ← hh]; simp)
      have k5 : ∀ w, Keeps W w → w.cell? ⟨h, 3, none⟩ = some (.int .u64 m) := fun w h => h.cell (by omega) (by rw [← hW, ← hh]; simp)
      have k6 : ∀ w, Keeps W w → w.cell? ⟨h, 4, none⟩ = some (.int .i64 e1) := fun w h => h.cell (by omega) (by rw [← hW, ← hh]; simp)
      have kz : ∀ j w, Keeps W w → w.frozen? ⟨h, j, none⟩ = false := fun j w h => h.frozen (by omega) (by rw [← hW, ← hh]; simp [go_sem])
      rw [hW, hh, hg]
      clear hW hh hg u0 u1 l0 l0b B1
      refine region_qtail (C := Keeps W) 5 (by kernel_rfl) (by kernel_rfl) (Keeps.drew W) ?_
      (iterate 5
    (apply wpQuiet_go _ (by rfl)
     · intro wq hq
       go_simp
       first
         | (go_at_call 47; exact qcall hq (WH.out _))
         | (go_at_call 14; exact qcall hq (O2.out _))
         | exact rfl
     simp only [Act.put, List.setIfInBounds_toArray, List.set_cons_succ, List.set_cons_zero]))
      refine wpQuiet_nil ?_
      intro w3 hk
      have HB3 : Hid (Below w.heap.size w w3) := bel_step HB.out hk.below
      have y0 := k2 _ hk
      have y1 := k3 _ hk
      have y2 := k4 _ hk
      have y3 := k5 _ hk
      have y4 := k6 _ hk
      have f0 := kz 0 _ hk
      have f1 := kz 1 _ hk
      have f2 := kz 2 _ hk
      have f3 := kz 3 _ hk
      have f4 := kz 4 _ hk
      clear k0 k1 k2 k3 k4 k5 k6 kz hk hs HB
      simp only [List.drop_succ_cons, List.drop_zero]
      go_wp2_with fail
      refine (MK.out _).mono ?_
      rintro e' w5 ⟨rfl, hw5⟩
      obtain rfl := hw5
      go_wp2
      refine bodyPost_ret (two_resT Try.results26 _ _ _) rfl ⟨rfl, ?_⟩
      exact ((((HB3.out.setCell (p := ⟨h, 0, none⟩) HG.out _).setCell (p := ⟨h, 1, none⟩) HG.out _).setCell (p := ⟨h, 2, none⟩) HG.out _).setCell (p := ⟨h, 3, none⟩) HG.out _).setCell (p := ⟨h, 4, none⟩) HG.out _
  · cases s
    · skip
      go_enter Try.func26, Try.ntmps26
      go_wp2_with fail
      refine (O1.out _).mono ?_
      rintro e' w1 ⟨rfl, B1⟩
      have u0 : w1.cell? ⟨w.heap.size, 0, none⟩ = some (.int .u64 5) := (B1.cell (p := ⟨w.heap.size, 0, none⟩) (by simp)).trans (by simp)
      have u1 : w1.cell? ⟨w.heap.size, 1, none⟩ = some (.int .u64 10) := (B1.cell (p := ⟨w.heap.size, 1, none⟩) (by simp)).trans (by simp)
      have l0 : w.heap.size < w1.heap.size := by have := B1.size; simp at this; omega
      have l0b : w.heap.size < w1.heap.size + 1 := by omega
      go_wp2_with fail
      obtain ⟨W, hW⟩ : ∃ W, w1.alloc (.cells #[.bool false, .bool false, .bool false, .int .u64 m, .int .i64 e1] 38) = W := ⟨_, rfl⟩
      obtain ⟨h, hh⟩ : ∃ h, w1.heap.size = h := ⟨_, rfl⟩
      obtain ⟨g, hg⟩ : ∃ g, w.heap.size = g := ⟨_, rfl⟩
      have HB : Hid (Below w.heap.size w W) := by unfold Hid; rw [← hW]; ((repeat (first | refine bel_alloc ?_ _ | refine bel_dN ?_ _ | refine Below.drew ?_ | refine Below.setCell ?_ (by first | (simp; done) | (simp; omega)) _)); refine bel_step ?_ B1; (repeat (first | refine bel_alloc ?_ _ | refine bel_dN ?_ _ | refine Below.drew ?_ | refine Below.setCell ?_ (by first | (simp; done) | (simp; omega)) _)); exact Below.refl _ _)
      have HG : Hid (w.heap.size ≤ h) := by unfold Hid; omega
      have hs : W.heap.size = h + 1 := by rw [← hW, ← hh]; simp
      have k0 : ∀ w, Keeps W w → w.cell? ⟨g, 0, none⟩ = some (.int .u64 5) := fun w h => h.cell (by omega) (by rw [← hW, ← hg]; simp [go_sem, u0, l0])
      have k1 : ∀ w, Keeps W w → w.cell? ⟨g, 1, none⟩ = some (.int .u64 10) := fun w h => h.cell (by omega) (by rw [← hW, ← hg]; simp [go_sem, u1, l0])
      have k2 : ∀ w, Keeps W w → w.cell? ⟨h, 0, none⟩ = some (.bool false) := fun w h => h.cell (by omega) (by rw [← hW, ← hh]; simp)
      have k3 : ∀ w, Keeps W w → w.cell? ⟨h, 1, none⟩ = some (.bool false) := fun w h => h.cell (by omega) (by rw [← hW, ← hh]; simp)
      have k4 : ∀ w, Keeps W w → w.cell? ⟨h, 2, none⟩ = some (.bool false) := fun w h => h.cell (by omega) (by rw [← hW, ← hh]; simp)
      have k5 : ∀ w, Keeps W w → w.cell? ⟨h, 3, none⟩ = some (.int .u64 m) := fun w h => h.cell (by omega) (by rw [← hW, ← hh]; simp)
      have k6 : ∀ w, Keeps W w → w.cell? ⟨h, 4, none⟩ = some (.int .i64 e1) := fun w h => h.cell (by omega) (by rw [← hW, ← hh]; simp)
      have kz : ∀ j w, Keeps W w → w.frozen? ⟨h, j, none⟩ = false := fun j w h => h.frozen (by omega) (by rw [← hW, ← hh]; simp [go_sem])
      rw [hW, hh, hg]
      clear hW hh hg u0 u1 l0 l0b B1
      refine region_qtail (C := Keeps W) 5 (by kernel_rfl) (by kernel_rfl) (Keeps.drew W) ?_
      (iterate 5
    (apply wpQuiet_go _ (by rfl)
     · intro wq hq
       go_simp
       first
         | (go_at_call 47; exact qcall hq (WH.out _))
         | (go_at_call 14; exact qcall hq (O2.out _))
         | exact rfl
     simp only [Act.put, List.setIfInBounds_toArray, List.set_cons_succ, List.set_cons_zero]))
      refine wpQuiet_nil ?_
      intro w3 hk
      have HB3 : Hid (Below w.heap.size w w3) := bel_step HB.out hk.below
      have y0 := k2 _ hk
      have y1 := k3 _ hk
      have y2 := k4 _ hk
      have y3 := k5 _ hk
      have y4 := k6 _ hk
      have f0 := kz 0 _ hk
      have f1 := kz 1 _ hk
      have f2 := kz 2 _ hk
      have f3 := kz 3 _ hk
      have f4 := kz 4 _ hk
      clear k0 k1 k2 k3 k4 k5 k6 kz hk hs HB
      simp only [List.drop_succ_cons, List.drop_zero]
      go_wp2_with fail
      refine (MK.out _).mono ?_
      rintro e' w5 ⟨rfl, hw5⟩
      obtain rfl := hw5
      go_wp2
      refine bodyPost_ret (two_resT Try.results26 _ _ _) rfl ⟨rfl, ?_⟩
      exact ((((HB3.out.setCell (p := ⟨h, 0, none⟩) HG.out _).setCell (p := ⟨h, 1, none⟩) HG.out _).setCell (p := ⟨h, 2, none⟩) HG.out _).setCell (p := ⟨h, 3, none⟩) HG.out _).setCell (p := ⟨h, 4, none⟩) HG.out _
    · skip
      go_enter Try.func26, Try.ntmps26
      go_wp2_with fail
      refine (O1.out _).mono ?_
      rintro e' w1 ⟨rfl, B1⟩
      have u0 : w1.cell? ⟨w.heap.size, 0, none⟩ = some (.int .u64 5) := (B1.cell (p := ⟨w.heap.size, 0, none⟩) (by simp)).trans (by simp)
      have u1 : w1.cell? ⟨w.heap.size, 1, none⟩ = some (.int .u64 10) := (B1.cell (p := ⟨w.heap.size, 1, none⟩) (by simp)).trans (by simp)
      have l0 : w.heap.size < w1.heap.size := by have := B1.size; simp at this; omega
      have l0b : w.heap.size < w1.heap.size + 1 := by omega
      go_wp2_with fail
      obtain ⟨W, hW⟩ : ∃ W, w1.alloc (.cells #[.bool true, .bool false, .bool false, .int .u64 m, .int .i64 e1] 38) = W := ⟨_, rfl⟩
      obtain ⟨h, hh⟩ : ∃ h, w1.heap.size = h := ⟨_, rfl⟩
      obtain ⟨g, hg⟩ : ∃ g, w.heap.size = g := ⟨_, rfl⟩
      have HB : Hid (Below w.heap.size w W) := by unfold Hid; rw [← hW]; ((repeat (first | refine bel_alloc ?_ _ | refine bel_dN ?_ _ | refine Below.drew ?_ | refine Below.setCell ?_ (by first | (simp; done) | (simp; omega)) _)); refine bel_step ?_ B1; (repeat (first | refine bel_alloc ?_ _ | refine bel_dN ?_ _ | refine Below.drew ?_ | refine Below.setCell ?_ (by first | (simp; done) | (simp; omega)) _)); exact Below.refl _ _)
      have HG : Hid (w.heap.size ≤ h) := by unfold Hid; omega
      have hs : W.heap.size = h + 1 := by rw [← hW, ← hh]; simp
      have k0 : ∀ w, Keeps W w → w.cell? ⟨g, 0, none⟩ = some (.int .u64 5) := fun w h => h.cell (by omega) (by rw [← hW, ← hg]; simp [go_sem, u0, l0])
      have k1 : ∀ w, Keeps W w → w.cell? ⟨g, 1, none⟩ = some (.int .u64 10) := fun w h => h.cell (by omega) (by rw [← hW, ← hg]; simp [go_sem, u1, l0])
      have k2 : ∀ w, Keeps W w → w.cell? ⟨h, 0, none⟩ = some (.bool true) := fun w h => h.cell (by omega) (by rw [← hW, ← hh]; simp)
      have k3 : ∀ w, Keeps W w → w.cell? ⟨h, 1, none⟩ = some (.bool false) := fun w h => h.cell (by omega) (by rw [← hW, ← hh]; simp)
      have k4 : ∀ w, Keeps W w → w.cell? ⟨h, 2, none⟩ = some (.bool false) := fun w h => h.cell (by omega) (by rw [← hW, ← hh]; simp)
      have k5 : ∀ w, Keeps W w → w.cell? ⟨h, 3, none⟩ = some (.int .u64 m) := fun w h => h.cell (by omega) (by rw [← hW, ← hh]; simp)
      have k6 : ∀ w, Keeps W w → w.cell? ⟨h, 4, none⟩ = some (.int .i64 e1) := fun w h => h.cell (by omega) (by rw [← hW, ← hh]; simp)
      have kz : ∀ j w, Keeps W w → w.frozen? ⟨h, j, none⟩ = false := fun j w h => h.frozen (by omega) (by rw [← hW, ← hh]; simp [go_sem])
      rw [hW, hh, hg]
      clear hW hh hg u0 u1 l0 l0b B1
      refine region_qtail (C := Keeps W) 5 (by kernel_rfl) (by kernel_rfl) (Keeps.drew W) ?_
      (iterate 5
    (apply wpQuiet_go _ (by rfl)
     · intro wq hq
       go_simp
       first
         | (go_at_call 47; exact qcall hq (WH.out _))
         | (go_at_call 14; exact qcall hq (O2.out _))
         | exact rfl
     simp only [Act.put, List.setIfInBounds_toArray, List.set_cons_succ, List.set_cons_zero]))
      refine wpQuiet_nil ?_
      intro w3 hk
      have HB3 : Hid (Below w.heap.size w w3) := bel_step HB.out hk.below
      have y0 := k2 _ hk
      have y1 := k3 _ hk
      have y2 := k4 _ hk
      have y3 := k5 _ hk
      have y4 := k6 _ hk
      have f0 := kz 0 _ hk
      have f1 := kz 1 _ hk
      have f2 := kz 2 _ hk
      have f3 := kz 3 _ hk
      have f4 := kz 4 _ hk
      clear k0 k1 k2 k3 k4 k5 k6 kz hk hs HB
      simp only [List.drop_succ_cons, List.drop_zero]
      go_wp2_with fail
      refine (MK.out _).mono ?_
      rintro e' w5 ⟨rfl, hw5⟩
      obtain rfl := hw5
      go_wp2
      refine bodyPost_ret (two_resT Try.results26 _ _ _) rfl ⟨rfl, ?_⟩
      exact ((((HB3.out.setCell (p := ⟨h, 0, none⟩) HG.out _).setCell (p := ⟨h, 1, none⟩) HG.out _).setCell (p := ⟨h, 2, none⟩) HG.out _).setCell (p := ⟨h, 3, none⟩) HG.out _).setCell (p := ⟨h, 4, none⟩) HG.out _

set_option maxHeartbeats 1000000 in
theorem toiS_D32_32 (a b m e1 e2 : Int) (s sg : Bool) (O1 : Hid (∀ w, Calls Try.prog 14 #[(.agg #[.int .u64 8, .int .u64 23]), .int .u32 a] w fun e w' => e = .returned (.agg #[.bool s, .bool false, .bool false, .int .u64 m, .int .i64 e1]) ∧ Below w.heap.size w w'))
    (WH : Hid (∀ w, Calls Try.prog 47 #[(.agg #[.int .u64 8, .int .u64 23]), .int .i64 3, .agg #[.bool s, .bool false, .bool false, .int .u64 m, .int .i64 e1]] w fun x w' => x = .returned (.int .u32 b) ∧ Below w.heap.size w w'))
    (O2 : Hid (∀ w, Calls Try.prog 14 #[(.agg #[.int .u64 8, .int .u64 23]), .int .u32 b] w fun e w' => e = .returned (.agg #[.bool s, .bool false, .bool false, .int .u64 0, .int .i64 e2]) ∧ Below w.heap.size w w'))
    (he : e2 ≤ -60) (hel : -500 ≤ e2) (w : World) :
    Calls Try.prog 26 #[(.agg #[.int .u64 8, .int .u64 23]), .int .u32 a, .int .i64 32, .bool sg] w fun e w' => e = .returned (toi 2147483648 4294967296 s 0 sg) ∧ Below w.heap.size w w' := by
  have p1 : ¬ 40 < e2 := by omega
  have p2 : ¬ 0 ≤ e2 := by omega
  have p3 : wrap64 (-e2) = -e2 := by unfold wrap64; omega
  have p5 : ¬ -e2 < 60 := by omega
  have MK : Hid (∀ w, Calls Try.prog 48 #[.int .i64 32, .int .u64 0] w fun e w' => e = .returned (.int .u64 0) ∧ w' = w) := by
    intro w
    refine (specMask32T 0 (by omega) (by omega) w).mono ?_
    rintro e w' ⟨rfl, hw⟩
    exact ⟨rfl, hw⟩
  rw [show toi 2147483648 4294967296 s 0 sg = .tuple #[.int .u64 0, .int .i64 0] by cases s <;> cases sg <;> rfl]
  clear he hel
  cases sg
  · cases s
    · skip
      go_enter Try.func26, Try.ntmps26
      go_wp2_with fail
      refine (O1.out _).mono ?_
      rintro e' w1 ⟨rfl, B1⟩
      have u0 : w1.cell? ⟨w.heap.size, 0, none⟩ = some (.int .u64 8) := (B1.cell (p := ⟨w.heap.size, 0, none⟩) (by simp)).trans (by simp)
      have u1 : w1.cell? ⟨w.heap.size, 1, none⟩ = some (.int .u64 23) := (B1.cell (p := ⟨w.heap.size, 1, none⟩) (by simp)).trans (by simp)
      have l0 : w.heap.size < w1.heap.size := by have := B1.size; simp at this; omega
      have l0b : w.heap.size < w1.heap.size + 1 := by omega
      go_wp2_with fail
      obtain ⟨W, hW⟩ : ∃ W, w1.alloc (.cells #[.bool false, .bool false, .bool false, .int .u64 m, .int .i64 e1] 38) = W := ⟨_, rfl⟩
      obtain ⟨h, hh⟩ : ∃ h, w1.heap.size = h := ⟨_, rfl⟩
      obtain ⟨g, hg⟩ : ∃ g, w.heap.size = g := ⟨_, rfl⟩
      have HB : Hid (Below w.heap.size w W) := by unfold Hid; rw [← hW]; ((repeat (first | refine bel_alloc ?_ _ | refine bel_dN ?_ _ | refine Below.drew ?_ | refine Below.setCell ?_ (by first | (simp; done) | (simp; omega)) _)); refine bel_step ?_ B1; (repeat (first | refine bel_alloc ?_ _ | refine bel_dN ?_ _ | refine Below.drew ?_ | refine Below.setCell ?_ (by first | (simp; done) | (simp; omega)) _)); exact Below.refl _ _)
      have HG : Hid (w.heap.size ≤ h) := by unfold Hid; omega
      have hs : W.heap.size = h + 1 := by rw [← hW, ← hh]; simp
      have k0 : ∀ w, Keeps W w → w.cell? ⟨g, 0, none⟩ = some (.int .u64 8) := fun w h => h.cell (by omega) (by rw [← hW, ← hg]; simp [go_sem, u0, l0])
      have k1 : ∀ w, Keeps W w → w.cell? ⟨g, 1, none⟩ = some (.int .u64 23) := fun w h => h.cell (by omega) (by rw [← hW, ← hg]; simp [go_sem, u1, l0])
      have k2 : ∀ w, Keeps W w → w.cell? ⟨h, 0, none⟩ = some (.bool false) := fun w h => h.cell (by omega) (by rw [← hW, ← hh]; simp)
      have k3 : ∀ w, Keeps W w → w.cell? ⟨h, 1, none⟩ = some (.bool false) := fun w h => h.cell (by omega) (by rw [← hW, ← hh]; simp)
      have k4 : ∀ w, Keeps W w → w.cell? ⟨h, 2, none⟩ = some (.bool false) := fun w h => h.cell (by omega) (by rw [← hW, ← hh]; simp)
      have k5 : ∀ w, Keeps W w → w.cell? ⟨h, 3, none⟩ = some (.int .u64 m) := fun w h => h.cell (by omega) (by rw [← hW, ← hh]; simp)
      have k6 : ∀ w, Keeps W w → w.cell? ⟨h, 4, none⟩ = some (.int .i64 e1) := fun w h => h.cell (by omega) (by rw [← hW, ← hh]; simp)
      have kz : ∀ j w, Keeps W w → w.frozen? ⟨h, j, none⟩ = false := fun j w h => h.frozen (by omega) (by rw [← hW, ← hh]; simp [go_sem])
      rw [hW, hh, hg]
      clear hW hh hg u0 u1 l0 l0b B1
      refine region_qtail (C := Keeps W) 5 (by kernel_rfl) (by kernel_rfl) (Keeps.drew W) ?_
      (iterate 5
    (apply wpQuiet_go _ (by rfl)
     · intro wq hq
       go_simp
       first
         | (go_at_call 47; exact qcall hq (WH.out _))
         | (go_at_call 14; exact qcall hq (O2.out _))
         | exact rfl
     simp only [Act.put, List.setIfInBounds_toArray, List.set_cons_succ, List.set_cons_zero]))
      refine wpQuiet_nil ?_
      intro w3 hk
      have HB3 : Hid (Below w.heap.size w w3) := bel_step HB.out hk.below
      have y0 := k2 _ hk
      have y1 := k3 _ hk
      have y2 := k4 _ hk
      have y3 := k5 _ hk
      have y4 := k6 _ hk
      have f0 := kz 0 _ hk
      have f1 := kz 1 _ hk
      have f2 := kz 2 _ hk
      have f3 := kz 3 _ hk
      have f4 := kz 4 _ hk
      clear k0 k1 k2 k3 k4 k5 k6 kz hk hs HB
      simp only [List.drop_succ_cons, List.drop_zero]
      go_wp2_with fail
      refine (MK.out _).mono ?_
      rintro e' w5 ⟨rfl, hw5⟩
      obtain rfl := hw5
      go_wp2
      refine bodyPost_ret (two_resT Try.results26 _ _ _) rfl ⟨rfl, ?_⟩
      exact ((((HB3.out.setCell (p := ⟨h, 0, none⟩) HG.out _).setCell (p := ⟨h, 1, none⟩) HG.out _).setCell (p := ⟨h, 2, none⟩) HG.out _).setCell (p := ⟨h, 3, none⟩) HG.out _).setCell (p := ⟨h, 4, none⟩) HG.out _
    · skip
      go_enter Try.func26, Try.ntmps26
      go_wp2_with fail
      refine (O1.out _).mono ?_
      rintro e' w1 ⟨rfl, B1⟩
      have u0 : w1.cell? ⟨w.heap.size, 0, none⟩ = some (.int .u64 8) := (B1.cell (p := ⟨w.heap.size, 0, none⟩) (by simp)).trans (by simp)
      have u1 : w1.cell? ⟨w.heap.size, 1, none⟩ = some (.int .u64 23) := (B1.cell (p := ⟨w.heap.size, 1, none⟩) (by simp)).trans (by simp)
      have l0 : w.heap.size < w1.heap.size := by have := B1.size; simp at this; omega
      have l0b : w.heap.size < w1.heap.size + 1 := by omega
      go_wp2_with fail
      obtain ⟨W, hW⟩ : ∃ W, w1.alloc (.cells #[.bool true, .bool false, .bool false, .int .u64 m, .int .i64 e1] 38) = W := ⟨_, rfl⟩
      obtain ⟨h, hh⟩ : ∃ h, w1.heap.size = h := ⟨_, rfl⟩
      obtain ⟨g, hg⟩ : ∃ g, w.heap.size = g := ⟨_, rfl⟩
      have HB : Hid (Below w.heap.size w W) := by unfold Hid; rw [← hW]; ((repeat (first | refine bel_alloc ?_ _ | refine bel_dN ?_ _ | refine Below.drew ?_ | refine Below.setCell ?_ (by first | (simp; done) | (simp; omega)) _)); refine bel_step ?_ B1; (repeat (first | refine bel_alloc ?_ _ | refine bel_dN ?_ _ | refine Below.drew ?_ | refine Below.setCell ?_ (by first | (simp; done) | (simp; omega)) _)); exact Below.refl _ _)
      have HG : Hid (w.heap.size ≤ h) := by unfold Hid; omega
      have hs : W.heap.size = h + 1 := by rw [← hW, ← hh]; simp
      have k0 : ∀ w, Keeps W w → w.cell? ⟨g, 0, none⟩ = some (.int .u64 8) := fun w h => h.cell (by omega) (by rw [← hW, ← hg]; simp [go_sem, u0, l0])
      have k1 : ∀ w, Keeps W w → w.cell? ⟨g, 1, none⟩ = some (.int .u64 23) := fun w h => h.cell (by omega) (by rw [← hW, ← hg]; simp [go_sem, u1, l0])
      have k2 : ∀ w, Keeps W w → w.cell? ⟨h, 0, none⟩ = some (.bool true) := fun w h => h.cell (by omega) (by rw [← hW, ← hh]; simp)
      have k3 : ∀ w, Keeps W w → w.cell? ⟨h, 1, none⟩ = some (.bool false) := fun w h => h.cell (by omega) (by rw [← hW, ← hh]; simp)
      have k4 : ∀ w, Keeps W w → w.cell? ⟨h, 2, none⟩ = some (.bool false) := fun w h => h.cell (by omega) (by rw [← hW, ← hh]; simp)
      have k5 : ∀ w, Keeps W w → w.cell? ⟨h, 3, none⟩ = some (.int .u64 m) := fun w h => h.cell (by omega) (by rw [← hW, ← hh]; simp)
      have k6 : ∀ w, Keeps W w → w.cell? ⟨h, 4, none⟩ = some (.int .i64 e1) := fun w h => h.cell (by omega) (by rw [← hW, ← hh]; simp)
      have kz : ∀ j w, Keeps W w → w.frozen? ⟨h, j, none⟩ = false := fun j w h => h.frozen (by omega) (by rw [← hW, ← hh]; simp [go_sem])
      rw [hW, hh, hg]
      clear hW hh hg u0 u1 l0 l0b B1
      refine region_qtail (C := Keeps W) 5 (by kernel_rfl) (by kernel_rfl) (Keeps.drew W) ?_
      (iterate 5
    (apply wpQuiet_go _ (by rfl)
     · intro wq hq
       go_simp
       first
         | (go_at_call 47; exact qcall hq (WH.out _))
         | (go_at_call 14; exact qcall hq (O2.out _))
         | exact rfl
     simp only [Act.put, List.setIfInBounds_toArray, List.set_cons_succ, List.set_cons_zero]))
      refine wpQuiet_nil ?_
      intro w3 hk
      have HB3 : Hid (Below w.heap.size w w3) := bel_step HB.out hk.below
      have y0 := k2 _ hk
      have y1 := k3 _ hk
      have y2 := k4 _ hk
      have y3 := k5 _ hk
      have y4 := k6 _ hk
      have f0 := kz 0 _ hk
      have f1 := kz 1 _ hk
      have f2 := kz 2 _ hk
      have f3 := kz 3 _ hk
      have f4 := kz 4 _ hk
      clear k0 k1 k2 k3 k4 k5 k6 kz hk hs HB
      simp only [List.drop_succ_cons, List.drop_zero]
      go_wp2_with fail
      refine (MK.out _).mono ?_
      rintro e' w5 ⟨rfl, hw5⟩
      obtain rfl := hw5
      go_wp2
      refine bodyPost_ret (two_resT Try.results26 _ _ _) rfl ⟨rfl, ?_⟩
      exact ((((HB3.out.setCell (p := ⟨h, 0, none⟩) HG.out _).setCell (p := ⟨h, 1, none⟩) HG.out _).setCell (p := ⟨h, 2, none⟩) HG.out _).setCell (p := ⟨h, 3, none⟩) HG.out _).setCell (p := ⟨h, 4, none⟩) HG.out _
  · cases s
    · skip
      go_enter Try.func26, Try.ntmps26
      go_wp2_with fail
      refine (O1.out _).mono ?_
      rintro e' w1 ⟨rfl, B1⟩
      have u0 : w1.cell? ⟨w.heap.size, 0, none⟩ = some (.int .u64 8) := (B1.cell (p := ⟨w.heap.size, 0, none⟩) (by simp)).trans (by simp)
      have u1 : w1.cell? ⟨w.heap.size, 1, none⟩ = some (.int .u64 23) := (B1.cell (p := ⟨w.heap.size, 1, none⟩) (by simp)).trans (by simp)
      have l0 : w.heap.size < w1.heap.size := by have := B1.size; simp at this; omega
      have l0b : w.heap.size < w1.heap.size + 1 := by omega
      go_wp2_with fail
      obtain ⟨W, hW⟩ : ∃ W, w1.alloc (.cells #[.bool false, .bool false, .bool false, .int .u64 m, .int .i64 e1] 38) = W := ⟨_, rfl⟩
      obtain ⟨h, hh⟩ : ∃ h, w1.heap.size = h := ⟨_, rfl⟩
      obtain ⟨g, hg⟩ : ∃ g, w.heap.size = g := ⟨_, rfl⟩
      have HB : Hid (Below w.heap.size w W) := by unfold Hid; rw [← hW]; ((repeat (first | refine bel_alloc ?_ _ | refine bel_dN ?_ _ | refine Below.drew ?_ | refine Below.setCell ?_ (by first | (simp; done) | (simp; omega)) _)); refine bel_step ?_ B1; (repeat (first | refine bel_alloc ?_ _ | refine bel_dN ?_ _ | refine Below.drew ?_ | refine Below.setCell ?_ (by first | (simp; done) | (simp; omega)) _)); exact Below.refl _ _)
      have HG : Hid (w.heap.size ≤ h) := by unfold Hid; omega
      have hs : W.heap.size = h + 1 := by rw [← hW, ← hh]; simp
      have k0 : ∀ w, Keeps W w → w.cell? ⟨g, 0, none⟩ = some (.int .u64 8) := fun w h => h.cell (by omega) (by rw [← hW, ← hg]; simp [go_sem, u0, l0])
      have k1 : ∀ w, Keeps W w → w.cell? ⟨g, 1, none⟩ = some (.int .u64 23) := fun w h => h.cell (by omega) (by rw [← hW, ← hg]; simp [go_sem, u1, l0])
      have k2 : ∀ w, Keeps W w → w.cell? ⟨h, 0, none⟩ = some (.bool false) := fun w h => h.cell (by omega) (by rw [← hW, ← hh]; simp)
      have k3 : ∀ w, Keeps W w → w.cell? ⟨h, 1, none⟩ = some (.bool false) := fun w h => h.cell (by omega) (by rw [← hW, ← hh]; simp)
      have k4 : ∀ w, Keeps W w → w.cell? ⟨h, 2, none⟩ = some (.bool false) := fun w h => h.cell (by omega) (by rw [← hW, ← hh]; simp)
      have k5 : ∀ w, Keeps W w → w.cell? ⟨h, 3, none⟩ = some (.int .u64 m) := fun w h => h.cell (by omega) (by rw [← hW, ← hh]; simp)
      have k6 : ∀ w, Keeps W w → w.cell? ⟨h, 4, none⟩ = some (.int .i64 e1) := fun w h => h.cell (by omega) (by rw [← hW, ← hh]; simp)
      have kz : ∀ j w, Keeps W w → w.frozen? ⟨h, j, none⟩ = false := fun j w h => h.frozen (by omega) (by rw [← hW, ← hh]; simp [go_sem])
      rw [hW, hh, hg]
      clear hW hh hg u0 u1 l0 l0b B1
      refine region_qtail (C := Keeps W) 5 (by kernel_rfl) (by kernel_rfl) (Keeps.drew W) ?_
      (iterate 5
    (apply wpQuiet_go _ (by rfl)
     · intro wq hq
       go_simp
       first
         | (go_at_call 47; exact qcall hq (WH.out _))
         | (go_at_call 14; exact qcall hq (O2.out _))
         | exact rfl
     simp only [Act.put, List.setIfInBounds_toArray, List.set_cons_succ, List.set_cons_zero]))
      refine wpQuiet_nil ?_
      intro w3 hk
      have HB3 : Hid (Below w.heap.size w w3) := bel_step HB.out hk.below
      have y0 := k2 _ hk
      have y1 := k3 _ hk
      have y2 := k4 _ hk
      have y3 := k5 _ hk
      have y4 := k6 _ hk
      have f0 := kz 0 _ hk
      have f1 := kz 1 _ hk
      have f2 := kz 2 _ hk
      have f3 := kz 3 _ hk
      have f4 := kz 4 _ hk
      clear k0 k1 k2 k3 k4 k5 k6 kz hk hs HB
      simp only [List.drop_succ_cons, List.drop_zero]
      go_wp2_with fail
      refine (MK.out _).mono ?_
      rintro e' w5 ⟨rfl, hw5⟩
      obtain rfl := hw5
      go_wp2
      refine bodyPost_ret (two_resT Try.results26 _ _ _) rfl ⟨rfl, ?_⟩
      exact ((((HB3.out.setCell (p := ⟨h, 0, none⟩) HG.out _).setCell (p := ⟨h, 1, none⟩) HG.out _).setCell (p := ⟨h, 2, none⟩) HG.out _).setCell (p := ⟨h, 3, none⟩) HG.out _).setCell (p := ⟨h, 4, none⟩) HG.out _
    · skip
      go_enter Try.func26, Try.ntmps26
      go_wp2_with fail
      refine (O1.out _).mono ?_
      rintro e' w1 ⟨rfl, B1⟩
      have u0 : w1.cell? ⟨w.heap.size, 0, none⟩ = some (.int .u64 8) := (B1.cell (p := ⟨w.heap.size, 0, none⟩) (by simp)).trans (by simp)
      have u1 : w1.cell? ⟨w.heap.size, 1, none⟩ = some (.int .u64 23) := (B1.cell (p := ⟨w.heap.size, 1, none⟩) (by simp)).trans (by simp)
      have l0 : w.heap.size < w1.heap.size := by have := B1.size; simp at this; omega
      have l0b : w.heap.size < w1.heap.size + 1 := by omega
      go_wp2_with fail
      obtain ⟨W, hW⟩ : ∃ W, w1.alloc (.cells #[.bool true, .bool false, .bool false, .int .u64 m, .int .i64 e1] 38) = W := ⟨_, rfl⟩
      obtain ⟨h, hh⟩ : ∃ h, w1.heap.size = h := ⟨_, rfl⟩
      obtain ⟨g, hg⟩ : ∃ g, w.heap.size = g := ⟨_, rfl⟩
      have HB : Hid (Below w.heap.size w W) := by unfold Hid; rw [← hW]; ((repeat (first | refine bel_alloc ?_ _ | refine bel_dN ?_ _ | refine Below.drew ?_ | refine Below.setCell ?_ (by first | (simp; done) | (simp; omega)) _)); refine bel_step ?_ B1; (repeat (first | refine bel_alloc ?_ _ | refine bel_dN ?_ _ | refine Below.drew ?_ | refine Below.setCell ?_ (by first | (simp; done) | (simp; omega)) _)); exact Below.refl _ _)
      have HG : Hid (w.heap.size ≤ h) := by unfold Hid; omega
      have hs : W.heap.size = h + 1 := by rw [← hW, ← hh]; simp
      have k0 : ∀ w, Keeps W w → w.cell? ⟨g, 0, none⟩ = some (.int .u64 8) := fun w h => h.cell (by omega) (by rw [← hW, ← hg]; simp [go_sem, u0, l0])
      have k1 : ∀ w, Keeps W w → w.cell? ⟨g, 1, none⟩ = some (.int .u64 23) := fun w h => h.cell (by omega) (by rw [← hW, ← hg]; simp [go_sem, u1, l0])
      have k2 : ∀ w, Keeps W w → w.cell? ⟨h, 0, none⟩ = some (.bool true) := fun w h => h.cell (by omega) (by rw [← hW, ← hh]; simp)
      have k3 : ∀ w, Keeps W w → w.cell? ⟨h, 1, none⟩ = some (.bool false) := fun w h => h.cell (by omega) (by rw [← hW, ← hh]; simp)
      have k4 : ∀ w, Keeps W w → w.cell? ⟨h, 2, none⟩ = some (.bool false) := fun w h => h.cell (by omega) (by rw [← hW, ← hh]; simp)
      have k5 : ∀ w, Keeps W w → w.cell? ⟨h, 3, none⟩ = some (.int .u64 m) := fun w h => h.cell (by omega) (by rw [← hW, ← hh]; simp)
      have k6 : ∀ w, Keeps W w → w.cell? ⟨h, 4, none⟩ = some (.int .i64 e1) := fun w h => h.cell (by omega) (by rw [← hW, ← hh]; simp)
      have kz : ∀ j w, Keeps W w → w.frozen? ⟨h, j, none⟩ = false := fun j w h => h.frozen (by omega) (by rw [← hW, ← hh]; simp [go_sem])
      rw [hW, hh, hg]
      clear hW hh hg u0 u1 l0 l0b B1
      refine region_qtail (C := Keeps W) 5 (by kernel_rfl) (by kernel_rfl) (Keeps.drew W) ?_
      (iterate 5
    (apply wpQuiet_go _ (by rfl)
     · intro wq hq
       go_simp
       first
         | (go_at_call 47; exact qcall hq (WH.out _))
         | (go_at_call 14; exact qcall hq (O2.out _))
         | exact rfl
     simp only [Act.put, List.setIfInBounds_toArray, List.set_cons_succ, List.set_cons_zero]))
      refine wpQuiet_nil ?_
      intro w3 hk
      have HB3 : Hid (Below w.heap.size w w3) := bel_step HB.out hk.below
      have y0 := k2 _ hk
      have y1 := k3 _ hk
      have y2 := k4 _ hk
      have y3 := k5 _ hk
      have y4 := k6 _ hk
      have f0 := kz 0 _ hk
      have f1 := kz 1 _ hk
      have f2 := kz 2 _ hk
      have f3 := kz 3 _ hk
      have f4 := kz 4 _ hk
      clear k0 k1 k2 k3 k4 k5 k6 kz hk hs HB
      simp only [List.drop_succ_cons, List.drop_zero]
      go_wp2_with fail
      refine (MK.out _).mono ?_
      rintro e' w5 ⟨rfl, hw5⟩
      obtain rfl := hw5
      go_wp2
      refine bodyPost_ret (two_resT Try.results26 _ _ _) rfl ⟨rfl, ?_⟩
      exact ((((HB3.out.setCell (p := ⟨h, 0, none⟩) HG.out _).setCell (p := ⟨h, 1, none⟩) HG.out _).setCell (p := ⟨h, 2, none⟩) HG.out _).setCell (p := ⟨h, 3, none⟩) HG.out _).setCell (p := ⟨h, 4, none⟩) HG.out _

set_option maxHeartbeats 1000000 in
theorem toiS_D64_16 (a b m e1 e2 : Int) (s sg : Bool) (O1 : Hid (∀ w, Calls Try.prog 14 #[(.agg #[.int .u64 5, .int .u64 10]), .int .u32 a] w fun e w' => e = .returned (.agg #[.bool s, .bool false, .bool false, .int .u64 m, .int .i64 e1]) ∧ Below w.heap.size w w'))
    (WH : Hid (∀ w, Calls Try.prog 47 #[(.agg #[.int .u64 5, .int .u64 10]), .int .i64 3, .agg #[.bool s, .bool false, .bool false, .int .u64 m, .int .i64 e1]] w fun x w' => x = .returned (.int .u32 b) ∧ Below w.heap.size w w'))
    (O2 : Hid (∀ w, Calls Try.prog 14 #[(.agg #[.int .u64 5, .int .u64 10]), .int .u32 b] w fun e w' => e = .returned (.agg #[.bool s, .bool false, .bool false, .int .u64 0, .int .i64 e2]) ∧ Below w.heap.size w w'))
    (he : e2 ≤ -60) (hel : -500 ≤ e2) (w : World) :
    Calls Try.prog 26 #[(.agg #[.int .u64 5, .int .u64 10]), .int .u32 a, .int .i64 64, .bool sg] w fun e w' => e = .returned (toi 9223372036854775808 18446744073709551616 s 0 sg) ∧ Below w.heap.size w w' := by
  have p1 : ¬ 40 < e2 := by omega
  have p2 : ¬ 0 ≤ e2 := by omega
  have p3 : wrap64 (-e2) = -e2 := by unfold wrap64; omega
  have p5 : ¬ -e2 < 60 := by omega
  have MK : Hid (∀ w, Calls Try.prog 48 #[.int .i64 64, .int .u64 0] w fun e w' => e = .returned (.int .u64 0) ∧ w' = w) := by
    intro w
    refine (specMask64T 0 w).mono ?_
    rintro e w' ⟨rfl, hw⟩
    exact ⟨rfl, hw⟩
  rw [show toi 9223372036854775808 18446744073709551616 s 0 sg = .tuple #[.int .u64 0, .int .i64 0] by cases s <;> cases sg <;> rfl]
  clear he hel
  cases sg
  · cases s
    · skip
      go_enter Try.func26, Try.ntmps26
      go_wp2_with fail
      refine (O1.out _).mono ?_
      rintro e' w1 ⟨rfl, B1⟩
      have u0 : w1.cell? ⟨w.heap.size, 0, none⟩ = some (.int .u64 5) := (B1.cell (p := ⟨w.heap.size, 0, none⟩) (by simp)).trans (by simp)
      have u1 : w1.cell? ⟨w.heap.size, 1, none⟩ = some (.int .u64 10) := (B1.cell (p := ⟨w.heap.size, 1, none⟩) (by simp)).trans (by simp)
      have l0 : w.heap.size < w1.heap.size := by have := B1.size; simp at this; omega
      have l0b : w.heap.size < w1.heap.size + 1 := by omega
      go_wp2_with fail
      obtain ⟨W, hW⟩ : ∃ W, w1.alloc (.cells #[.bool false, .bool false, .bool false, .int .u64 m, .int .i64 e1] 38) = W := ⟨_, rfl⟩
      obtain ⟨h, hh⟩ : ∃ h, w1.heap.size = h := ⟨_, rfl⟩
      obtain ⟨g, hg⟩ : ∃ g, w.heap.size = g := ⟨_, rfl⟩
      have HB : Hid (Below w.heap.size w W) := by unfold Hid; rw [← hW]; ((repeat (first | refine bel_alloc ?_ _ | refine bel_dN ?_ _ | refine Below.drew ?_ | refine Below.setCell ?_ (by first | (simp; done) | (simp; omega)) _)); refine bel_step ?_ B1; (repeat (first | refine bel_alloc ?_ _ | refine bel_dN ?_ _ | refine Below.drew ?_ | refine Below.setCell ?_ (by first | (simp; done) | (simp; omega)) _)); exact Below.refl _ _)
      have HG : Hid (w.heap.size ≤ h) := by unfold Hid; omega
      have hs : W.heap.size = h + 1 := by rw [← hW, ← hh]; simp
      have k0 : ∀ w, Keeps W w → w.cell? ⟨g, 0, none⟩ = some (.int .u64 5) := fun w h => h.cell (by omega) (by rw [← hW, ← hg]; simp [go_sem, u0, l0])
      have k1 : ∀ w, Keeps W w → w.cell? ⟨g, 1, none⟩ = some (.int .u64 10) := fun w h => h.cell (by omega) (by rw [← hW, ← hg]; simp [go_sem, u1, l0])
      have k2 : ∀ w, Keeps W w → w.cell? ⟨h, 0, none⟩ = some (.bool false) := fun w h => h.cell (by omega) (by rw [← hW, ← hh]; simp)
      have k3 : ∀ w, Keeps W w → w.cell? ⟨h, 1, none⟩ = some (.bool false) := fun w h => h.cell (by omega) (by rw [← hW, ← hh]; simp)
      have k4 : ∀ w, Keeps W w → w.cell? ⟨h, 2, none⟩ = some (.bool false) := fun w h => h.cell (by omega) (by rw [← hW, ← hh]; simp)
      have k5 : ∀ w, Keeps W w → w.cell? ⟨h, 3, none⟩ = some (.int .u64 m) := fun w h => h.cell (by omega) (by rw [← hW, ← hh]; simp)
      have k6 : ∀ w, Keeps W w → w.cell? ⟨h, 4, none⟩ = some (.int .i64 e1) := fun w h => h.cell (by omega) (by rw [← hW, ← hh]; simp)
      have kz : ∀ j w, Keeps W w → w.frozen? ⟨h, j, none⟩ = false := fun j w h => h.frozen (by omega) (by rw [← hW, ← hh]; simp [go_sem])
      rw [hW, hh, hg]
      clear hW hh hg u0 u1 l0 l0b B1
      refine region_qtail (C := Keeps W) 5 (by kernel_rfl) (by kernel_rfl) (Keeps.drew W) ?_
      (iterate 5
    (apply wpQuiet_go _ (by rfl)
     · intro wq hq
       go_simp
       first
         | (go_at_call 47; exact qcall hq (WH.out _))
         | (go_at_call 14; exact qcall hq (O2.out _))
         | exact rfl
     simp only [Act.put, List.setIfInBounds_toArray, List.set_cons_succ, List.set_cons_zero]))
      refine wpQuiet_nil ?_
      intro w3 hk
      have HB3 : Hid (Below w.heap.size w w3) := bel_step HB.out hk.below
      have y0 := k2 _ hk
      have y1 := k3 _ hk
      have y2 := k4 _ hk
      have y3 := k5 _ hk
      have y4 := k6 _ hk
      have f0 := kz 0 _ hk
      have f1 := kz 1 _ hk
      have f2 := kz 2 _ hk
      have f3 := kz 3 _ hk
      have f4 := kz 4 _ hk
      clear k0 k1 k2 k3 k4 k5 k6 kz hk hs HB
      simp only [List.drop_succ_cons, List.drop_zero]
      go_wp2_with fail
      refine (MK.out _).mono ?_
      rintro e' w5 ⟨rfl, hw5⟩
      obtain rfl := hw5
      go_wp2
      refine bodyPost_ret (two_resT Try.results26 _ _ _) rfl ⟨rfl, ?_⟩
      exact ((((HB3.out.setCell (p := ⟨h, 0, none⟩) HG.out _).setCell (p := ⟨h, 1, none⟩) HG.out _).setCell (p := ⟨h, 2, none⟩) HG.out _).setCell (p := ⟨h, 3, none⟩) HG.out _).setCell (p := ⟨h, 4, none⟩) HG.out _
    · skip
      go_enter Try.func26, Try.ntmps26
      go_wp2_with fail
      refine (O1.out _).mono ?_
      rintro e' w1 ⟨rfl, B1⟩
      have u0 : w1.cell? ⟨w.heap.size, 0, none⟩ = some (.int .u64 5) := (B1.cell (p := ⟨w.heap.size, 0, none⟩) (by simp)).trans (by simp)
      have u1 : w1.cell? ⟨w.heap.size, 1, none⟩ = some (.int .u64 10) := (B1.cell (p := ⟨w.heap.size, 1, none⟩) (by simp)).trans (by simp)
      have l0 : w.heap.size < w1.heap.size := by have := B1.size; simp at this; omega
      have l0b : w.heap.size < w1.heap.size + 1 := by omega
      go_wp2_with fail
      obtain ⟨W, hW⟩ : ∃ W, w1.alloc (.cells #[.bool true, .bool false, .bool false, .int .u64 m, .int .i64 e1] 38) = W := ⟨_, rfl⟩
      obtain ⟨h, hh⟩ : ∃ h, w1.heap.size = h := ⟨_, rfl⟩
      obtain ⟨g, hg⟩ : ∃ g, w.heap.size = g := ⟨_, rfl⟩
      have HB : Hid (Below w.heap.size w W) := by unfold Hid; rw [← hW]; ((repeat (first | refine bel_alloc ?_ _ | refine bel_dN ?_ _ | refine Below.drew ?_ | refine Below.setCell ?_ (by first | (simp; done) | (simp; omega)) _)); refine bel_step ?_ B1; (repeat (first | refine bel_alloc ?_ _ | refine bel_dN ?_ _ | refine Below.drew ?_ | refine Below.setCell ?_ (by first | (simp; done) | (simp; omega)) _)); exact Below.refl _ _)
      have HG : Hid (w.heap.size ≤ h) := by unfold Hid; omega
      have hs : W.heap.size = h + 1 := by rw [← hW, ← hh]; simp
      have k0 : ∀ w, Keeps W w → w.cell? ⟨g, 0, none⟩ = some (.int .u64 5) := fun w h => h.cell (by omega) (by rw [← hW, ← hg]; simp [go_sem, u0, l0])
      have k1 : ∀ w, Keeps W w → w.cell? ⟨g, 1, none⟩ = some (.int .u64 10) := fun w h => h.cell (by omega) (by rw [← hW, ← hg]; simp [go_sem, u1, l0])
      have k2 : ∀ w, Keeps W w → w.cell? ⟨h, 0, none⟩ = some (.bool true) := fun w h => h.cell (by omega) (by rw [← hW, ← hh]; simp)
      have k3 : ∀ w, Keeps W w → w.cell? ⟨h, 1, none⟩ = some (.bool false) := fun w h => h.cell (by omega) (by rw [← hW, ← hh]; simp)
      have k4 : ∀ w, Keeps W w → w.cell? ⟨h, 2, none⟩ = some (.bool false) := fun w h => h.cell (by omega) (by rw [← hW, ← hh]; simp)
      have k5 : ∀ w, Keeps W w → w.cell? ⟨h, 3, none⟩ = some (.int .u64 m) := fun w h => h.cell (by omega) (by rw [← hW, ← hh]; simp)
      have k6 : ∀ w, Keeps W w → w.cell? ⟨h, 4, none⟩ = some (.int .i64 e1) := fun w h => h.cell (by omega) (by rw [← hW, ← hh]; simp)
      have kz : ∀ j w, Keeps W w → w.frozen? ⟨h, j, none⟩ = false := fun j w h => h.frozen (by omega) (by rw [← hW, ← hh]; simp [go_sem])
      rw [hW, hh, hg]
      clear hW hh hg u0 u1 l0 l0b B1
      refine region_qtail (C := Keeps W) 5 (by kernel_rfl) (by kernel_rfl) (Keeps.drew W) ?_
      (iterate 5
    (apply wpQuiet_go _ (by rfl)
     · intro wq hq
       go_simp
       first
         | (go_at_call 47; exact qcall hq (WH.out _))
         | (go_at_call 14; exact qcall hq (O2.out _))
         | exact rfl
     simp only [Act.put, List.setIfInBounds_toArray, List.set_cons_succ, List.set_cons_zero]))
      refine wpQuiet_nil ?_
      intro w3 hk
      have HB3 : Hid (Below w.heap.size w w3) := bel_step HB.out hk.below
      have y0 := k2 _ hk
      have y1 := k3 _ hk
      have y2 := k4 _ hk
      have y3 := k5 _ hk
      have y4 := k6 _ hk
      have f0 := kz 0 _ hk
      have f1 := kz 1 _ hk
      have f2 := kz 2 _ hk
      have f3 := kz 3 _ hk
      have f4 := kz 4 _ hk
      clear k0 k1 k2 k3 k4 k5 k6 kz hk hs HB
      simp only [List.drop_succ_cons, List.drop_zero]
      go_wp2_with fail
      refine (MK.out _).mono ?_
      rintro e' w5 ⟨rfl, hw5⟩
      obtain rfl := hw5
      go_wp2
      refine bodyPost_ret (two_resT Try.results26 _ _ _) rfl ⟨rfl, ?_⟩
      exact ((((HB3.out.setCell (p := ⟨h, 0, none⟩) HG.out _).setCell (p := ⟨h, 1, none⟩) HG.out _).setCell (p := ⟨h, 2, none⟩) HG.out _).setCell (p := ⟨h, 3, none⟩) HG.out _).setCell (p := ⟨h, 4, none⟩) HG.out _
  · cases s
    · skip
      go_enter Try.func26, Try.ntmps26
      go_wp2_with fail
      refine (O1.out _).mono ?_
      rintro e' w1 ⟨rfl, B1⟩
      have u0 : w1.cell? ⟨w.heap.size, 0, none⟩ = some (.int .u64 5) := (B1.cell (p := ⟨w.heap.size, 0, none⟩) (by simp)).trans (by simp)
      have u1 : w1.cell? ⟨w.heap.size, 1, none⟩ = some (.int .u64 10) := (B1.cell (p := ⟨w.heap.size, 1, none⟩) (by simp)).trans (by simp)
      have l0 : w.heap.size < w1.heap.size := by have := B1.size; simp at this; omega
      have l0b : w.heap.size < w1.heap.size + 1 := by omega
      go_wp2_with fail
      obtain ⟨W, hW⟩ : ∃ W, w1.alloc (.cells #[.bool false, .bool false, .bool false, .int .u64 m, .int .i64 e1] 38) = W := ⟨_, rfl⟩
      obtain ⟨h, hh⟩ : ∃ h, w1.heap.size = h := ⟨_, rfl⟩
      obtain ⟨g, hg⟩ : ∃ g, w.heap.size = g := ⟨_, rfl⟩
      have HB : Hid (Below w.heap.size w W) := by unfold Hid; rw [← hW]; ((repeat (first | refine bel_alloc ?_ _ | refine bel_dN ?_ _ | refine Below.drew ?_ | refine Below.setCell ?_ (by first | (simp; done) | (simp; omega)) _)); refine bel_step ?_ B1; (repeat (first | refine bel_alloc ?_ _ | refine bel_dN ?_ _ | refine Below.drew ?_ | refine Below.setCell ?_ (by first | (simp; done) | (simp; omega)) _)); exact Below.refl _ _)
      have HG : Hid (w.heap.size ≤ h) := by unfold Hid; omega
      have hs : W.heap.size = h + 1 := by rw [← hW, ← hh]; simp
      have k0 : ∀ w, Keeps W w → w.cell? ⟨g, 0, none⟩ = some (.int .u64 5) := fun w h => h.cell (by omega) (by rw [← hW, ← hg]; simp [go_sem, u0, l0])
      have k1 : ∀ w, Keeps W w → w.cell? ⟨g, 1, none⟩ = some (.int .u64 10) := fun w h => h.cell (by omega) (by rw [← hW, ← hg]; simp [go_sem, u1, l0])
      have k2 : ∀ w, Keeps W w → w.cell? ⟨h, 0, none⟩ = some (.bool false) := fun w h => h.cell (by omega) (by rw [← hW, ← hh]; simp)
      have k3 : ∀ w, Keeps W w → w.cell? ⟨h, 1, none⟩ = some (.bool false) := fun w h => h.cell (by omega) (by rw [← hW, ← hh]; simp)
      have k4 : ∀ w, Keeps W w → w.cell? ⟨h, 2, none⟩ = some (.bool false) := fun w h => h.cell (by omega) (by rw [← hW, ← hh]; simp)
      have k5 : ∀ w, Keeps W w → w.cell? ⟨h, 3, none⟩ = some (.int .u64 m) := fun w h => h.cell (by omega) (by rw [← hW, ← hh]; simp)
      have k6 : ∀ w, Keeps W w → w.cell? ⟨h, 4, none⟩ = some (.int .i64 e1) := fun w h => h.cell (by omega) (by rw [← hW, ← hh]; simp)
      have kz : ∀ j w, Keeps W w → w.frozen? ⟨h, j, none⟩ = false := fun j w h => h.frozen (by omega) (by rw [← hW, ← hh]; simp [go_sem])
      rw [hW, hh, hg]
      clear hW hh hg u0 u1 l0 l0b B1
      refine region_qtail (C := Keeps W) 5 (by kernel_rfl) (by kernel_rfl) (Keeps.drew W) ?_
      (iterate 5
    (apply wpQuiet_go _ (by rfl)
     · intro wq hq
       go_simp
       first
         | (go_at_call 47; exact qcall hq (WH.out _))
         | (go_at_call 14; exact qcall hq (O2.out _))
         | exact rfl
     simp only [Act.put, List.setIfInBounds_toArray, List.set_cons_succ, List.set_cons_zero]))
      refine wpQuiet_nil ?_
      intro w3 hk
      have HB3 : Hid (Below w.heap.size w w3) := bel_step HB.out hk.below
      have y0 := k2 _ hk
      have y1 := k3 _ hk
      have y2 := k4 _ hk
      have y3 := k5 _ hk
      have y4 := k6 _ hk
      have f0 := kz 0 _ hk
      have f1 := kz 1 _ hk
      have f2 := kz 2 _ hk
      have f3 := kz 3 _ hk
      have f4 := kz 4 _ hk
      clear k0 k1 k2 k3 k4 k5 k6 kz hk hs HB
      simp only [List.drop_succ_cons, List.drop_zero]
      go_wp2_with fail
      refine (MK.out _).mono ?_
      rintro e' w5 ⟨rfl, hw5⟩
      obtain rfl := hw5
      go_wp2
      refine bodyPost_ret (two_resT Try.results26 _ _ _) rfl ⟨rfl, ?_⟩
      exact ((((HB3.out.setCell (p := ⟨h, 0, none⟩) HG.out _).setCell (p := ⟨h, 1, none⟩) HG.out _).setCell (p := ⟨h, 2, none⟩) HG.out _).setCell (p := ⟨h, 3, none⟩) HG.out _).setCell (p := ⟨h, 4, none⟩) HG.out _
    · skip
      go_enter Try.func26, Try.ntmps26
      go_wp2_with fail
      refine (O1.out _).mono ?_
      rintro e' w1 ⟨rfl, B1⟩
      have u0 : w1.cell? ⟨w.heap.size, 0, none⟩ = some (.int .u64 5) := (B1.cell (p := ⟨w.heap.size, 0, none⟩) (by simp)).trans (by simp)
      have u1 : w1.cell? ⟨w.heap.size, 1, none⟩ = some (.int .u64 10) := (B1.cell (p := ⟨w.heap.size, 1, none⟩) (by simp)).trans (by simp)
      have l0 : w.heap.size < w1.heap.size := by have := B1.size; simp at this; omega
      have l0b : w.heap.size < w1.heap.size + 1 := by omega
      go_wp2_with fail
      obtain ⟨W, hW⟩ : ∃ W, w1.alloc (.cells #[.bool true, .bool false, .bool false, .int .u64 m, .int .i64 e1] 38) = W := ⟨_, rfl⟩
      obtain ⟨h, hh⟩ : ∃ h, w1.heap.size = h := ⟨_, rfl⟩
      obtain ⟨g, hg⟩ : ∃ g, w.heap.size = g := ⟨_, rfl⟩
      have HB : Hid (Below w.heap.size w W) := by unfold Hid; rw [← hW]; ((repeat (first | refine bel_alloc ?_ _ | refine bel_dN ?_ _ | refine Below.drew ?_ | refine Below.setCell ?_ (by first | (simp; done) | (simp; omega)) _)); refine bel_step ?_ B1; (repeat (first | refine bel_alloc ?_ _ | refine bel_dN ?_ _ | refine Below.drew ?_ | refine Below.setCell ?_ (by first | (simp; done) | (simp; omega)) _)); exact Below.refl _ _)
      have HG : Hid (w.heap.size ≤ h) := by unfold Hid; omega
      have hs : W.heap.size = h + 1 := by rw [← hW, ← hh]; simp
      have k0 : ∀ w, Keeps W w → w.cell? ⟨g, 0, none⟩ = some (.int .u64 5) := fun w h => h.cell (by omega) (by rw [← hW, ← hg]; simp [go_sem, u0, l0])
      have k1 : ∀ w, Keeps W w → w.cell? ⟨g, 1, none⟩ = some (.int .u64 10) := fun w h => h.cell (by omega) (by rw [← hW, ← hg]; simp [go_sem, u1, l0])
      have k2 : ∀ w, Keeps W w → w.cell? ⟨h, 0, none⟩ = some (.bool true) := fun w h => h.cell (by omega) (by rw [← hW, ← hh]; simp)
      have k3 : ∀ w, Keeps W w → w.cell? ⟨h, 1, none⟩ = some (.bool false) := fun w h => h.cell (by omega) (by rw [← hW, ← hh]; simp)
      have k4 : ∀ w, Keeps W w → w.cell? ⟨h, 2, none⟩ = some (.bool false) := fun w h => h.cell (by omega) (by rw [← hW, ← hh]; simp)
      have k5 : ∀ w, Keeps W w → w.cell? ⟨h, 3, none⟩ = some (.int .u64 m) := fun w h => h.cell (by omega) (by rw [← hW, ← hh]; simp)
      have k6 : ∀ w, Keeps W w → w.cell? ⟨h, 4, none⟩ = some (.int .i64 e1) := fun w h => h.cell (by omega) (by rw [← hW, ← hh]; simp)
      have kz : ∀ j w, Keeps W w → w.frozen? ⟨h, j, none⟩ = false := fun j w h => h.frozen (by omega) (by rw [← hW, ← hh]; simp [go_sem])
      rw [hW, hh, hg]
      clear hW hh hg u0 u1 l0 l0b B1
      refine region_qtail (C := Keeps W) 5 (by kernel_rfl) (by kernel_rfl) (Keeps.drew W) ?_
      (iterate 5
    (apply wpQuiet_go _ (by rfl)
     · intro wq hq
       go_simp
       first
         | (go_at_call 47; exact qcall hq (WH.out _))
         | (go_at_call 14; exact qcall hq (O2.out _))
         | exact rfl
     simp only [Act.put, List.setIfInBounds_toArray, List.set_cons_succ, List.set_cons_zero]))
      refine wpQuiet_nil ?_
      intro w3 hk
      have HB3 : Hid (Below w.heap.size w w3) := bel_step HB.out hk.below
      have y0 := k2 _ hk
      have y1 := k3 _ hk
      have y2 := k4 _ hk
      have y3 := k5 _ hk
      have y4 := k6 _ hk
      have f0 := kz 0 _ hk
      have f1 := kz 1 _ hk
      have f2 := kz 2 _ hk
      have f3 := kz 3 _ hk
      have f4 := kz 4 _ hk
      clear k0 k1 k2 k3 k4 k5 k6 kz hk hs HB
      simp only [List.drop_succ_cons, List.drop_zero]
      go_wp2_with fail
      refine (MK.out _).mono ?_
      rintro e' w5 ⟨rfl, hw5⟩
      obtain rfl := hw5
      go_wp2
      refine bodyPost_ret (two_resT Try.results26 _ _ _) rfl ⟨rfl, ?_⟩
      exact ((((HB3.out.setCell (p := ⟨h, 0, none⟩) HG.out _).setCell (p := ⟨h, 1, none⟩) HG.out _).setCell (p := ⟨h, 2, none⟩) HG.out _).setCell (p := ⟨h, 3, none⟩) HG.out _).setCell (p := ⟨h, 4, none⟩) HG.out _

set_option maxHeartbeats 1000000 in
theorem toiS_D64_32 (a b m e1 e2 : Int) (s sg : Bool) (O1 : Hid (∀ w, Calls Try.prog 14 #[(.agg #[.int .u64 8, .int .u64 23]), .int .u32 a] w fun e w' => e = .returned (.agg #[.bool s, .bool false, .bool false, .int .u64 m, .int .i64 e1]) ∧ Below w.heap.size w w'))
    (WH : Hid (∀ w, Calls Try.prog 47 #[(.agg #[.int .u64 8, .int .u64 23]), .int .i64 3, .agg #[.bool s, .bool false, .bool false, .int .u64 m, .int .i64 e1]] w fun x w' => x = .returned (.int .u32 b) ∧ Below w.heap.size w w'))
    (O2 : Hid (∀ w, Calls Try.prog 14 #[(.agg #[.int .u64 8, .int .u64 23]), .int .u32 b] w fun e w' => e = .returned (.agg #[.bool s, .bool false, .bool false, .int .u64 0, .int .i64 e2]) ∧ Below w.heap.size w w'))
    (he : e2 ≤ -60) (hel : -500 ≤ e2) (w : World) :
    Calls Try.prog 26 #[(.agg #[.int .u64 8, .int .u64 23]), .int .u32 a, .int .i64 64, .bool sg] w fun e w' => e = .returned (toi 9223372036854775808 18446744073709551616 s 0 sg) ∧ Below w.heap.size w w' := by
  have p1 : ¬ 40 < e2 := by omega
  have p2 : ¬ 0 ≤ e2 := by omega
  have p3 : wrap64 (-e2) = -e2 := by unfold wrap64; omega
  have p5 : ¬ -e2 < 60 := by omega
  have MK : Hid (∀ w, Calls Try.prog 48 #[.int .i64 64, .int .u64 0] w fun e w' => e = .returned (.int .u64 0) ∧ w' = w) := by
    intro w
    refine (specMask64T 0 w).mono ?_
    rintro e w' ⟨rfl, hw⟩
    exact ⟨rfl, hw⟩
  rw [show toi 9223372036854775808 18446744073709551616 s 0 sg = .tuple #[.int .u64 0, .int .i64 0] by cases s <;> cases sg <;> rfl]
  clear he hel
  cases sg
  · cases s
    · skip
      go_enter Try.func26, Try.ntmps26
      go_wp2_with fail
      refine (O1.out _).mono ?_
      rintro e' w1 ⟨rfl, B1⟩
      have u0 : w1.cell? ⟨w.heap.size, 0, none⟩ = some (.int .u64 8) := (B1.cell (p := ⟨w.heap.size, 0, none⟩) (by simp)).trans (by simp)
      have u1 : w1.cell? ⟨w.heap.size, 1, none⟩ = some (.int .u64 23) := (B1.cell (p := ⟨w.heap.size, 1, none⟩) (by simp)).trans (by simp)
      have l0 : w.heap.size < w1.heap.size := by have := B1.size; simp at this; omega
      have l0b : w.heap.size < w1.heap.size + 1 := by omega
      go_wp2_with fail
      obtain ⟨W, hW⟩ : ∃ W, w1.alloc (.cells #[.bool false, .bool false, .bool false, .int .u64 m, .int .i64 e1] 38) = W := ⟨_, rfl⟩
      obtain ⟨h, hh⟩ : ∃ h, w1.heap.size = h := ⟨_, rfl⟩
      obtain ⟨g, hg⟩ : ∃ g, w.heap.size = g := ⟨_, rfl⟩
      have HB : Hid (Below w.heap.size w W) := by unfold Hid; rw [← hW]; ((repeat (first | refine bel_alloc ?_ _ | refine bel_dN ?_ _ | refine Below.drew ?_ | refine Below.setCell ?_ (by first | (simp; done) | (simp; omega)) _)); refine bel_step ?_ B1; (repeat (first | refine bel_alloc ?_ _ | refine bel_dN ?_ _ | refine Below.drew ?_ | refine Below.setCell ?_ (by first | (simp; done) | (simp; omega)) _)); exact Below.refl _ _)
      have HG : Hid (w.heap.size ≤ h) := by unfold Hid; omega
      have hs : W.heap.size = h + 1 := by rw [← hW, ← hh]; simp
      have k0 : ∀ w, Keeps W w → w.cell? ⟨g, 0, none⟩ = some (.int .u64 8) := fun w h => h.cell (by omega) (by rw [← hW, ← hg]; simp [go_sem, u0, l0])
      have k1 : ∀ w, Keeps W w → w.cell? ⟨g, 1, none⟩ = some (.int .u64 23) := fun w h => h.cell (by omega) (by rw [← hW, ← hg]; simp [go_sem, u1, l0])
      have k2 : ∀ w, Keeps W w → w.cell? ⟨h, 0, none⟩ = some (.bool false) := fun w h => h.cell (by omega) (by rw [← hW, ← hh]; simp)
      have k3 : ∀ w, Keeps W w → w.cell? ⟨h, 1, none⟩ = some (.bool false) := fun w h => h.cell (by omega) (by rw [← hW, ← hh]; simp)
      have k4 : ∀ w, Keeps W w → w.cell? ⟨h, 2, none⟩ = some (.bool false) := fun w h => h.cell (by omega) (by rw [← hW, ← hh]; simp)
      have k5 : ∀ w, Keeps W w → w.cell? ⟨h, 3, none⟩ = some (.int .u64 m) := fun w h => h.cell (by omega) (by rw [← hW, ← hh]; simp)
      have k6 : ∀ w, Keeps W w → w.cell? ⟨h, 4, none⟩ = some (.int .i64 e1) := fun w h => h.cell (by omega) (by rw [← hW, ← hh]; simp)
      have kz : ∀ j w, Keeps W w → w.frozen? ⟨h, j, none⟩ = false := fun j w h => h.frozen (by omega) (by rw [← hW, ← hh]; simp [go_sem])
      rw [hW, hh, hg]
      clear hW hh hg u0 u1 l0 l0b B1
      refine region_qtail (C := Keeps W) 5 (by kernel_rfl) (by kernel_rfl) (Keeps.drew W) ?_
      (iterate 5
    (apply wpQuiet_go _ (by rfl)
     · intro wq hq
       go_simp
       first
         | (go_at_call 47; exact qcall hq (WH.out _))
         | (go_at_call 14; exact qcall hq (O2.out _))
         | exact rfl
     simp only [Act.put, List.setIfInBounds_toArray, List.set_cons_succ, List.set_cons_zero]))
      refine wpQuiet_nil ?_
      intro w3 hk
      have HB3 : Hid (Below w.heap.size w w3) := bel_step HB.out hk.below
      have y0 := k2 _ hk
      have y1 := k3 _ hk
      have y2 := k4 _ hk
      have y3 := k5 _ hk
      have y4 := k6 _ hk
      have f0 := kz 0 _ hk
      have f1 := kz 1 _ hk
      have f2 := kz 2 _ hk
      have f3 := kz 3 _ hk
      have f4 := kz 4 _ hk
      clear k0 k1 k2 k3 k4 k5 k6 kz hk hs HB
      simp only [List.drop_succ_cons, List.drop_zero]
      go_wp2_with fail
      refine (MK.out _).mono ?_
      rintro e' w5 ⟨rfl, hw5⟩
      obtain rfl := hw5
      go_wp2
      refine bodyPost_ret (two_resT Try.results26 _ _ _) rfl ⟨rfl, ?_⟩
      exact ((((HB3.out.setCell (p := ⟨h, 0, none⟩) HG.out _).setCell (p := ⟨h, 1, none⟩) HG.out _).setCell (p := ⟨h, 2, none⟩) HG.out _).setCell (p := ⟨h, 3, none⟩) HG.out _).setCell (p := ⟨h, 4, none⟩) HG.out _
    · skip
      go_enter Try.func26, Try.ntmps26
      go_wp2_with fail
      refine (O1.out _).mono ?_
      rintro e' w1 ⟨rfl, B1⟩
      have u0 : w1.cell? ⟨w.heap.size, 0, none⟩ = some (.int .u64 8) := (B1.cell (p := ⟨w.heap.size, 0, none⟩) (by simp)).trans (by simp)
      have u1 : w1.cell? ⟨w.heap.size, 1, none⟩ = some (.int .u64 23) := (B1.cell (p := ⟨w.heap.size, 1, none⟩) (by simp)).trans (by simp)
      have l0 : w.heap.size < w1.heap.size := by have := B1.size; simp at this; omega
      have l0b : w.heap.size < w1.heap.size + 1 := by omega
      go_wp2_with fail
      obtain ⟨W, hW⟩ : ∃ W, w1.alloc (.cells #[.bool true, .bool false, .bool false, .int .u64 m, .int .i64 e1] 38) = W := ⟨_, rfl⟩
      obtain ⟨h, hh⟩ : ∃ h, w1.heap.size = h := ⟨_, rfl⟩
      obtain ⟨g, hg⟩ : ∃ g, w.heap.size = g := ⟨_, rfl⟩
      have HB : Hid (Below w.heap.size w W) := by unfold Hid; rw [← hW]; ((repeat (first | refine bel_alloc ?_ _ | refine bel_dN ?_ _ | refine Below.drew ?_ | refine Below.setCell ?_ (by first | (simp; done) | (simp; omega)) _)); refine bel_step ?_ B1; (repeat (first | refine bel_alloc ?_ _ | refine bel_dN ?_ _ | refine Below.drew ?_ | refine Below.setCell ?_ (by first | (simp; done) | (simp; omega)) _)); exact Below.refl _ _)
      have HG : Hid (w.heap.size ≤ h) := by unfold Hid; omega
      have hs : W.heap.size = h + 1 := by rw [← hW, ← hh]; simp
      have k0 : ∀ w, Keeps W w → w.cell? ⟨g, 0, none⟩ = some (.int .u64 8) := fun w h => h.cell (by omega) (by rw [← hW, ← hg]; simp [go_sem, u0, l0])
      have k1 : ∀ w, Keeps W w → w.cell? ⟨g, 1, none⟩ = some (.int .u64 23) := fun w h => h.cell (by omega) (by rw [← hW, ← hg]; simp [go_sem, u1, l0])
      have k2 : ∀ w, Keeps W w → w.cell? ⟨h, 0, none⟩ = some (.bool true) := fun w h => h.cell (by omega) (by rw [← hW, ← hh]; simp)
      have k3 : ∀ w, Keeps W w → w.cell? ⟨h, 1, none⟩ = some (.bool false) := fun w h => h.cell (by omega) (by rw [← hW, ← hh]; simp)
      have k4 : ∀ w, Keeps W w → w.cell? ⟨h, 2, none⟩ = some (.bool false) := fun w h => h.cell (by omega) (by rw [← hW, ← hh]; simp)
      have k5 : ∀ w, Keeps W w → w.cell? ⟨h, 3, none⟩ = some (.int .u64 m) := fun w h => h.cell (by omega) (by rw [← hW, ← hh]; simp)
      have k6 : ∀ w, Keeps W w → w.cell? ⟨h, 4, none⟩ = some (.int .i64 e1) := fun w h => h.cell (by omega) (by rw [← hW, ← hh]; simp)
      have kz : ∀ j w, Keeps W w → w.frozen? ⟨h, j, none⟩ = false := fun j w h => h.frozen (by omega) (by rw [← hW, ← hh]; simp [go_sem])
      rw [hW, hh, hg]
      clear hW hh hg u0 u1 l0 l0b B1
      refine region_qtail (C := Keeps W) 5 (by kernel_rfl) (by kernel_rfl) (Keeps.drew W) ?_
      (iterate 5
    (apply wpQuiet_go _ (by rfl)
     · intro wq hq
       go_simp
       first
         | (go_at_call 47; exact qcall hq (WH.out _))
         | (go_at_call 14; exact qcall hq (O2.out _))
         | exact rfl
     simp only [Act.put, List.setIfInBounds_toArray, List.set_cons_succ, List.set_cons_zero]))
      refine wpQuiet_nil ?_
      intro w3 hk
      have HB3 : Hid (Below w.heap.size w w3) := bel_step HB.out hk.below
      have y0 := k2 _ hk
      have y1 := k3 _ hk
      have y2 := k4 _ hk
      have y3 := k5 _ hk
      have y4 := k6 _ hk
      have f0 := kz 0 _ hk
      have f1 := kz 1 _ hk
      have f2 := kz 2 _ hk
      have f3 := kz 3 _ hk
      have f4 := kz 4 _ hk
      clear k0 k1 k2 k3 k4 k5 k6 kz hk hs HB
      simp only [List.drop_succ_cons, List.drop_zero]
      go_wp2_with fail
      refine (MK.out _).mono ?_
      rintro e' w5 ⟨rfl, hw5⟩
      obtain rfl := hw5
      go_wp2
      refine bodyPost_ret (two_resT Try.results26 _ _ _) rfl ⟨rfl, ?_⟩
      exact ((((HB3.out.setCell (p := ⟨h, 0, none⟩) HG.out _).setCell (p := ⟨h, 1, none⟩) HG.out _).setCell (p := ⟨h, 2, none⟩) HG.out _).setCell (p := ⟨h, 3, none⟩) HG.out _).setCell (p := ⟨h, 4, none⟩) HG.out _
  · cases s
    · skip
      go_enter Try.func26, Try.ntmps26
      go_wp2_with fail
      refine (O1.out _).mono ?_
      rintro e' w1 ⟨rfl, B1⟩
      have u0 : w1.cell? ⟨w.heap.size, 0, none⟩ = some (.int .u64 8) := (B1.cell (p := ⟨w.heap.size, 0, none⟩) (by simp)).trans (by simp)
      have u1 : w1.cell? ⟨w.heap.size, 1, none⟩ = some (.int .u64 23) := (B1.cell (p := ⟨w.heap.size, 1, none⟩) (by simp)).trans (by simp)
      have l0 : w.heap.size < w1.heap.size := by have := B1.size; simp at this; omega
      have l0b : w.heap.size < w1.heap.size + 1 := by omega
      go_wp2_with fail
      obtain ⟨W, hW⟩ : ∃ W, w1.alloc (.cells #[.bool false, .bool false, .bool false, .int .u64 m, .int .i64 e1] 38) = W := ⟨_, rfl⟩
      obtain ⟨h, hh⟩ : ∃ h, w1.heap.size = h := ⟨_, rfl⟩
      obtain ⟨g, hg⟩ : ∃ g, w.heap.size = g := ⟨_, rfl⟩
      have HB : Hid (Below w.heap.size w W) := by unfold Hid; rw [← hW]; ((repeat (first | refine bel_alloc ?_ _ | refine bel_dN ?_ _ | refine Below.drew ?_ | refine Below.setCell ?_ (by first | (simp; done) | (simp; omega)) _)); refine bel_step ?_ B1; (repeat (first | refine bel_alloc ?_ _ | refine bel_dN ?_ _ | refine Below.drew ?_ | refine Below.setCell ?_ (by first | (simp; done) | (simp; omega)) _)); exact Below.refl _ _)
      have HG : Hid (w.heap.size ≤ h) := by unfold Hid; omega
      have hs : W.heap.size = h + 1 := by rw [← hW, ← hh]; simp
      have k0 : ∀ w, Keeps W w → w.cell? ⟨g, 0, none⟩ = some (.int .u64 8) := fun w h => h.cell (by omega) (by rw [← hW, ← hg]; simp [go_sem, u0, l0])
      have k1 : ∀ w, Keeps W w → w.cell? ⟨g, 1, none⟩ = some (.int .u64 23) := fun w h => h.cell (by omega) (by rw [← hW, ← hg]; simp [go_sem, u1, l0])
      have k2 : ∀ w, Keeps W w → w.cell? ⟨h, 0, none⟩ = some (.bool false) := fun w h => h.cell (by omega) (by rw [← hW, ← hh]; simp)
      have k3 : ∀ w, Keeps W w → w.cell? ⟨h, 1, none⟩ = some (.bool false) := fun w h => h.cell (by omega) (by rw [← hW, ← hh]; simp)
      have k4 : ∀ w, Keeps W w → w.cell? ⟨h, 2, none⟩ = some (.bool false) := fun w h => h.cell (by omega) (by rw [← hW, ← hh]; simp)
      have k5 : ∀ w, Keeps W w → w.cell? ⟨h, 3, none⟩ = some (.int .u64 m) := fun w h => h.cell (by omega) (by rw [← hW, ← hh]; simp)
      have k6 : ∀ w, Keeps W w → w.cell? ⟨h, 4, none⟩ = some (.int .i64 e1) := fun w h => h.cell (by omega) (by rw [← hW, ← hh]; simp)
      have kz : ∀ j w, Keeps W w → w.frozen? ⟨h, j, none⟩ = false := fun j w h => h.frozen (by omega) (by rw [← hW, ← hh]; simp [go_sem])
      rw [hW, hh, hg]
      clear hW hh hg u0 u1 l0 l0b B1
      refine region_qtail (C := Keeps W) 5 (by kernel_rfl) (by kernel_rfl) (Keeps.drew W) ?_
      (iterate 5
    (apply wpQuiet_go _ (by rfl)
     · intro wq hq
       go_simp
       first
         | (go_at_call 47; exact qcall hq (WH.out _))
         | (go_at_call 14; exact qcall hq (O2.out _))
         | exact rfl
     simp only [Act.put, List.setIfInBounds_toArray, List.set_cons_succ, List.set_cons_zero]))
      refine wpQuiet_nil ?_
      intro w3 hk
      have HB3 : Hid (Below w.heap.size w w3) := bel_step HB.out hk.below
      have y0 := k2 _ hk
      have y1 := k3 _ hk
      have y2 := k4 _ hk
      have y3 := k5 _ hk
      have y4 := k6 _ hk
      have f0 := kz 0 _ hk
      have f1 := kz 1 _ hk
      have f2 := kz 2 _ hk
      have f3 := kz 3 _ hk
      have f4 := kz 4 _ hk
      clear k0 k1 k2 k3 k4 k5 k6 kz hk hs HB
      simp only [List.drop_succ_cons, List.drop_zero]
      go_wp2_with fail
      refine (MK.out _).mono ?_
      rintro e' w5 ⟨rfl, hw5⟩
      obtain rfl := hw5
      go_wp2
      refine bodyPost_ret (two_resT Try.results26 _ _ _) rfl ⟨rfl, ?_⟩
      exact ((((HB3.out.setCell (p := ⟨h, 0, none⟩) HG.out _).setCell (p := ⟨h, 1, none⟩) HG.out _).setCell (p := ⟨h, 2, none⟩) HG.out _).setCell (p := ⟨h, 3, none⟩) HG.out _).setCell (p := ⟨h, 4, none⟩) HG.out _
    · skip
      go_enter Try.func26, Try.ntmps26
      go_wp2_with fail
      refine (O1.out _).mono ?_
      rintro e' w1 ⟨rfl, B1⟩
      have u0 : w1.cell? ⟨w.heap.size, 0, none⟩ = some (.int .u64 8) := (B1.cell (p := ⟨w.heap.size, 0, none⟩) (by simp)).trans (by simp)
      have u1 : w1.cell? ⟨w.heap.size, 1, none⟩ = some (.int .u64 23) := (B1.cell (p := ⟨w.heap.size, 1, none⟩) (by simp)).trans (by simp)
      have l0 : w.heap.size < w1.heap.size := by have := B1.size; simp at this; omega
      have l0b : w.heap.size < w1.heap.size + 1 := by omega
      go_wp2_with fail
      obtain ⟨W, hW⟩ : ∃ W, w1.alloc (.cells #[.bool true, .bool false, .bool false, .int .u64 m, .int .i64 e1] 38) = W := ⟨_, rfl⟩
      obtain ⟨h, hh⟩ : ∃ h, w1.heap.size = h := ⟨_, rfl⟩
      obtain ⟨g, hg⟩ : ∃ g, w.heap.size = g := ⟨_, rfl⟩
      have HB : Hid (Below w.heap.size w W) := by unfold Hid; rw [← hW]; ((repeat (first | refine bel_alloc ?_ _ | refine bel_dN ?_ _ | refine Below.drew ?_ | refine Below.setCell ?_ (by first | (simp; done) | (simp; omega)) _)); refine bel_step ?_ B1; (repeat (first | refine bel_alloc ?_ _ | refine bel_dN ?_ _ | refine Below.drew ?_ | refine Below.setCell ?_ (by first | (simp; done) | (simp; omega)) _)); exact Below.refl _ _)
      have HG : Hid (w.heap.size ≤ h) := by unfold Hid; omega
      have hs : W.heap.size = h + 1 := by rw [← hW, ← hh]; simp
      have k0 : ∀ w, Keeps W w → w.cell? ⟨g, 0, none⟩ = some (.int .u64 8) := fun w h => h.cell (by omega) (by rw [← hW, ← hg]; simp [go_sem, u0, l0])
      have k1 : ∀ w, Keeps W w → w.cell? ⟨g, 1, none⟩ = some (.int .u64 23) := fun w h => h.cell (by omega) (by rw [← hW, ← hg]; simp [go_sem, u1, l0])
      have k2 : ∀ w, Keeps W w → w.cell? ⟨h, 0, none⟩ = some (.bool true) := fun w h => h.cell (by omega) (by rw [← hW, ← hh]; simp)
      have k3 : ∀ w, Keeps W w → w.cell? ⟨h, 1, none⟩ = some (.bool false) := fun w h => h.cell (by omega) (by rw [← hW, ← hh]; simp)
      have k4 : ∀ w, Keeps W w → w.cell? ⟨h, 2, none⟩ = some (.bool false) := fun w h => h.cell (by omega) (by rw [← hW, ← hh]; simp)
      have k5 : ∀ w, Keeps W w → w.cell? ⟨h, 3, none⟩ = some (.int .u64 m) := fun w h => h.cell (by omega) (by rw [← hW, ← hh]; simp)
      have k6 : ∀ w, Keeps W w → w.cell? ⟨h, 4, none⟩ = some (.int .i64 e1) := fun w h => h.cell (by omega) (by rw [← hW, ← hh]; simp)
      have kz : ∀ j w, Keeps W w → w.frozen? ⟨h, j, none⟩ = false := fun j w h => h.frozen (by omega) (by rw [← hW, ← hh]; simp [go_sem])
      rw [hW, hh, hg]
      clear hW hh hg u0 u1 l0 l0b B1
      refine region_qtail (C := Keeps W) 5 (by kernel_rfl) (by kernel_rfl) (Keeps.drew W) ?_
      (iterate 5
    (apply wpQuiet_go _ (by rfl)
     · intro wq hq
       go_simp
       first
         | (go_at_call 47; exact qcall hq (WH.out _))
         | (go_at_call 14; exact qcall hq (O2.out _))
         | exact rfl
     simp only [Act.put, List.setIfInBounds_toArray, List.set_cons_succ, List.set_cons_zero]))
      refine wpQuiet_nil ?_
      intro w3 hk
      have HB3 : Hid (Below w.heap.size w w3) := bel_step HB.out hk.below
      have y0 := k2 _ hk
      have y1 := k3 _ hk
      have y2 := k4 _ hk
      have y3 := k5 _ hk
      have y4 := k6 _ hk
      have f0 := kz 0 _ hk
      have f1 := kz 1 _ hk
      have f2 := kz 2 _ hk
      have f3 := kz 3 _ hk
      have f4 := kz 4 _ hk
      clear k0 k1 k2 k3 k4 k5 k6 kz hk hs HB
      simp only [List.drop_succ_cons, List.drop_zero]
      go_wp2_with fail
      refine (MK.out _).mono ?_
      rintro e' w5 ⟨rfl, hw5⟩
      obtain rfl := hw5
      go_wp2
      refine bodyPost_ret (two_resT Try.results26 _ _ _) rfl ⟨rfl, ?_⟩
      exact ((((HB3.out.setCell (p := ⟨h, 0, none⟩) HG.out _).setCell (p := ⟨h, 1, none⟩) HG.out _).setCell (p := ⟨h, 2, none⟩) HG.out _).setCell (p := ⟨h, 3, none⟩) HG.out _).setCell (p := ⟨h, 4, none⟩) HG.out _

end Go.Proofs.Ytlkbalmkljabhab
