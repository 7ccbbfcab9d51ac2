/-
  FToInt: the law's side, a way through it.
-/
import Derived.Test.YtlkbalmkljabhabFTiI
namespace Go.Proofs.Ytlkbalmkljabhab
open Go.RowKit

set_option maxHeartbeats 2000000 in
theorem toiS_B64_16 (a b m e1 m2 e2 V : Int) (s sg : Bool) (O1 : Hid (∀ w, Calls Try.prog 14 #[(.agg #[.int .u64 5, .int .u64 10]), .int .u32 a] w fun e w' => e = .returned (.agg #[.bool s, .bool false, .bool false, .int .u64 m, .int .i64 e1]) ∧ Below w.heap.size w w'))
    (WH : Hid (∀ w, Calls Try.prog 47 #[(.agg #[.int .u64 5, .int .u64 10]), .int .i64 3, .agg #[.bool s, .bool false, .bool false, .int .u64 m, .int .i64 e1]] w fun x w' => x = .returned (.int .u32 b) ∧ Below w.heap.size w w'))
    (O2 : Hid (∀ w, Calls Try.prog 14 #[(.agg #[.int .u64 5, .int .u64 10]), .int .u32 b] w fun e w' => e = .returned (.agg #[.bool s, .bool false, .bool false, .int .u64 m2, .int .i64 e2]) ∧ Below w.heap.size w w'))
    (E : Nat) (he : e2 = (E : Int)) (hE : E ≤ 40) (hv : IntKind.u64.wrap (m2 * 2 ^ E) = V) (h0 : 0 ≤ V) (h1 : V ≤ 18446744073709551615) (w : World) :
    Calls Try.prog 26 #[(.agg #[.int .u64 5, .int .u64 10]), .int .u32 a, .int .i64 64, .bool sg] w fun e w' => e = .returned (toi 9223372036854775808 18446744073709551616 s V sg) ∧ Below w.heap.size w w' := by
  subst he
  have p1 : ¬ 40 < (E : Int) := by omega
  have p2 : (0 : Int) ≤ (E : Int) := by omega
  have p3 : IntKind.u64.wrap (E : Int) = (E : Int) := by rw [IntKind.wrap_u64]; omega
  have p4 : min E 64 = E := by omega
  clear hE
  cases sg
  · cases s
    · have hV : V < 18446744073709551616 := by omega
      rw [show toi 9223372036854775808 18446744073709551616 false V false = .tuple #[.int .u64 (V % 18446744073709551616), .int .i64 0] by unfold toi hol; simp [*]]
      have MK : Hid (∀ w, Calls Try.prog 48 #[.int .i64 64, .int .u64 V] w fun e w' => e = .returned (.int .u64 (V % 18446744073709551616)) ∧ w' = w) := by
        intro w
        refine (specMask64T V w).mono ?_
        rintro e w' ⟨rfl, hw⟩
        exact ⟨ret_int (by first | omega | (rw [IntKind.wrap_u64] <;> omega)), hw⟩
      clear h0 h1
      go_enter Try.func26, Try.ntmps26
      go_wp2_with fail
      refine (O1.out _).mono ?_
      rintro e' w1 ⟨rfl, B1⟩
      have u0 : w1.cell? ⟨w.heap.size, 0, none⟩ = some (.int .u64 5) := (B1.cell (p := ⟨w.heap.size, 0, none⟩) (by simp)).trans (by simp)
      have u1 : w1.cell? ⟨w.heap.size, 1, none⟩ = some (.int .u64 10) := (B1.cell (p := ⟨w.heap.size, 1, none⟩) (by simp)).trans (by simp)
      have l0 : w.heap.size < w1.heap.size := by have := B1.size; simp at this; omega
      have l0b : w.heap.size < w1.heap.size + 1 := by omega
      go_wp2_with fail
      obtain ⟨W, hW⟩ : ∃ W, w1.alloc (.cells #[.bool false, .bool false, .bool false, .int .u64 m, .int .i64 e1] 38) = W := ⟨_, rfl⟩
      obtain ⟨h, hh⟩ : ∃ h, w1.heap.size = h := ⟨_, rfl⟩
      obtain ⟨g, hg⟩ : ∃ g, w.heap.size = g := ⟨_, rfl⟩
      have HB : Hid (Below w.heap.size w W) := by unfold Hid; rw [← hW]; ((repeat (first | refine bel_alloc ?_ _ | refine bel_dN ?_ _ | refine Below.drew ?_ | refine Below.setCell ?_ (by first | (simp; done) | (simp; omega)) _)); refine bel_step ?_ B1; (repeat (first | refine bel_alloc ?_ _ | refine bel_dN ?_ _ | refine Below.drew ?_ | refine Below.setCell ?_ (by first | (simp; done) | (simp; omega)) _)); exact Below.refl _ _)
      have HG : Hid (w.heap.size ≤ h) := by unfold Hid; omega
      have hs : W.heap.size = h + 1 := by rw [← hW, ← hh]; simp
      have k0 : ∀ w, Keeps W w → w.cell? ⟨g, 0, none⟩ = some (.int .u64 5) := fun w h => h.cell (by omega) (by rw [← hW, ← hg]; simp [go_sem, u0, l0])
      have k1 : ∀ w, Keeps W w → w.cell? ⟨g, 1, none⟩ = some (.int .u64 10) := fun w h => h.cell (by omega) (by rw [← hW, ← hg]; simp [go_sem, u1, l0])
      have k2 : ∀ w, Keeps W w → w.cell? ⟨h, 0, none⟩ = some (.bool false) := fun w h => h.cell (by omega) (by rw [← hW, ← hh]; simp)
      have k3 : ∀ w, Keeps W w → w.cell? ⟨h, 1, none⟩ = some (.bool false) := fun w h => h.cell (by omega) (by rw [← hW, ← hh]; simp)
      have k4 : ∀ w, Keeps W w → w.cell? ⟨h, 2, none⟩ = some (.bool false) := fun w h => h.cell (by omega) (by rw [← hW, ← hh]; simp)
      have k5 : ∀ w, Keeps W w → w.cell? ⟨h, 3, none⟩ = some (.int .u64 m) := fun w h => h.cell (by omega) (by rw [← hW, ← hh]; simp)
      have k6 : ∀ w, Keeps W w → w.cell? ⟨h, 4, none⟩ = some (.int .i64 e1) := fun w h => h.cell (by omega) (by rw [← hW, ← hh]; simp)
      have kz : ∀ j w, Keeps W w → w.frozen? ⟨h, j, none⟩ = false := fun j w h => h.frozen (by omega) (by rw [← hW, ← hh]; simp [go_sem])
      rw [hW, hh, hg]
      clear hW hh hg u0 u1 l0 l0b B1
      refine region_qtail (C := Keeps W) 5 (by kernel_rfl) (by kernel_rfl) (Keeps.drew W) ?_
      (iterate 5
    (apply wpQuiet_go _ (by rfl)
     · intro wq hq
       go_simp
       first
         | (go_at_call 47; exact qcall hq (WH.out _))
         | (go_at_call 14; exact qcall hq (O2.out _))
         | exact rfl
     simp only [Act.put, List.setIfInBounds_toArray, List.set_cons_succ, List.set_cons_zero]))
      refine wpQuiet_nil ?_
      intro w3 hk
      have HB3 : Hid (Below w.heap.size w w3) := bel_step HB.out hk.below
      have y0 := k2 _ hk
      have y1 := k3 _ hk
      have y2 := k4 _ hk
      have y3 := k5 _ hk
      have y4 := k6 _ hk
      have f0 := kz 0 _ hk
      have f1 := kz 1 _ hk
      have f2 := kz 2 _ hk
      have f3 := kz 3 _ hk
      have f4 := kz 4 _ hk
      clear k0 k1 k2 k3 k4 k5 k6 kz hk hs HB
      simp only [List.drop_succ_cons, List.drop_zero]
      go_wp2_with fail
      refine (MK.out _).mono ?_
      rintro e' w5 ⟨rfl, hw5⟩
      obtain rfl := hw5
      go_wp2
      refine bodyPost_ret (two_resT Try.results26 _ _ _) rfl ⟨rfl, ?_⟩
      exact ((((HB3.out.setCell (p := ⟨h, 0, none⟩) HG.out _).setCell (p := ⟨h, 1, none⟩) HG.out _).setCell (p := ⟨h, 2, none⟩) HG.out _).setCell (p := ⟨h, 3, none⟩) HG.out _).setCell (p := ⟨h, 4, none⟩) HG.out _
    · by_cases hV : V = 0
      · have a1 : (V != 0) = false := by simp [hV]
        have a3 : (V == 0) = true := by simp [hV]
        have a2 : ¬ 4294967295 < V := by omega
        have a4 : decide (4294967295 < V) = false := by simpa using a2
        rw [show toi 9223372036854775808 18446744073709551616 true V false = .tuple #[.int .u64 (-V % 18446744073709551616), .int .i64 0] by unfold toi hol; simp [*]]
        have MK : Hid (∀ w, Calls Try.prog 48 #[.int .i64 64, .int .u64 (IntKind.u64.wrap (-V))] w fun e w' => e = .returned (.int .u64 (-V % 18446744073709551616)) ∧ w' = w) := by
          intro w
          refine (specMask64T (IntKind.u64.wrap (-V)) w).mono ?_
          rintro e w' ⟨rfl, hw⟩
          exact ⟨ret_int (by first | omega | (rw [IntKind.wrap_u64] <;> omega)), hw⟩
        clear h0 h1 hV
        go_enter Try.func26, Try.ntmps26
        go_wp2_with fail
        refine (O1.out _).mono ?_
        rintro e' w1 ⟨rfl, B1⟩
        have u0 : w1.cell? ⟨w.heap.size, 0, none⟩ = some (.int .u64 5) := (B1.cell (p := ⟨w.heap.size, 0, none⟩) (by simp)).trans (by simp)
        have u1 : w1.cell? ⟨w.heap.size, 1, none⟩ = some (.int .u64 10) := (B1.cell (p := ⟨w.heap.size, 1, none⟩) (by simp)).trans (by simp)
        have l0 : w.heap.size < w1.heap.size := by have := B1.size; simp at this; omega
        have l0b : w.heap.size < w1.heap.size + 1 := by omega
        go_wp2_with fail
        obtain ⟨W, hW⟩ : ∃ W, w1.alloc (.cells #[.bool true, .bool false, .bool false, .int .u64 m, .int .i64 e1] 38) = W := ⟨_, rfl⟩
        obtain ⟨h, hh⟩ : ∃ h, w1.heap.size = h := ⟨_, rfl⟩
        obtain ⟨g, hg⟩ : ∃ g, w.heap.size = g := ⟨_, rfl⟩
        have HB : Hid (Below w.heap.size w W) := by unfold Hid; rw [← hW]; ((repeat (first | refine bel_alloc ?_ _ | refine bel_dN ?_ _ | refine Below.drew ?_ | refine Below.setCell ?_ (by first | (simp; done) | (simp; omega)) _)); refine bel_step ?_ B1; (repeat (first | refine bel_alloc ?_ _ | refine bel_dN ?_ _ | refine Below.drew ?_ | refine Below.setCell ?_ (by first | (simp; done) | (simp; omega)) _)); exact Below.refl _ _)
        have HG : Hid (w.heap.size ≤ h) := by unfold Hid; omega
        have hs : W.heap.size = h + 1 := by rw [← hW, ← hh]; simp
        have k0 : ∀ w, Keeps W w → w.cell? ⟨g, 0, none⟩ = some (.int .u64 5) := fun w h => h.cell (by omega) (by rw [← hW, ← hg]; simp [go_sem, u0, l0])
        have k1 : ∀ w, Keeps W w → w.cell? ⟨g, 1, none⟩ = some (.int .u64 10) := fun w h => h.cell (by omega) (by rw [← hW, ← hg]; simp [go_sem, u1, l0])
        have k2 : ∀ w, Keeps W w → w.cell? ⟨h, 0, none⟩ = some (.bool true) := fun w h => h.cell (by omega) (by rw [← hW, ← hh]; simp)
        have k3 : ∀ w, Keeps W w → w.cell? ⟨h, 1, none⟩ = some (.bool false) := fun w h => h.cell (by omega) (by rw [← hW, ← hh]; simp)
        have k4 : ∀ w, Keeps W w → w.cell? ⟨h, 2, none⟩ = some (.bool false) := fun w h => h.cell (by omega) (by rw [← hW, ← hh]; simp)
        have k5 : ∀ w, Keeps W w → w.cell? ⟨h, 3, none⟩ = some (.int .u64 m) := fun w h => h.cell (by omega) (by rw [← hW, ← hh]; simp)
        have k6 : ∀ w, Keeps W w → w.cell? ⟨h, 4, none⟩ = some (.int .i64 e1) := fun w h => h.cell (by omega) (by rw [← hW, ← hh]; simp)
        have kz : ∀ j w, Keeps W w → w.frozen? ⟨h, j, none⟩ = false := fun j w h => h.frozen (by omega) (by rw [← hW, ← hh]; simp [go_sem])
        rw [hW, hh, hg]
        clear hW hh hg u0 u1 l0 l0b B1
        refine region_qtail (C := Keeps W) 5 (by kernel_rfl) (by kernel_rfl) (Keeps.drew W) ?_
        (iterate 5
    (apply wpQuiet_go _ (by rfl)
     · intro wq hq
       go_simp
       first
         | (go_at_call 47; exact qcall hq (WH.out _))
         | (go_at_call 14; exact qcall hq (O2.out _))
         | exact rfl
     simp only [Act.put, List.setIfInBounds_toArray, List.set_cons_succ, List.set_cons_zero]))
        refine wpQuiet_nil ?_
        intro w3 hk
        have HB3 : Hid (Below w.heap.size w w3) := bel_step HB.out hk.below
        have y0 := k2 _ hk
        have y1 := k3 _ hk
        have y2 := k4 _ hk
        have y3 := k5 _ hk
        have y4 := k6 _ hk
        have f0 := kz 0 _ hk
        have f1 := kz 1 _ hk
        have f2 := kz 2 _ hk
        have f3 := kz 3 _ hk
        have f4 := kz 4 _ hk
        clear k0 k1 k2 k3 k4 k5 k6 kz hk hs HB
        simp only [List.drop_succ_cons, List.drop_zero]
        go_wp2_with fail
        refine (MK.out _).mono ?_
        rintro e' w5 ⟨rfl, hw5⟩
        obtain rfl := hw5
        go_wp2
        refine bodyPost_ret (two_resT Try.results26 _ _ _) rfl ⟨rfl, ?_⟩
        exact ((((HB3.out.setCell (p := ⟨h, 0, none⟩) HG.out _).setCell (p := ⟨h, 1, none⟩) HG.out _).setCell (p := ⟨h, 2, none⟩) HG.out _).setCell (p := ⟨h, 3, none⟩) HG.out _).setCell (p := ⟨h, 4, none⟩) HG.out _
      · have a1 : (V != 0) = true := by simp [hV]
        have a3 : (V == 0) = false := by simp [hV]
        rw [show toi 9223372036854775808 18446744073709551616 true V false = tooGreat by unfold toi hol tooGreat; simp [*]]
        clear h0 h1
        go_enter Try.func26, Try.ntmps26
        go_wp2_with fail
        refine (O1.out _).mono ?_
        rintro e' w1 ⟨rfl, B1⟩
        have u0 : w1.cell? ⟨w.heap.size, 0, none⟩ = some (.int .u64 5) := (B1.cell (p := ⟨w.heap.size, 0, none⟩) (by simp)).trans (by simp)
        have u1 : w1.cell? ⟨w.heap.size, 1, none⟩ = some (.int .u64 10) := (B1.cell (p := ⟨w.heap.size, 1, none⟩) (by simp)).trans (by simp)
        have l0 : w.heap.size < w1.heap.size := by have := B1.size; simp at this; omega
        have l0b : w.heap.size < w1.heap.size + 1 := by omega
        go_wp2_with fail
        obtain ⟨W, hW⟩ : ∃ W, w1.alloc (.cells #[.bool true, .bool false, .bool false, .int .u64 m, .int .i64 e1] 38) = W := ⟨_, rfl⟩
        obtain ⟨h, hh⟩ : ∃ h, w1.heap.size = h := ⟨_, rfl⟩
        obtain ⟨g, hg⟩ : ∃ g, w.heap.size = g := ⟨_, rfl⟩
        have HB : Hid (Below w.heap.size w W) := by unfold Hid; rw [← hW]; ((repeat (first | refine bel_alloc ?_ _ | refine bel_dN ?_ _ | refine Below.drew ?_ | refine Below.setCell ?_ (by first | (simp; done) | (simp; omega)) _)); refine bel_step ?_ B1; (repeat (first | refine bel_alloc ?_ _ | refine bel_dN ?_ _ | refine Below.drew ?_ | refine Below.setCell ?_ (by first | (simp; done) | (simp; omega)) _)); exact Below.refl _ _)
        have HG : Hid (w.heap.size ≤ h) := by unfold Hid; omega
        have hs : W.heap.size = h + 1 := by rw [← hW, ← hh]; simp
        have k0 : ∀ w, Keeps W w → w.cell? ⟨g, 0, none⟩ = some (.int .u64 5) := fun w h => h.cell (by omega) (by rw [← hW, ← hg]; simp [go_sem, u0, l0])
        have k1 : ∀ w, Keeps W w → w.cell? ⟨g, 1, none⟩ = some (.int .u64 10) := fun w h => h.cell (by omega) (by rw [← hW, ← hg]; simp [go_sem, u1, l0])
        have k2 : ∀ w, Keeps W w → w.cell? ⟨h, 0, none⟩ = some (.bool true) := fun w h => h.cell (by omega) (by rw [← hW, ← hh]; simp)
        have k3 : ∀ w, Keeps W w → w.cell? ⟨h, 1, none⟩ = some (.bool false) := fun w h => h.cell (by omega) (by rw [← hW, ← hh]; simp)
        have k4 : ∀ w, Keeps W w → w.cell? ⟨h, 2, none⟩ = some (.bool false) := fun w h => h.cell (by omega) (by rw [← hW, ← hh]; simp)
        have k5 : ∀ w, Keeps W w → w.cell? ⟨h, 3, none⟩ = some (.int .u64 m) := fun w h => h.cell (by omega) (by rw [← hW, ← hh]; simp)
        have k6 : ∀ w, Keeps W w → w.cell? ⟨h, 4, none⟩ = some (.int .i64 e1) := fun w h => h.cell (by omega) (by rw [← hW, ← hh]; simp)
        have kz : ∀ j w, Keeps W w → w.frozen? ⟨h, j, none⟩ = false := fun j w h => h.frozen (by omega) (by rw [← hW, ← hh]; simp [go_sem])
        rw [hW, hh, hg]
        clear hW hh hg u0 u1 l0 l0b B1
        refine region_qtail (C := Keeps W) 5 (by kernel_rfl) (by kernel_rfl) (Keeps.drew W) ?_
        (iterate 5
    (apply wpQuiet_go _ (by rfl)
     · intro wq hq
       go_simp
       first
         | (go_at_call 47; exact qcall hq (WH.out _))
         | (go_at_call 14; exact qcall hq (O2.out _))
         | exact rfl
     simp only [Act.put, List.setIfInBounds_toArray, List.set_cons_succ, List.set_cons_zero]))
        refine wpQuiet_nil ?_
        intro w3 hk
        have HB3 : Hid (Below w.heap.size w w3) := bel_step HB.out hk.below
        have y0 := k2 _ hk
        have y1 := k3 _ hk
        have y2 := k4 _ hk
        have y3 := k5 _ hk
        have y4 := k6 _ hk
        have f0 := kz 0 _ hk
        have f1 := kz 1 _ hk
        have f2 := kz 2 _ hk
        have f3 := kz 3 _ hk
        have f4 := kz 4 _ hk
        clear k0 k1 k2 k3 k4 k5 k6 kz hk hs HB
        simp only [List.drop_succ_cons, List.drop_zero]
        go_wp2
        refine bodyPost_ret (two_resT Try.results26 _ _ _) rfl ⟨rfl, ?_⟩
        exact ((((HB3.out.setCell (p := ⟨h, 0, none⟩) HG.out _).setCell (p := ⟨h, 1, none⟩) HG.out _).setCell (p := ⟨h, 2, none⟩) HG.out _).setCell (p := ⟨h, 3, none⟩) HG.out _).setCell (p := ⟨h, 4, none⟩) HG.out _
  · cases s
    · by_cases hV : V < 9223372036854775808
      · have a1 : ¬ 9223372036854775808 < V := by omega
        have a2 : decide (9223372036854775808 < V) = false := by simp; omega
        have a3 : (V == 9223372036854775808) = false := by simp; omega
        rw [show toi 9223372036854775808 18446744073709551616 false V true = .tuple #[.int .u64 (V % 18446744073709551616), .int .i64 0] by unfold toi hol; simp [*]]
        have MK : Hid (∀ w, Calls Try.prog 48 #[.int .i64 64, .int .u64 V] w fun e w' => e = .returned (.int .u64 (V % 18446744073709551616)) ∧ w' = w) := by
          intro w
          refine (specMask64T V w).mono ?_
          rintro e w' ⟨rfl, hw⟩
          exact ⟨ret_int (by first | omega | (rw [IntKind.wrap_u64] <;> omega)), hw⟩
        clear h0 h1
        go_enter Try.func26, Try.ntmps26
        go_wp2_with fail
        refine (O1.out _).mono ?_
        rintro e' w1 ⟨rfl, B1⟩
        have u0 : w1.cell? ⟨w.heap.size, 0, none⟩ = some (.int .u64 5) := (B1.cell (p := ⟨w.heap.size, 0, none⟩) (by simp)).trans (by simp)
        have u1 : w1.cell? ⟨w.heap.size, 1, none⟩ = some (.int .u64 10) := (B1.cell (p := ⟨w.heap.size, 1, none⟩) (by simp)).trans (by simp)
        have l0 : w.heap.size < w1.heap.size := by have := B1.size; simp at this; omega
        have l0b : w.heap.size < w1.heap.size + 1 := by omega
        go_wp2_with fail
        obtain ⟨W, hW⟩ : ∃ W, w1.alloc (.cells #[.bool false, .bool false, .bool false, .int .u64 m, .int .i64 e1] 38) = W := ⟨_, rfl⟩
        obtain ⟨h, hh⟩ : ∃ h, w1.heap.size = h := ⟨_, rfl⟩
        obtain ⟨g, hg⟩ : ∃ g, w.heap.size = g := ⟨_, rfl⟩
        have HB : Hid (Below w.heap.size w W) := by unfold Hid; rw [← hW]; ((repeat (first | refine bel_alloc ?_ _ | refine bel_dN ?_ _ | refine Below.drew ?_ | refine Below.setCell ?_ (by first | (simp; done) | (simp; omega)) _)); refine bel_step ?_ B1; (repeat (first | refine bel_alloc ?_ _ | refine bel_dN ?_ _ | refine Below.drew ?_ | refine Below.setCell ?_ (by first | (simp; done) | (simp; omega)) _)); exact Below.refl _ _)
        have HG : Hid (w.heap.size ≤ h) := by unfold Hid; omega
        have hs : W.heap.size = h + 1 := by rw [← hW, ← hh]; simp
        have k0 : ∀ w, Keeps W w → w.cell? ⟨g, 0, none⟩ = some (.int .u64 5) := fun w h => h.cell (by omega) (by rw [← hW, ← hg]; simp [go_sem, u0, l0])
        have k1 : ∀ w, Keeps W w → w.cell? ⟨g, 1, none⟩ = some (.int .u64 10) := fun w h => h.cell (by omega) (by rw [← hW, ← hg]; simp [go_sem, u1, l0])
        have k2 : ∀ w, Keeps W w → w.cell? ⟨h, 0, none⟩ = some (.bool false) := fun w h => h.cell (by omega) (by rw [← hW, ← hh]; simp)
        have k3 : ∀ w, Keeps W w → w.cell? ⟨h, 1, none⟩ = some (.bool false) := fun w h => h.cell (by omega) (by rw [← hW, ← hh]; simp)
        have k4 : ∀ w, Keeps W w → w.cell? ⟨h, 2, none⟩ = some (.bool false) := fun w h => h.cell (by omega) (by rw [← hW, ← hh]; simp)
        have k5 : ∀ w, Keeps W w → w.cell? ⟨h, 3, none⟩ = some (.int .u64 m) := fun w h => h.cell (by omega) (by rw [← hW, ← hh]; simp)
        have k6 : ∀ w, Keeps W w → w.cell? ⟨h, 4, none⟩ = some (.int .i64 e1) := fun w h => h.cell (by omega) (by rw [← hW, ← hh]; simp)
        have kz : ∀ j w, Keeps W w → w.frozen? ⟨h, j, none⟩ = false := fun j w h => h.frozen (by omega) (by rw [← hW, ← hh]; simp [go_sem])
        rw [hW, hh, hg]
        clear hW hh hg u0 u1 l0 l0b B1
        refine region_qtail (C := Keeps W) 5 (by kernel_rfl) (by kernel_rfl) (Keeps.drew W) ?_
        (iterate 5
    (apply wpQuiet_go _ (by rfl)
     · intro wq hq
       go_simp
       first
         | (go_at_call 47; exact qcall hq (WH.out _))
         | (go_at_call 14; exact qcall hq (O2.out _))
         | exact rfl
     simp only [Act.put, List.setIfInBounds_toArray, List.set_cons_succ, List.set_cons_zero]))
        refine wpQuiet_nil ?_
        intro w3 hk
        have HB3 : Hid (Below w.heap.size w w3) := bel_step HB.out hk.below
        have y0 := k2 _ hk
        have y1 := k3 _ hk
        have y2 := k4 _ hk
        have y3 := k5 _ hk
        have y4 := k6 _ hk
        have f0 := kz 0 _ hk
        have f1 := kz 1 _ hk
        have f2 := kz 2 _ hk
        have f3 := kz 3 _ hk
        have f4 := kz 4 _ hk
        clear k0 k1 k2 k3 k4 k5 k6 kz hk hs HB
        simp only [List.drop_succ_cons, List.drop_zero]
        go_wp2_with fail
        refine (MK.out _).mono ?_
        rintro e' w5 ⟨rfl, hw5⟩
        obtain rfl := hw5
        go_wp2
        refine bodyPost_ret (two_resT Try.results26 _ _ _) rfl ⟨rfl, ?_⟩
        exact ((((HB3.out.setCell (p := ⟨h, 0, none⟩) HG.out _).setCell (p := ⟨h, 1, none⟩) HG.out _).setCell (p := ⟨h, 2, none⟩) HG.out _).setCell (p := ⟨h, 3, none⟩) HG.out _).setCell (p := ⟨h, 4, none⟩) HG.out _
      · by_cases hV2 : V = 9223372036854775808
        · have a1 : ¬ 9223372036854775808 < V := by omega
          have a2 : decide (9223372036854775808 < V) = false := by simp; omega
          have a3 : (V == 9223372036854775808) = true := by simp [hV2]
          rw [show toi 9223372036854775808 18446744073709551616 false V true = tooGreat by unfold toi hol tooGreat; simp [*]]
          clear h0 h1 hV2
          go_enter Try.func26, Try.ntmps26
          go_wp2_with fail
          refine (O1.out _).mono ?_
          rintro e' w1 ⟨rfl, B1⟩
          have u0 : w1.cell? ⟨w.heap.size, 0, none⟩ = some (.int .u64 5) := (B1.cell (p := ⟨w.heap.size, 0, none⟩) (by simp)).trans (by simp)
          have u1 : w1.cell? ⟨w.heap.size, 1, none⟩ = some (.int .u64 10) := (B1.cell (p := ⟨w.heap.size, 1, none⟩) (by simp)).trans (by simp)
          have l0 : w.heap.size < w1.heap.size := by have := B1.size; simp at this; omega
          have l0b : w.heap.size < w1.heap.size + 1 := by omega
          go_wp2_with fail
          obtain ⟨W, hW⟩ : ∃ W, w1.alloc (.cells #[.bool false, .bool false, .bool false, .int .u64 m, .int .i64 e1] 38) = W := ⟨_, rfl⟩
          obtain ⟨h, hh⟩ : ∃ h, w1.heap.size = h := ⟨_, rfl⟩
          obtain ⟨g, hg⟩ : ∃ g, w.heap.size = g := ⟨_, rfl⟩
          have HB : Hid (Below w.heap.size w W) := by unfold Hid; rw [← hW]; ((repeat (first | refine bel_alloc ?_ _ | refine bel_dN ?_ _ | refine Below.drew ?_ | refine Below.setCell ?_ (by first | (simp; done) | (simp; omega)) _)); refine bel_step ?_ B1; (repeat (first | refine bel_alloc ?_ _ | refine bel_dN ?_ _ | refine Below.drew ?_ | refine Below.setCell ?_ (by first | (simp; done) | (simp; omega)) _)); exact Below.refl _ _)
          have HG : Hid (w.heap.size ≤ h) := by unfold Hid; omega
          have hs : W.heap.size = h + 1 := by rw [← hW, ← hh]; simp
          have k0 : ∀ w, Keeps W w → w.cell? ⟨g, 0, none⟩ = some (.int .u64 5) := fun w h => h.cell (by omega) (by rw [← hW, ← hg]; simp [go_sem, u0, l0])
          have k1 : ∀ w, Keeps W w → w.cell? ⟨g, 1, none⟩ = some (.int .u64 10) := fun w h => h.cell (by omega) (by rw [← hW, ← hg]; simp [go_sem, u1, l0])
          have k2 : ∀ w, Keeps W w → w.cell? ⟨h, 0, none⟩ = some (.bool false) := fun w h => h.cell (by omega) (by rw [← hW, ← hh]; simp)
          have k3 : ∀ w, Keeps W w → w.cell? ⟨h, 1, none⟩ = some (.bool false) := fun w h => h.cell (by omega) (by rw [← hW, ← hh]; simp)
          have k4 : ∀ w, Keeps W w → w.cell? ⟨h, 2, none⟩ = some (.bool false) := fun w h => h.cell (by omega) (by rw [← hW, ← hh]; simp)
          have k5 : ∀ w, Keeps W w → w.cell? ⟨h, 3, none⟩ = some (.int .u64 m) := fun w h => h.cell (by omega) (by rw [← hW, ← hh]; simp)
          have k6 : ∀ w, Keeps W w → w.cell? ⟨h, 4, none⟩ = some (.int .i64 e1) := fun w h => h.cell (by omega) (by rw [← hW, ← hh]; simp)
          have kz : ∀ j w, Keeps W w → w.frozen? ⟨h, j, none⟩ = false := fun j w h => h.frozen (by omega) (by rw [← hW, ← hh]; simp [go_sem])
          rw [hW, hh, hg]
          clear hW hh hg u0 u1 l0 l0b B1
          refine region_qtail (C := Keeps W) 5 (by kernel_rfl) (by kernel_rfl) (Keeps.drew W) ?_
          (iterate 5
    (apply wpQuiet_go _ (by rfl)
     · intro wq hq
       go_simp
       first
         | (go_at_call 47; exact qcall hq (WH.out _))
         | (go_at_call 14; exact qcall hq (O2.out _))
         | exact rfl
     simp only [Act.put, List.setIfInBounds_toArray, List.set_cons_succ, List.set_cons_zero]))
          refine wpQuiet_nil ?_
          intro w3 hk
          have HB3 : Hid (Below w.heap.size w w3) := bel_step HB.out hk.below
          have y0 := k2 _ hk
          have y1 := k3 _ hk
          have y2 := k4 _ hk
          have y3 := k5 _ hk
          have y4 := k6 _ hk
          have f0 := kz 0 _ hk
          have f1 := kz 1 _ hk
          have f2 := kz 2 _ hk
          have f3 := kz 3 _ hk
          have f4 := kz 4 _ hk
          clear k0 k1 k2 k3 k4 k5 k6 kz hk hs HB
          simp only [List.drop_succ_cons, List.drop_zero]
          go_wp2
          refine bodyPost_ret (two_resT Try.results26 _ _ _) rfl ⟨rfl, ?_⟩
          exact ((((HB3.out.setCell (p := ⟨h, 0, none⟩) HG.out _).setCell (p := ⟨h, 1, none⟩) HG.out _).setCell (p := ⟨h, 2, none⟩) HG.out _).setCell (p := ⟨h, 3, none⟩) HG.out _).setCell (p := ⟨h, 4, none⟩) HG.out _
        · have a1 : 9223372036854775808 < V := by omega
          have a2 : decide (9223372036854775808 < V) = true := by simp; omega
          rw [show toi 9223372036854775808 18446744073709551616 false V true = tooGreat by unfold toi hol tooGreat; simp [*]]
          clear h0 h1
          go_enter Try.func26, Try.ntmps26
          go_wp2_with fail
          refine (O1.out _).mono ?_
          rintro e' w1 ⟨rfl, B1⟩
          have u0 : w1.cell? ⟨w.heap.size, 0, none⟩ = some (.int .u64 5) := (B1.cell (p := ⟨w.heap.size, 0, none⟩) (by simp)).trans (by simp)
          have u1 : w1.cell? ⟨w.heap.size, 1, none⟩ = some (.int .u64 10) := (B1.cell (p := ⟨w.heap.size, 1, none⟩) (by simp)).trans (by simp)
          have l0 : w.heap.size < w1.heap.size := by have := B1.size; simp at this; omega
          have l0b : w.heap.size < w1.heap.size + 1 := by omega
          go_wp2_with fail
          obtain ⟨W, hW⟩ : ∃ W, w1.alloc (.cells #[.bool false, .bool false, .bool false, .int .u64 m, .int .i64 e1] 38) = W := ⟨_, rfl⟩
          obtain ⟨h, hh⟩ : ∃ h, w1.heap.size = h := ⟨_, rfl⟩
          obtain ⟨g, hg⟩ : ∃ g, w.heap.size = g := ⟨_, rfl⟩
          have HB : Hid (Below w.heap.size w W) := by unfold Hid; rw [← hW]; ((repeat (first | refine bel_alloc ?_ _ | refine bel_dN ?_ _ | refine Below.drew ?_ | refine Below.setCell ?_ (by first | (simp; done) | (simp; omega)) _)); refine bel_step ?_ B1; (repeat (first | refine bel_alloc ?_ _ | refine bel_dN ?_ _ | refine Below.drew ?_ | refine Below.setCell ?_ (by first | (simp; done) | (simp; omega)) _)); exact Below.refl _ _)
          have HG : Hid (w.heap.size ≤ h) := by unfold Hid; omega
          have hs : W.heap.size = h + 1 := by rw [← hW, ← hh]; simp
          have k0 : ∀ w, Keeps W w → w.cell? ⟨g, 0, none⟩ = some (.int .u64 5) := fun w h => h.cell (by omega) (by rw [← hW, ← hg]; simp [go_sem, u0, l0])
          have k1 : ∀ w, Keeps W w → w.cell? ⟨g, 1, none⟩ = some (.int .u64 10) := fun w h => h.cell (by omega) (by rw [← hW, ← hg]; simp [go_sem, u1, l0])
          have k2 : ∀ w, Keeps W w → w.cell? ⟨h, 0, none⟩ = some (.bool false) := fun w h => h.cell (by omega) (by rw [← hW, ← hh]; simp)
          have k3 : ∀ w, Keeps W w → w.cell? ⟨h, 1, none⟩ = some (.bool false) := fun w h => h.cell (by omega) (by rw [← hW, ← hh]; simp)
          have k4 : ∀ w, Keeps W w → w.cell? ⟨h, 2, none⟩ = some (.bool false) := fun w h => h.cell (by omega) (by rw [← hW, ← hh]; simp)
          have k5 : ∀ w, Keeps W w → w.cell? ⟨h, 3, none⟩ = some (.int .u64 m) := fun w h => h.cell (by omega) (by rw [← hW, ← hh]; simp)
          have k6 : ∀ w, Keeps W w → w.cell? ⟨h, 4, none⟩ = some (.int .i64 e1) := fun w h => h.cell (by omega) (by rw [← hW, ← hh]; simp)
          have kz : ∀ j w, Keeps W w → w.frozen? ⟨h, j, none⟩ = false := fun j w h => h.frozen (by omega) (by rw [← hW, ← hh]; simp [go_sem])
          rw [hW, hh, hg]
          clear hW hh hg u0 u1 l0 l0b B1
          refine region_qtail (C := Keeps W) 5 (by kernel_rfl) (by kernel_rfl) (Keeps.drew W) ?_
          (iterate 5
    (apply wpQuiet_go _ (by rfl)
     · intro wq hq
       go_simp
       first
         | (go_at_call 47; exact qcall hq (WH.out _))
         | (go_at_call 14; exact qcall hq (O2.out _))
         | exact rfl
     simp only [Act.put, List.setIfInBounds_toArray, List.set_cons_succ, List.set_cons_zero]))
          refine wpQuiet_nil ?_
          intro w3 hk
          have HB3 : Hid (Below w.heap.size w w3) := bel_step HB.out hk.below
          have y0 := k2 _ hk
          have y1 := k3 _ hk
          have y2 := k4 _ hk
          have y3 := k5 _ hk
          have y4 := k6 _ hk
          have f0 := kz 0 _ hk
          have f1 := kz 1 _ hk
          have f2 := kz 2 _ hk
          have f3 := kz 3 _ hk
          have f4 := kz 4 _ hk
          clear k0 k1 k2 k3 k4 k5 k6 kz hk hs HB
          simp only [List.drop_succ_cons, List.drop_zero]
          go_wp2
          refine bodyPost_ret (two_resT Try.results26 _ _ _) rfl ⟨rfl, ?_⟩
          exact ((((HB3.out.setCell (p := ⟨h, 0, none⟩) HG.out _).setCell (p := ⟨h, 1, none⟩) HG.out _).setCell (p := ⟨h, 2, none⟩) HG.out _).setCell (p := ⟨h, 3, none⟩) HG.out _).setCell (p := ⟨h, 4, none⟩) HG.out _
    · by_cases hV : V ≤ 9223372036854775808
      · have a1 : ¬ 9223372036854775808 < V := by omega
        have a2 : decide (9223372036854775808 < V) = false := by simp; omega
        by_cases hV2 : V = 9223372036854775808
        · have a3 : (V == 9223372036854775808) = true := by simp [hV2]
          rw [show toi 9223372036854775808 18446744073709551616 true V true = .tuple #[.int .u64 (-V % 18446744073709551616), .int .i64 0] by unfold toi hol; simp [*]]
          have MK : Hid (∀ w, Calls Try.prog 48 #[.int .i64 64, .int .u64 (IntKind.u64.wrap (-V))] w fun e w' => e = .returned (.int .u64 (-V % 18446744073709551616)) ∧ w' = w) := by
            intro w
            refine (specMask64T (IntKind.u64.wrap (-V)) w).mono ?_
            rintro e w' ⟨rfl, hw⟩
            exact ⟨ret_int (by first | omega | (rw [IntKind.wrap_u64] <;> omega)), hw⟩
          clear h0 h1 hV2
          go_enter Try.func26, Try.ntmps26
          go_wp2_with fail
          refine (O1.out _).mono ?_
          rintro e' w1 ⟨rfl, B1⟩
          have u0 : w1.cell? ⟨w.heap.size, 0, none⟩ = some (.int .u64 5) := (B1.cell (p := ⟨w.heap.size, 0, none⟩) (by simp)).trans (by simp)
          have u1 : w1.cell? ⟨w.heap.size, 1, none⟩ = some (.int .u64 10) := (B1.cell (p := ⟨w.heap.size, 1, none⟩) (by simp)).trans (by simp)
          have l0 : w.heap.size < w1.heap.size := by have := B1.size; simp at this; omega
          have l0b : w.heap.size < w1.heap.size + 1 := by omega
          go_wp2_with fail
          obtain ⟨W, hW⟩ : ∃ W, w1.alloc (.cells #[.bool true, .bool false, .bool false, .int .u64 m, .int .i64 e1] 38) = W := ⟨_, rfl⟩
          obtain ⟨h, hh⟩ : ∃ h, w1.heap.size = h := ⟨_, rfl⟩
          obtain ⟨g, hg⟩ : ∃ g, w.heap.size = g := ⟨_, rfl⟩
          have HB : Hid (Below w.heap.size w W) := by unfold Hid; rw [← hW]; ((repeat (first | refine bel_alloc ?_ _ | refine bel_dN ?_ _ | refine Below.drew ?_ | refine Below.setCell ?_ (by first | (simp; done) | (simp; omega)) _)); refine bel_step ?_ B1; (repeat (first | refine bel_alloc ?_ _ | refine bel_dN ?_ _ | refine Below.drew ?_ | refine Below.setCell ?_ (by first | (simp; done) | (simp; omega)) _)); exact Below.refl _ _)
          have HG : Hid (w.heap.size ≤ h) := by unfold Hid; omega
          have hs : W.heap.size = h + 1 := by rw [← hW, ← hh]; simp
          have k0 : ∀ w, Keeps W w → w.cell? ⟨g, 0, none⟩ = some (.int .u64 5) := fun w h => h.cell (by omega) (by rw [← hW, ← hg]; simp [go_sem, u0, l0])
          have k1 : ∀ w, Keeps W w → w.cell? ⟨g, 1, none⟩ = some (.int .u64 10) := fun w h => h.cell (by omega) (by rw [← hW, ← hg]; simp [go_sem, u1, l0])
          have k2 : ∀ w, Keeps W w → w.cell? ⟨h, 0, none⟩ = some (.bool true) := fun w h => h.cell (by omega) (by rw [← hW, ← hh]; simp)
          have k3 : ∀ w, Keeps W w → w.cell? ⟨h, 1, none⟩ = some (.bool false) := fun w h => h.cell (by omega) (by rw [← hW, ← hh]; simp)
          have k4 : ∀ w, Keeps W w → w.cell? ⟨h, 2, none⟩ = some (.bool false) := fun w h => h.cell (by omega) (by rw [← hW, ← hh]; simp)
          have k5 : ∀ w, Keeps W w → w.cell? ⟨h, 3, none⟩ = some (.int .u64 m) := fun w h => h.cell (by omega) (by rw [← hW, ← hh]; simp)
          have k6 : ∀ w, Keeps W w → w.cell? ⟨h, 4, none⟩ = some (.int .i64 e1) := fun w h => h.cell (by omega) (by rw [← hW, ← hh]; simp)
          have kz : ∀ j w, Keeps W w → w.frozen? ⟨h, j, none⟩ = false := fun j w h => h.frozen (by omega) (by rw [← hW, ← hh]; simp [go_sem])
          rw [hW, hh, hg]
          clear hW hh hg u0 u1 l0 l0b B1
          refine region_qtail (C := Keeps W) 5 (by kernel_rfl) (by kernel_rfl) (Keeps.drew W) ?_
          (iterate 5
    (apply wpQuiet_go _ (by rfl)
     · intro wq hq
       go_simp
       first
         | (go_at_call 47; exact qcall hq (WH.out _))
         | (go_at_call 14; exact qcall hq (O2.out _))
         | exact rfl
     simp only [Act.put, List.setIfInBounds_toArray, List.set_cons_succ, List.set_cons_zero]))
          refine wpQuiet_nil ?_
          intro w3 hk
          have HB3 : Hid (Below w.heap.size w w3) := bel_step HB.out hk.below
          have y0 := k2 _ hk
          have y1 := k3 _ hk
          have y2 := k4 _ hk
          have y3 := k5 _ hk
          have y4 := k6 _ hk
          have f0 := kz 0 _ hk
          have f1 := kz 1 _ hk
          have f2 := kz 2 _ hk
          have f3 := kz 3 _ hk
          have f4 := kz 4 _ hk
          clear k0 k1 k2 k3 k4 k5 k6 kz hk hs HB
          simp only [List.drop_succ_cons, List.drop_zero]
          go_wp2_with fail
          refine (MK.out _).mono ?_
          rintro e' w5 ⟨rfl, hw5⟩
          obtain rfl := hw5
          go_wp2
          refine bodyPost_ret (two_resT Try.results26 _ _ _) rfl ⟨rfl, ?_⟩
          exact ((((HB3.out.setCell (p := ⟨h, 0, none⟩) HG.out _).setCell (p := ⟨h, 1, none⟩) HG.out _).setCell (p := ⟨h, 2, none⟩) HG.out _).setCell (p := ⟨h, 3, none⟩) HG.out _).setCell (p := ⟨h, 4, none⟩) HG.out _
        · have a3 : (V == 9223372036854775808) = false := by simp; omega
          rw [show toi 9223372036854775808 18446744073709551616 true V true = .tuple #[.int .u64 (-V % 18446744073709551616), .int .i64 0] by unfold toi hol; simp [*]]
          have MK : Hid (∀ w, Calls Try.prog 48 #[.int .i64 64, .int .u64 (IntKind.u64.wrap (-V))] w fun e w' => e = .returned (.int .u64 (-V % 18446744073709551616)) ∧ w' = w) := by
            intro w
            refine (specMask64T (IntKind.u64.wrap (-V)) w).mono ?_
            rintro e w' ⟨rfl, hw⟩
            exact ⟨ret_int (by first | omega | (rw [IntKind.wrap_u64] <;> omega)), hw⟩
          clear h0 h1
          go_enter Try.func26, Try.ntmps26
          go_wp2_with fail
          refine (O1.out _).mono ?_
          rintro e' w1 ⟨rfl, B1⟩
          have u0 : w1.cell? ⟨w.heap.size, 0, none⟩ = some (.int .u64 5) := (B1.cell (p := ⟨w.heap.size, 0, none⟩) (by simp)).trans (by simp)
          have u1 : w1.cell? ⟨w.heap.size, 1, none⟩ = some (.int .u64 10) := (B1.cell (p := ⟨w.heap.size, 1, none⟩) (by simp)).trans (by simp)
          have l0 : w.heap.size < w1.heap.size := by have := B1.size; simp at this; omega
          have l0b : w.heap.size < w1.heap.size + 1 := by omega
          go_wp2_with fail
          obtain ⟨W, hW⟩ : ∃ W, w1.alloc (.cells #[.bool true, .bool false, .bool false, .int .u64 m, .int .i64 e1] 38) = W := ⟨_, rfl⟩
          obtain ⟨h, hh⟩ : ∃ h, w1.heap.size = h := ⟨_, rfl⟩
          obtain ⟨g, hg⟩ : ∃ g, w.heap.size = g := ⟨_, rfl⟩
          have HB : Hid (Below w.heap.size w W) := by unfold Hid; rw [← hW]; ((repeat (first | refine bel_alloc ?_ _ | refine bel_dN ?_ _ | refine Below.drew ?_ | refine Below.setCell ?_ (by first | (simp; done) | (simp; omega)) _)); refine bel_step ?_ B1; (repeat (first | refine bel_alloc ?_ _ | refine bel_dN ?_ _ | refine Below.drew ?_ | refine Below.setCell ?_ (by first | (simp; done) | (simp; omega)) _)); exact Below.refl _ _)
          have HG : Hid (w.heap.size ≤ h) := by unfold Hid; omega
          have hs : W.heap.size = h + 1 := by rw [← hW, ← hh]; simp
          have k0 : ∀ w, Keeps W w → w.cell? ⟨g, 0, none⟩ = some (.int .u64 5) := fun w h => h.cell (by omega) (by rw [← hW, ← hg]; simp [go_sem, u0, l0])
          have k1 : ∀ w, Keeps W w → w.cell? ⟨g, 1, none⟩ = some (.int .u64 10) := fun w h => h.cell (by omega) (by rw [← hW, ← hg]; simp [go_sem, u1, l0])
          have k2 : ∀ w, Keeps W w → w.cell? ⟨h, 0, none⟩ = some (.bool true) := fun w h => h.cell (by omega) (by rw [← hW, ← hh]; simp)
          have k3 : ∀ w, Keeps W w → w.cell? ⟨h, 1, none⟩ = some (.bool false) := fun w h => h.cell (by omega) (by rw [← hW, ← hh]; simp)
          have k4 : ∀ w, Keeps W w → w.cell? ⟨h, 2, none⟩ = some (.bool false) := fun w h => h.cell (by omega) (by rw [← hW, ← hh]; simp)
          have k5 : ∀ w, Keeps W w → w.cell? ⟨h, 3, none⟩ = some (.int .u64 m) := fun w h => h.cell (by omega) (by rw [← hW, ← hh]; simp)
          have k6 : ∀ w, Keeps W w → w.cell? ⟨h, 4, none⟩ = some (.int .i64 e1) := fun w h => h.cell (by omega) (by rw [← hW, ← hh]; simp)
          have kz : ∀ j w, Keeps W w → w.frozen? ⟨h, j, none⟩ = false := fun j w h => h.frozen (by omega) (by rw [← hW, ← hh]; simp [go_sem])
          rw [hW, hh, hg]
          clear hW hh hg u0 u1 l0 l0b B1
          refine region_qtail (C := Keeps W) 5 (by kernel_rfl) (by kernel_rfl) (Keeps.drew W) ?_
          (iterate 5
    (apply wpQuiet_go _ (by rfl)
     · intro wq hq
       go_simp
       first
         | (go_at_call 47; exact qcall hq (WH.out _))
         | (go_at_call 14; exact qcall hq (O2.out _))
         | exact rfl
     simp only [Act.put, List.setIfInBounds_toArray, List.set_cons_succ, List.set_cons_zero]))
          refine wpQuiet_nil ?_
          intro w3 hk
          have HB3 : Hid (Below w.heap.size w w3) := bel_step HB.out hk.below
          have y0 := k2 _ hk
          have y1 := k3 _ hk
          have y2 := k4 _ hk
          have y3 := k5 _ hk
          have y4 := k6 _ hk
          have f0 := kz 0 _ hk
          have f1 := kz 1 _ hk
          have f2 := kz 2 _ hk
          have f3 := kz 3 _ hk
          have f4 := kz 4 _ hk
          clear k0 k1 k2 k3 k4 k5 k6 kz hk hs HB
          simp only [List.drop_succ_cons, List.drop_zero]
          go_wp2_with fail
          refine (MK.out _).mono ?_
          rintro e' w5 ⟨rfl, hw5⟩
          obtain rfl := hw5
          go_wp2
          refine bodyPost_ret (two_resT Try.results26 _ _ _) rfl ⟨rfl, ?_⟩
          exact ((((HB3.out.setCell (p := ⟨h, 0, none⟩) HG.out _).setCell (p := ⟨h, 1, none⟩) HG.out _).setCell (p := ⟨h, 2, none⟩) HG.out _).setCell (p := ⟨h, 3, none⟩) HG.out _).setCell (p := ⟨h, 4, none⟩) HG.out _
      · have a1 : 9223372036854775808 < V := by omega
        have a2 : decide (9223372036854775808 < V) = true := by simp; omega
        rw [show toi 9223372036854775808 18446744073709551616 true V true = tooGreat by unfold toi hol tooGreat; simp [*]]
        clear h0 h1
        go_enter Try.func26, Try.ntmps26
        go_wp2_with fail
        refine (O1.out _).mono ?_
        rintro e' w1 ⟨rfl, B1⟩
        have u0 : w1.cell? ⟨w.heap.size, 0, none⟩ = some (.int .u64 5) := (B1.cell (p := ⟨w.heap.size, 0, none⟩) (by simp)).trans (by simp)
        have u1 : w1.cell? ⟨w.heap.size, 1, none⟩ = some (.int .u64 10) := (B1.cell (p := ⟨w.heap.size, 1, none⟩) (by simp)).trans (by simp)
        have l0 : w.heap.size < w1.heap.size := by have := B1.size; simp at this; omega
        have l0b : w.heap.size < w1.heap.size + 1 := by omega
        go_wp2_with fail
        obtain ⟨W, hW⟩ : ∃ W, w1.alloc (.cells #[.bool true, .bool false, .bool false, .int .u64 m, .int .i64 e1] 38) = W := ⟨_, rfl⟩
        obtain ⟨h, hh⟩ : ∃ h, w1.heap.size = h := ⟨_, rfl⟩
        obtain ⟨g, hg⟩ : ∃ g, w.heap.size = g := ⟨_, rfl⟩
        have HB : Hid (Below w.heap.size w W) := by unfold Hid; rw [← hW]; ((repeat (first | refine bel_alloc ?_ _ | refine bel_dN ?_ _ | refine Below.drew ?_ | refine Below.setCell ?_ (by first | (simp; done) | (simp; omega)) _)); refine bel_step ?_ B1; (repeat (first | refine bel_alloc ?_ _ | refine bel_dN ?_ _ | refine Below.drew ?_ | refine Below.setCell ?_ (by first | (simp; done) | (simp; omega)) _)); exact Below.refl _ _)
        have HG : Hid (w.heap.size ≤ h) := by unfold Hid; omega
        have hs : W.heap.size = h + 1 := by rw [← hW, ← hh]; simp
        have k0 : ∀ w, Keeps W w → w.cell? ⟨g, 0, none⟩ = some (.int .u64 5) := fun w h => h.cell (by omega) (by rw [← hW, ← hg]; simp [go_sem, u0, l0])
        have k1 : ∀ w, Keeps W w → w.cell? ⟨g, 1, none⟩ = some (.int .u64 10) := fun w h => h.cell (by omega) (by rw [← hW, ← hg]; simp [go_sem, u1, l0])
        have k2 : ∀ w, Keeps W w → w.cell? ⟨h, 0, none⟩ = some (.bool true) := fun w h => h.cell (by omega) (by rw [← hW, ← hh]; simp)
        have k3 : ∀ w, Keeps W w → w.cell? ⟨h, 1, none⟩ = some (.bool false) := fun w h => h.cell (by omega) (by rw [← hW, ← hh]; simp)
        have k4 : ∀ w, Keeps W w → w.cell? ⟨h, 2, none⟩ = some (.bool false) := fun w h => h.cell (by omega) (by rw [← hW, ← hh]; simp)
        have k5 : ∀ w, Keeps W w → w.cell? ⟨h, 3, none⟩ = some (.int .u64 m) := fun w h => h.cell (by omega) (by rw [← hW, ← hh]; simp)
        have k6 : ∀ w, Keeps W w → w.cell? ⟨h, 4, none⟩ = some (.int .i64 e1) := fun w h => h.cell (by omega) (by rw [← hW, ← hh]; simp)
        have kz : ∀ j w, Keeps W w → w.frozen? ⟨h, j, none⟩ = false := fun j w h => h.frozen (by omega) (by rw [← hW, ← hh]; simp [go_sem])
        rw [hW, hh, hg]
        clear hW hh hg u0 u1 l0 l0b B1
        refine region_qtail (C := Keeps W) 5 (by kernel_rfl) (by kernel_rfl) (Keeps.drew W) ?_
        (iterate 5
    (apply wpQuiet_go _ (by rfl)
     · intro wq hq
       go_simp
       first
         | (go_at_call 47; exact qcall hq (WH.out _))
         | (go_at_call 14; exact qcall hq (O2.out _))
         | exact rfl
     simp only [Act.put, List.setIfInBounds_toArray, List.set_cons_succ, List.set_cons_zero]))
        refine wpQuiet_nil ?_
        intro w3 hk
        have HB3 : Hid (Below w.heap.size w w3) := bel_step HB.out hk.below
        have y0 := k2 _ hk
        have y1 := k3 _ hk
        have y2 := k4 _ hk
        have y3 := k5 _ hk
        have y4 := k6 _ hk
        have f0 := kz 0 _ hk
        have f1 := kz 1 _ hk
        have f2 := kz 2 _ hk
        have f3 := kz 3 _ hk
        have f4 := kz 4 _ hk
        clear k0 k1 k2 k3 k4 k5 k6 kz hk hs HB
        simp only [List.drop_succ_cons, List.drop_zero]
        go_wp2
        refine bodyPost_ret (two_resT Try.results26 _ _ _) rfl ⟨rfl, ?_⟩
        exact ((((HB3.out.setCell (p := ⟨h, 0, none⟩) HG.out _).setCell (p := ⟨h, 1, none⟩) HG.out _).setCell (p := ⟨h, 2, none⟩) HG.out _).setCell (p := ⟨h, 3, none⟩) HG.out _).setCell (p := ⟨h, 4, none⟩) HG.out _

set_option maxHeartbeats 2000000 in
theorem toiS_B64_32 (a b m e1 m2 e2 V : Int) (s sg : Bool) (O1 : Hid (∀ w, Calls Try.prog 14 #[(.agg #[.int .u64 8, .int .u64 23]), .int .u32 a] w fun e w' => e = .returned (.agg #[.bool s, .bool false, .bool false, .int .u64 m, .int .i64 e1]) ∧ Below w.heap.size w w'))
    (WH : Hid (∀ w, Calls Try.prog 47 #[(.agg #[.int .u64 8, .int .u64 23]), .int .i64 3, .agg #[.bool s, .bool false, .bool false, .int .u64 m, .int .i64 e1]] w fun x w' => x = .returned (.int .u32 b) ∧ Below w.heap.size w w'))
    (O2 : Hid (∀ w, Calls Try.prog 14 #[(.agg #[.int .u64 8, .int .u64 23]), .int .u32 b] w fun e w' => e = .returned (.agg #[.bool s, .bool false, .bool false, .int .u64 m2, .int .i64 e2]) ∧ Below w.heap.size w w'))
    (E : Nat) (he : e2 = (E : Int)) (hE : E ≤ 40) (hv : IntKind.u64.wrap (m2 * 2 ^ E) = V) (h0 : 0 ≤ V) (h1 : V ≤ 18446744073709551615) (w : World) :
    Calls Try.prog 26 #[(.agg #[.int .u64 8, .int .u64 23]), .int .u32 a, .int .i64 64, .bool sg] w fun e w' => e = .returned (toi 9223372036854775808 18446744073709551616 s V sg) ∧ Below w.heap.size w w' := by
  subst he
  have p1 : ¬ 40 < (E : Int) := by omega
  have p2 : (0 : Int) ≤ (E : Int) := by omega
  have p3 : IntKind.u64.wrap (E : Int) = (E : Int) := by rw [IntKind.wrap_u64]; omega
  have p4 : min E 64 = E := by omega
  clear hE
  cases sg
  · cases s
    · have hV : V < 18446744073709551616 := by omega
      rw [show toi 9223372036854775808 18446744073709551616 false V false = .tuple #[.int .u64 (V % 18446744073709551616), .int .i64 0] by unfold toi hol; simp [*]]
      have MK : Hid (∀ w, Calls Try.prog 48 #[.int .i64 64, .int .u64 V] w fun e w' => e = .returned (.int .u64 (V % 18446744073709551616)) ∧ w' = w) := by
        intro w
        refine (specMask64T V w).mono ?_
        rintro e w' ⟨rfl, hw⟩
        exact ⟨ret_int (by first | omega | (rw [IntKind.wrap_u64] <;> omega)), hw⟩
      clear h0 h1
      go_enter Try.func26, Try.ntmps26
      go_wp2_with fail
      refine (O1.out _).mono ?_
      rintro e' w1 ⟨rfl, B1⟩
      have u0 : w1.cell? ⟨w.heap.size, 0, none⟩ = some (.int .u64 8) := (B1.cell (p := ⟨w.heap.size, 0, none⟩) (by simp)).trans (by simp)
      have u1 : w1.cell? ⟨w.heap.size, 1, none⟩ = some (.int .u64 23) := (B1.cell (p := ⟨w.heap.size, 1, none⟩) (by simp)).trans (by simp)
      have l0 : w.heap.size < w1.heap.size := by have := B1.size; simp at this; omega
      have l0b : w.heap.size < w1.heap.size + 1 := by omega
      go_wp2_with fail
      obtain ⟨W, hW⟩ : ∃ W, w1.alloc (.cells #[.bool false, .bool false, .bool false, .int .u64 m, .int .i64 e1] 38) = W := ⟨_, rfl⟩
      obtain ⟨h, hh⟩ : ∃ h, w1.heap.size = h := ⟨_, rfl⟩
      obtain ⟨g, hg⟩ : ∃ g, w.heap.size = g := ⟨_, rfl⟩
      have HB : Hid (Below w.heap.size w W) := by unfold Hid; rw [← hW]; ((repeat (first | refine bel_alloc ?_ _ | refine bel_dN ?_ _ | refine Below.drew ?_ | refine Below.setCell ?_ (by first | (simp; done) | (simp; omega)) _)); refine bel_step ?_ B1; (repeat (first | refine bel_alloc ?_ _ | refine bel_dN ?_ _ | refine Below.drew ?_ | refine Below.setCell ?_ (by first | (simp; done) | (simp; omega)) _)); exact Below.refl _ _)
      have HG : Hid (w.heap.size ≤ h) := by unfold Hid; omega
      have hs : W.heap.size = h + 1 := by rw [← hW, ← hh]; simp
      have k0 : ∀ w, Keeps W w → w.cell? ⟨g, 0, none⟩ = some (.int .u64 8) := fun w h => h.cell (by omega) (by rw [← hW, ← hg]; simp [go_sem, u0, l0])
      have k1 : ∀ w, Keeps W w → w.cell? ⟨g, 1, none⟩ = some (.int .u64 23) := fun w h => h.cell (by omega) (by rw [← hW, ← hg]; simp [go_sem, u1, l0])
      have k2 : ∀ w, Keeps W w → w.cell? ⟨h, 0, none⟩ = some (.bool false) := fun w h => h.cell (by omega) (by rw [← hW, ← hh]; simp)
      have k3 : ∀ w, Keeps W w → w.cell? ⟨h, 1, none⟩ = some (.bool false) := fun w h => h.cell (by omega) (by rw [← hW, ← hh]; simp)
      have k4 : ∀ w, Keeps W w → w.cell? ⟨h, 2, none⟩ = some (.bool false) := fun w h => h.cell (by omega) (by rw [← hW, ← hh]; simp)
      have k5 : ∀ w, Keeps W w → w.cell? ⟨h, 3, none⟩ = some (.int .u64 m) := fun w h => h.cell (by omega) (by rw [← hW, ← hh]; simp)
      have k6 : ∀ w, Keeps W w → w.cell? ⟨h, 4, none⟩ = some (.int .i64 e1) := fun w h => h.cell (by omega) (by rw [← hW, ← hh]; simp)
      have kz : ∀ j w, Keeps W w → w.frozen? ⟨h, j, none⟩ = false := fun j w h => h.frozen (by omega) (by rw [← hW, ← hh]; simp [go_sem])
      rw [hW, hh, hg]
      clear hW hh hg u0 u1 l0 l0b B1
      refine region_qtail (C := Keeps W) 5 (by kernel_rfl) (by kernel_rfl) (Keeps.drew W) ?_
      (iterate 5
    (apply wpQuiet_go _ (by rfl)
     · intro wq hq
       go_simp
       first
         | (go_at_call 47; exact qcall hq (WH.out _))
         | (go_at_call 14; exact qcall hq (O2.out _))
         | exact rfl
     simp only [Act.put, List.setIfInBounds_toArray, List.set_cons_succ, List.set_cons_zero]))
      refine wpQuiet_nil ?_
      intro w3 hk
      have HB3 : Hid (Below w.heap.size w w3) := bel_step HB.out hk.below
      have y0 := k2 _ hk
      have y1 := k3 _ hk
      have y2 := k4 _ hk
      have y3 := k5 _ hk
      have y4 := k6 _ hk
      have f0 := kz 0 _ hk
      have f1 := kz 1 _ hk
      have f2 := kz 2 _ hk
      have f3 := kz 3 _ hk
      have f4 := kz 4 _ hk
      clear k0 k1 k2 k3 k4 k5 k6 kz hk hs HB
      simp only [List.drop_succ_cons, List.drop_zero]
      go_wp2_with fail
      refine (MK.out _).mono ?_
      rintro e' w5 ⟨rfl, hw5⟩
      obtain rfl := hw5
      go_wp2
      refine bodyPost_ret (two_resT Try.results26 _ _ _) rfl ⟨rfl, ?_⟩
      exact ((((HB3.out.setCell (p := ⟨h, 0, none⟩) HG.out _).setCell (p := ⟨h, 1, none⟩) HG.out _).setCell (p := ⟨h, 2, none⟩) HG.out _).setCell (p := ⟨h, 3, none⟩) HG.out _).setCell (p := ⟨h, 4, none⟩) HG.out _
    · by_cases hV : V = 0
      · have a1 : (V != 0) = false := by simp [hV]
        have a3 : (V == 0) = true := by simp [hV]
        have a2 : ¬ 4294967295 < V := by omega
        have a4 : decide (4294967295 < V) = false := by simpa using a2
        rw [show toi 9223372036854775808 18446744073709551616 true V false = .tuple #[.int .u64 (-V % 18446744073709551616), .int .i64 0] by unfold toi hol; simp [*]]
        have MK : Hid (∀ w, Calls Try.prog 48 #[.int .i64 64, .int .u64 (IntKind.u64.wrap (-V))] w fun e w' => e = .returned (.int .u64 (-V % 18446744073709551616)) ∧ w' = w) := by
          intro w
          refine (specMask64T (IntKind.u64.wrap (-V)) w).mono ?_
          rintro e w' ⟨rfl, hw⟩
          exact ⟨ret_int (by first | omega | (rw [IntKind.wrap_u64] <;> omega)), hw⟩
        clear h0 h1 hV
        go_enter Try.func26, Try.ntmps26
        go_wp2_with fail
        refine (O1.out _).mono ?_
        rintro e' w1 ⟨rfl, B1⟩
        have u0 : w1.cell? ⟨w.heap.size, 0, none⟩ = some (.int .u64 8) := (B1.cell (p := ⟨w.heap.size, 0, none⟩) (by simp)).trans (by simp)
        have u1 : w1.cell? ⟨w.heap.size, 1, none⟩ = some (.int .u64 23) := (B1.cell (p := ⟨w.heap.size, 1, none⟩) (by simp)).trans (by simp)
        have l0 : w.heap.size < w1.heap.size := by have := B1.size; simp at this; omega
        have l0b : w.heap.size < w1.heap.size + 1 := by omega
        go_wp2_with fail
        obtain ⟨W, hW⟩ : ∃ W, w1.alloc (.cells #[.bool true, .bool false, .bool false, .int .u64 m, .int .i64 e1] 38) = W := ⟨_, rfl⟩
        obtain ⟨h, hh⟩ : ∃ h, w1.heap.size = h := ⟨_, rfl⟩
        obtain ⟨g, hg⟩ : ∃ g, w.heap.size = g := ⟨_, rfl⟩
        have HB : Hid (Below w.heap.size w W) := by unfold Hid; rw [← hW]; ((repeat (first | refine bel_alloc ?_ _ | refine bel_dN ?_ _ | refine Below.drew ?_ | refine Below.setCell ?_ (by first | (simp; done) | (simp; omega)) _)); refine bel_step ?_ B1; (repeat (first | refine bel_alloc ?_ _ | refine bel_dN ?_ _ | refine Below.drew ?_ | refine Below.setCell ?_ (by first | (simp; done) | (simp; omega)) _)); exact Below.refl _ _)
        have HG : Hid (w.heap.size ≤ h) := by unfold Hid; omega
        have hs : W.heap.size = h + 1 := by rw [← hW, ← hh]; simp
        have k0 : ∀ w, Keeps W w → w.cell? ⟨g, 0, none⟩ = some (.int .u64 8) := fun w h => h.cell (by omega) (by rw [← hW, ← hg]; simp [go_sem, u0, l0])
        have k1 : ∀ w, Keeps W w → w.cell? ⟨g, 1, none⟩ = some (.int .u64 23) := fun w h => h.cell (by omega) (by rw [← hW, ← hg]; simp [go_sem, u1, l0])
        have k2 : ∀ w, Keeps W w → w.cell? ⟨h, 0, none⟩ = some (.bool true) := fun w h => h.cell (by omega) (by rw [← hW, ← hh]; simp)
        have k3 : ∀ w, Keeps W w → w.cell? ⟨h, 1, none⟩ = some (.bool false) := fun w h => h.cell (by omega) (by rw [← hW, ← hh]; simp)
        have k4 : ∀ w, Keeps W w → w.cell? ⟨h, 2, none⟩ = some (.bool false) := fun w h => h.cell (by omega) (by rw [← hW, ← hh]; simp)
        have k5 : ∀ w, Keeps W w → w.cell? ⟨h, 3, none⟩ = some (.int .u64 m) := fun w h => h.cell (by omega) (by rw [← hW, ← hh]; simp)
        have k6 : ∀ w, Keeps W w → w.cell? ⟨h, 4, none⟩ = some (.int .i64 e1) := fun w h => h.cell (by omega) (by rw [← hW, ← hh]; simp)
        have kz : ∀ j w, Keeps W w → w.frozen? ⟨h, j, none⟩ = false := fun j w h => h.frozen (by omega) (by rw [← hW, ← hh]; simp [go_sem])
        rw [hW, hh, hg]
        clear hW hh hg u0 u1 l0 l0b B1
        refine region_qtail (C := Keeps W) 5 (by kernel_rfl) (by kernel_rfl) (Keeps.drew W) ?_
        (iterate 5
    (apply wpQuiet_go _ (by rfl)
     · intro wq hq
       go_simp
       first
         | (go_at_call 47; exact qcall hq (WH.out _))
         | (go_at_call 14; exact qcall hq (O2.out _))
         | exact rfl
     simp only [Act.put, List.setIfInBounds_toArray, List.set_cons_succ, List.set_cons_zero]))
        refine wpQuiet_nil ?_
        intro w3 hk
        have HB3 : Hid (Below w.heap.size w w3) := bel_step HB.out hk.below
        have y0 := k2 _ hk
        have y1 := k3 _ hk
        have y2 := k4 _ hk
        have y3 := k5 _ hk
        have y4 := k6 _ hk
        have f0 := kz 0 _ hk
        have f1 := kz 1 _ hk
        have f2 := kz 2 _ hk
        have f3 := kz 3 _ hk
        have f4 := kz 4 _ hk
        clear k0 k1 k2 k3 k4 k5 k6 kz hk hs HB
        simp only [List.drop_succ_cons, List.drop_zero]
        go_wp2_with fail
        refine (MK.out _).mono ?_
        rintro e' w5 ⟨rfl, hw5⟩
        obtain rfl := hw5
        go_wp2
        refine bodyPost_ret (two_resT Try.results26 _ _ _) rfl ⟨rfl, ?_⟩
        exact ((((HB3.out.setCell (p := ⟨h, 0, none⟩) HG.out _).setCell (p := ⟨h, 1, none⟩) HG.out _).setCell (p := ⟨h, 2, none⟩) HG.out _).setCell (p := ⟨h, 3, none⟩) HG.out _).setCell (p := ⟨h, 4, none⟩) HG.out _
      · have a1 : (V != 0) = true := by simp [hV]
        have a3 : (V == 0) = false := by simp [hV]
        rw [show toi 9223372036854775808 18446744073709551616 true V false = tooGreat by unfold toi hol tooGreat; simp [*]]
        clear h0 h1
        go_enter Try.func26, Try.ntmps26
        go_wp2_with fail
        refine (O1.out _).mono ?_
        rintro e' w1 ⟨rfl, B1⟩
        have u0 : w1.cell? ⟨w.heap.size, 0, none⟩ = some (.int .u64 8) := (B1.cell (p := ⟨w.heap.size, 0, none⟩) (by simp)).trans (by simp)
        have u1 : w1.cell? ⟨w.heap.size, 1, none⟩ = some (.int .u64 23) := (B1.cell (p := ⟨w.heap.size, 1, none⟩) (by simp)).trans (by simp)
        have l0 : w.heap.size < w1.heap.size := by have := B1.size; simp at this; omega
        have l0b : w.heap.size < w1.heap.size + 1 := by omega
        go_wp2_with fail
        obtain ⟨W, hW⟩ : ∃ W, w1.alloc (.cells #[.bool true, .bool false, .bool false, .int .u64 m, .int .i64 e1] 38) = W := ⟨_, rfl⟩
        obtain ⟨h, hh⟩ : ∃ h, w1.heap.size = h := ⟨_, rfl⟩
        obtain ⟨g, hg⟩ : ∃ g, w.heap.size = g := ⟨_, rfl⟩
        have HB : Hid (Below w.heap.size w W) := by unfold Hid; rw [← hW]; ((repeat (first | refine bel_alloc ?_ _ | refine bel_dN ?_ _ | refine Below.drew ?_ | refine Below.setCell ?_ (by first | (simp; done) | (simp; omega)) _)); refine bel_step ?_ B1; (repeat (first | refine bel_alloc ?_ _ | refine bel_dN ?_ _ | refine Below.drew ?_ | refine Below.setCell ?_ (by first | (simp; done) | (simp; omega)) _)); exact Below.refl _ _)
        have HG : Hid (w.heap.size ≤ h) := by unfold Hid; omega
        have hs : W.heap.size = h + 1 := by rw [← hW, ← hh]; simp
        have k0 : ∀ w, Keeps W w → w.cell? ⟨g, 0, none⟩ = some (.int .u64 8) := fun w h => h.cell (by omega) (by rw [← hW, ← hg]; simp [go_sem, u0, l0])
        have k1 : ∀ w, Keeps W w → w.cell? ⟨g, 1, none⟩ = some (.int .u64 23) := fun w h => h.cell (by omega) (by rw [← hW, ← hg]; simp [go_sem, u1, l0])
        have k2 : ∀ w, Keeps W w → w.cell? ⟨h, 0, none⟩ = some (.bool true) := fun w h => h.cell (by omega) (by rw [← hW, ← hh]; simp)
        have k3 : ∀ w, Keeps W w → w.cell? ⟨h, 1, none⟩ = some (.bool false) := fun w h => h.cell (by omega) (by rw [← hW, ← hh]; simp)
        have k4 : ∀ w, Keeps W w → w.cell? ⟨h, 2, none⟩ = some (.bool false) := fun w h => h.cell (by omega) (by rw [← hW, ← hh]; simp)
        have k5 : ∀ w, Keeps W w → w.cell? ⟨h, 3, none⟩ = some (.int .u64 m) := fun w h => h.cell (by omega) (by rw [← hW, ← hh]; simp)
        have k6 : ∀ w, Keeps W w → w.cell? ⟨h, 4, none⟩ = some (.int .i64 e1) := fun w h => h.cell (by omega) (by rw [← hW, ← hh]; simp)
        have kz : ∀ j w, Keeps W w → w.frozen? ⟨h, j, none⟩ = false := fun j w h => h.frozen (by omega) (by rw [← hW, ← hh]; simp [go_sem])
        rw [hW, hh, hg]
        clear hW hh hg u0 u1 l0 l0b B1
        refine region_qtail (C := Keeps W) 5 (by kernel_rfl) (by kernel_rfl) (Keeps.drew W) ?_
        (iterate 5
    (apply wpQuiet_go _ (by rfl)
     · intro wq hq
       go_simp
       first
         | (go_at_call 47; exact qcall hq (WH.out _))
         | (go_at_call 14; exact qcall hq (O2.out _))
         | exact rfl
     simp only [Act.put, List.setIfInBounds_toArray, List.set_cons_succ, List.set_cons_zero]))
        refine wpQuiet_nil ?_
        intro w3 hk
        have HB3 : Hid (Below w.heap.size w w3) := bel_step HB.out hk.below
        have y0 := k2 _ hk
        have y1 := k3 _ hk
        have y2 := k4 _ hk
        have y3 := k5 _ hk
        have y4 := k6 _ hk
        have f0 := kz 0 _ hk
        have f1 := kz 1 _ hk
        have f2 := kz 2 _ hk
        have f3 := kz 3 _ hk
        have f4 := kz 4 _ hk
        clear k0 k1 k2 k3 k4 k5 k6 kz hk hs HB
        simp only [List.drop_succ_cons, List.drop_zero]
        go_wp2
        refine bodyPost_ret (two_resT Try.results26 _ _ _) rfl ⟨rfl, ?_⟩
        exact ((((HB3.out.setCell (p := ⟨h, 0, none⟩) HG.out _).setCell (p := ⟨h, 1, none⟩) HG.out _).setCell (p := ⟨h, 2, none⟩) HG.out _).setCell (p := ⟨h, 3, none⟩) HG.out _).setCell (p := ⟨h, 4, none⟩) HG.out _
  · cases s
    · by_cases hV : V < 9223372036854775808
      · have a1 : ¬ 9223372036854775808 < V := by omega
        have a2 : decide (9223372036854775808 < V) = false := by simp; omega
        have a3 : (V == 9223372036854775808) = false := by simp; omega
        rw [show toi 9223372036854775808 18446744073709551616 false V true = .tuple #[.int .u64 (V % 18446744073709551616), .int .i64 0] by unfold toi hol; simp [*]]
        have MK : Hid (∀ w, Calls Try.prog 48 #[.int .i64 64, .int .u64 V] w fun e w' => e = .returned (.int .u64 (V % 18446744073709551616)) ∧ w' = w) := by
          intro w
          refine (specMask64T V w).mono ?_
          rintro e w' ⟨rfl, hw⟩
          exact ⟨ret_int (by first | omega | (rw [IntKind.wrap_u64] <;> omega)), hw⟩
        clear h0 h1
        go_enter Try.func26, Try.ntmps26
        go_wp2_with fail
        refine (O1.out _).mono ?_
        rintro e' w1 ⟨rfl, B1⟩
        have u0 : w1.cell? ⟨w.heap.size, 0, none⟩ = some (.int .u64 8) := (B1.cell (p := ⟨w.heap.size, 0, none⟩) (by simp)).trans (by simp)
        have u1 : w1.cell? ⟨w.heap.size, 1, none⟩ = some (.int .u64 23) := (B1.cell (p := ⟨w.heap.size, 1, none⟩) (by simp)).trans (by simp)
        have l0 : w.heap.size < w1.heap.size := by have := B1.size; simp at this; omega
        have l0b : w.heap.size < w1.heap.size + 1 := by omega
        go_wp2_with fail
        obtain ⟨W, hW⟩ : ∃ W, w1.alloc (.cells #[.bool false, .bool false, .bool false, .int .u64 m, .int .i64 e1] 38) = W := ⟨_, rfl⟩
        obtain ⟨h, hh⟩ : ∃ h, w1.heap.size = h := ⟨_, rfl⟩
        obtain ⟨g, hg⟩ : ∃ g, w.heap.size = g := ⟨_, rfl⟩
        have HB : Hid (Below w.heap.size w W) := by unfold Hid; rw [← hW]; ((repeat (first | refine bel_alloc ?_ _ | refine bel_dN ?_ _ | refine Below.drew ?_ | refine Below.setCell ?_ (by first | (simp; done) | (simp; omega)) _)); refine bel_step ?_ B1; (repeat (first | refine bel_alloc ?_ _ | refine bel_dN ?_ _ | refine Below.drew ?_ | refine Below.setCell ?_ (by first | (simp; done) | (simp; omega)) _)); exact Below.refl _ _)
        have HG : Hid (w.heap.size ≤ h) := by unfold Hid; omega
        have hs : W.heap.size = h + 1 := by rw [← hW, ← hh]; simp
        have k0 : ∀ w, Keeps W w → w.cell? ⟨g, 0, none⟩ = some (.int .u64 8) := fun w h => h.cell (by omega) (by rw [← hW, ← hg]; simp [go_sem, u0, l0])
        have k1 : ∀ w, Keeps W w → w.cell? ⟨g, 1, none⟩ = some (.int .u64 23) := fun w h => h.cell (by omega) (by rw [← hW, ← hg]; simp [go_sem, u1, l0])
        have k2 : ∀ w, Keeps W w → w.cell? ⟨h, 0, none⟩ = some (.bool false) := fun w h => h.cell (by omega) (by rw [← hW, ← hh]; simp)
        have k3 : ∀ w, Keeps W w → w.cell? ⟨h, 1, none⟩ = some (.bool false) := fun w h => h.cell (by omega) (by rw [← hW, ← hh]; simp)
        have k4 : ∀ w, Keeps W w → w.cell? ⟨h, 2, none⟩ = some (.bool false) := fun w h => h.cell (by omega) (by rw [← hW, ← hh]; simp)
        have k5 : ∀ w, Keeps W w → w.cell? ⟨h, 3, none⟩ = some (.int .u64 m) := fun w h => h.cell (by omega) (by rw [← hW, ← hh]; simp)
        have k6 : ∀ w, Keeps W w → w.cell? ⟨h, 4, none⟩ = some (.int .i64 e1) := fun w h => h.cell (by omega) (by rw [← hW, ← hh]; simp)
        have kz : ∀ j w, Keeps W w → w.frozen? ⟨h, j, none⟩ = false := fun j w h => h.frozen (by omega) (by rw [← hW, ← hh]; simp [go_sem])
        rw [hW, hh, hg]
        clear hW hh hg u0 u1 l0 l0b B1
        refine region_qtail (C := Keeps W) 5 (by kernel_rfl) (by kernel_rfl) (Keeps.drew W) ?_
        (iterate 5
    (apply wpQuiet_go _ (by rfl)
     · intro wq hq
       go_simp
       first
         | (go_at_call 47; exact qcall hq (WH.out _))
         | (go_at_call 14; exact qcall hq (O2.out _))
         | exact rfl
     simp only [Act.put, List.setIfInBounds_toArray, List.set_cons_succ, List.set_cons_zero]))
        refine wpQuiet_nil ?_
        intro w3 hk
        have HB3 : Hid (Below w.heap.size w w3) := bel_step HB.out hk.below
        have y0 := k2 _ hk
        have y1 := k3 _ hk
        have y2 := k4 _ hk
        have y3 := k5 _ hk
        have y4 := k6 _ hk
        have f0 := kz 0 _ hk
        have f1 := kz 1 _ hk
        have f2 := kz 2 _ hk
        have f3 := kz 3 _ hk
        have f4 := kz 4 _ hk
        clear k0 k1 k2 k3 k4 k5 k6 kz hk hs HB
        simp only [List.drop_succ_cons, List.drop_zero]
        go_wp2_with fail
        refine (MK.out _).mono ?_
        rintro e' w5 ⟨rfl, hw5⟩
        obtain rfl := hw5
        go_wp2
        refine bodyPost_ret (two_resT Try.results26 _ _ _) rfl ⟨rfl, ?_⟩
        exact ((((HB3.out.setCell (p := ⟨h, 0, none⟩) HG.out _).setCell (p := ⟨h, 1, none⟩) HG.out _).setCell (p := ⟨h, 2, none⟩) HG.out _).setCell (p := ⟨h, 3, none⟩) HG.out _).setCell (p := ⟨h, 4, none⟩) HG.out _
      · by_cases hV2 : V = 9223372036854775808
        · have a1 : ¬ 9223372036854775808 < V := by omega
          have a2 : decide (9223372036854775808 < V) = false := by simp; omega
          have a3 : (V == 9223372036854775808) = true := by simp [hV2]
          rw [show toi 9223372036854775808 18446744073709551616 false V true = tooGreat by unfold toi hol tooGreat; simp [*]]
          clear h0 h1 hV2
          go_enter Try.func26, Try.ntmps26
          go_wp2_with fail
          refine (O1.out _).mono ?_
          rintro e' w1 ⟨rfl, B1⟩
          have u0 : w1.cell? ⟨w.heap.size, 0, none⟩ = some (.int .u64 8) := (B1.cell (p := ⟨w.heap.size, 0, none⟩) (by simp)).trans (by simp)
          have u1 : w1.cell? ⟨w.heap.size, 1, none⟩ = some (.int .u64 23) := (B1.cell (p := ⟨w.heap.size, 1, none⟩) (by simp)).trans (by simp)
          have l0 : w.heap.size < w1.heap.size := by have := B1.size; simp at this; omega
          have l0b : w.heap.size < w1.heap.size + 1 := by omega
          go_wp2_with fail
          obtain ⟨W, hW⟩ : ∃ W, w1.alloc (.cells #[.bool false, .bool false, .bool false, .int .u64 m, .int .i64 e1] 38) = W := ⟨_, rfl⟩
          obtain ⟨h, hh⟩ : ∃ h, w1.heap.size = h := ⟨_, rfl⟩
          obtain ⟨g, hg⟩ : ∃ g, w.heap.size = g := ⟨_, rfl⟩
          have HB : Hid (Below w.heap.size w W) := by unfold Hid; rw [← hW]; ((repeat (first | refine bel_alloc ?_ _ | refine bel_dN ?_ _ | refine Below.drew ?_ | refine Below.setCell ?_ (by first | (simp; done) | (simp; omega)) _)); refine bel_step ?_ B1; (repeat (first | refine bel_alloc ?_ _ | refine bel_dN ?_ _ | refine Below.drew ?_ | refine Below.setCell ?_ (by first | (simp; done) | (simp; omega)) _)); exact Below.refl _ _)
          have HG : Hid (w.heap.size ≤ h) := by unfold Hid; omega
          have hs : W.heap.size = h + 1 := by rw [← hW, ← hh]; simp
          have k0 : ∀ w, Keeps W w → w.cell? ⟨g, 0, none⟩ = some (.int .u64 8) := fun w h => h.cell (by omega) (by rw [← hW, ← hg]; simp [go_sem, u0, l0])
          have k1 : ∀ w, Keeps W w → w.cell? ⟨g, 1, none⟩ = some (.int .u64 23) := fun w h => h.cell (by omega) (by rw [← hW, ← hg]; simp [go_sem, u1, l0])
          have k2 : ∀ w, Keeps W w → w.cell? ⟨h, 0, none⟩ = some (.bool false) := fun w h => h.cell (by omega) (by rw [← hW, ← hh]; simp)
          have k3 : ∀ w, Keeps W w → w.cell? ⟨h, 1, none⟩ = some (.bool false) := fun w h => h.cell (by omega) (by rw [← hW, ← hh]; simp)
          have k4 : ∀ w, Keeps W w → w.cell? ⟨h, 2, none⟩ = some (.bool false) := fun w h => h.cell (by omega) (by rw [← hW, ← hh]; simp)
          have k5 : ∀ w, Keeps W w → w.cell? ⟨h, 3, none⟩ = some (.int .u64 m) := fun w h => h.cell (by omega) (by rw [← hW, ← hh]; simp)
          have k6 : ∀ w, Keeps W w → w.cell? ⟨h, 4, none⟩ = some (.int .i64 e1) := fun w h => h.cell (by omega) (by rw [← hW, ← hh]; simp)
          have kz : ∀ j w, Keeps W w → w.frozen? ⟨h, j, none⟩ = false := fun j w h => h.frozen (by omega) (by rw [← hW, ← hh]; simp [go_sem])
          rw [hW, hh, hg]
          clear hW hh hg u0 u1 l0 l0b B1
          refine region_qtail (C := Keeps W) 5 (by kernel_rfl) (by kernel_rfl) (Keeps.drew W) ?_
          (iterate 5
    (apply wpQuiet_go _ (by rfl)
     · intro wq hq
       go_simp
       first
         | (go_at_call 47; exact qcall hq (WH.out _))
         | (go_at_call 14; exact qcall hq (O2.out _))
         | exact rfl
     simp only [Act.put, List.setIfInBounds_toArray, List.set_cons_succ, List.set_cons_zero]))
          refine wpQuiet_nil ?_
          intro w3 hk
          have HB3 : Hid (Below w.heap.size w w3) := bel_step HB.out hk.below
          have y0 := k2 _ hk
          have y1 := k3 _ hk
          have y2 := k4 _ hk
          have y3 := k5 _ hk
          have y4 := k6 _ hk
          have f0 := kz 0 _ hk
          have f1 := kz 1 _ hk
          have f2 := kz 2 _ hk
          have f3 := kz 3 _ hk
          have f4 := kz 4 _ hk
          clear k0 k1 k2 k3 k4 k5 k6 kz hk hs HB
          simp only [List.drop_succ_cons, List.drop_zero]
          go_wp2
          refine bodyPost_ret (two_resT Try.results26 _ _ _) rfl ⟨rfl, ?_⟩
          exact ((((HB3.out.setCell (p := ⟨h, 0, none⟩) HG.out _).setCell (p := ⟨h, 1, none⟩) HG.out _).setCell (p := ⟨h, 2, none⟩) HG.out _).setCell (p := ⟨h, 3, none⟩) HG.out _).setCell (p := ⟨h, 4, none⟩) HG.out _
        · have a1 : 9223372036854775808 < V := by omega
          have a2 : decide (9223372036854775808 < V) = true := by simp; omega
          rw [show toi 9223372036854775808 18446744073709551616 false V true = tooGreat by unfold toi hol tooGreat; simp [*]]
          clear h0 h1
          go_enter Try.func26, Try.ntmps26
          go_wp2_with fail
          refine (O1.out _).mono ?_
          rintro e' w1 ⟨rfl, B1⟩
          have u0 : w1.cell? ⟨w.heap.size, 0, none⟩ = some (.int .u64 8) := (B1.cell (p := ⟨w.heap.size, 0, none⟩) (by simp)).trans (by simp)
          have u1 : w1.cell? ⟨w.heap.size, 1, none⟩ = some (.int .u64 23) := (B1.cell (p := ⟨w.heap.size, 1, none⟩) (by simp)).trans (by simp)
          have l0 : w.heap.size < w1.heap.size := by have := B1.size; simp at this; omega
          have l0b : w.heap.size < w1.heap.size + 1 := by omega
          go_wp2_with fail
          obtain ⟨W, hW⟩ : ∃ W, w1.alloc (.cells #[.bool false, .bool false, .bool false, .int .u64 m, .int .i64 e1] 38) = W := ⟨_, rfl⟩
          obtain ⟨h, hh⟩ : ∃ h, w1.heap.size = h := ⟨_, rfl⟩
          obtain ⟨g, hg⟩ : ∃ g, w.heap.size = g := ⟨_, rfl⟩
          have HB : Hid (Below w.heap.size w W) := by unfold Hid; rw [← hW]; ((repeat (first | refine bel_alloc ?_ _ | refine bel_dN ?_ _ | refine Below.drew ?_ | refine Below.setCell ?_ (by first | (simp; done) | (simp; omega)) _)); refine bel_step ?_ B1; (repeat (first | refine bel_alloc ?_ _ | refine bel_dN ?_ _ | refine Below.drew ?_ | refine Below.setCell ?_ (by first | (simp; done) | (simp; omega)) _)); exact Below.refl _ _)
          have HG : Hid (w.heap.size ≤ h) := by unfold Hid; omega
          have hs : W.heap.size = h + 1 := by rw [← hW, ← hh]; simp
          have k0 : ∀ w, Keeps W w → w.cell? ⟨g, 0, none⟩ = some (.int .u64 8) := fun w h => h.cell (by omega) (by rw [← hW, ← hg]; simp [go_sem, u0, l0])
          have k1 : ∀ w, Keeps W w → w.cell? ⟨g, 1, none⟩ = some (.int .u64 23) := fun w h => h.cell (by omega) (by rw [← hW, ← hg]; simp [go_sem, u1, l0])
          have k2 : ∀ w, Keeps W w → w.cell? ⟨h, 0, none⟩ = some (.bool false) := fun w h => h.cell (by omega) (by rw [← hW, ← hh]; simp)
          have k3 : ∀ w, Keeps W w → w.cell? ⟨h, 1, none⟩ = some (.bool false) := fun w h => h.cell (by omega) (by rw [← hW, ← hh]; simp)
          have k4 : ∀ w, Keeps W w → w.cell? ⟨h, 2, none⟩ = some (.bool false) := fun w h => h.cell (by omega) (by rw [← hW, ← hh]; simp)
          have k5 : ∀ w, Keeps W w → w.cell? ⟨h, 3, none⟩ = some (.int .u64 m) := fun w h => h.cell (by omega) (by rw [← hW, ← hh]; simp)
          have k6 : ∀ w, Keeps W w → w.cell? ⟨h, 4, none⟩ = some (.int .i64 e1) := fun w h => h.cell (by omega) (by rw [← hW, ← hh]; simp)
          have kz : ∀ j w, Keeps W w → w.frozen? ⟨h, j, none⟩ = false := fun j w h => h.frozen (by omega) (by rw [← hW, ← hh]; simp [go_sem])
          rw [hW, hh, hg]
          clear hW hh hg u0 u1 l0 l0b B1
          refine region_qtail (C := Keeps W) 5 (by kernel_rfl) (by kernel_rfl) (Keeps.drew W) ?_
          (iterate 5
    (apply wpQuiet_go _ (by rfl)
     · intro wq hq
       go_simp
       first
         | (go_at_call 47; exact qcall hq (WH.out _))
         | (go_at_call 14; exact qcall hq (O2.out _))
         | exact rfl
     simp only [Act.put, List.setIfInBounds_toArray, List.set_cons_succ, List.set_cons_zero]))
          refine wpQuiet_nil ?_
          intro w3 hk
          have HB3 : Hid (Below w.heap.size w w3) := bel_step HB.out hk.below
          have y0 := k2 _ hk
          have y1 := k3 _ hk
          have y2 := k4 _ hk
          have y3 := k5 _ hk
          have y4 := k6 _ hk
          have f0 := kz 0 _ hk
          have f1 := kz 1 _ hk
          have f2 := kz 2 _ hk
          have f3 := kz 3 _ hk
          have f4 := kz 4 _ hk
          clear k0 k1 k2 k3 k4 k5 k6 kz hk hs HB
          simp only [List.drop_succ_cons, List.drop_zero]
          go_wp2
          refine bodyPost_ret (two_resT Try.results26 _ _ _) rfl ⟨rfl, ?_⟩
          exact ((((HB3.out.setCell (p := ⟨h, 0, none⟩) HG.out _).setCell (p := ⟨h, 1, none⟩) HG.out _).setCell (p := ⟨h, 2, none⟩) HG.out _).setCell (p := ⟨h, 3, none⟩) HG.out _).setCell (p := ⟨h, 4, none⟩) HG.out _
    · by_cases hV : V ≤ 9223372036854775808
      · have a1 : ¬ 9223372036854775808 < V := by omega
        have a2 : decide (9223372036854775808 < V) = false := by simp; omega
        by_cases hV2 : V = 9223372036854775808
        · have a3 : (V == 9223372036854775808) = true := by simp [hV2]
          rw [show toi 9223372036854775808 18446744073709551616 true V true = .tuple #[.int .u64 (-V % 18446744073709551616), .int .i64 0] by unfold toi hol; simp [*]]
          have MK : Hid (∀ w, Calls Try.prog 48 #[.int .i64 64, .int .u64 (IntKind.u64.wrap (-V))] w fun e w' => e = .returned (.int .u64 (-V % 18446744073709551616)) ∧ w' = w) := by
            intro w
            refine (specMask64T (IntKind.u64.wrap (-V)) w).mono ?_
            rintro e w' ⟨rfl, hw⟩
            exact ⟨ret_int (by first | omega | (rw [IntKind.wrap_u64] <;> omega)), hw⟩
          clear h0 h1 hV2
          go_enter Try.func26, Try.ntmps26
          go_wp2_with fail
          refine (O1.out _).mono ?_
          rintro e' w1 ⟨rfl, B1⟩
          have u0 : w1.cell? ⟨w.heap.size, 0, none⟩ = some (.int .u64 8) := (B1.cell (p := ⟨w.heap.size, 0, none⟩) (by simp)).trans (by simp)
          have u1 : w1.cell? ⟨w.heap.size, 1, none⟩ = some (.int .u64 23) := (B1.cell (p := ⟨w.heap.size, 1, none⟩) (by simp)).trans (by simp)
          have l0 : w.heap.size < w1.heap.size := by have := B1.size; simp at this; omega
          have l0b : w.heap.size < w1.heap.size + 1 := by omega
          go_wp2_with fail
          obtain ⟨W, hW⟩ : ∃ W, w1.alloc (.cells #[.bool true, .bool false, .bool false, .int .u64 m, .int .i64 e1] 38) = W := ⟨_, rfl⟩
          obtain ⟨h, hh⟩ : ∃ h, w1.heap.size = h := ⟨_, rfl⟩
          obtain ⟨g, hg⟩ : ∃ g, w.heap.size = g := ⟨_, rfl⟩
          have HB : Hid (Below w.heap.size w W) := by unfold Hid; rw [← hW]; ((repeat (first | refine bel_alloc ?_ _ | refine bel_dN ?_ _ | refine Below.drew ?_ | refine Below.setCell ?_ (by first | (simp; done) | (simp; omega)) _)); refine bel_step ?_ B1; (repeat (first | refine bel_alloc ?_ _ | refine bel_dN ?_ _ | refine Below.drew ?_ | refine Below.setCell ?_ (by first | (simp; done) | (simp; omega)) _)); exact Below.refl _ _)
          have HG : Hid (w.heap.size ≤ h) := by unfold Hid; omega
          have hs : W.heap.size = h + 1 := by rw [← hW, ← hh]; simp
          have k0 : ∀ w, Keeps W w → w.cell? ⟨g, 0, none⟩ = some (.int .u64 8) := fun w h => h.cell (by omega) (by rw [← hW, ← hg]; simp [go_sem, u0, l0])
          have k1 : ∀ w, Keeps W w → w.cell? ⟨g, 1, none⟩ = some (.int .u64 23) := fun w h => h.cell (by omega) (by rw [← hW, ← hg]; simp [go_sem, u1, l0])
          have k2 : ∀ w, Keeps W w → w.cell? ⟨h, 0, none⟩ = some (.bool true) := fun w h => h.cell (by omega) (by rw [← hW, ← hh]; simp)
          have k3 : ∀ w, Keeps W w → w.cell? ⟨h, 1, none⟩ = some (.bool false) := fun w h => h.cell (by omega) (by rw [← hW, ← hh]; simp)
          have k4 : ∀ w, Keeps W w → w.cell? ⟨h, 2, none⟩ = some (.bool false) := fun w h => h.cell (by omega) (by rw [← hW, ← hh]; simp)
          have k5 : ∀ w, Keeps W w → w.cell? ⟨h, 3, none⟩ = some (.int .u64 m) := fun w h => h.cell (by omega) (by rw [← hW, ← hh]; simp)
          have k6 : ∀ w, Keeps W w → w.cell? ⟨h, 4, none⟩ = some (.int .i64 e1) := fun w h => h.cell (by omega) (by rw [← hW, ← hh]; simp)
          have kz : ∀ j w, Keeps W w → w.frozen? ⟨h, j, none⟩ = false := fun j w h => h.frozen (by omega) (by rw [← hW, ← hh]; simp [go_sem])
          rw [hW, hh, hg]
          clear hW hh hg u0 u1 l0 l0b B1
          refine region_qtail (C := Keeps W) 5 (by kernel_rfl) (by kernel_rfl) (Keeps.drew W) ?_
          (iterate 5
    (apply wpQuiet_go _ (by rfl)
     · intro wq hq
       go_simp
       first
         | (go_at_call 47; exact qcall hq (WH.out _))
         | (go_at_call 14; exact qcall hq (O2.out _))
         | exact rfl
     simp only [Act.put, List.setIfInBounds_toArray, List.set_cons_succ, List.set_cons_zero]))
          refine wpQuiet_nil ?_
          intro w3 hk
          have HB3 : Hid (Below w.heap.size w w3) := bel_step HB.out hk.below
          have y0 := k2 _ hk
          have y1 := k3 _ hk
          have y2 := k4 _ hk
          have y3 := k5 _ hk
          have y4 := k6 _ hk
          have f0 := kz 0 _ hk
          have f1 := kz 1 _ hk
          have f2 := kz 2 _ hk
          have f3 := kz 3 _ hk
          have f4 := kz 4 _ hk
          clear k0 k1 k2 k3 k4 k5 k6 kz hk hs HB
          simp only [List.drop_succ_cons, List.drop_zero]
          go_wp2_with fail
          refine (MK.out _).mono ?_
          rintro e' w5 ⟨rfl, hw5⟩
          obtain rfl := hw5
          go_wp2
          refine bodyPost_ret (two_resT Try.results26 _ _ _) rfl ⟨rfl, ?_⟩
          exact ((((HB3.out.setCell (p := ⟨h, 0, none⟩) HG.out _).setCell (p := ⟨h, 1, none⟩) HG.out _).setCell (p := ⟨h, 2, none⟩) HG.out _).setCell (p := ⟨h, 3, none⟩) HG.out _).setCell (p := ⟨h, 4, none⟩) HG.out _
        · have a3 : (V == 9223372036854775808) = false := by simp; omega
          rw [show toi 9223372036854775808 18446744073709551616 true V true = .tuple #[.int .u64 (-V % 18446744073709551616), .int .i64 0] by unfold toi hol; simp [*]]
          have MK : Hid (∀ w, Calls Try.prog 48 #[.int .i64 64, .int .u64 (IntKind.u64.wrap (-V))] w fun e w' => e = .returned (.int .u64 (-V % 18446744073709551616)) ∧ w' = w) := by
            intro w
            refine (specMask64T (IntKind.u64.wrap (-V)) w).mono ?_
            rintro e w' ⟨rfl, hw⟩
            exact ⟨ret_int (by first | omega | (rw [IntKind.wrap_u64] <;> omega)), hw⟩
          clear h0 h1
          go_enter Try.func26, Try.ntmps26
          go_wp2_with fail
          refine (O1.out _).mono ?_
          rintro e' w1 ⟨rfl, B1⟩
          have u0 : w1.cell? ⟨w.heap.size, 0, none⟩ = some (.int .u64 8) := (B1.cell (p := ⟨w.heap.size, 0, none⟩) (by simp)).trans (by simp)
          have u1 : w1.cell? ⟨w.heap.size, 1, none⟩ = some (.int .u64 23) := (B1.cell (p := ⟨w.heap.size, 1, none⟩) (by simp)).trans (by simp)
          have l0 : w.heap.size < w1.heap.size := by have := B1.size; simp at this; omega
          have l0b : w.heap.size < w1.heap.size + 1 := by omega
          go_wp2_with fail
          obtain ⟨W, hW⟩ : ∃ W, w1.alloc (.cells #[.bool true, .bool false, .bool false, .int .u64 m, .int .i64 e1] 38) = W := ⟨_, rfl⟩
          obtain ⟨h, hh⟩ : ∃ h, w1.heap.size = h := ⟨_, rfl⟩
          obtain ⟨g, hg⟩ : ∃ g, w.heap.size = g := ⟨_, rfl⟩
          have HB : Hid (Below w.heap.size w W) := by unfold Hid; rw [← hW]; ((repeat (first | refine bel_alloc ?_ _ | refine bel_dN ?_ _ | refine Below.drew ?_ | refine Below.setCell ?_ (by first | (simp; done) | (simp; omega)) _)); refine bel_step ?_ B1; (repeat (first | refine bel_alloc ?_ _ | refine bel_dN ?_ _ | refine Below.drew ?_ | refine Below.setCell ?_ (by first | (simp; done) | (simp; omega)) _)); exact Below.refl _ _)
          have HG : Hid (w.heap.size ≤ h) := by unfold Hid; omega
          have hs : W.heap.size = h + 1 := by rw [← hW, ← hh]; simp
          have k0 : ∀ w, Keeps W w → w.cell? ⟨g, 0, none⟩ = some (.int .u64 8) := fun w h => h.cell (by omega) (by rw [← hW, ← hg]; simp [go_sem, u0, l0])
          have k1 : ∀ w, Keeps W w → w.cell? ⟨g, 1, none⟩ = some (.int .u64 23) := fun w h => h.cell (by omega) (by rw [← hW, ← hg]; simp [go_sem, u1, l0])
          have k2 : ∀ w, Keeps W w → w.cell? ⟨h, 0, none⟩ = some (.bool true) := fun w h => h.cell (by omega) (by rw [← hW, ← hh]; simp)
          have k3 : ∀ w, Keeps W w → w.cell? ⟨h, 1, none⟩ = some (.bool false) := fun w h => h.cell (by omega) (by rw [← hW, ← hh]; simp)
          have k4 : ∀ w, Keeps W w → w.cell? ⟨h, 2, none⟩ = some (.bool false) := fun w h => h.cell (by omega) (by rw [← hW, ← hh]; simp)
          have k5 : ∀ w, Keeps W w → w.cell? ⟨h, 3, none⟩ = some (.int .u64 m) := fun w h => h.cell (by omega) (by rw [← hW, ← hh]; simp)
          have k6 : ∀ w, Keeps W w → w.cell? ⟨h, 4, none⟩ = some (.int .i64 e1) := fun w h => h.cell (by omega) (by rw [← hW, ← hh]; simp)
          have kz : ∀ j w, Keeps W w → w.frozen? ⟨h, j, none⟩ = false := fun j w h => h.frozen (by omega) (by rw [← hW, ← hh]; simp [go_sem])
          rw [hW, hh, hg]
          clear hW hh hg u0 u1 l0 l0b B1
          refine region_qtail (C := Keeps W) 5 (by kernel_rfl) (by kernel_rfl) (Keeps.drew W) ?_
          (iterate 5
    (apply wpQuiet_go _ (by rfl)
     · intro wq hq
       go_simp
       first
         | (go_at_call 47; exact qcall hq (WH.out _))
         | (go_at_call 14; exact qcall hq (O2.out _))
         | exact rfl
     simp only [Act.put, List.setIfInBounds_toArray, List.set_cons_succ, List.set_cons_zero]))
          refine wpQuiet_nil ?_
          intro w3 hk
          have HB3 : Hid (Below w.heap.size w w3) := bel_step HB.out hk.below
          have y0 := k2 _ hk
          have y1 := k3 _ hk
          have y2 := k4 _ hk
          have y3 := k5 _ hk
          have y4 := k6 _ hk
          have f0 := kz 0 _ hk
          have f1 := kz 1 _ hk
          have f2 := kz 2 _ hk
          have f3 := kz 3 _ hk
          have f4 := kz 4 _ hk
          clear k0 k1 k2 k3 k4 k5 k6 kz hk hs HB
          simp only [List.drop_succ_cons, List.drop_zero]
          go_wp2_with fail
          refine (MK.out _).mono ?_
          rintro e' w5 ⟨rfl, hw5⟩
          obtain rfl := hw5
          go_wp2
          refine bodyPost_ret (two_resT Try.results26 _ _ _) rfl ⟨rfl, ?_⟩
          exact ((((HB3.out.setCell (p := ⟨h, 0, none⟩) HG.out _).setCell (p := ⟨h, 1, none⟩) HG.out _).setCell (p := ⟨h, 2, none⟩) HG.out _).setCell (p := ⟨h, 3, none⟩) HG.out _).setCell (p := ⟨h, 4, none⟩) HG.out _
      · have a1 : 9223372036854775808 < V := by omega
        have a2 : decide (9223372036854775808 < V) = true := by simp; omega
        rw [show toi 9223372036854775808 18446744073709551616 true V true = tooGreat by unfold toi hol tooGreat; simp [*]]
        clear h0 h1
        go_enter Try.func26, Try.ntmps26
        go_wp2_with fail
        refine (O1.out _).mono ?_
        rintro e' w1 ⟨rfl, B1⟩
        have u0 : w1.cell? ⟨w.heap.size, 0, none⟩ = some (.int .u64 8) := (B1.cell (p := ⟨w.heap.size, 0, none⟩) (by simp)).trans (by simp)
        have u1 : w1.cell? ⟨w.heap.size, 1, none⟩ = some (.int .u64 23) := (B1.cell (p := ⟨w.heap.size, 1, none⟩) (by simp)).trans (by simp)
        have l0 : w.heap.size < w1.heap.size := by have := B1.size; simp at this; omega
        have l0b : w.heap.size < w1.heap.size + 1 := by omega
        go_wp2_with fail
        obtain ⟨W, hW⟩ : ∃ W, w1.alloc (.cells #[.bool true, .bool false, .bool false, .int .u64 m, .int .i64 e1] 38) = W := ⟨_, rfl⟩
        obtain ⟨h, hh⟩ : ∃ h, w1.heap.size = h := ⟨_, rfl⟩
        obtain ⟨g, hg⟩ : ∃ g, w.heap.size = g := ⟨_, rfl⟩
        have HB : Hid (Below w.heap.size w W) := by unfold Hid; rw [← hW]; ((repeat (first | refine bel_alloc ?_ _ | refine bel_dN ?_ _ | refine Below.drew ?_ | refine Below.setCell ?_ (by first | (simp; done) | (simp; omega)) _)); refine bel_step ?_ B1; (repeat (first | refine bel_alloc ?_ _ | refine bel_dN ?_ _ | refine Below.drew ?_ | refine Below.setCell ?_ (by first | (simp; done) | (simp; omega)) _)); exact Below.refl _ _)
        have HG : Hid (w.heap.size ≤ h) := by unfold Hid; omega
        have hs : W.heap.size = h + 1 := by rw [← hW, ← hh]; simp
        have k0 : ∀ w, Keeps W w → w.cell? ⟨g, 0, none⟩ = some (.int .u64 8) := fun w h => h.cell (by omega) (by rw [← hW, ← hg]; simp [go_sem, u0, l0])
        have k1 : ∀ w, Keeps W w → w.cell? ⟨g, 1, none⟩ = some (.int .u64 23) := fun w h => h.cell (by omega) (by rw [← hW, ← hg]; simp [go_sem, u1, l0])
        have k2 : ∀ w, Keeps W w → w.cell? ⟨h, 0, none⟩ = some (.bool true) := fun w h => h.cell (by omega) (by rw [← hW, ← hh]; simp)
        have k3 : ∀ w, Keeps W w → w.cell? ⟨h, 1, none⟩ = some (.bool false) := fun w h => h.cell (by omega) (by rw [← hW, ← hh]; simp)
        have k4 : ∀ w, Keeps W w → w.cell? ⟨h, 2, none⟩ = some (.bool false) := fun w h => h.cell (by omega) (by rw [← hW, ← hh]; simp)
        have k5 : ∀ w, Keeps W w → w.cell? ⟨h, 3, none⟩ = some (.int .u64 m) := fun w h => h.cell (by omega) (by rw [← hW, ← hh]; simp)
        have k6 : ∀ w, Keeps W w → w.cell? ⟨h, 4, none⟩ = some (.int .i64 e1) := fun w h => h.cell (by omega) (by rw [← hW, ← hh]; simp)
        have kz : ∀ j w, Keeps W w → w.frozen? ⟨h, j, none⟩ = false := fun j w h => h.frozen (by omega) (by rw [← hW, ← hh]; simp [go_sem])
        rw [hW, hh, hg]
        clear hW hh hg u0 u1 l0 l0b B1
        refine region_qtail (C := Keeps W) 5 (by kernel_rfl) (by kernel_rfl) (Keeps.drew W) ?_
        (iterate 5
    (apply wpQuiet_go _ (by rfl)
     · intro wq hq
       go_simp
       first
         | (go_at_call 47; exact qcall hq (WH.out _))
         | (go_at_call 14; exact qcall hq (O2.out _))
         | exact rfl
     simp only [Act.put, List.setIfInBounds_toArray, List.set_cons_succ, List.set_cons_zero]))
        refine wpQuiet_nil ?_
        intro w3 hk
        have HB3 : Hid (Below w.heap.size w w3) := bel_step HB.out hk.below
        have y0 := k2 _ hk
        have y1 := k3 _ hk
        have y2 := k4 _ hk
        have y3 := k5 _ hk
        have y4 := k6 _ hk
        have f0 := kz 0 _ hk
        have f1 := kz 1 _ hk
        have f2 := kz 2 _ hk
        have f3 := kz 3 _ hk
        have f4 := kz 4 _ hk
        clear k0 k1 k2 k3 k4 k5 k6 kz hk hs HB
        simp only [List.drop_succ_cons, List.drop_zero]
        go_wp2
        refine bodyPost_ret (two_resT Try.results26 _ _ _) rfl ⟨rfl, ?_⟩
        exact ((((HB3.out.setCell (p := ⟨h, 0, none⟩) HG.out _).setCell (p := ⟨h, 1, none⟩) HG.out _).setCell (p := ⟨h, 2, none⟩) HG.out _).setCell (p := ⟨h, 3, none⟩) HG.out _).setCell (p := ⟨h, 4, none⟩) HG.out _

end Go.Proofs.Ytlkbalmkljabhab
