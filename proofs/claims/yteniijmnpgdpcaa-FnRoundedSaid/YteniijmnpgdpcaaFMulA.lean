/-
  FMul, both sides, and its law.
-/
import Derived.Test.YteniijmnpgdpcaaFRndS
import Derived.Test.YteniijmnpgdpcaaFFv
import Derived.Test.YteniijmnpgdpcaaQMake
import Derived.OpenShut
import Derived.Deep.RegionWith
namespace Go.Proofs.Yteniijmnpgdpcaa
open Go.RowKit


theorem twoStructs (w W3 : World) (b9 b10 : Nat) (x0 x1 x2 x3 x4 x5 x6 x7 a0 a1 a2 a3 a4 a5 a6 a7 : Value) (_ne1 : b9 ≠ b10) (ne2 : b10 ≠ b9)
    (y0 : w.cell? ⟨b9, 0, none⟩ = some a0) (y1 : w.cell? ⟨b9, 1, none⟩ = some a1) (y2 : w.cell? ⟨b9, 2, none⟩ = some a2) (y3 : w.cell? ⟨b9, 3, none⟩ = some a3)
    (z0 : w.cell? ⟨b10, 0, none⟩ = some a4) (z1 : w.cell? ⟨b10, 1, none⟩ = some a5) (z2 : w.cell? ⟨b10, 2, none⟩ = some a6) (z3 : w.cell? ⟨b10, 3, none⟩ = some a7)
    (hW : (((((((w.setCell ⟨b9, 0, none⟩ x0).setCell ⟨b9, 1, none⟩ x1).setCell ⟨b9, 2, none⟩ x2).setCell ⟨b9, 3, none⟩ x3).setCell ⟨b10, 0, none⟩ x4).setCell ⟨b10, 1, none⟩ x5).setCell ⟨b10, 2, none⟩ x6).setCell ⟨b10, 3, none⟩ x7 = W3) :
    (W3.cell? ⟨b9, 0, none⟩ = some x0 ∧ W3.cell? ⟨b9, 1, none⟩ = some x1 ∧ W3.cell? ⟨b9, 2, none⟩ = some x2 ∧ W3.cell? ⟨b9, 3, none⟩ = some x3 ∧ W3.cell? ⟨b10, 0, none⟩ = some x4 ∧ W3.cell? ⟨b10, 1, none⟩ = some x5 ∧ W3.cell? ⟨b10, 2, none⟩ = some x6 ∧ W3.cell? ⟨b10, 3, none⟩ = some x7) ∧
    (∀ g j, g ≠ b9 → g ≠ b10 → W3.cell? ⟨g, j, none⟩ = w.cell? ⟨g, j, none⟩) ∧ W3.heap.size = w.heap.size := by
  subst hW
  refine ⟨⟨?_, ?_, ?_, ?_, ?_, ?_, ?_, ?_⟩, fun g j h1 h2 => ?_, ?_⟩
  all_goals try have h3 := Ne.symm h1
  all_goals try have h4 := Ne.symm h2
  all_goals simp [go_sem, *]

set_option maxHeartbeats 1000000 in
theorem mulProd_a216 (m1 e1 m2 e2 : Int) (s1 s2 sg : Bool) (i2 n2 : Bool) (hsg : (!(s1 == s2)) = sg)  (w : World) :
    Calls Try.prog 39 #[(.agg #[.int .u64 5, .int .u64 10]), .agg #[.bool s1, .bool false, .bool true, .int .u64 m1, .int .i64 e1], .agg #[.bool s2, .bool i2, .bool n2, .int .u64 m2, .int .i64 e2]] w fun e w' => e = .returned (.int .u32 (31744 + 512)) ∧ Below w.heap.size w w' := by
  go_enter Try.func39, Try.ntmps39
  go_wp2_with fail
  refine (l4Nan16 _).mono ?_
  rintro e' w3 ⟨rfl, B3⟩
  go_wp2
  go_ret
  refine ⟨rfl, ?_⟩
  ((repeat (first | refine bel_alloc ?_ _ | refine bel_dN ?_ _ | refine Below.drew ?_ | refine Below.setCell ?_ (by first | (simp; done) | (simp; omega)) _)); refine bel_step ?_ B3; (repeat (first | refine bel_alloc ?_ _ | refine bel_dN ?_ _ | refine Below.drew ?_ | refine Below.setCell ?_ (by first | (simp; done) | (simp; omega)) _)); exact Below.refl _ _)

set_option maxHeartbeats 1000000 in
theorem mulProd_a232 (m1 e1 m2 e2 : Int) (s1 s2 sg : Bool) (i2 n2 : Bool) (hsg : (!(s1 == s2)) = sg)  (w : World) :
    Calls Try.prog 39 #[(.agg #[.int .u64 8, .int .u64 23]), .agg #[.bool s1, .bool false, .bool true, .int .u64 m1, .int .i64 e1], .agg #[.bool s2, .bool i2, .bool n2, .int .u64 m2, .int .i64 e2]] w fun e w' => e = .returned (.int .u32 (2139095040 + 4194304)) ∧ Below w.heap.size w w' := by
  go_enter Try.func39, Try.ntmps39
  go_wp2_with fail
  refine (l4Nan32 _).mono ?_
  rintro e' w3 ⟨rfl, B3⟩
  go_wp2
  go_ret
  refine ⟨rfl, ?_⟩
  ((repeat (first | refine bel_alloc ?_ _ | refine bel_dN ?_ _ | refine Below.drew ?_ | refine Below.setCell ?_ (by first | (simp; done) | (simp; omega)) _)); refine bel_step ?_ B3; (repeat (first | refine bel_alloc ?_ _ | refine bel_dN ?_ _ | refine Below.drew ?_ | refine Below.setCell ?_ (by first | (simp; done) | (simp; omega)) _)); exact Below.refl _ _)

set_option maxHeartbeats 2000000 in
theorem mulImpl_a216 (a b c1 m1 e1 c2 m2 e2 : Int) (s1 s2 sg : Bool) (V1 : Hid (∀ w, Calls Try.prog 29 #[(.agg #[.int .i64 10, .int .i64 15, .int .u32 31]), .int .u32 a] w fun e w' => e = .returned (.agg #[.int .i64 c1, .bool s1, .int .u64 m1, .int .i64 e1]) ∧ Below w.heap.size w w'))
    (V2 : Hid (∀ w, Calls Try.prog 29 #[(.agg #[.int .i64 10, .int .i64 15, .int .u32 31]), .int .u32 b] w fun e w' => e = .returned (.agg #[.int .i64 c2, .bool s2, .int .u64 m2, .int .i64 e2]) ∧ Below w.heap.size w w')) (hsg : (!(s1 == s2)) = sg) (hc1 : c1 = 2) (w : World) :
    Calls Try.prog 10 #[.int .i64 16, .int .u32 a, .int .u32 b] w fun e w' => e = .returned (.int .u32 (31744 + 512)) ∧ Below w.heap.size w w' := by
  subst hc1
  go_enter Try.func10, Try.ntmps10
  go_wp2_with fail
  refine (form16 _).mono ?_
  rintro e' w1 ⟨rfl, B1⟩
  go_wp2_with fail
  obtain ⟨W, hW⟩ : ∃ W, w1.alloc (.cells #[.int .i64 10, .int .i64 15, .int .u32 31] 45) = W := ⟨_, rfl⟩
  obtain ⟨g, hg⟩ : ∃ g, w1.heap.size = g := ⟨_, rfl⟩
  have hs : W.heap.size = g + 1 := by rw [← hW, ← hg]; simp
  have H : Hid (Below w.heap.size w W) := by unfold Hid; rw [← hW]; ((repeat (first | refine bel_alloc ?_ _ | refine bel_dN ?_ _ | refine Below.drew ?_ | refine Below.setCell ?_ (by first | (simp; done) | (simp; omega)) _)); refine bel_step ?_ B1; (repeat (first | refine bel_alloc ?_ _ | refine bel_dN ?_ _ | refine Below.drew ?_ | refine Below.setCell ?_ (by first | (simp; done) | (simp; omega)) _)); exact Below.refl _ _)
  have k0 : ∀ w, Keeps W w → w.cell? ⟨g, 0, none⟩ = some (.int .i64 10) := fun w h => h.cell (by omega) (by rw [← hW, ← hg]; simp)
  have k1 : ∀ w, Keeps W w → w.cell? ⟨g, 1, none⟩ = some (.int .i64 15) := fun w h => h.cell (by omega) (by rw [← hW, ← hg]; simp)
  have k2 : ∀ w, Keeps W w → w.cell? ⟨g, 2, none⟩ = some (.int .u32 31) := fun w h => h.cell (by omega) (by rw [← hW, ← hg]; simp)
  rw [hW, hg]
  clear hW B1 hg
  refine region_m (C := KeepsM W (.cells #[.int .i64 0, .bool false, .int .u64 0, .int .i64 0] 50)) 8 6 (by kernel_rfl) (by kernel_rfl) (KeepsM.start W _) ?_
  simp only [List.take_succ_cons, List.take_zero, List.drop_succ_cons, List.drop_zero]
  (iterate 6
    (apply wm_go _ (by omega) (by rfl)
     · intro M wq hq
       have hx := hq.keeps
       go_simp
       first
         | (apply uponF_call; go_at_call_of 29 a; exact mcall hq (V1.out _))
         | (apply uponF_call; go_at_call_of 29 b; exact mcall hq (V2.out _))
         | exact uponF_value hq rfl
     simp only [Act.put, List.setIfInBounds_toArray, List.set_cons_succ, List.set_cons_zero]))
  refine wm_make (by omega) (by rfl) (fun M wq hq => ⟨wq.heap.size, ?_⟩) (fun b9 => ?_)
  · go_simp
    exact uponF_value (hq.make 6) rfl
  simp only [Act.put, List.setIfInBounds_toArray, List.set_cons_succ, List.set_cons_zero, ptrTo]
  refine wm_make (by omega) (by rfl) (fun M wq hq => ⟨wq.heap.size, ?_⟩) (fun b10 => ?_)
  · go_simp
    exact uponF_value (hq.make 7) rfl
  simp only [Act.put, List.setIfInBounds_toArray, List.set_cons_succ, List.set_cons_zero, ptrTo]
  refine wm_nil ?_
  intro w2 hk
  obtain ⟨u1, u2, u3⟩ := hk.made 6 b9 (by simp [updM])
  obtain ⟨v1, v2, v3⟩ := hk.made 7 b10 (by simp [updM])
  have ne1 : b9 ≠ b10 := fun h => by have := hk.apart 6 7 b9 (by simp [updM]) (by simp [updM, h]); omega
  have ne2 : b10 ≠ b9 := Ne.symm ne1
  have y0 : w2.cell? ⟨b9, 0, none⟩ = some (.int .i64 0) := by simp [World.cell?, u3]
  have y1 : w2.cell? ⟨b9, 1, none⟩ = some (.bool false) := by simp [World.cell?, u3]
  have y2 : w2.cell? ⟨b9, 2, none⟩ = some (.int .u64 0) := by simp [World.cell?, u3]
  have y3 : w2.cell? ⟨b9, 3, none⟩ = some (.int .i64 0) := by simp [World.cell?, u3]
  have z0 : w2.cell? ⟨b10, 0, none⟩ = some (.int .i64 0) := by simp [World.cell?, v3]
  have z1 : w2.cell? ⟨b10, 1, none⟩ = some (.bool false) := by simp [World.cell?, v3]
  have z2 : w2.cell? ⟨b10, 2, none⟩ = some (.int .u64 0) := by simp [World.cell?, v3]
  have z3 : w2.cell? ⟨b10, 3, none⟩ = some (.int .i64 0) := by simp [World.cell?, v3]
  have fz9 : ∀ j, w2.frozen? ⟨b9, j, none⟩ = false := fun j => by simp [World.frozen?, u3]
  have fz10 : ∀ j, w2.frozen? ⟨b10, j, none⟩ = false := fun j => by simp [World.frozen?, v3]
  have q0 := k0 _ hk.keeps
  have q1 := k1 _ hk.keeps
  have q2 := k2 _ hk.keeps
  have ng1 : g ≠ b9 := by omega
  have ng2 : g ≠ b10 := by omega
  have hwz := H.out.size
  obtain ⟨W3, hW3⟩ : ∃ W3, ((((((((w2.setCell ⟨b9, 0, none⟩ (.int .i64 2)).setCell ⟨b9, 1, none⟩ (.bool s1)).setCell ⟨b9, 2, none⟩ (.int .u64 m1)).setCell ⟨b9, 3, none⟩ (.int .i64 e1)).setCell ⟨b10, 0, none⟩ (.int .i64 c2)).setCell ⟨b10, 1, none⟩ (.bool s2)).setCell ⟨b10, 2, none⟩ (.int .u64 m2)).setCell ⟨b10, 3, none⟩ (.int .i64 e2)) = W3 := ⟨_, rfl⟩
  have H3 : Hid (Below w.heap.size w W3) := by
    unfold Hid
    rw [← hW3]
    have hb := bel_step H.out hk.keeps.below
    exact (((((((hb.setCell (p := ⟨b9, 0, none⟩) (by simp; omega) _).setCell (p := ⟨b9, 1, none⟩) (by simp; omega) _).setCell (p := ⟨b9, 2, none⟩) (by simp; omega) _).setCell (p := ⟨b9, 3, none⟩) (by simp; omega) _).setCell (p := ⟨b10, 0, none⟩) (by simp; omega) _).setCell (p := ⟨b10, 1, none⟩) (by simp; omega) _).setCell (p := ⟨b10, 2, none⟩) (by simp; omega) _).setCell (p := ⟨b10, 3, none⟩) (by simp; omega) _
  obtain ⟨⟨p0, p1, p2, p3, p4, p5, p6, p7⟩, pg, hsz⟩ := twoStructs w2 W3 b9 b10 _ _ _ _ _ _ _ _ _ _ _ _ _ _ _ _ ne1 ne2 y0 y1 y2 y3 z0 z1 z2 z3 hW3
  have t0 := (pg g 0 ng1 ng2).trans q0
  have t1 := (pg g 1 ng1 ng2).trans q1
  have t2 := (pg g 2 ng1 ng2).trans q2
  have l0 : g < W3.heap.size := by have := hk.keeps.below.size; omega
  have l9 : b9 < W3.heap.size := by omega
  have l10 : b10 < W3.heap.size := by omega
  clear k0 k1 k2 hk H V1 V2 hs q0 q1 q2 u1 u2 u3 v1 v2 v3 hwz hsz ng1 ng2 pg
  have l0b : g < W3.heap.size + 1 := by omega
  have l9b : b9 < W3.heap.size + 1 := by omega
  have l10b : b10 < W3.heap.size + 1 := by omega
  have l0c : g < W3.heap.size + 1 + 1 := by omega
  have l9c : b9 < W3.heap.size + 1 + 1 := by omega
  have l10c : b10 < W3.heap.size + 1 + 1 := by omega
  go_wp2_with (first | (go_at_call 30; refine (noNumber16 _).mono ?_; rintro e' w3 ⟨rfl, B3⟩) | (go_at_call 32; refine (infinite16 sg _).mono ?_; rintro e' w3 ⟨rfl, B3⟩) | (go_at_call 31; go_in))
  go_ret
  refine ⟨rfl, ?_⟩
  refine bel_step ?_ B3
  refine bel_step H3.out ?_
  (repeat (first | refine Below.alloc ?_ (by first | (simp; done) | (simp; omega)) _ | refine Below.setCell ?_ (by first | (simp; done) | (simp; omega)) _ | refine bel_dN ?_ _ | refine Below.drew ?_ | exact Below.refl _ _))

set_option maxHeartbeats 2000000 in
theorem mulImpl_a232 (a b c1 m1 e1 c2 m2 e2 : Int) (s1 s2 sg : Bool) (V1 : Hid (∀ w, Calls Try.prog 29 #[(.agg #[.int .i64 23, .int .i64 127, .int .u32 255]), .int .u32 a] w fun e w' => e = .returned (.agg #[.int .i64 c1, .bool s1, .int .u64 m1, .int .i64 e1]) ∧ Below w.heap.size w w'))
    (V2 : Hid (∀ w, Calls Try.prog 29 #[(.agg #[.int .i64 23, .int .i64 127, .int .u32 255]), .int .u32 b] w fun e w' => e = .returned (.agg #[.int .i64 c2, .bool s2, .int .u64 m2, .int .i64 e2]) ∧ Below w.heap.size w w')) (hsg : (!(s1 == s2)) = sg) (hc1 : c1 = 2) (w : World) :
    Calls Try.prog 10 #[.int .i64 32, .int .u32 a, .int .u32 b] w fun e w' => e = .returned (.int .u32 (2139095040 + 4194304)) ∧ Below w.heap.size w w' := by
  subst hc1
  go_enter Try.func10, Try.ntmps10
  go_wp2_with fail
  refine (form32 _).mono ?_
  rintro e' w1 ⟨rfl, B1⟩
  go_wp2_with fail
  obtain ⟨W, hW⟩ : ∃ W, w1.alloc (.cells #[.int .i64 23, .int .i64 127, .int .u32 255] 45) = W := ⟨_, rfl⟩
  obtain ⟨g, hg⟩ : ∃ g, w1.heap.size = g := ⟨_, rfl⟩
  have hs : W.heap.size = g + 1 := by rw [← hW, ← hg]; simp
  have H : Hid (Below w.heap.size w W) := by unfold Hid; rw [← hW]; ((repeat (first | refine bel_alloc ?_ _ | refine bel_dN ?_ _ | refine Below.drew ?_ | refine Below.setCell ?_ (by first | (simp; done) | (simp; omega)) _)); refine bel_step ?_ B1; (repeat (first | refine bel_alloc ?_ _ | refine bel_dN ?_ _ | refine Below.drew ?_ | refine Below.setCell ?_ (by first | (simp; done) | (simp; omega)) _)); exact Below.refl _ _)
  have k0 : ∀ w, Keeps W w → w.cell? ⟨g, 0, none⟩ = some (.int .i64 23) := fun w h => h.cell (by omega) (by rw [← hW, ← hg]; simp)
  have k1 : ∀ w, Keeps W w → w.cell? ⟨g, 1, none⟩ = some (.int .i64 127) := fun w h => h.cell (by omega) (by rw [← hW, ← hg]; simp)
  have k2 : ∀ w, Keeps W w → w.cell? ⟨g, 2, none⟩ = some (.int .u32 255) := fun w h => h.cell (by omega) (by rw [← hW, ← hg]; simp)
  rw [hW, hg]
  clear hW B1 hg
  refine region_m (C := KeepsM W (.cells #[.int .i64 0, .bool false, .int .u64 0, .int .i64 0] 50)) 8 6 (by kernel_rfl) (by kernel_rfl) (KeepsM.start W _) ?_
  simp only [List.take_succ_cons, List.take_zero, List.drop_succ_cons, List.drop_zero]
  (iterate 6
    (apply wm_go _ (by omega) (by rfl)
     · intro M wq hq
       have hx := hq.keeps
       go_simp
       first
         | (apply uponF_call; go_at_call_of 29 a; exact mcall hq (V1.out _))
         | (apply uponF_call; go_at_call_of 29 b; exact mcall hq (V2.out _))
         | exact uponF_value hq rfl
     simp only [Act.put, List.setIfInBounds_toArray, List.set_cons_succ, List.set_cons_zero]))
  refine wm_make (by omega) (by rfl) (fun M wq hq => ⟨wq.heap.size, ?_⟩) (fun b9 => ?_)
  · go_simp
    exact uponF_value (hq.make 6) rfl
  simp only [Act.put, List.setIfInBounds_toArray, List.set_cons_succ, List.set_cons_zero, ptrTo]
  refine wm_make (by omega) (by rfl) (fun M wq hq => ⟨wq.heap.size, ?_⟩) (fun b10 => ?_)
  · go_simp
    exact uponF_value (hq.make 7) rfl
  simp only [Act.put, List.setIfInBounds_toArray, List.set_cons_succ, List.set_cons_zero, ptrTo]
  refine wm_nil ?_
  intro w2 hk
  obtain ⟨u1, u2, u3⟩ := hk.made 6 b9 (by simp [updM])
  obtain ⟨v1, v2, v3⟩ := hk.made 7 b10 (by simp [updM])
  have ne1 : b9 ≠ b10 := fun h => by have := hk.apart 6 7 b9 (by simp [updM]) (by simp [updM, h]); omega
  have ne2 : b10 ≠ b9 := Ne.symm ne1
  have y0 : w2.cell? ⟨b9, 0, none⟩ = some (.int .i64 0) := by simp [World.cell?, u3]
  have y1 : w2.cell? ⟨b9, 1, none⟩ = some (.bool false) := by simp [World.cell?, u3]
  have y2 : w2.cell? ⟨b9, 2, none⟩ = some (.int .u64 0) := by simp [World.cell?, u3]
  have y3 : w2.cell? ⟨b9, 3, none⟩ = some (.int .i64 0) := by simp [World.cell?, u3]
  have z0 : w2.cell? ⟨b10, 0, none⟩ = some (.int .i64 0) := by simp [World.cell?, v3]
  have z1 : w2.cell? ⟨b10, 1, none⟩ = some (.bool false) := by simp [World.cell?, v3]
  have z2 : w2.cell? ⟨b10, 2, none⟩ = some (.int .u64 0) := by simp [World.cell?, v3]
  have z3 : w2.cell? ⟨b10, 3, none⟩ = some (.int .i64 0) := by simp [World.cell?, v3]
  have fz9 : ∀ j, w2.frozen? ⟨b9, j, none⟩ = false := fun j => by simp [World.frozen?, u3]
  have fz10 : ∀ j, w2.frozen? ⟨b10, j, none⟩ = false := fun j => by simp [World.frozen?, v3]
  have q0 := k0 _ hk.keeps
  have q1 := k1 _ hk.keeps
  have q2 := k2 _ hk.keeps
  have ng1 : g ≠ b9 := by omega
  have ng2 : g ≠ b10 := by omega
  have hwz := H.out.size
  obtain ⟨W3, hW3⟩ : ∃ W3, ((((((((w2.setCell ⟨b9, 0, none⟩ (.int .i64 2)).setCell ⟨b9, 1, none⟩ (.bool s1)).setCell ⟨b9, 2, none⟩ (.int .u64 m1)).setCell ⟨b9, 3, none⟩ (.int .i64 e1)).setCell ⟨b10, 0, none⟩ (.int .i64 c2)).setCell ⟨b10, 1, none⟩ (.bool s2)).setCell ⟨b10, 2, none⟩ (.int .u64 m2)).setCell ⟨b10, 3, none⟩ (.int .i64 e2)) = W3 := ⟨_, rfl⟩
  have H3 : Hid (Below w.heap.size w W3) := by
    unfold Hid
    rw [← hW3]
    have hb := bel_step H.out hk.keeps.below
    exact (((((((hb.setCell (p := ⟨b9, 0, none⟩) (by simp; omega) _).setCell (p := ⟨b9, 1, none⟩) (by simp; omega) _).setCell (p := ⟨b9, 2, none⟩) (by simp; omega) _).setCell (p := ⟨b9, 3, none⟩) (by simp; omega) _).setCell (p := ⟨b10, 0, none⟩) (by simp; omega) _).setCell (p := ⟨b10, 1, none⟩) (by simp; omega) _).setCell (p := ⟨b10, 2, none⟩) (by simp; omega) _).setCell (p := ⟨b10, 3, none⟩) (by simp; omega) _
  obtain ⟨⟨p0, p1, p2, p3, p4, p5, p6, p7⟩, pg, hsz⟩ := twoStructs w2 W3 b9 b10 _ _ _ _ _ _ _ _ _ _ _ _ _ _ _ _ ne1 ne2 y0 y1 y2 y3 z0 z1 z2 z3 hW3
  have t0 := (pg g 0 ng1 ng2).trans q0
  have t1 := (pg g 1 ng1 ng2).trans q1
  have t2 := (pg g 2 ng1 ng2).trans q2
  have l0 : g < W3.heap.size := by have := hk.keeps.below.size; omega
  have l9 : b9 < W3.heap.size := by omega
  have l10 : b10 < W3.heap.size := by omega
  clear k0 k1 k2 hk H V1 V2 hs q0 q1 q2 u1 u2 u3 v1 v2 v3 hwz hsz ng1 ng2 pg
  have l0b : g < W3.heap.size + 1 := by omega
  have l9b : b9 < W3.heap.size + 1 := by omega
  have l10b : b10 < W3.heap.size + 1 := by omega
  have l0c : g < W3.heap.size + 1 + 1 := by omega
  have l9c : b9 < W3.heap.size + 1 + 1 := by omega
  have l10c : b10 < W3.heap.size + 1 + 1 := by omega
  go_wp2_with (first | (go_at_call 30; refine (noNumber32 _).mono ?_; rintro e' w3 ⟨rfl, B3⟩) | (go_at_call 32; refine (infinite32 sg _).mono ?_; rintro e' w3 ⟨rfl, B3⟩) | (go_at_call 31; go_in))
  go_ret
  refine ⟨rfl, ?_⟩
  refine bel_step ?_ B3
  refine bel_step H3.out ?_
  (repeat (first | refine Below.alloc ?_ (by first | (simp; done) | (simp; omega)) _ | refine Below.setCell ?_ (by first | (simp; done) | (simp; omega)) _ | refine bel_dN ?_ _ | refine Below.drew ?_ | exact Below.refl _ _))

set_option maxHeartbeats 1000000 in
theorem mulProd_b016 (m1 e1 m2 e2 : Int) (s1 s2 sg : Bool) (hsg : (!(s1 == s2)) = sg)  (w : World) :
    Calls Try.prog 39 #[(.agg #[.int .u64 5, .int .u64 10]), .agg #[.bool s1, .bool false, .bool false, .int .u64 m1, .int .i64 e1], .agg #[.bool s2, .bool false, .bool true, .int .u64 m2, .int .i64 e2]] w fun e w' => e = .returned (.int .u32 (31744 + 512)) ∧ Below w.heap.size w w' := by
  go_enter Try.func39, Try.ntmps39
  go_wp2_with fail
  refine (l4Nan16 _).mono ?_
  rintro e' w3 ⟨rfl, B3⟩
  go_wp2
  go_ret
  refine ⟨rfl, ?_⟩
  ((repeat (first | refine bel_alloc ?_ _ | refine bel_dN ?_ _ | refine Below.drew ?_ | refine Below.setCell ?_ (by first | (simp; done) | (simp; omega)) _)); refine bel_step ?_ B3; (repeat (first | refine bel_alloc ?_ _ | refine bel_dN ?_ _ | refine Below.drew ?_ | refine Below.setCell ?_ (by first | (simp; done) | (simp; omega)) _)); exact Below.refl _ _)

set_option maxHeartbeats 1000000 in
theorem mulProd_b032 (m1 e1 m2 e2 : Int) (s1 s2 sg : Bool) (hsg : (!(s1 == s2)) = sg)  (w : World) :
    Calls Try.prog 39 #[(.agg #[.int .u64 8, .int .u64 23]), .agg #[.bool s1, .bool false, .bool false, .int .u64 m1, .int .i64 e1], .agg #[.bool s2, .bool false, .bool true, .int .u64 m2, .int .i64 e2]] w fun e w' => e = .returned (.int .u32 (2139095040 + 4194304)) ∧ Below w.heap.size w w' := by
  go_enter Try.func39, Try.ntmps39
  go_wp2_with fail
  refine (l4Nan32 _).mono ?_
  rintro e' w3 ⟨rfl, B3⟩
  go_wp2
  go_ret
  refine ⟨rfl, ?_⟩
  ((repeat (first | refine bel_alloc ?_ _ | refine bel_dN ?_ _ | refine Below.drew ?_ | refine Below.setCell ?_ (by first | (simp; done) | (simp; omega)) _)); refine bel_step ?_ B3; (repeat (first | refine bel_alloc ?_ _ | refine bel_dN ?_ _ | refine Below.drew ?_ | refine Below.setCell ?_ (by first | (simp; done) | (simp; omega)) _)); exact Below.refl _ _)

set_option maxHeartbeats 2000000 in
theorem mulImpl_b016 (a b c1 m1 e1 c2 m2 e2 : Int) (s1 s2 sg : Bool) (V1 : Hid (∀ w, Calls Try.prog 29 #[(.agg #[.int .i64 10, .int .i64 15, .int .u32 31]), .int .u32 a] w fun e w' => e = .returned (.agg #[.int .i64 c1, .bool s1, .int .u64 m1, .int .i64 e1]) ∧ Below w.heap.size w w'))
    (V2 : Hid (∀ w, Calls Try.prog 29 #[(.agg #[.int .i64 10, .int .i64 15, .int .u32 31]), .int .u32 b] w fun e w' => e = .returned (.agg #[.int .i64 c2, .bool s2, .int .u64 m2, .int .i64 e2]) ∧ Below w.heap.size w w')) (hsg : (!(s1 == s2)) = sg) (hc1 : c1 = 0) (hc2 : c2 = 2) (w : World) :
    Calls Try.prog 10 #[.int .i64 16, .int .u32 a, .int .u32 b] w fun e w' => e = .returned (.int .u32 (31744 + 512)) ∧ Below w.heap.size w w' := by
  subst hc1
  subst hc2
  go_enter Try.func10, Try.ntmps10
  go_wp2_with fail
  refine (form16 _).mono ?_
  rintro e' w1 ⟨rfl, B1⟩
  go_wp2_with fail
  obtain ⟨W, hW⟩ : ∃ W, w1.alloc (.cells #[.int .i64 10, .int .i64 15, .int .u32 31] 45) = W := ⟨_, rfl⟩
  obtain ⟨g, hg⟩ : ∃ g, w1.heap.size = g := ⟨_, rfl⟩
  have hs : W.heap.size = g + 1 := by rw [← hW, ← hg]; simp
  have H : Hid (Below w.heap.size w W) := by unfold Hid; rw [← hW]; ((repeat (first | refine bel_alloc ?_ _ | refine bel_dN ?_ _ | refine Below.drew ?_ | refine Below.setCell ?_ (by first | (simp; done) | (simp; omega)) _)); refine bel_step ?_ B1; (repeat (first | refine bel_alloc ?_ _ | refine bel_dN ?_ _ | refine Below.drew ?_ | refine Below.setCell ?_ (by first | (simp; done) | (simp; omega)) _)); exact Below.refl _ _)
  have k0 : ∀ w, Keeps W w → w.cell? ⟨g, 0, none⟩ = some (.int .i64 10) := fun w h => h.cell (by omega) (by rw [← hW, ← hg]; simp)
  have k1 : ∀ w, Keeps W w → w.cell? ⟨g, 1, none⟩ = some (.int .i64 15) := fun w h => h.cell (by omega) (by rw [← hW, ← hg]; simp)
  have k2 : ∀ w, Keeps W w → w.cell? ⟨g, 2, none⟩ = some (.int .u32 31) := fun w h => h.cell (by omega) (by rw [← hW, ← hg]; simp)
  rw [hW, hg]
  clear hW B1 hg
  refine region_m (C := KeepsM W (.cells #[.int .i64 0, .bool false, .int .u64 0, .int .i64 0] 50)) 8 6 (by kernel_rfl) (by kernel_rfl) (KeepsM.start W _) ?_
  simp only [List.take_succ_cons, List.take_zero, List.drop_succ_cons, List.drop_zero]
  (iterate 6
    (apply wm_go _ (by omega) (by rfl)
     · intro M wq hq
       have hx := hq.keeps
       go_simp
       first
         | (apply uponF_call; go_at_call_of 29 a; exact mcall hq (V1.out _))
         | (apply uponF_call; go_at_call_of 29 b; exact mcall hq (V2.out _))
         | exact uponF_value hq rfl
     simp only [Act.put, List.setIfInBounds_toArray, List.set_cons_succ, List.set_cons_zero]))
  refine wm_make (by omega) (by rfl) (fun M wq hq => ⟨wq.heap.size, ?_⟩) (fun b9 => ?_)
  · go_simp
    exact uponF_value (hq.make 6) rfl
  simp only [Act.put, List.setIfInBounds_toArray, List.set_cons_succ, List.set_cons_zero, ptrTo]
  refine wm_make (by omega) (by rfl) (fun M wq hq => ⟨wq.heap.size, ?_⟩) (fun b10 => ?_)
  · go_simp
    exact uponF_value (hq.make 7) rfl
  simp only [Act.put, List.setIfInBounds_toArray, List.set_cons_succ, List.set_cons_zero, ptrTo]
  refine wm_nil ?_
  intro w2 hk
  obtain ⟨u1, u2, u3⟩ := hk.made 6 b9 (by simp [updM])
  obtain ⟨v1, v2, v3⟩ := hk.made 7 b10 (by simp [updM])
  have ne1 : b9 ≠ b10 := fun h => by have := hk.apart 6 7 b9 (by simp [updM]) (by simp [updM, h]); omega
  have ne2 : b10 ≠ b9 := Ne.symm ne1
  have y0 : w2.cell? ⟨b9, 0, none⟩ = some (.int .i64 0) := by simp [World.cell?, u3]
  have y1 : w2.cell? ⟨b9, 1, none⟩ = some (.bool false) := by simp [World.cell?, u3]
  have y2 : w2.cell? ⟨b9, 2, none⟩ = some (.int .u64 0) := by simp [World.cell?, u3]
  have y3 : w2.cell? ⟨b9, 3, none⟩ = some (.int .i64 0) := by simp [World.cell?, u3]
  have z0 : w2.cell? ⟨b10, 0, none⟩ = some (.int .i64 0) := by simp [World.cell?, v3]
  have z1 : w2.cell? ⟨b10, 1, none⟩ = some (.bool false) := by simp [World.cell?, v3]
  have z2 : w2.cell? ⟨b10, 2, none⟩ = some (.int .u64 0) := by simp [World.cell?, v3]
  have z3 : w2.cell? ⟨b10, 3, none⟩ = some (.int .i64 0) := by simp [World.cell?, v3]
  have fz9 : ∀ j, w2.frozen? ⟨b9, j, none⟩ = false := fun j => by simp [World.frozen?, u3]
  have fz10 : ∀ j, w2.frozen? ⟨b10, j, none⟩ = false := fun j => by simp [World.frozen?, v3]
  have q0 := k0 _ hk.keeps
  have q1 := k1 _ hk.keeps
  have q2 := k2 _ hk.keeps
  have ng1 : g ≠ b9 := by omega
  have ng2 : g ≠ b10 := by omega
  have hwz := H.out.size
  obtain ⟨W3, hW3⟩ : ∃ W3, ((((((((w2.setCell ⟨b9, 0, none⟩ (.int .i64 0)).setCell ⟨b9, 1, none⟩ (.bool s1)).setCell ⟨b9, 2, none⟩ (.int .u64 m1)).setCell ⟨b9, 3, none⟩ (.int .i64 e1)).setCell ⟨b10, 0, none⟩ (.int .i64 2)).setCell ⟨b10, 1, none⟩ (.bool s2)).setCell ⟨b10, 2, none⟩ (.int .u64 m2)).setCell ⟨b10, 3, none⟩ (.int .i64 e2)) = W3 := ⟨_, rfl⟩
  have H3 : Hid (Below w.heap.size w W3) := by
    unfold Hid
    rw [← hW3]
    have hb := bel_step H.out hk.keeps.below
    exact (((((((hb.setCell (p := ⟨b9, 0, none⟩) (by simp; omega) _).setCell (p := ⟨b9, 1, none⟩) (by simp; omega) _).setCell (p := ⟨b9, 2, none⟩) (by simp; omega) _).setCell (p := ⟨b9, 3, none⟩) (by simp; omega) _).setCell (p := ⟨b10, 0, none⟩) (by simp; omega) _).setCell (p := ⟨b10, 1, none⟩) (by simp; omega) _).setCell (p := ⟨b10, 2, none⟩) (by simp; omega) _).setCell (p := ⟨b10, 3, none⟩) (by simp; omega) _
  obtain ⟨⟨p0, p1, p2, p3, p4, p5, p6, p7⟩, pg, hsz⟩ := twoStructs w2 W3 b9 b10 _ _ _ _ _ _ _ _ _ _ _ _ _ _ _ _ ne1 ne2 y0 y1 y2 y3 z0 z1 z2 z3 hW3
  have t0 := (pg g 0 ng1 ng2).trans q0
  have t1 := (pg g 1 ng1 ng2).trans q1
  have t2 := (pg g 2 ng1 ng2).trans q2
  have l0 : g < W3.heap.size := by have := hk.keeps.below.size; omega
  have l9 : b9 < W3.heap.size := by omega
  have l10 : b10 < W3.heap.size := by omega
  clear k0 k1 k2 hk H V1 V2 hs q0 q1 q2 u1 u2 u3 v1 v2 v3 hwz hsz ng1 ng2 pg
  have l0b : g < W3.heap.size + 1 := by omega
  have l9b : b9 < W3.heap.size + 1 := by omega
  have l10b : b10 < W3.heap.size + 1 := by omega
  have l0c : g < W3.heap.size + 1 + 1 := by omega
  have l9c : b9 < W3.heap.size + 1 + 1 := by omega
  have l10c : b10 < W3.heap.size + 1 + 1 := by omega
  go_wp2_with (first | (go_at_call 30; refine (noNumber16 _).mono ?_; rintro e' w3 ⟨rfl, B3⟩) | (go_at_call 32; refine (infinite16 sg _).mono ?_; rintro e' w3 ⟨rfl, B3⟩) | (go_at_call 31; go_in))
  go_ret
  refine ⟨rfl, ?_⟩
  refine bel_step ?_ B3
  refine bel_step H3.out ?_
  (repeat (first | refine Below.alloc ?_ (by first | (simp; done) | (simp; omega)) _ | refine Below.setCell ?_ (by first | (simp; done) | (simp; omega)) _ | refine bel_dN ?_ _ | refine Below.drew ?_ | exact Below.refl _ _))

set_option maxHeartbeats 2000000 in
theorem mulImpl_b032 (a b c1 m1 e1 c2 m2 e2 : Int) (s1 s2 sg : Bool) (V1 : Hid (∀ w, Calls Try.prog 29 #[(.agg #[.int .i64 23, .int .i64 127, .int .u32 255]), .int .u32 a] w fun e w' => e = .returned (.agg #[.int .i64 c1, .bool s1, .int .u64 m1, .int .i64 e1]) ∧ Below w.heap.size w w'))
    (V2 : Hid (∀ w, Calls Try.prog 29 #[(.agg #[.int .i64 23, .int .i64 127, .int .u32 255]), .int .u32 b] w fun e w' => e = .returned (.agg #[.int .i64 c2, .bool s2, .int .u64 m2, .int .i64 e2]) ∧ Below w.heap.size w w')) (hsg : (!(s1 == s2)) = sg) (hc1 : c1 = 0) (hc2 : c2 = 2) (w : World) :
    Calls Try.prog 10 #[.int .i64 32, .int .u32 a, .int .u32 b] w fun e w' => e = .returned (.int .u32 (2139095040 + 4194304)) ∧ Below w.heap.size w w' := by
  subst hc1
  subst hc2
  go_enter Try.func10, Try.ntmps10
  go_wp2_with fail
  refine (form32 _).mono ?_
  rintro e' w1 ⟨rfl, B1⟩
  go_wp2_with fail
  obtain ⟨W, hW⟩ : ∃ W, w1.alloc (.cells #[.int .i64 23, .int .i64 127, .int .u32 255] 45) = W := ⟨_, rfl⟩
  obtain ⟨g, hg⟩ : ∃ g, w1.heap.size = g := ⟨_, rfl⟩
  have hs : W.heap.size = g + 1 := by rw [← hW, ← hg]; simp
  have H : Hid (Below w.heap.size w W) := by unfold Hid; rw [← hW]; ((repeat (first | refine bel_alloc ?_ _ | refine bel_dN ?_ _ | refine Below.drew ?_ | refine Below.setCell ?_ (by first | (simp; done) | (simp; omega)) _)); refine bel_step ?_ B1; (repeat (first | refine bel_alloc ?_ _ | refine bel_dN ?_ _ | refine Below.drew ?_ | refine Below.setCell ?_ (by first | (simp; done) | (simp; omega)) _)); exact Below.refl _ _)
  have k0 : ∀ w, Keeps W w → w.cell? ⟨g, 0, none⟩ = some (.int .i64 23) := fun w h => h.cell (by omega) (by rw [← hW, ← hg]; simp)
  have k1 : ∀ w, Keeps W w → w.cell? ⟨g, 1, none⟩ = some (.int .i64 127) := fun w h => h.cell (by omega) (by rw [← hW, ← hg]; simp)
  have k2 : ∀ w, Keeps W w → w.cell? ⟨g, 2, none⟩ = some (.int .u32 255) := fun w h => h.cell (by omega) (by rw [← hW, ← hg]; simp)
  rw [hW, hg]
  clear hW B1 hg
  refine region_m (C := KeepsM W (.cells #[.int .i64 0, .bool false, .int .u64 0, .int .i64 0] 50)) 8 6 (by kernel_rfl) (by kernel_rfl) (KeepsM.start W _) ?_
  simp only [List.take_succ_cons, List.take_zero, List.drop_succ_cons, List.drop_zero]
  (iterate 6
    (apply wm_go _ (by omega) (by rfl)
     · intro M wq hq
       have hx := hq.keeps
       go_simp
       first
         | (apply uponF_call; go_at_call_of 29 a; exact mcall hq (V1.out _))
         | (apply uponF_call; go_at_call_of 29 b; exact mcall hq (V2.out _))
         | exact uponF_value hq rfl
     simp only [Act.put, List.setIfInBounds_toArray, List.set_cons_succ, List.set_cons_zero]))
  refine wm_make (by omega) (by rfl) (fun M wq hq => ⟨wq.heap.size, ?_⟩) (fun b9 => ?_)
  · go_simp
    exact uponF_value (hq.make 6) rfl
  simp only [Act.put, List.setIfInBounds_toArray, List.set_cons_succ, List.set_cons_zero, ptrTo]
  refine wm_make (by omega) (by rfl) (fun M wq hq => ⟨wq.heap.size, ?_⟩) (fun b10 => ?_)
  · go_simp
    exact uponF_value (hq.make 7) rfl
  simp only [Act.put, List.setIfInBounds_toArray, List.set_cons_succ, List.set_cons_zero, ptrTo]
  refine wm_nil ?_
  intro w2 hk
  obtain ⟨u1, u2, u3⟩ := hk.made 6 b9 (by simp [updM])
  obtain ⟨v1, v2, v3⟩ := hk.made 7 b10 (by simp [updM])
  have ne1 : b9 ≠ b10 := fun h => by have := hk.apart 6 7 b9 (by simp [updM]) (by simp [updM, h]); omega
  have ne2 : b10 ≠ b9 := Ne.symm ne1
  have y0 : w2.cell? ⟨b9, 0, none⟩ = some (.int .i64 0) := by simp [World.cell?, u3]
  have y1 : w2.cell? ⟨b9, 1, none⟩ = some (.bool false) := by simp [World.cell?, u3]
  have y2 : w2.cell? ⟨b9, 2, none⟩ = some (.int .u64 0) := by simp [World.cell?, u3]
  have y3 : w2.cell? ⟨b9, 3, none⟩ = some (.int .i64 0) := by simp [World.cell?, u3]
  have z0 : w2.cell? ⟨b10, 0, none⟩ = some (.int .i64 0) := by simp [World.cell?, v3]
  have z1 : w2.cell? ⟨b10, 1, none⟩ = some (.bool false) := by simp [World.cell?, v3]
  have z2 : w2.cell? ⟨b10, 2, none⟩ = some (.int .u64 0) := by simp [World.cell?, v3]
  have z3 : w2.cell? ⟨b10, 3, none⟩ = some (.int .i64 0) := by simp [World.cell?, v3]
  have fz9 : ∀ j, w2.frozen? ⟨b9, j, none⟩ = false := fun j => by simp [World.frozen?, u3]
  have fz10 : ∀ j, w2.frozen? ⟨b10, j, none⟩ = false := fun j => by simp [World.frozen?, v3]
  have q0 := k0 _ hk.keeps
  have q1 := k1 _ hk.keeps
  have q2 := k2 _ hk.keeps
  have ng1 : g ≠ b9 := by omega
  have ng2 : g ≠ b10 := by omega
  have hwz := H.out.size
  obtain ⟨W3, hW3⟩ : ∃ W3, ((((((((w2.setCell ⟨b9, 0, none⟩ (.int .i64 0)).setCell ⟨b9, 1, none⟩ (.bool s1)).setCell ⟨b9, 2, none⟩ (.int .u64 m1)).setCell ⟨b9, 3, none⟩ (.int .i64 e1)).setCell ⟨b10, 0, none⟩ (.int .i64 2)).setCell ⟨b10, 1, none⟩ (.bool s2)).setCell ⟨b10, 2, none⟩ (.int .u64 m2)).setCell ⟨b10, 3, none⟩ (.int .i64 e2)) = W3 := ⟨_, rfl⟩
  have H3 : Hid (Below w.heap.size w W3) := by
    unfold Hid
    rw [← hW3]
    have hb := bel_step H.out hk.keeps.below
    exact (((((((hb.setCell (p := ⟨b9, 0, none⟩) (by simp; omega) _).setCell (p := ⟨b9, 1, none⟩) (by simp; omega) _).setCell (p := ⟨b9, 2, none⟩) (by simp; omega) _).setCell (p := ⟨b9, 3, none⟩) (by simp; omega) _).setCell (p := ⟨b10, 0, none⟩) (by simp; omega) _).setCell (p := ⟨b10, 1, none⟩) (by simp; omega) _).setCell (p := ⟨b10, 2, none⟩) (by simp; omega) _).setCell (p := ⟨b10, 3, none⟩) (by simp; omega) _
  obtain ⟨⟨p0, p1, p2, p3, p4, p5, p6, p7⟩, pg, hsz⟩ := twoStructs w2 W3 b9 b10 _ _ _ _ _ _ _ _ _ _ _ _ _ _ _ _ ne1 ne2 y0 y1 y2 y3 z0 z1 z2 z3 hW3
  have t0 := (pg g 0 ng1 ng2).trans q0
  have t1 := (pg g 1 ng1 ng2).trans q1
  have t2 := (pg g 2 ng1 ng2).trans q2
  have l0 : g < W3.heap.size := by have := hk.keeps.below.size; omega
  have l9 : b9 < W3.heap.size := by omega
  have l10 : b10 < W3.heap.size := by omega
  clear k0 k1 k2 hk H V1 V2 hs q0 q1 q2 u1 u2 u3 v1 v2 v3 hwz hsz ng1 ng2 pg
  have l0b : g < W3.heap.size + 1 := by omega
  have l9b : b9 < W3.heap.size + 1 := by omega
  have l10b : b10 < W3.heap.size + 1 := by omega
  have l0c : g < W3.heap.size + 1 + 1 := by omega
  have l9c : b9 < W3.heap.size + 1 + 1 := by omega
  have l10c : b10 < W3.heap.size + 1 + 1 := by omega
  go_wp2_with (first | (go_at_call 30; refine (noNumber32 _).mono ?_; rintro e' w3 ⟨rfl, B3⟩) | (go_at_call 32; refine (infinite32 sg _).mono ?_; rintro e' w3 ⟨rfl, B3⟩) | (go_at_call 31; go_in))
  go_ret
  refine ⟨rfl, ?_⟩
  refine bel_step ?_ B3
  refine bel_step H3.out ?_
  (repeat (first | refine Below.alloc ?_ (by first | (simp; done) | (simp; omega)) _ | refine Below.setCell ?_ (by first | (simp; done) | (simp; omega)) _ | refine bel_dN ?_ _ | refine Below.drew ?_ | exact Below.refl _ _))

set_option maxHeartbeats 1000000 in
theorem mulProd_b116 (m1 e1 m2 e2 : Int) (s1 s2 sg : Bool) (hsg : (!(s1 == s2)) = sg)  (w : World) :
    Calls Try.prog 39 #[(.agg #[.int .u64 5, .int .u64 10]), .agg #[.bool s1, .bool true, .bool false, .int .u64 m1, .int .i64 e1], .agg #[.bool s2, .bool false, .bool true, .int .u64 m2, .int .i64 e2]] w fun e w' => e = .returned (.int .u32 (31744 + 512)) ∧ Below w.heap.size w w' := by
  go_enter Try.func39, Try.ntmps39
  go_wp2_with fail
  refine (l4Nan16 _).mono ?_
  rintro e' w3 ⟨rfl, B3⟩
  go_wp2
  go_ret
  refine ⟨rfl, ?_⟩
  ((repeat (first | refine bel_alloc ?_ _ | refine bel_dN ?_ _ | refine Below.drew ?_ | refine Below.setCell ?_ (by first | (simp; done) | (simp; omega)) _)); refine bel_step ?_ B3; (repeat (first | refine bel_alloc ?_ _ | refine bel_dN ?_ _ | refine Below.drew ?_ | refine Below.setCell ?_ (by first | (simp; done) | (simp; omega)) _)); exact Below.refl _ _)

set_option maxHeartbeats 1000000 in
theorem mulProd_b132 (m1 e1 m2 e2 : Int) (s1 s2 sg : Bool) (hsg : (!(s1 == s2)) = sg)  (w : World) :
    Calls Try.prog 39 #[(.agg #[.int .u64 8, .int .u64 23]), .agg #[.bool s1, .bool true, .bool false, .int .u64 m1, .int .i64 e1], .agg #[.bool s2, .bool false, .bool true, .int .u64 m2, .int .i64 e2]] w fun e w' => e = .returned (.int .u32 (2139095040 + 4194304)) ∧ Below w.heap.size w w' := by
  go_enter Try.func39, Try.ntmps39
  go_wp2_with fail
  refine (l4Nan32 _).mono ?_
  rintro e' w3 ⟨rfl, B3⟩
  go_wp2
  go_ret
  refine ⟨rfl, ?_⟩
  ((repeat (first | refine bel_alloc ?_ _ | refine bel_dN ?_ _ | refine Below.drew ?_ | refine Below.setCell ?_ (by first | (simp; done) | (simp; omega)) _)); refine bel_step ?_ B3; (repeat (first | refine bel_alloc ?_ _ | refine bel_dN ?_ _ | refine Below.drew ?_ | refine Below.setCell ?_ (by first | (simp; done) | (simp; omega)) _)); exact Below.refl _ _)

set_option maxHeartbeats 2000000 in
theorem mulImpl_b116 (a b c1 m1 e1 c2 m2 e2 : Int) (s1 s2 sg : Bool) (V1 : Hid (∀ w, Calls Try.prog 29 #[(.agg #[.int .i64 10, .int .i64 15, .int .u32 31]), .int .u32 a] w fun e w' => e = .returned (.agg #[.int .i64 c1, .bool s1, .int .u64 m1, .int .i64 e1]) ∧ Below w.heap.size w w'))
    (V2 : Hid (∀ w, Calls Try.prog 29 #[(.agg #[.int .i64 10, .int .i64 15, .int .u32 31]), .int .u32 b] w fun e w' => e = .returned (.agg #[.int .i64 c2, .bool s2, .int .u64 m2, .int .i64 e2]) ∧ Below w.heap.size w w')) (hsg : (!(s1 == s2)) = sg) (hc1 : c1 = 1) (hc2 : c2 = 2) (w : World) :
    Calls Try.prog 10 #[.int .i64 16, .int .u32 a, .int .u32 b] w fun e w' => e = .returned (.int .u32 (31744 + 512)) ∧ Below w.heap.size w w' := by
  subst hc1
  subst hc2
  go_enter Try.func10, Try.ntmps10
  go_wp2_with fail
  refine (form16 _).mono ?_
  rintro e' w1 ⟨rfl, B1⟩
  go_wp2_with fail
  obtain ⟨W, hW⟩ : ∃ W, w1.alloc (.cells #[.int .i64 10, .int .i64 15, .int .u32 31] 45) = W := ⟨_, rfl⟩
  obtain ⟨g, hg⟩ : ∃ g, w1.heap.size = g := ⟨_, rfl⟩
  have hs : W.heap.size = g + 1 := by rw [← hW, ← hg]; simp
  have H : Hid (Below w.heap.size w W) := by unfold Hid; rw [← hW]; ((repeat (first | refine bel_alloc ?_ _ | refine bel_dN ?_ _ | refine Below.drew ?_ | refine Below.setCell ?_ (by first | (simp; done) | (simp; omega)) _)); refine bel_step ?_ B1; (repeat (first | refine bel_alloc ?_ _ | refine bel_dN ?_ _ | refine Below.drew ?_ | refine Below.setCell ?_ (by first | (simp; done) | (simp; omega)) _)); exact Below.refl _ _)
  have k0 : ∀ w, Keeps W w → w.cell? ⟨g, 0, none⟩ = some (.int .i64 10) := fun w h => h.cell (by omega) (by rw [← hW, ← hg]; simp)
  have k1 : ∀ w, Keeps W w → w.cell? ⟨g, 1, none⟩ = some (.int .i64 15) := fun w h => h.cell (by omega) (by rw [← hW, ← hg]; simp)
  have k2 : ∀ w, Keeps W w → w.cell? ⟨g, 2, none⟩ = some (.int .u32 31) := fun w h => h.cell (by omega) (by rw [← hW, ← hg]; simp)
  rw [hW, hg]
  clear hW B1 hg
  refine region_m (C := KeepsM W (.cells #[.int .i64 0, .bool false, .int .u64 0, .int .i64 0] 50)) 8 6 (by kernel_rfl) (by kernel_rfl) (KeepsM.start W _) ?_
  simp only [List.take_succ_cons, List.take_zero, List.drop_succ_cons, List.drop_zero]
  (iterate 6
    (apply wm_go _ (by omega) (by rfl)
     · intro M wq hq
       have hx := hq.keeps
       go_simp
       first
         | (apply uponF_call; go_at_call_of 29 a; exact mcall hq (V1.out _))
         | (apply uponF_call; go_at_call_of 29 b; exact mcall hq (V2.out _))
         | exact uponF_value hq rfl
     simp only [Act.put, List.setIfInBounds_toArray, List.set_cons_succ, List.set_cons_zero]))
  refine wm_make (by omega) (by rfl) (fun M wq hq => ⟨wq.heap.size, ?_⟩) (fun b9 => ?_)
  · go_simp
    exact uponF_value (hq.make 6) rfl
  simp only [Act.put, List.setIfInBounds_toArray, List.set_cons_succ, List.set_cons_zero, ptrTo]
  refine wm_make (by omega) (by rfl) (fun M wq hq => ⟨wq.heap.size, ?_⟩) (fun b10 => ?_)
  · go_simp
    exact uponF_value (hq.make 7) rfl
  simp only [Act.put, List.setIfInBounds_toArray, List.set_cons_succ, List.set_cons_zero, ptrTo]
  refine wm_nil ?_
  intro w2 hk
  obtain ⟨u1, u2, u3⟩ := hk.made 6 b9 (by simp [updM])
  obtain ⟨v1, v2, v3⟩ := hk.made 7 b10 (by simp [updM])
  have ne1 : b9 ≠ b10 := fun h => by have := hk.apart 6 7 b9 (by simp [updM]) (by simp [updM, h]); omega
  have ne2 : b10 ≠ b9 := Ne.symm ne1
  have y0 : w2.cell? ⟨b9, 0, none⟩ = some (.int .i64 0) := by simp [World.cell?, u3]
  have y1 : w2.cell? ⟨b9, 1, none⟩ = some (.bool false) := by simp [World.cell?, u3]
  have y2 : w2.cell? ⟨b9, 2, none⟩ = some (.int .u64 0) := by simp [World.cell?, u3]
  have y3 : w2.cell? ⟨b9, 3, none⟩ = some (.int .i64 0) := by simp [World.cell?, u3]
  have z0 : w2.cell? ⟨b10, 0, none⟩ = some (.int .i64 0) := by simp [World.cell?, v3]
  have z1 : w2.cell? ⟨b10, 1, none⟩ = some (.bool false) := by simp [World.cell?, v3]
  have z2 : w2.cell? ⟨b10, 2, none⟩ = some (.int .u64 0) := by simp [World.cell?, v3]
  have z3 : w2.cell? ⟨b10, 3, none⟩ = some (.int .i64 0) := by simp [World.cell?, v3]
  have fz9 : ∀ j, w2.frozen? ⟨b9, j, none⟩ = false := fun j => by simp [World.frozen?, u3]
  have fz10 : ∀ j, w2.frozen? ⟨b10, j, none⟩ = false := fun j => by simp [World.frozen?, v3]
  have q0 := k0 _ hk.keeps
  have q1 := k1 _ hk.keeps
  have q2 := k2 _ hk.keeps
  have ng1 : g ≠ b9 := by omega
  have ng2 : g ≠ b10 := by omega
  have hwz := H.out.size
  obtain ⟨W3, hW3⟩ : ∃ W3, ((((((((w2.setCell ⟨b9, 0, none⟩ (.int .i64 1)).setCell ⟨b9, 1, none⟩ (.bool s1)).setCell ⟨b9, 2, none⟩ (.int .u64 m1)).setCell ⟨b9, 3, none⟩ (.int .i64 e1)).setCell ⟨b10, 0, none⟩ (.int .i64 2)).setCell ⟨b10, 1, none⟩ (.bool s2)).setCell ⟨b10, 2, none⟩ (.int .u64 m2)).setCell ⟨b10, 3, none⟩ (.int .i64 e2)) = W3 := ⟨_, rfl⟩
  have H3 : Hid (Below w.heap.size w W3) := by
    unfold Hid
    rw [← hW3]
    have hb := bel_step H.out hk.keeps.below
    exact (((((((hb.setCell (p := ⟨b9, 0, none⟩) (by simp; omega) _).setCell (p := ⟨b9, 1, none⟩) (by simp; omega) _).setCell (p := ⟨b9, 2, none⟩) (by simp; omega) _).setCell (p := ⟨b9, 3, none⟩) (by simp; omega) _).setCell (p := ⟨b10, 0, none⟩) (by simp; omega) _).setCell (p := ⟨b10, 1, none⟩) (by simp; omega) _).setCell (p := ⟨b10, 2, none⟩) (by simp; omega) _).setCell (p := ⟨b10, 3, none⟩) (by simp; omega) _
  obtain ⟨⟨p0, p1, p2, p3, p4, p5, p6, p7⟩, pg, hsz⟩ := twoStructs w2 W3 b9 b10 _ _ _ _ _ _ _ _ _ _ _ _ _ _ _ _ ne1 ne2 y0 y1 y2 y3 z0 z1 z2 z3 hW3
  have t0 := (pg g 0 ng1 ng2).trans q0
  have t1 := (pg g 1 ng1 ng2).trans q1
  have t2 := (pg g 2 ng1 ng2).trans q2
  have l0 : g < W3.heap.size := by have := hk.keeps.below.size; omega
  have l9 : b9 < W3.heap.size := by omega
  have l10 : b10 < W3.heap.size := by omega
  clear k0 k1 k2 hk H V1 V2 hs q0 q1 q2 u1 u2 u3 v1 v2 v3 hwz hsz ng1 ng2 pg
  have l0b : g < W3.heap.size + 1 := by omega
  have l9b : b9 < W3.heap.size + 1 := by omega
  have l10b : b10 < W3.heap.size + 1 := by omega
  have l0c : g < W3.heap.size + 1 + 1 := by omega
  have l9c : b9 < W3.heap.size + 1 + 1 := by omega
  have l10c : b10 < W3.heap.size + 1 + 1 := by omega
  go_wp2_with (first | (go_at_call 30; refine (noNumber16 _).mono ?_; rintro e' w3 ⟨rfl, B3⟩) | (go_at_call 32; refine (infinite16 sg _).mono ?_; rintro e' w3 ⟨rfl, B3⟩) | (go_at_call 31; go_in))
  go_ret
  refine ⟨rfl, ?_⟩
  refine bel_step ?_ B3
  refine bel_step H3.out ?_
  (repeat (first | refine Below.alloc ?_ (by first | (simp; done) | (simp; omega)) _ | refine Below.setCell ?_ (by first | (simp; done) | (simp; omega)) _ | refine bel_dN ?_ _ | refine Below.drew ?_ | exact Below.refl _ _))

set_option maxHeartbeats 2000000 in
theorem mulImpl_b132 (a b c1 m1 e1 c2 m2 e2 : Int) (s1 s2 sg : Bool) (V1 : Hid (∀ w, Calls Try.prog 29 #[(.agg #[.int .i64 23, .int .i64 127, .int .u32 255]), .int .u32 a] w fun e w' => e = .returned (.agg #[.int .i64 c1, .bool s1, .int .u64 m1, .int .i64 e1]) ∧ Below w.heap.size w w'))
    (V2 : Hid (∀ w, Calls Try.prog 29 #[(.agg #[.int .i64 23, .int .i64 127, .int .u32 255]), .int .u32 b] w fun e w' => e = .returned (.agg #[.int .i64 c2, .bool s2, .int .u64 m2, .int .i64 e2]) ∧ Below w.heap.size w w')) (hsg : (!(s1 == s2)) = sg) (hc1 : c1 = 1) (hc2 : c2 = 2) (w : World) :
    Calls Try.prog 10 #[.int .i64 32, .int .u32 a, .int .u32 b] w fun e w' => e = .returned (.int .u32 (2139095040 + 4194304)) ∧ Below w.heap.size w w' := by
  subst hc1
  subst hc2
  go_enter Try.func10, Try.ntmps10
  go_wp2_with fail
  refine (form32 _).mono ?_
  rintro e' w1 ⟨rfl, B1⟩
  go_wp2_with fail
  obtain ⟨W, hW⟩ : ∃ W, w1.alloc (.cells #[.int .i64 23, .int .i64 127, .int .u32 255] 45) = W := ⟨_, rfl⟩
  obtain ⟨g, hg⟩ : ∃ g, w1.heap.size = g := ⟨_, rfl⟩
  have hs : W.heap.size = g + 1 := by rw [← hW, ← hg]; simp
  have H : Hid (Below w.heap.size w W) := by unfold Hid; rw [← hW]; ((repeat (first | refine bel_alloc ?_ _ | refine bel_dN ?_ _ | refine Below.drew ?_ | refine Below.setCell ?_ (by first | (simp; done) | (simp; omega)) _)); refine bel_step ?_ B1; (repeat (first | refine bel_alloc ?_ _ | refine bel_dN ?_ _ | refine Below.drew ?_ | refine Below.setCell ?_ (by first | (simp; done) | (simp; omega)) _)); exact Below.refl _ _)
  have k0 : ∀ w, Keeps W w → w.cell? ⟨g, 0, none⟩ = some (.int .i64 23) := fun w h => h.cell (by omega) (by rw [← hW, ← hg]; simp)
  have k1 : ∀ w, Keeps W w → w.cell? ⟨g, 1, none⟩ = some (.int .i64 127) := fun w h => h.cell (by omega) (by rw [← hW, ← hg]; simp)
  have k2 : ∀ w, Keeps W w → w.cell? ⟨g, 2, none⟩ = some (.int .u32 255) := fun w h => h.cell (by omega) (by rw [← hW, ← hg]; simp)
  rw [hW, hg]
  clear hW B1 hg
  refine region_m (C := KeepsM W (.cells #[.int .i64 0, .bool false, .int .u64 0, .int .i64 0] 50)) 8 6 (by kernel_rfl) (by kernel_rfl) (KeepsM.start W _) ?_
  simp only [List.take_succ_cons, List.take_zero, List.drop_succ_cons, List.drop_zero]
  (iterate 6
    (apply wm_go _ (by omega) (by rfl)
     · intro M wq hq
       have hx := hq.keeps
       go_simp
       first
         | (apply uponF_call; go_at_call_of 29 a; exact mcall hq (V1.out _))
         | (apply uponF_call; go_at_call_of 29 b; exact mcall hq (V2.out _))
         | exact uponF_value hq rfl
     simp only [Act.put, List.setIfInBounds_toArray, List.set_cons_succ, List.set_cons_zero]))
  refine wm_make (by omega) (by rfl) (fun M wq hq => ⟨wq.heap.size, ?_⟩) (fun b9 => ?_)
  · go_simp
    exact uponF_value (hq.make 6) rfl
  simp only [Act.put, List.setIfInBounds_toArray, List.set_cons_succ, List.set_cons_zero, ptrTo]
  refine wm_make (by omega) (by rfl) (fun M wq hq => ⟨wq.heap.size, ?_⟩) (fun b10 => ?_)
  · go_simp
    exact uponF_value (hq.make 7) rfl
  simp only [Act.put, List.setIfInBounds_toArray, List.set_cons_succ, List.set_cons_zero, ptrTo]
  refine wm_nil ?_
  intro w2 hk
  obtain ⟨u1, u2, u3⟩ := hk.made 6 b9 (by simp [updM])
  obtain ⟨v1, v2, v3⟩ := hk.made 7 b10 (by simp [updM])
  have ne1 : b9 ≠ b10 := fun h => by have := hk.apart 6 7 b9 (by simp [updM]) (by simp [updM, h]); omega
  have ne2 : b10 ≠ b9 := Ne.symm ne1
  have y0 : w2.cell? ⟨b9, 0, none⟩ = some (.int .i64 0) := by simp [World.cell?, u3]
  have y1 : w2.cell? ⟨b9, 1, none⟩ = some (.bool false) := by simp [World.cell?, u3]
  have y2 : w2.cell? ⟨b9, 2, none⟩ = some (.int .u64 0) := by simp [World.cell?, u3]
  have y3 : w2.cell? ⟨b9, 3, none⟩ = some (.int .i64 0) := by simp [World.cell?, u3]
  have z0 : w2.cell? ⟨b10, 0, none⟩ = some (.int .i64 0) := by simp [World.cell?, v3]
  have z1 : w2.cell? ⟨b10, 1, none⟩ = some (.bool false) := by simp [World.cell?, v3]
  have z2 : w2.cell? ⟨b10, 2, none⟩ = some (.int .u64 0) := by simp [World.cell?, v3]
  have z3 : w2.cell? ⟨b10, 3, none⟩ = some (.int .i64 0) := by simp [World.cell?, v3]
  have fz9 : ∀ j, w2.frozen? ⟨b9, j, none⟩ = false := fun j => by simp [World.frozen?, u3]
  have fz10 : ∀ j, w2.frozen? ⟨b10, j, none⟩ = false := fun j => by simp [World.frozen?, v3]
  have q0 := k0 _ hk.keeps
  have q1 := k1 _ hk.keeps
  have q2 := k2 _ hk.keeps
  have ng1 : g ≠ b9 := by omega
  have ng2 : g ≠ b10 := by omega
  have hwz := H.out.size
  obtain ⟨W3, hW3⟩ : ∃ W3, ((((((((w2.setCell ⟨b9, 0, none⟩ (.int .i64 1)).setCell ⟨b9, 1, none⟩ (.bool s1)).setCell ⟨b9, 2, none⟩ (.int .u64 m1)).setCell ⟨b9, 3, none⟩ (.int .i64 e1)).setCell ⟨b10, 0, none⟩ (.int .i64 2)).setCell ⟨b10, 1, none⟩ (.bool s2)).setCell ⟨b10, 2, none⟩ (.int .u64 m2)).setCell ⟨b10, 3, none⟩ (.int .i64 e2)) = W3 := ⟨_, rfl⟩
  have H3 : Hid (Below w.heap.size w W3) := by
    unfold Hid
    rw [← hW3]
    have hb := bel_step H.out hk.keeps.below
    exact (((((((hb.setCell (p := ⟨b9, 0, none⟩) (by simp; omega) _).setCell (p := ⟨b9, 1, none⟩) (by simp; omega) _).setCell (p := ⟨b9, 2, none⟩) (by simp; omega) _).setCell (p := ⟨b9, 3, none⟩) (by simp; omega) _).setCell (p := ⟨b10, 0, none⟩) (by simp; omega) _).setCell (p := ⟨b10, 1, none⟩) (by simp; omega) _).setCell (p := ⟨b10, 2, none⟩) (by simp; omega) _).setCell (p := ⟨b10, 3, none⟩) (by simp; omega) _
  obtain ⟨⟨p0, p1, p2, p3, p4, p5, p6, p7⟩, pg, hsz⟩ := twoStructs w2 W3 b9 b10 _ _ _ _ _ _ _ _ _ _ _ _ _ _ _ _ ne1 ne2 y0 y1 y2 y3 z0 z1 z2 z3 hW3
  have t0 := (pg g 0 ng1 ng2).trans q0
  have t1 := (pg g 1 ng1 ng2).trans q1
  have t2 := (pg g 2 ng1 ng2).trans q2
  have l0 : g < W3.heap.size := by have := hk.keeps.below.size; omega
  have l9 : b9 < W3.heap.size := by omega
  have l10 : b10 < W3.heap.size := by omega
  clear k0 k1 k2 hk H V1 V2 hs q0 q1 q2 u1 u2 u3 v1 v2 v3 hwz hsz ng1 ng2 pg
  have l0b : g < W3.heap.size + 1 := by omega
  have l9b : b9 < W3.heap.size + 1 := by omega
  have l10b : b10 < W3.heap.size + 1 := by omega
  have l0c : g < W3.heap.size + 1 + 1 := by omega
  have l9c : b9 < W3.heap.size + 1 + 1 := by omega
  have l10c : b10 < W3.heap.size + 1 + 1 := by omega
  go_wp2_with (first | (go_at_call 30; refine (noNumber32 _).mono ?_; rintro e' w3 ⟨rfl, B3⟩) | (go_at_call 32; refine (infinite32 sg _).mono ?_; rintro e' w3 ⟨rfl, B3⟩) | (go_at_call 31; go_in))
  go_ret
  refine ⟨rfl, ?_⟩
  refine bel_step ?_ B3
  refine bel_step H3.out ?_
  (repeat (first | refine Below.alloc ?_ (by first | (simp; done) | (simp; omega)) _ | refine Below.setCell ?_ (by first | (simp; done) | (simp; omega)) _ | refine bel_dN ?_ _ | refine Below.drew ?_ | exact Below.refl _ _))

set_option maxHeartbeats 1000000 in
theorem mulProd_ii16 (m1 e1 m2 e2 : Int) (s1 s2 sg : Bool) (hsg : (!(s1 == s2)) = sg)  (w : World) :
    Calls Try.prog 39 #[(.agg #[.int .u64 5, .int .u64 10]), .agg #[.bool s1, .bool true, .bool false, .int .u64 m1, .int .i64 e1], .agg #[.bool s2, .bool true, .bool false, .int .u64 m2, .int .i64 e2]] w fun e w' => e = .returned (.int .u32 (sg.toNat * 32768 + 31744)) ∧ Below w.heap.size w w' := by
  go_enter Try.func39, Try.ntmps39
  go_wp2_with fail
  refine (l4Inf16 sg _).mono ?_
  rintro e' w3 ⟨rfl, B3⟩
  go_wp2
  go_ret
  refine ⟨rfl, ?_⟩
  ((repeat (first | refine bel_alloc ?_ _ | refine bel_dN ?_ _ | refine Below.drew ?_ | refine Below.setCell ?_ (by first | (simp; done) | (simp; omega)) _)); refine bel_step ?_ B3; (repeat (first | refine bel_alloc ?_ _ | refine bel_dN ?_ _ | refine Below.drew ?_ | refine Below.setCell ?_ (by first | (simp; done) | (simp; omega)) _)); exact Below.refl _ _)

set_option maxHeartbeats 1000000 in
theorem mulProd_ii32 (m1 e1 m2 e2 : Int) (s1 s2 sg : Bool) (hsg : (!(s1 == s2)) = sg)  (w : World) :
    Calls Try.prog 39 #[(.agg #[.int .u64 8, .int .u64 23]), .agg #[.bool s1, .bool true, .bool false, .int .u64 m1, .int .i64 e1], .agg #[.bool s2, .bool true, .bool false, .int .u64 m2, .int .i64 e2]] w fun e w' => e = .returned (.int .u32 (sg.toNat * 2147483648 + 2139095040)) ∧ Below w.heap.size w w' := by
  go_enter Try.func39, Try.ntmps39
  go_wp2_with fail
  refine (l4Inf32 sg _).mono ?_
  rintro e' w3 ⟨rfl, B3⟩
  go_wp2
  go_ret
  refine ⟨rfl, ?_⟩
  ((repeat (first | refine bel_alloc ?_ _ | refine bel_dN ?_ _ | refine Below.drew ?_ | refine Below.setCell ?_ (by first | (simp; done) | (simp; omega)) _)); refine bel_step ?_ B3; (repeat (first | refine bel_alloc ?_ _ | refine bel_dN ?_ _ | refine Below.drew ?_ | refine Below.setCell ?_ (by first | (simp; done) | (simp; omega)) _)); exact Below.refl _ _)

set_option maxHeartbeats 2000000 in
theorem mulImpl_ii16 (a b c1 m1 e1 c2 m2 e2 : Int) (s1 s2 sg : Bool) (V1 : Hid (∀ w, Calls Try.prog 29 #[(.agg #[.int .i64 10, .int .i64 15, .int .u32 31]), .int .u32 a] w fun e w' => e = .returned (.agg #[.int .i64 c1, .bool s1, .int .u64 m1, .int .i64 e1]) ∧ Below w.heap.size w w'))
    (V2 : Hid (∀ w, Calls Try.prog 29 #[(.agg #[.int .i64 10, .int .i64 15, .int .u32 31]), .int .u32 b] w fun e w' => e = .returned (.agg #[.int .i64 c2, .bool s2, .int .u64 m2, .int .i64 e2]) ∧ Below w.heap.size w w')) (hsg : (!(s1 == s2)) = sg) (hc1 : c1 = 1) (hc2 : c2 = 1) (w : World) :
    Calls Try.prog 10 #[.int .i64 16, .int .u32 a, .int .u32 b] w fun e w' => e = .returned (.int .u32 (sg.toNat * 32768 + 31744)) ∧ Below w.heap.size w w' := by
  subst hc1
  subst hc2
  go_enter Try.func10, Try.ntmps10
  go_wp2_with fail
  refine (form16 _).mono ?_
  rintro e' w1 ⟨rfl, B1⟩
  go_wp2_with fail
  obtain ⟨W, hW⟩ : ∃ W, w1.alloc (.cells #[.int .i64 10, .int .i64 15, .int .u32 31] 45) = W := ⟨_, rfl⟩
  obtain ⟨g, hg⟩ : ∃ g, w1.heap.size = g := ⟨_, rfl⟩
  have hs : W.heap.size = g + 1 := by rw [← hW, ← hg]; simp
  have H : Hid (Below w.heap.size w W) := by unfold Hid; rw [← hW]; ((repeat (first | refine bel_alloc ?_ _ | refine bel_dN ?_ _ | refine Below.drew ?_ | refine Below.setCell ?_ (by first | (simp; done) | (simp; omega)) _)); refine bel_step ?_ B1; (repeat (first | refine bel_alloc ?_ _ | refine bel_dN ?_ _ | refine Below.drew ?_ | refine Below.setCell ?_ (by first | (simp; done) | (simp; omega)) _)); exact Below.refl _ _)
  have k0 : ∀ w, Keeps W w → w.cell? ⟨g, 0, none⟩ = some (.int .i64 10) := fun w h => h.cell (by omega) (by rw [← hW, ← hg]; simp)
  have k1 : ∀ w, Keeps W w → w.cell? ⟨g, 1, none⟩ = some (.int .i64 15) := fun w h => h.cell (by omega) (by rw [← hW, ← hg]; simp)
  have k2 : ∀ w, Keeps W w → w.cell? ⟨g, 2, none⟩ = some (.int .u32 31) := fun w h => h.cell (by omega) (by rw [← hW, ← hg]; simp)
  rw [hW, hg]
  clear hW B1 hg
  refine region_m (C := KeepsM W (.cells #[.int .i64 0, .bool false, .int .u64 0, .int .i64 0] 50)) 8 6 (by kernel_rfl) (by kernel_rfl) (KeepsM.start W _) ?_
  simp only [List.take_succ_cons, List.take_zero, List.drop_succ_cons, List.drop_zero]
  (iterate 6
    (apply wm_go _ (by omega) (by rfl)
     · intro M wq hq
       have hx := hq.keeps
       go_simp
       first
         | (apply uponF_call; go_at_call_of 29 a; exact mcall hq (V1.out _))
         | (apply uponF_call; go_at_call_of 29 b; exact mcall hq (V2.out _))
         | exact uponF_value hq rfl
     simp only [Act.put, List.setIfInBounds_toArray, List.set_cons_succ, List.set_cons_zero]))
  refine wm_make (by omega) (by rfl) (fun M wq hq => ⟨wq.heap.size, ?_⟩) (fun b9 => ?_)
  · go_simp
    exact uponF_value (hq.make 6) rfl
  simp only [Act.put, List.setIfInBounds_toArray, List.set_cons_succ, List.set_cons_zero, ptrTo]
  refine wm_make (by omega) (by rfl) (fun M wq hq => ⟨wq.heap.size, ?_⟩) (fun b10 => ?_)
  · go_simp
    exact uponF_value (hq.make 7) rfl
  simp only [Act.put, List.setIfInBounds_toArray, List.set_cons_succ, List.set_cons_zero, ptrTo]
  refine wm_nil ?_
  intro w2 hk
  obtain ⟨u1, u2, u3⟩ := hk.made 6 b9 (by simp [updM])
  obtain ⟨v1, v2, v3⟩ := hk.made 7 b10 (by simp [updM])
  have ne1 : b9 ≠ b10 := fun h => by have := hk.apart 6 7 b9 (by simp [updM]) (by simp [updM, h]); omega
  have ne2 : b10 ≠ b9 := Ne.symm ne1
  have y0 : w2.cell? ⟨b9, 0, none⟩ = some (.int .i64 0) := by simp [World.cell?, u3]
  have y1 : w2.cell? ⟨b9, 1, none⟩ = some (.bool false) := by simp [World.cell?, u3]
  have y2 : w2.cell? ⟨b9, 2, none⟩ = some (.int .u64 0) := by simp [World.cell?, u3]
  have y3 : w2.cell? ⟨b9, 3, none⟩ = some (.int .i64 0) := by simp [World.cell?, u3]
  have z0 : w2.cell? ⟨b10, 0, none⟩ = some (.int .i64 0) := by simp [World.cell?, v3]
  have z1 : w2.cell? ⟨b10, 1, none⟩ = some (.bool false) := by simp [World.cell?, v3]
  have z2 : w2.cell? ⟨b10, 2, none⟩ = some (.int .u64 0) := by simp [World.cell?, v3]
  have z3 : w2.cell? ⟨b10, 3, none⟩ = some (.int .i64 0) := by simp [World.cell?, v3]
  have fz9 : ∀ j, w2.frozen? ⟨b9, j, none⟩ = false := fun j => by simp [World.frozen?, u3]
  have fz10 : ∀ j, w2.frozen? ⟨b10, j, none⟩ = false := fun j => by simp [World.frozen?, v3]
  have q0 := k0 _ hk.keeps
  have q1 := k1 _ hk.keeps
  have q2 := k2 _ hk.keeps
  have ng1 : g ≠ b9 := by omega
  have ng2 : g ≠ b10 := by omega
  have hwz := H.out.size
  obtain ⟨W3, hW3⟩ : ∃ W3, ((((((((w2.setCell ⟨b9, 0, none⟩ (.int .i64 1)).setCell ⟨b9, 1, none⟩ (.bool s1)).setCell ⟨b9, 2, none⟩ (.int .u64 m1)).setCell ⟨b9, 3, none⟩ (.int .i64 e1)).setCell ⟨b10, 0, none⟩ (.int .i64 1)).setCell ⟨b10, 1, none⟩ (.bool s2)).setCell ⟨b10, 2, none⟩ (.int .u64 m2)).setCell ⟨b10, 3, none⟩ (.int .i64 e2)) = W3 := ⟨_, rfl⟩
  have H3 : Hid (Below w.heap.size w W3) := by
    unfold Hid
    rw [← hW3]
    have hb := bel_step H.out hk.keeps.below
    exact (((((((hb.setCell (p := ⟨b9, 0, none⟩) (by simp; omega) _).setCell (p := ⟨b9, 1, none⟩) (by simp; omega) _).setCell (p := ⟨b9, 2, none⟩) (by simp; omega) _).setCell (p := ⟨b9, 3, none⟩) (by simp; omega) _).setCell (p := ⟨b10, 0, none⟩) (by simp; omega) _).setCell (p := ⟨b10, 1, none⟩) (by simp; omega) _).setCell (p := ⟨b10, 2, none⟩) (by simp; omega) _).setCell (p := ⟨b10, 3, none⟩) (by simp; omega) _
  obtain ⟨⟨p0, p1, p2, p3, p4, p5, p6, p7⟩, pg, hsz⟩ := twoStructs w2 W3 b9 b10 _ _ _ _ _ _ _ _ _ _ _ _ _ _ _ _ ne1 ne2 y0 y1 y2 y3 z0 z1 z2 z3 hW3
  have t0 := (pg g 0 ng1 ng2).trans q0
  have t1 := (pg g 1 ng1 ng2).trans q1
  have t2 := (pg g 2 ng1 ng2).trans q2
  have l0 : g < W3.heap.size := by have := hk.keeps.below.size; omega
  have l9 : b9 < W3.heap.size := by omega
  have l10 : b10 < W3.heap.size := by omega
  clear k0 k1 k2 hk H V1 V2 hs q0 q1 q2 u1 u2 u3 v1 v2 v3 hwz hsz ng1 ng2 pg
  have l0b : g < W3.heap.size + 1 := by omega
  have l9b : b9 < W3.heap.size + 1 := by omega
  have l10b : b10 < W3.heap.size + 1 := by omega
  have l0c : g < W3.heap.size + 1 + 1 := by omega
  have l9c : b9 < W3.heap.size + 1 + 1 := by omega
  have l10c : b10 < W3.heap.size + 1 + 1 := by omega
  go_wp2_with (first | (go_at_call 30; refine (noNumber16 _).mono ?_; rintro e' w3 ⟨rfl, B3⟩) | (go_at_call 32; refine (infinite16 sg _).mono ?_; rintro e' w3 ⟨rfl, B3⟩) | (go_at_call 31; go_in))
  go_ret
  refine ⟨rfl, ?_⟩
  refine bel_step ?_ B3
  refine bel_step H3.out ?_
  (repeat (first | refine Below.alloc ?_ (by first | (simp; done) | (simp; omega)) _ | refine Below.setCell ?_ (by first | (simp; done) | (simp; omega)) _ | refine bel_dN ?_ _ | refine Below.drew ?_ | exact Below.refl _ _))

set_option maxHeartbeats 2000000 in
theorem mulImpl_ii32 (a b c1 m1 e1 c2 m2 e2 : Int) (s1 s2 sg : Bool) (V1 : Hid (∀ w, Calls Try.prog 29 #[(.agg #[.int .i64 23, .int .i64 127, .int .u32 255]), .int .u32 a] w fun e w' => e = .returned (.agg #[.int .i64 c1, .bool s1, .int .u64 m1, .int .i64 e1]) ∧ Below w.heap.size w w'))
    (V2 : Hid (∀ w, Calls Try.prog 29 #[(.agg #[.int .i64 23, .int .i64 127, .int .u32 255]), .int .u32 b] w fun e w' => e = .returned (.agg #[.int .i64 c2, .bool s2, .int .u64 m2, .int .i64 e2]) ∧ Below w.heap.size w w')) (hsg : (!(s1 == s2)) = sg) (hc1 : c1 = 1) (hc2 : c2 = 1) (w : World) :
    Calls Try.prog 10 #[.int .i64 32, .int .u32 a, .int .u32 b] w fun e w' => e = .returned (.int .u32 (sg.toNat * 2147483648 + 2139095040)) ∧ Below w.heap.size w w' := by
  subst hc1
  subst hc2
  go_enter Try.func10, Try.ntmps10
  go_wp2_with fail
  refine (form32 _).mono ?_
  rintro e' w1 ⟨rfl, B1⟩
  go_wp2_with fail
  obtain ⟨W, hW⟩ : ∃ W, w1.alloc (.cells #[.int .i64 23, .int .i64 127, .int .u32 255] 45) = W := ⟨_, rfl⟩
  obtain ⟨g, hg⟩ : ∃ g, w1.heap.size = g := ⟨_, rfl⟩
  have hs : W.heap.size = g + 1 := by rw [← hW, ← hg]; simp
  have H : Hid (Below w.heap.size w W) := by unfold Hid; rw [← hW]; ((repeat (first | refine bel_alloc ?_ _ | refine bel_dN ?_ _ | refine Below.drew ?_ | refine Below.setCell ?_ (by first | (simp; done) | (simp; omega)) _)); refine bel_step ?_ B1; (repeat (first | refine bel_alloc ?_ _ | refine bel_dN ?_ _ | refine Below.drew ?_ | refine Below.setCell ?_ (by first | (simp; done) | (simp; omega)) _)); exact Below.refl _ _)
  have k0 : ∀ w, Keeps W w → w.cell? ⟨g, 0, none⟩ = some (.int .i64 23) := fun w h => h.cell (by omega) (by rw [← hW, ← hg]; simp)
  have k1 : ∀ w, Keeps W w → w.cell? ⟨g, 1, none⟩ = some (.int .i64 127) := fun w h => h.cell (by omega) (by rw [← hW, ← hg]; simp)
  have k2 : ∀ w, Keeps W w → w.cell? ⟨g, 2, none⟩ = some (.int .u32 255) := fun w h => h.cell (by omega) (by rw [← hW, ← hg]; simp)
  rw [hW, hg]
  clear hW B1 hg
  refine region_m (C := KeepsM W (.cells #[.int .i64 0, .bool false, .int .u64 0, .int .i64 0] 50)) 8 6 (by kernel_rfl) (by kernel_rfl) (KeepsM.start W _) ?_
  simp only [List.take_succ_cons, List.take_zero, List.drop_succ_cons, List.drop_zero]
  (iterate 6
    (apply wm_go _ (by omega) (by rfl)
     · intro M wq hq
       have hx := hq.keeps
       go_simp
       first
         | (apply uponF_call; go_at_call_of 29 a; exact mcall hq (V1.out _))
         | (apply uponF_call; go_at_call_of 29 b; exact mcall hq (V2.out _))
         | exact uponF_value hq rfl
     simp only [Act.put, List.setIfInBounds_toArray, List.set_cons_succ, List.set_cons_zero]))
  refine wm_make (by omega) (by rfl) (fun M wq hq => ⟨wq.heap.size, ?_⟩) (fun b9 => ?_)
  · go_simp
    exact uponF_value (hq.make 6) rfl
  simp only [Act.put, List.setIfInBounds_toArray, List.set_cons_succ, List.set_cons_zero, ptrTo]
  refine wm_make (by omega) (by rfl) (fun M wq hq => ⟨wq.heap.size, ?_⟩) (fun b10 => ?_)
  · go_simp
    exact uponF_value (hq.make 7) rfl
  simp only [Act.put, List.setIfInBounds_toArray, List.set_cons_succ, List.set_cons_zero, ptrTo]
  refine wm_nil ?_
  intro w2 hk
  obtain ⟨u1, u2, u3⟩ := hk.made 6 b9 (by simp [updM])
  obtain ⟨v1, v2, v3⟩ := hk.made 7 b10 (by simp [updM])
  have ne1 : b9 ≠ b10 := fun h => by have := hk.apart 6 7 b9 (by simp [updM]) (by simp [updM, h]); omega
  have ne2 : b10 ≠ b9 := Ne.symm ne1
  have y0 : w2.cell? ⟨b9, 0, none⟩ = some (.int .i64 0) := by simp [World.cell?, u3]
  have y1 : w2.cell? ⟨b9, 1, none⟩ = some (.bool false) := by simp [World.cell?, u3]
  have y2 : w2.cell? ⟨b9, 2, none⟩ = some (.int .u64 0) := by simp [World.cell?, u3]
  have y3 : w2.cell? ⟨b9, 3, none⟩ = some (.int .i64 0) := by simp [World.cell?, u3]
  have z0 : w2.cell? ⟨b10, 0, none⟩ = some (.int .i64 0) := by simp [World.cell?, v3]
  have z1 : w2.cell? ⟨b10, 1, none⟩ = some (.bool false) := by simp [World.cell?, v3]
  have z2 : w2.cell? ⟨b10, 2, none⟩ = some (.int .u64 0) := by simp [World.cell?, v3]
  have z3 : w2.cell? ⟨b10, 3, none⟩ = some (.int .i64 0) := by simp [World.cell?, v3]
  have fz9 : ∀ j, w2.frozen? ⟨b9, j, none⟩ = false := fun j => by simp [World.frozen?, u3]
  have fz10 : ∀ j, w2.frozen? ⟨b10, j, none⟩ = false := fun j => by simp [World.frozen?, v3]
  have q0 := k0 _ hk.keeps
  have q1 := k1 _ hk.keeps
  have q2 := k2 _ hk.keeps
  have ng1 : g ≠ b9 := by omega
  have ng2 : g ≠ b10 := by omega
  have hwz := H.out.size
  obtain ⟨W3, hW3⟩ : ∃ W3, ((((((((w2.setCell ⟨b9, 0, none⟩ (.int .i64 1)).setCell ⟨b9, 1, none⟩ (.bool s1)).setCell ⟨b9, 2, none⟩ (.int .u64 m1)).setCell ⟨b9, 3, none⟩ (.int .i64 e1)).setCell ⟨b10, 0, none⟩ (.int .i64 1)).setCell ⟨b10, 1, none⟩ (.bool s2)).setCell ⟨b10, 2, none⟩ (.int .u64 m2)).setCell ⟨b10, 3, none⟩ (.int .i64 e2)) = W3 := ⟨_, rfl⟩
  have H3 : Hid (Below w.heap.size w W3) := by
    unfold Hid
    rw [← hW3]
    have hb := bel_step H.out hk.keeps.below
    exact (((((((hb.setCell (p := ⟨b9, 0, none⟩) (by simp; omega) _).setCell (p := ⟨b9, 1, none⟩) (by simp; omega) _).setCell (p := ⟨b9, 2, none⟩) (by simp; omega) _).setCell (p := ⟨b9, 3, none⟩) (by simp; omega) _).setCell (p := ⟨b10, 0, none⟩) (by simp; omega) _).setCell (p := ⟨b10, 1, none⟩) (by simp; omega) _).setCell (p := ⟨b10, 2, none⟩) (by simp; omega) _).setCell (p := ⟨b10, 3, none⟩) (by simp; omega) _
  obtain ⟨⟨p0, p1, p2, p3, p4, p5, p6, p7⟩, pg, hsz⟩ := twoStructs w2 W3 b9 b10 _ _ _ _ _ _ _ _ _ _ _ _ _ _ _ _ ne1 ne2 y0 y1 y2 y3 z0 z1 z2 z3 hW3
  have t0 := (pg g 0 ng1 ng2).trans q0
  have t1 := (pg g 1 ng1 ng2).trans q1
  have t2 := (pg g 2 ng1 ng2).trans q2
  have l0 : g < W3.heap.size := by have := hk.keeps.below.size; omega
  have l9 : b9 < W3.heap.size := by omega
  have l10 : b10 < W3.heap.size := by omega
  clear k0 k1 k2 hk H V1 V2 hs q0 q1 q2 u1 u2 u3 v1 v2 v3 hwz hsz ng1 ng2 pg
  have l0b : g < W3.heap.size + 1 := by omega
  have l9b : b9 < W3.heap.size + 1 := by omega
  have l10b : b10 < W3.heap.size + 1 := by omega
  have l0c : g < W3.heap.size + 1 + 1 := by omega
  have l9c : b9 < W3.heap.size + 1 + 1 := by omega
  have l10c : b10 < W3.heap.size + 1 + 1 := by omega
  go_wp2_with (first | (go_at_call 30; refine (noNumber32 _).mono ?_; rintro e' w3 ⟨rfl, B3⟩) | (go_at_call 32; refine (infinite32 sg _).mono ?_; rintro e' w3 ⟨rfl, B3⟩) | (go_at_call 31; go_in))
  go_ret
  refine ⟨rfl, ?_⟩
  refine bel_step ?_ B3
  refine bel_step H3.out ?_
  (repeat (first | refine Below.alloc ?_ (by first | (simp; done) | (simp; omega)) _ | refine Below.setCell ?_ (by first | (simp; done) | (simp; omega)) _ | refine bel_dN ?_ _ | refine Below.drew ?_ | exact Below.refl _ _))

set_option maxHeartbeats 1000000 in
theorem mulProd_iz16 (m1 e1 m2 e2 : Int) (s1 s2 sg : Bool) (hsg : (!(s1 == s2)) = sg) (hm2 : m2 = 0) (w : World) :
    Calls Try.prog 39 #[(.agg #[.int .u64 5, .int .u64 10]), .agg #[.bool s1, .bool true, .bool false, .int .u64 m1, .int .i64 e1], .agg #[.bool s2, .bool false, .bool false, .int .u64 m2, .int .i64 e2]] w fun e w' => e = .returned (.int .u32 (31744 + 512)) ∧ Below w.heap.size w w' := by
  subst hm2
  go_enter Try.func39, Try.ntmps39
  go_wp2_with fail
  refine (l4Nan16 _).mono ?_
  rintro e' w3 ⟨rfl, B3⟩
  go_wp2
  go_ret
  refine ⟨rfl, ?_⟩
  ((repeat (first | refine bel_alloc ?_ _ | refine bel_dN ?_ _ | refine Below.drew ?_ | refine Below.setCell ?_ (by first | (simp; done) | (simp; omega)) _)); refine bel_step ?_ B3; (repeat (first | refine bel_alloc ?_ _ | refine bel_dN ?_ _ | refine Below.drew ?_ | refine Below.setCell ?_ (by first | (simp; done) | (simp; omega)) _)); exact Below.refl _ _)

set_option maxHeartbeats 1000000 in
theorem mulProd_iz32 (m1 e1 m2 e2 : Int) (s1 s2 sg : Bool) (hsg : (!(s1 == s2)) = sg) (hm2 : m2 = 0) (w : World) :
    Calls Try.prog 39 #[(.agg #[.int .u64 8, .int .u64 23]), .agg #[.bool s1, .bool true, .bool false, .int .u64 m1, .int .i64 e1], .agg #[.bool s2, .bool false, .bool false, .int .u64 m2, .int .i64 e2]] w fun e w' => e = .returned (.int .u32 (2139095040 + 4194304)) ∧ Below w.heap.size w w' := by
  subst hm2
  go_enter Try.func39, Try.ntmps39
  go_wp2_with fail
  refine (l4Nan32 _).mono ?_
  rintro e' w3 ⟨rfl, B3⟩
  go_wp2
  go_ret
  refine ⟨rfl, ?_⟩
  ((repeat (first | refine bel_alloc ?_ _ | refine bel_dN ?_ _ | refine Below.drew ?_ | refine Below.setCell ?_ (by first | (simp; done) | (simp; omega)) _)); refine bel_step ?_ B3; (repeat (first | refine bel_alloc ?_ _ | refine bel_dN ?_ _ | refine Below.drew ?_ | refine Below.setCell ?_ (by first | (simp; done) | (simp; omega)) _)); exact Below.refl _ _)

set_option maxHeartbeats 2000000 in
theorem mulImpl_iz16 (a b c1 m1 e1 c2 m2 e2 : Int) (s1 s2 sg : Bool) (V1 : Hid (∀ w, Calls Try.prog 29 #[(.agg #[.int .i64 10, .int .i64 15, .int .u32 31]), .int .u32 a] w fun e w' => e = .returned (.agg #[.int .i64 c1, .bool s1, .int .u64 m1, .int .i64 e1]) ∧ Below w.heap.size w w'))
    (V2 : Hid (∀ w, Calls Try.prog 29 #[(.agg #[.int .i64 10, .int .i64 15, .int .u32 31]), .int .u32 b] w fun e w' => e = .returned (.agg #[.int .i64 c2, .bool s2, .int .u64 m2, .int .i64 e2]) ∧ Below w.heap.size w w')) (hsg : (!(s1 == s2)) = sg) (hc1 : c1 = 1) (hc2 : c2 = 0) (hm2 : m2 = 0) (w : World) :
    Calls Try.prog 10 #[.int .i64 16, .int .u32 a, .int .u32 b] w fun e w' => e = .returned (.int .u32 (31744 + 512)) ∧ Below w.heap.size w w' := by
  subst hc1
  subst hc2
  subst hm2
  go_enter Try.func10, Try.ntmps10
  go_wp2_with fail
  refine (form16 _).mono ?_
  rintro e' w1 ⟨rfl, B1⟩
  go_wp2_with fail
  obtain ⟨W, hW⟩ : ∃ W, w1.alloc (.cells #[.int .i64 10, .int .i64 15, .int .u32 31] 45) = W := ⟨_, rfl⟩
  obtain ⟨g, hg⟩ : ∃ g, w1.heap.size = g := ⟨_, rfl⟩
  have hs : W.heap.size = g + 1 := by rw [← hW, ← hg]; simp
  have H : Hid (Below w.heap.size w W) := by unfold Hid; rw [← hW]; ((repeat (first | refine bel_alloc ?_ _ | refine bel_dN ?_ _ | refine Below.drew ?_ | refine Below.setCell ?_ (by first | (simp; done) | (simp; omega)) _)); refine bel_step ?_ B1; (repeat (first | refine bel_alloc ?_ _ | refine bel_dN ?_ _ | refine Below.drew ?_ | refine Below.setCell ?_ (by first | (simp; done) | (simp; omega)) _)); exact Below.refl _ _)
  have k0 : ∀ w, Keeps W w → w.cell? ⟨g, 0, none⟩ = some (.int .i64 10) := fun w h => h.cell (by omega) (by rw [← hW, ← hg]; simp)
  have k1 : ∀ w, Keeps W w → w.cell? ⟨g, 1, none⟩ = some (.int .i64 15) := fun w h => h.cell (by omega) (by rw [← hW, ← hg]; simp)
  have k2 : ∀ w, Keeps W w → w.cell? ⟨g, 2, none⟩ = some (.int .u32 31) := fun w h => h.cell (by omega) (by rw [← hW, ← hg]; simp)
  rw [hW, hg]
  clear hW B1 hg
  refine region_m (C := KeepsM W (.cells #[.int .i64 0, .bool false, .int .u64 0, .int .i64 0] 50)) 8 6 (by kernel_rfl) (by kernel_rfl) (KeepsM.start W _) ?_
  simp only [List.take_succ_cons, List.take_zero, List.drop_succ_cons, List.drop_zero]
  (iterate 6
    (apply wm_go _ (by omega) (by rfl)
     · intro M wq hq
       have hx := hq.keeps
       go_simp
       first
         | (apply uponF_call; go_at_call_of 29 a; exact mcall hq (V1.out _))
         | (apply uponF_call; go_at_call_of 29 b; exact mcall hq (V2.out _))
         | exact uponF_value hq rfl
     simp only [Act.put, List.setIfInBounds_toArray, List.set_cons_succ, List.set_cons_zero]))
  refine wm_make (by omega) (by rfl) (fun M wq hq => ⟨wq.heap.size, ?_⟩) (fun b9 => ?_)
  · go_simp
    exact uponF_value (hq.make 6) rfl
  simp only [Act.put, List.setIfInBounds_toArray, List.set_cons_succ, List.set_cons_zero, ptrTo]
  refine wm_make (by omega) (by rfl) (fun M wq hq => ⟨wq.heap.size, ?_⟩) (fun b10 => ?_)
  · go_simp
    exact uponF_value (hq.make 7) rfl
  simp only [Act.put, List.setIfInBounds_toArray, List.set_cons_succ, List.set_cons_zero, ptrTo]
  refine wm_nil ?_
  intro w2 hk
  obtain ⟨u1, u2, u3⟩ := hk.made 6 b9 (by simp [updM])
  obtain ⟨v1, v2, v3⟩ := hk.made 7 b10 (by simp [updM])
  have ne1 : b9 ≠ b10 := fun h => by have := hk.apart 6 7 b9 (by simp [updM]) (by simp [updM, h]); omega
  have ne2 : b10 ≠ b9 := Ne.symm ne1
  have y0 : w2.cell? ⟨b9, 0, none⟩ = some (.int .i64 0) := by simp [World.cell?, u3]
  have y1 : w2.cell? ⟨b9, 1, none⟩ = some (.bool false) := by simp [World.cell?, u3]
  have y2 : w2.cell? ⟨b9, 2, none⟩ = some (.int .u64 0) := by simp [World.cell?, u3]
  have y3 : w2.cell? ⟨b9, 3, none⟩ = some (.int .i64 0) := by simp [World.cell?, u3]
  have z0 : w2.cell? ⟨b10, 0, none⟩ = some (.int .i64 0) := by simp [World.cell?, v3]
  have z1 : w2.cell? ⟨b10, 1, none⟩ = some (.bool false) := by simp [World.cell?, v3]
  have z2 : w2.cell? ⟨b10, 2, none⟩ = some (.int .u64 0) := by simp [World.cell?, v3]
  have z3 : w2.cell? ⟨b10, 3, none⟩ = some (.int .i64 0) := by simp [World.cell?, v3]
  have fz9 : ∀ j, w2.frozen? ⟨b9, j, none⟩ = false := fun j => by simp [World.frozen?, u3]
  have fz10 : ∀ j, w2.frozen? ⟨b10, j, none⟩ = false := fun j => by simp [World.frozen?, v3]
  have q0 := k0 _ hk.keeps
  have q1 := k1 _ hk.keeps
  have q2 := k2 _ hk.keeps
  have ng1 : g ≠ b9 := by omega
  have ng2 : g ≠ b10 := by omega
  have hwz := H.out.size
  obtain ⟨W3, hW3⟩ : ∃ W3, ((((((((w2.setCell ⟨b9, 0, none⟩ (.int .i64 1)).setCell ⟨b9, 1, none⟩ (.bool s1)).setCell ⟨b9, 2, none⟩ (.int .u64 m1)).setCell ⟨b9, 3, none⟩ (.int .i64 e1)).setCell ⟨b10, 0, none⟩ (.int .i64 0)).setCell ⟨b10, 1, none⟩ (.bool s2)).setCell ⟨b10, 2, none⟩ (.int .u64 0)).setCell ⟨b10, 3, none⟩ (.int .i64 e2)) = W3 := ⟨_, rfl⟩
  have H3 : Hid (Below w.heap.size w W3) := by
    unfold Hid
    rw [← hW3]
    have hb := bel_step H.out hk.keeps.below
    exact (((((((hb.setCell (p := ⟨b9, 0, none⟩) (by simp; omega) _).setCell (p := ⟨b9, 1, none⟩) (by simp; omega) _).setCell (p := ⟨b9, 2, none⟩) (by simp; omega) _).setCell (p := ⟨b9, 3, none⟩) (by simp; omega) _).setCell (p := ⟨b10, 0, none⟩) (by simp; omega) _).setCell (p := ⟨b10, 1, none⟩) (by simp; omega) _).setCell (p := ⟨b10, 2, none⟩) (by simp; omega) _).setCell (p := ⟨b10, 3, none⟩) (by simp; omega) _
  obtain ⟨⟨p0, p1, p2, p3, p4, p5, p6, p7⟩, pg, hsz⟩ := twoStructs w2 W3 b9 b10 _ _ _ _ _ _ _ _ _ _ _ _ _ _ _ _ ne1 ne2 y0 y1 y2 y3 z0 z1 z2 z3 hW3
  have t0 := (pg g 0 ng1 ng2).trans q0
  have t1 := (pg g 1 ng1 ng2).trans q1
  have t2 := (pg g 2 ng1 ng2).trans q2
  have l0 : g < W3.heap.size := by have := hk.keeps.below.size; omega
  have l9 : b9 < W3.heap.size := by omega
  have l10 : b10 < W3.heap.size := by omega
  clear k0 k1 k2 hk H V1 V2 hs q0 q1 q2 u1 u2 u3 v1 v2 v3 hwz hsz ng1 ng2 pg
  have l0b : g < W3.heap.size + 1 := by omega
  have l9b : b9 < W3.heap.size + 1 := by omega
  have l10b : b10 < W3.heap.size + 1 := by omega
  have l0c : g < W3.heap.size + 1 + 1 := by omega
  have l9c : b9 < W3.heap.size + 1 + 1 := by omega
  have l10c : b10 < W3.heap.size + 1 + 1 := by omega
  go_wp2_with (first | (go_at_call 30; refine (noNumber16 _).mono ?_; rintro e' w3 ⟨rfl, B3⟩) | (go_at_call 32; refine (infinite16 sg _).mono ?_; rintro e' w3 ⟨rfl, B3⟩) | (go_at_call 31; go_in))
  go_ret
  refine ⟨rfl, ?_⟩
  refine bel_step ?_ B3
  refine bel_step H3.out ?_
  (repeat (first | refine Below.alloc ?_ (by first | (simp; done) | (simp; omega)) _ | refine Below.setCell ?_ (by first | (simp; done) | (simp; omega)) _ | refine bel_dN ?_ _ | refine Below.drew ?_ | exact Below.refl _ _))

set_option maxHeartbeats 2000000 in
theorem mulImpl_iz32 (a b c1 m1 e1 c2 m2 e2 : Int) (s1 s2 sg : Bool) (V1 : Hid (∀ w, Calls Try.prog 29 #[(.agg #[.int .i64 23, .int .i64 127, .int .u32 255]), .int .u32 a] w fun e w' => e = .returned (.agg #[.int .i64 c1, .bool s1, .int .u64 m1, .int .i64 e1]) ∧ Below w.heap.size w w'))
    (V2 : Hid (∀ w, Calls Try.prog 29 #[(.agg #[.int .i64 23, .int .i64 127, .int .u32 255]), .int .u32 b] w fun e w' => e = .returned (.agg #[.int .i64 c2, .bool s2, .int .u64 m2, .int .i64 e2]) ∧ Below w.heap.size w w')) (hsg : (!(s1 == s2)) = sg) (hc1 : c1 = 1) (hc2 : c2 = 0) (hm2 : m2 = 0) (w : World) :
    Calls Try.prog 10 #[.int .i64 32, .int .u32 a, .int .u32 b] w fun e w' => e = .returned (.int .u32 (2139095040 + 4194304)) ∧ Below w.heap.size w w' := by
  subst hc1
  subst hc2
  subst hm2
  go_enter Try.func10, Try.ntmps10
  go_wp2_with fail
  refine (form32 _).mono ?_
  rintro e' w1 ⟨rfl, B1⟩
  go_wp2_with fail
  obtain ⟨W, hW⟩ : ∃ W, w1.alloc (.cells #[.int .i64 23, .int .i64 127, .int .u32 255] 45) = W := ⟨_, rfl⟩
  obtain ⟨g, hg⟩ : ∃ g, w1.heap.size = g := ⟨_, rfl⟩
  have hs : W.heap.size = g + 1 := by rw [← hW, ← hg]; simp
  have H : Hid (Below w.heap.size w W) := by unfold Hid; rw [← hW]; ((repeat (first | refine bel_alloc ?_ _ | refine bel_dN ?_ _ | refine Below.drew ?_ | refine Below.setCell ?_ (by first | (simp; done) | (simp; omega)) _)); refine bel_step ?_ B1; (repeat (first | refine bel_alloc ?_ _ | refine bel_dN ?_ _ | refine Below.drew ?_ | refine Below.setCell ?_ (by first | (simp; done) | (simp; omega)) _)); exact Below.refl _ _)
  have k0 : ∀ w, Keeps W w → w.cell? ⟨g, 0, none⟩ = some (.int .i64 23) := fun w h => h.cell (by omega) (by rw [← hW, ← hg]; simp)
  have k1 : ∀ w, Keeps W w → w.cell? ⟨g, 1, none⟩ = some (.int .i64 127) := fun w h => h.cell (by omega) (by rw [← hW, ← hg]; simp)
  have k2 : ∀ w, Keeps W w → w.cell? ⟨g, 2, none⟩ = some (.int .u32 255) := fun w h => h.cell (by omega) (by rw [← hW, ← hg]; simp)
  rw [hW, hg]
  clear hW B1 hg
  refine region_m (C := KeepsM W (.cells #[.int .i64 0, .bool false, .int .u64 0, .int .i64 0] 50)) 8 6 (by kernel_rfl) (by kernel_rfl) (KeepsM.start W _) ?_
  simp only [List.take_succ_cons, List.take_zero, List.drop_succ_cons, List.drop_zero]
  (iterate 6
    (apply wm_go _ (by omega) (by rfl)
     · intro M wq hq
       have hx := hq.keeps
       go_simp
       first
         | (apply uponF_call; go_at_call_of 29 a; exact mcall hq (V1.out _))
         | (apply uponF_call; go_at_call_of 29 b; exact mcall hq (V2.out _))
         | exact uponF_value hq rfl
     simp only [Act.put, List.setIfInBounds_toArray, List.set_cons_succ, List.set_cons_zero]))
  refine wm_make (by omega) (by rfl) (fun M wq hq => ⟨wq.heap.size, ?_⟩) (fun b9 => ?_)
  · go_simp
    exact uponF_value (hq.make 6) rfl
  simp only [Act.put, List.setIfInBounds_toArray, List.set_cons_succ, List.set_cons_zero, ptrTo]
  refine wm_make (by omega) (by rfl) (fun M wq hq => ⟨wq.heap.size, ?_⟩) (fun b10 => ?_)
  · go_simp
    exact uponF_value (hq.make 7) rfl
  simp only [Act.put, List.setIfInBounds_toArray, List.set_cons_succ, List.set_cons_zero, ptrTo]
  refine wm_nil ?_
  intro w2 hk
  obtain ⟨u1, u2, u3⟩ := hk.made 6 b9 (by simp [updM])
  obtain ⟨v1, v2, v3⟩ := hk.made 7 b10 (by simp [updM])
  have ne1 : b9 ≠ b10 := fun h => by have := hk.apart 6 7 b9 (by simp [updM]) (by simp [updM, h]); omega
  have ne2 : b10 ≠ b9 := Ne.symm ne1
  have y0 : w2.cell? ⟨b9, 0, none⟩ = some (.int .i64 0) := by simp [World.cell?, u3]
  have y1 : w2.cell? ⟨b9, 1, none⟩ = some (.bool false) := by simp [World.cell?, u3]
  have y2 : w2.cell? ⟨b9, 2, none⟩ = some (.int .u64 0) := by simp [World.cell?, u3]
  have y3 : w2.cell? ⟨b9, 3, none⟩ = some (.int .i64 0) := by simp [World.cell?, u3]
  have z0 : w2.cell? ⟨b10, 0, none⟩ = some (.int .i64 0) := by simp [World.cell?, v3]
  have z1 : w2.cell? ⟨b10, 1, none⟩ = some (.bool false) := by simp [World.cell?, v3]
  have z2 : w2.cell? ⟨b10, 2, none⟩ = some (.int .u64 0) := by simp [World.cell?, v3]
  have z3 : w2.cell? ⟨b10, 3, none⟩ = some (.int .i64 0) := by simp [World.cell?, v3]
  have fz9 : ∀ j, w2.frozen? ⟨b9, j, none⟩ = false := fun j => by simp [World.frozen?, u3]
  have fz10 : ∀ j, w2.frozen? ⟨b10, j, none⟩ = false := fun j => by simp [World.frozen?, v3]
  have q0 := k0 _ hk.keeps
  have q1 := k1 _ hk.keeps
  have q2 := k2 _ hk.keeps
  have ng1 : g ≠ b9 := by omega
  have ng2 : g ≠ b10 := by omega
  have hwz := H.out.size
  obtain ⟨W3, hW3⟩ : ∃ W3, ((((((((w2.setCell ⟨b9, 0, none⟩ (.int .i64 1)).setCell ⟨b9, 1, none⟩ (.bool s1)).setCell ⟨b9, 2, none⟩ (.int .u64 m1)).setCell ⟨b9, 3, none⟩ (.int .i64 e1)).setCell ⟨b10, 0, none⟩ (.int .i64 0)).setCell ⟨b10, 1, none⟩ (.bool s2)).setCell ⟨b10, 2, none⟩ (.int .u64 0)).setCell ⟨b10, 3, none⟩ (.int .i64 e2)) = W3 := ⟨_, rfl⟩
  have H3 : Hid (Below w.heap.size w W3) := by
    unfold Hid
    rw [← hW3]
    have hb := bel_step H.out hk.keeps.below
    exact (((((((hb.setCell (p := ⟨b9, 0, none⟩) (by simp; omega) _).setCell (p := ⟨b9, 1, none⟩) (by simp; omega) _).setCell (p := ⟨b9, 2, none⟩) (by simp; omega) _).setCell (p := ⟨b9, 3, none⟩) (by simp; omega) _).setCell (p := ⟨b10, 0, none⟩) (by simp; omega) _).setCell (p := ⟨b10, 1, none⟩) (by simp; omega) _).setCell (p := ⟨b10, 2, none⟩) (by simp; omega) _).setCell (p := ⟨b10, 3, none⟩) (by simp; omega) _
  obtain ⟨⟨p0, p1, p2, p3, p4, p5, p6, p7⟩, pg, hsz⟩ := twoStructs w2 W3 b9 b10 _ _ _ _ _ _ _ _ _ _ _ _ _ _ _ _ ne1 ne2 y0 y1 y2 y3 z0 z1 z2 z3 hW3
  have t0 := (pg g 0 ng1 ng2).trans q0
  have t1 := (pg g 1 ng1 ng2).trans q1
  have t2 := (pg g 2 ng1 ng2).trans q2
  have l0 : g < W3.heap.size := by have := hk.keeps.below.size; omega
  have l9 : b9 < W3.heap.size := by omega
  have l10 : b10 < W3.heap.size := by omega
  clear k0 k1 k2 hk H V1 V2 hs q0 q1 q2 u1 u2 u3 v1 v2 v3 hwz hsz ng1 ng2 pg
  have l0b : g < W3.heap.size + 1 := by omega
  have l9b : b9 < W3.heap.size + 1 := by omega
  have l10b : b10 < W3.heap.size + 1 := by omega
  have l0c : g < W3.heap.size + 1 + 1 := by omega
  have l9c : b9 < W3.heap.size + 1 + 1 := by omega
  have l10c : b10 < W3.heap.size + 1 + 1 := by omega
  go_wp2_with (first | (go_at_call 30; refine (noNumber32 _).mono ?_; rintro e' w3 ⟨rfl, B3⟩) | (go_at_call 32; refine (infinite32 sg _).mono ?_; rintro e' w3 ⟨rfl, B3⟩) | (go_at_call 31; go_in))
  go_ret
  refine ⟨rfl, ?_⟩
  refine bel_step ?_ B3
  refine bel_step H3.out ?_
  (repeat (first | refine Below.alloc ?_ (by first | (simp; done) | (simp; omega)) _ | refine Below.setCell ?_ (by first | (simp; done) | (simp; omega)) _ | refine bel_dN ?_ _ | refine Below.drew ?_ | exact Below.refl _ _))

set_option maxHeartbeats 1000000 in
theorem mulProd_in16 (m1 e1 m2 e2 : Int) (s1 s2 sg : Bool) (hsg : (!(s1 == s2)) = sg) (hm2 : (m2 == 0) = false) (w : World) :
    Calls Try.prog 39 #[(.agg #[.int .u64 5, .int .u64 10]), .agg #[.bool s1, .bool true, .bool false, .int .u64 m1, .int .i64 e1], .agg #[.bool s2, .bool false, .bool false, .int .u64 m2, .int .i64 e2]] w fun e w' => e = .returned (.int .u32 (sg.toNat * 32768 + 31744)) ∧ Below w.heap.size w w' := by
  go_enter Try.func39, Try.ntmps39
  go_wp2_with fail
  refine (l4Inf16 sg _).mono ?_
  rintro e' w3 ⟨rfl, B3⟩
  go_wp2
  go_ret
  refine ⟨rfl, ?_⟩
  ((repeat (first | refine bel_alloc ?_ _ | refine bel_dN ?_ _ | refine Below.drew ?_ | refine Below.setCell ?_ (by first | (simp; done) | (simp; omega)) _)); refine bel_step ?_ B3; (repeat (first | refine bel_alloc ?_ _ | refine bel_dN ?_ _ | refine Below.drew ?_ | refine Below.setCell ?_ (by first | (simp; done) | (simp; omega)) _)); exact Below.refl _ _)

set_option maxHeartbeats 1000000 in
theorem mulProd_in32 (m1 e1 m2 e2 : Int) (s1 s2 sg : Bool) (hsg : (!(s1 == s2)) = sg) (hm2 : (m2 == 0) = false) (w : World) :
    Calls Try.prog 39 #[(.agg #[.int .u64 8, .int .u64 23]), .agg #[.bool s1, .bool true, .bool false, .int .u64 m1, .int .i64 e1], .agg #[.bool s2, .bool false, .bool false, .int .u64 m2, .int .i64 e2]] w fun e w' => e = .returned (.int .u32 (sg.toNat * 2147483648 + 2139095040)) ∧ Below w.heap.size w w' := by
  go_enter Try.func39, Try.ntmps39
  go_wp2_with fail
  refine (l4Inf32 sg _).mono ?_
  rintro e' w3 ⟨rfl, B3⟩
  go_wp2
  go_ret
  refine ⟨rfl, ?_⟩
  ((repeat (first | refine bel_alloc ?_ _ | refine bel_dN ?_ _ | refine Below.drew ?_ | refine Below.setCell ?_ (by first | (simp; done) | (simp; omega)) _)); refine bel_step ?_ B3; (repeat (first | refine bel_alloc ?_ _ | refine bel_dN ?_ _ | refine Below.drew ?_ | refine Below.setCell ?_ (by first | (simp; done) | (simp; omega)) _)); exact Below.refl _ _)

set_option maxHeartbeats 2000000 in
theorem mulImpl_in16 (a b c1 m1 e1 c2 m2 e2 : Int) (s1 s2 sg : Bool) (V1 : Hid (∀ w, Calls Try.prog 29 #[(.agg #[.int .i64 10, .int .i64 15, .int .u32 31]), .int .u32 a] w fun e w' => e = .returned (.agg #[.int .i64 c1, .bool s1, .int .u64 m1, .int .i64 e1]) ∧ Below w.heap.size w w'))
    (V2 : Hid (∀ w, Calls Try.prog 29 #[(.agg #[.int .i64 10, .int .i64 15, .int .u32 31]), .int .u32 b] w fun e w' => e = .returned (.agg #[.int .i64 c2, .bool s2, .int .u64 m2, .int .i64 e2]) ∧ Below w.heap.size w w')) (hsg : (!(s1 == s2)) = sg) (hc1 : c1 = 1) (hc2 : c2 = 0) (hm2 : (m2 == 0) = false) (w : World) :
    Calls Try.prog 10 #[.int .i64 16, .int .u32 a, .int .u32 b] w fun e w' => e = .returned (.int .u32 (sg.toNat * 32768 + 31744)) ∧ Below w.heap.size w w' := by
  subst hc1
  subst hc2
  go_enter Try.func10, Try.ntmps10
  go_wp2_with fail
  refine (form16 _).mono ?_
  rintro e' w1 ⟨rfl, B1⟩
  go_wp2_with fail
  obtain ⟨W, hW⟩ : ∃ W, w1.alloc (.cells #[.int .i64 10, .int .i64 15, .int .u32 31] 45) = W := ⟨_, rfl⟩
  obtain ⟨g, hg⟩ : ∃ g, w1.heap.size = g := ⟨_, rfl⟩
  have hs : W.heap.size = g + 1 := by rw [← hW, ← hg]; simp
  have H : Hid (Below w.heap.size w W) := by unfold Hid; rw [← hW]; ((repeat (first | refine bel_alloc ?_ _ | refine bel_dN ?_ _ | refine Below.drew ?_ | refine Below.setCell ?_ (by first | (simp; done) | (simp; omega)) _)); refine bel_step ?_ B1; (repeat (first | refine bel_alloc ?_ _ | refine bel_dN ?_ _ | refine Below.drew ?_ | refine Below.setCell ?_ (by first | (simp; done) | (simp; omega)) _)); exact Below.refl _ _)
  have k0 : ∀ w, Keeps W w → w.cell? ⟨g, 0, none⟩ = some (.int .i64 10) := fun w h => h.cell (by omega) (by rw [← hW, ← hg]; simp)
  have k1 : ∀ w, Keeps W w → w.cell? ⟨g, 1, none⟩ = some (.int .i64 15) := fun w h => h.cell (by omega) (by rw [← hW, ← hg]; simp)
  have k2 : ∀ w, Keeps W w → w.cell? ⟨g, 2, none⟩ = some (.int .u32 31) := fun w h => h.cell (by omega) (by rw [← hW, ← hg]; simp)
  rw [hW, hg]
  clear hW B1 hg
  refine region_m (C := KeepsM W (.cells #[.int .i64 0, .bool false, .int .u64 0, .int .i64 0] 50)) 8 6 (by kernel_rfl) (by kernel_rfl) (KeepsM.start W _) ?_
  simp only [List.take_succ_cons, List.take_zero, List.drop_succ_cons, List.drop_zero]
  (iterate 6
    (apply wm_go _ (by omega) (by rfl)
     · intro M wq hq
       have hx := hq.keeps
       go_simp
       first
         | (apply uponF_call; go_at_call_of 29 a; exact mcall hq (V1.out _))
         | (apply uponF_call; go_at_call_of 29 b; exact mcall hq (V2.out _))
         | exact uponF_value hq rfl
     simp only [Act.put, List.setIfInBounds_toArray, List.set_cons_succ, List.set_cons_zero]))
  refine wm_make (by omega) (by rfl) (fun M wq hq => ⟨wq.heap.size, ?_⟩) (fun b9 => ?_)
  · go_simp
    exact uponF_value (hq.make 6) rfl
  simp only [Act.put, List.setIfInBounds_toArray, List.set_cons_succ, List.set_cons_zero, ptrTo]
  refine wm_make (by omega) (by rfl) (fun M wq hq => ⟨wq.heap.size, ?_⟩) (fun b10 => ?_)
  · go_simp
    exact uponF_value (hq.make 7) rfl
  simp only [Act.put, List.setIfInBounds_toArray, List.set_cons_succ, List.set_cons_zero, ptrTo]
  refine wm_nil ?_
  intro w2 hk
  obtain ⟨u1, u2, u3⟩ := hk.made 6 b9 (by simp [updM])
  obtain ⟨v1, v2, v3⟩ := hk.made 7 b10 (by simp [updM])
  have ne1 : b9 ≠ b10 := fun h => by have := hk.apart 6 7 b9 (by simp [updM]) (by simp [updM, h]); omega
  have ne2 : b10 ≠ b9 := Ne.symm ne1
  have y0 : w2.cell? ⟨b9, 0, none⟩ = some (.int .i64 0) := by simp [World.cell?, u3]
  have y1 : w2.cell? ⟨b9, 1, none⟩ = some (.bool false) := by simp [World.cell?, u3]
  have y2 : w2.cell? ⟨b9, 2, none⟩ = some (.int .u64 0) := by simp [World.cell?, u3]
  have y3 : w2.cell? ⟨b9, 3, none⟩ = some (.int .i64 0) := by simp [World.cell?, u3]
  have z0 : w2.cell? ⟨b10, 0, none⟩ = some (.int .i64 0) := by simp [World.cell?, v3]
  have z1 : w2.cell? ⟨b10, 1, none⟩ = some (.bool false) := by simp [World.cell?, v3]
  have z2 : w2.cell? ⟨b10, 2, none⟩ = some (.int .u64 0) := by simp [World.cell?, v3]
  have z3 : w2.cell? ⟨b10, 3, none⟩ = some (.int .i64 0) := by simp [World.cell?, v3]
  have fz9 : ∀ j, w2.frozen? ⟨b9, j, none⟩ = false := fun j => by simp [World.frozen?, u3]
  have fz10 : ∀ j, w2.frozen? ⟨b10, j, none⟩ = false := fun j => by simp [World.frozen?, v3]
  have q0 := k0 _ hk.keeps
  have q1 := k1 _ hk.keeps
  have q2 := k2 _ hk.keeps
  have ng1 : g ≠ b9 := by omega
  have ng2 : g ≠ b10 := by omega
  have hwz := H.out.size
  obtain ⟨W3, hW3⟩ : ∃ W3, ((((((((w2.setCell ⟨b9, 0, none⟩ (.int .i64 1)).setCell ⟨b9, 1, none⟩ (.bool s1)).setCell ⟨b9, 2, none⟩ (.int .u64 m1)).setCell ⟨b9, 3, none⟩ (.int .i64 e1)).setCell ⟨b10, 0, none⟩ (.int .i64 0)).setCell ⟨b10, 1, none⟩ (.bool s2)).setCell ⟨b10, 2, none⟩ (.int .u64 m2)).setCell ⟨b10, 3, none⟩ (.int .i64 e2)) = W3 := ⟨_, rfl⟩
  have H3 : Hid (Below w.heap.size w W3) := by
    unfold Hid
    rw [← hW3]
    have hb := bel_step H.out hk.keeps.below
    exact (((((((hb.setCell (p := ⟨b9, 0, none⟩) (by simp; omega) _).setCell (p := ⟨b9, 1, none⟩) (by simp; omega) _).setCell (p := ⟨b9, 2, none⟩) (by simp; omega) _).setCell (p := ⟨b9, 3, none⟩) (by simp; omega) _).setCell (p := ⟨b10, 0, none⟩) (by simp; omega) _).setCell (p := ⟨b10, 1, none⟩) (by simp; omega) _).setCell (p := ⟨b10, 2, none⟩) (by simp; omega) _).setCell (p := ⟨b10, 3, none⟩) (by simp; omega) _
  obtain ⟨⟨p0, p1, p2, p3, p4, p5, p6, p7⟩, pg, hsz⟩ := twoStructs w2 W3 b9 b10 _ _ _ _ _ _ _ _ _ _ _ _ _ _ _ _ ne1 ne2 y0 y1 y2 y3 z0 z1 z2 z3 hW3
  have t0 := (pg g 0 ng1 ng2).trans q0
  have t1 := (pg g 1 ng1 ng2).trans q1
  have t2 := (pg g 2 ng1 ng2).trans q2
  have l0 : g < W3.heap.size := by have := hk.keeps.below.size; omega
  have l9 : b9 < W3.heap.size := by omega
  have l10 : b10 < W3.heap.size := by omega
  clear k0 k1 k2 hk H V1 V2 hs q0 q1 q2 u1 u2 u3 v1 v2 v3 hwz hsz ng1 ng2 pg
  have l0b : g < W3.heap.size + 1 := by omega
  have l9b : b9 < W3.heap.size + 1 := by omega
  have l10b : b10 < W3.heap.size + 1 := by omega
  have l0c : g < W3.heap.size + 1 + 1 := by omega
  have l9c : b9 < W3.heap.size + 1 + 1 := by omega
  have l10c : b10 < W3.heap.size + 1 + 1 := by omega
  go_wp2_with (first | (go_at_call 30; refine (noNumber16 _).mono ?_; rintro e' w3 ⟨rfl, B3⟩) | (go_at_call 32; refine (infinite16 sg _).mono ?_; rintro e' w3 ⟨rfl, B3⟩) | (go_at_call 31; go_in))
  go_ret
  refine ⟨rfl, ?_⟩
  refine bel_step ?_ B3
  refine bel_step H3.out ?_
  (repeat (first | refine Below.alloc ?_ (by first | (simp; done) | (simp; omega)) _ | refine Below.setCell ?_ (by first | (simp; done) | (simp; omega)) _ | refine bel_dN ?_ _ | refine Below.drew ?_ | exact Below.refl _ _))

set_option maxHeartbeats 2000000 in
theorem mulImpl_in32 (a b c1 m1 e1 c2 m2 e2 : Int) (s1 s2 sg : Bool) (V1 : Hid (∀ w, Calls Try.prog 29 #[(.agg #[.int .i64 23, .int .i64 127, .int .u32 255]), .int .u32 a] w fun e w' => e = .returned (.agg #[.int .i64 c1, .bool s1, .int .u64 m1, .int .i64 e1]) ∧ Below w.heap.size w w'))
    (V2 : Hid (∀ w, Calls Try.prog 29 #[(.agg #[.int .i64 23, .int .i64 127, .int .u32 255]), .int .u32 b] w fun e w' => e = .returned (.agg #[.int .i64 c2, .bool s2, .int .u64 m2, .int .i64 e2]) ∧ Below w.heap.size w w')) (hsg : (!(s1 == s2)) = sg) (hc1 : c1 = 1) (hc2 : c2 = 0) (hm2 : (m2 == 0) = false) (w : World) :
    Calls Try.prog 10 #[.int .i64 32, .int .u32 a, .int .u32 b] w fun e w' => e = .returned (.int .u32 (sg.toNat * 2147483648 + 2139095040)) ∧ Below w.heap.size w w' := by
  subst hc1
  subst hc2
  go_enter Try.func10, Try.ntmps10
  go_wp2_with fail
  refine (form32 _).mono ?_
  rintro e' w1 ⟨rfl, B1⟩
  go_wp2_with fail
  obtain ⟨W, hW⟩ : ∃ W, w1.alloc (.cells #[.int .i64 23, .int .i64 127, .int .u32 255] 45) = W := ⟨_, rfl⟩
  obtain ⟨g, hg⟩ : ∃ g, w1.heap.size = g := ⟨_, rfl⟩
  have hs : W.heap.size = g + 1 := by rw [← hW, ← hg]; simp
  have H : Hid (Below w.heap.size w W) := by unfold Hid; rw [← hW]; ((repeat (first | refine bel_alloc ?_ _ | refine bel_dN ?_ _ | refine Below.drew ?_ | refine Below.setCell ?_ (by first | (simp; done) | (simp; omega)) _)); refine bel_step ?_ B1; (repeat (first | refine bel_alloc ?_ _ | refine bel_dN ?_ _ | refine Below.drew ?_ | refine Below.setCell ?_ (by first | (simp; done) | (simp; omega)) _)); exact Below.refl _ _)
  have k0 : ∀ w, Keeps W w → w.cell? ⟨g, 0, none⟩ = some (.int .i64 23) := fun w h => h.cell (by omega) (by rw [← hW, ← hg]; simp)
  have k1 : ∀ w, Keeps W w → w.cell? ⟨g, 1, none⟩ = some (.int .i64 127) := fun w h => h.cell (by omega) (by rw [← hW, ← hg]; simp)
  have k2 : ∀ w, Keeps W w → w.cell? ⟨g, 2, none⟩ = some (.int .u32 255) := fun w h => h.cell (by omega) (by rw [← hW, ← hg]; simp)
  rw [hW, hg]
  clear hW B1 hg
  refine region_m (C := KeepsM W (.cells #[.int .i64 0, .bool false, .int .u64 0, .int .i64 0] 50)) 8 6 (by kernel_rfl) (by kernel_rfl) (KeepsM.start W _) ?_
  simp only [List.take_succ_cons, List.take_zero, List.drop_succ_cons, List.drop_zero]
  (iterate 6
    (apply wm_go _ (by omega) (by rfl)
     · intro M wq hq
       have hx := hq.keeps
       go_simp
       first
         | (apply uponF_call; go_at_call_of 29 a; exact mcall hq (V1.out _))
         | (apply uponF_call; go_at_call_of 29 b; exact mcall hq (V2.out _))
         | exact uponF_value hq rfl
     simp only [Act.put, List.setIfInBounds_toArray, List.set_cons_succ, List.set_cons_zero]))
  refine wm_make (by omega) (by rfl) (fun M wq hq => ⟨wq.heap.size, ?_⟩) (fun b9 => ?_)
  · go_simp
    exact uponF_value (hq.make 6) rfl
  simp only [Act.put, List.setIfInBounds_toArray, List.set_cons_succ, List.set_cons_zero, ptrTo]
  refine wm_make (by omega) (by rfl) (fun M wq hq => ⟨wq.heap.size, ?_⟩) (fun b10 => ?_)
  · go_simp
    exact uponF_value (hq.make 7) rfl
  simp only [Act.put, List.setIfInBounds_toArray, List.set_cons_succ, List.set_cons_zero, ptrTo]
  refine wm_nil ?_
  intro w2 hk
  obtain ⟨u1, u2, u3⟩ := hk.made 6 b9 (by simp [updM])
  obtain ⟨v1, v2, v3⟩ := hk.made 7 b10 (by simp [updM])
  have ne1 : b9 ≠ b10 := fun h => by have := hk.apart 6 7 b9 (by simp [updM]) (by simp [updM, h]); omega
  have ne2 : b10 ≠ b9 := Ne.symm ne1
  have y0 : w2.cell? ⟨b9, 0, none⟩ = some (.int .i64 0) := by simp [World.cell?, u3]
  have y1 : w2.cell? ⟨b9, 1, none⟩ = some (.bool false) := by simp [World.cell?, u3]
  have y2 : w2.cell? ⟨b9, 2, none⟩ = some (.int .u64 0) := by simp [World.cell?, u3]
  have y3 : w2.cell? ⟨b9, 3, none⟩ = some (.int .i64 0) := by simp [World.cell?, u3]
  have z0 : w2.cell? ⟨b10, 0, none⟩ = some (.int .i64 0) := by simp [World.cell?, v3]
  have z1 : w2.cell? ⟨b10, 1, none⟩ = some (.bool false) := by simp [World.cell?, v3]
  have z2 : w2.cell? ⟨b10, 2, none⟩ = some (.int .u64 0) := by simp [World.cell?, v3]
  have z3 : w2.cell? ⟨b10, 3, none⟩ = some (.int .i64 0) := by simp [World.cell?, v3]
  have fz9 : ∀ j, w2.frozen? ⟨b9, j, none⟩ = false := fun j => by simp [World.frozen?, u3]
  have fz10 : ∀ j, w2.frozen? ⟨b10, j, none⟩ = false := fun j => by simp [World.frozen?, v3]
  have q0 := k0 _ hk.keeps
  have q1 := k1 _ hk.keeps
  have q2 := k2 _ hk.keeps
  have ng1 : g ≠ b9 := by omega
  have ng2 : g ≠ b10 := by omega
  have hwz := H.out.size
  obtain ⟨W3, hW3⟩ : ∃ W3, ((((((((w2.setCell ⟨b9, 0, none⟩ (.int .i64 1)).setCell ⟨b9, 1, none⟩ (.bool s1)).setCell ⟨b9, 2, none⟩ (.int .u64 m1)).setCell ⟨b9, 3, none⟩ (.int .i64 e1)).setCell ⟨b10, 0, none⟩ (.int .i64 0)).setCell ⟨b10, 1, none⟩ (.bool s2)).setCell ⟨b10, 2, none⟩ (.int .u64 m2)).setCell ⟨b10, 3, none⟩ (.int .i64 e2)) = W3 := ⟨_, rfl⟩
  have H3 : Hid (Below w.heap.size w W3) := by
    unfold Hid
    rw [← hW3]
    have hb := bel_step H.out hk.keeps.below
    exact (((((((hb.setCell (p := ⟨b9, 0, none⟩) (by simp; omega) _).setCell (p := ⟨b9, 1, none⟩) (by simp; omega) _).setCell (p := ⟨b9, 2, none⟩) (by simp; omega) _).setCell (p := ⟨b9, 3, none⟩) (by simp; omega) _).setCell (p := ⟨b10, 0, none⟩) (by simp; omega) _).setCell (p := ⟨b10, 1, none⟩) (by simp; omega) _).setCell (p := ⟨b10, 2, none⟩) (by simp; omega) _).setCell (p := ⟨b10, 3, none⟩) (by simp; omega) _
  obtain ⟨⟨p0, p1, p2, p3, p4, p5, p6, p7⟩, pg, hsz⟩ := twoStructs w2 W3 b9 b10 _ _ _ _ _ _ _ _ _ _ _ _ _ _ _ _ ne1 ne2 y0 y1 y2 y3 z0 z1 z2 z3 hW3
  have t0 := (pg g 0 ng1 ng2).trans q0
  have t1 := (pg g 1 ng1 ng2).trans q1
  have t2 := (pg g 2 ng1 ng2).trans q2
  have l0 : g < W3.heap.size := by have := hk.keeps.below.size; omega
  have l9 : b9 < W3.heap.size := by omega
  have l10 : b10 < W3.heap.size := by omega
  clear k0 k1 k2 hk H V1 V2 hs q0 q1 q2 u1 u2 u3 v1 v2 v3 hwz hsz ng1 ng2 pg
  have l0b : g < W3.heap.size + 1 := by omega
  have l9b : b9 < W3.heap.size + 1 := by omega
  have l10b : b10 < W3.heap.size + 1 := by omega
  have l0c : g < W3.heap.size + 1 + 1 := by omega
  have l9c : b9 < W3.heap.size + 1 + 1 := by omega
  have l10c : b10 < W3.heap.size + 1 + 1 := by omega
  go_wp2_with (first | (go_at_call 30; refine (noNumber32 _).mono ?_; rintro e' w3 ⟨rfl, B3⟩) | (go_at_call 32; refine (infinite32 sg _).mono ?_; rintro e' w3 ⟨rfl, B3⟩) | (go_at_call 31; go_in))
  go_ret
  refine ⟨rfl, ?_⟩
  refine bel_step ?_ B3
  refine bel_step H3.out ?_
  (repeat (first | refine Below.alloc ?_ (by first | (simp; done) | (simp; omega)) _ | refine Below.setCell ?_ (by first | (simp; done) | (simp; omega)) _ | refine bel_dN ?_ _ | refine Below.drew ?_ | exact Below.refl _ _))

set_option maxHeartbeats 1000000 in
theorem mulProd_zi16 (m1 e1 m2 e2 : Int) (s1 s2 sg : Bool) (hsg : (!(s1 == s2)) = sg) (hm1 : m1 = 0) (w : World) :
    Calls Try.prog 39 #[(.agg #[.int .u64 5, .int .u64 10]), .agg #[.bool s1, .bool false, .bool false, .int .u64 m1, .int .i64 e1], .agg #[.bool s2, .bool true, .bool false, .int .u64 m2, .int .i64 e2]] w fun e w' => e = .returned (.int .u32 (31744 + 512)) ∧ Below w.heap.size w w' := by
  subst hm1
  go_enter Try.func39, Try.ntmps39
  go_wp2_with fail
  refine (l4Nan16 _).mono ?_
  rintro e' w3 ⟨rfl, B3⟩
  go_wp2
  go_ret
  refine ⟨rfl, ?_⟩
  ((repeat (first | refine bel_alloc ?_ _ | refine bel_dN ?_ _ | refine Below.drew ?_ | refine Below.setCell ?_ (by first | (simp; done) | (simp; omega)) _)); refine bel_step ?_ B3; (repeat (first | refine bel_alloc ?_ _ | refine bel_dN ?_ _ | refine Below.drew ?_ | refine Below.setCell ?_ (by first | (simp; done) | (simp; omega)) _)); exact Below.refl _ _)

set_option maxHeartbeats 1000000 in
theorem mulProd_zi32 (m1 e1 m2 e2 : Int) (s1 s2 sg : Bool) (hsg : (!(s1 == s2)) = sg) (hm1 : m1 = 0) (w : World) :
    Calls Try.prog 39 #[(.agg #[.int .u64 8, .int .u64 23]), .agg #[.bool s1, .bool false, .bool false, .int .u64 m1, .int .i64 e1], .agg #[.bool s2, .bool true, .bool false, .int .u64 m2, .int .i64 e2]] w fun e w' => e = .returned (.int .u32 (2139095040 + 4194304)) ∧ Below w.heap.size w w' := by
  subst hm1
  go_enter Try.func39, Try.ntmps39
  go_wp2_with fail
  refine (l4Nan32 _).mono ?_
  rintro e' w3 ⟨rfl, B3⟩
  go_wp2
  go_ret
  refine ⟨rfl, ?_⟩
  ((repeat (first | refine bel_alloc ?_ _ | refine bel_dN ?_ _ | refine Below.drew ?_ | refine Below.setCell ?_ (by first | (simp; done) | (simp; omega)) _)); refine bel_step ?_ B3; (repeat (first | refine bel_alloc ?_ _ | refine bel_dN ?_ _ | refine Below.drew ?_ | refine Below.setCell ?_ (by first | (simp; done) | (simp; omega)) _)); exact Below.refl _ _)

set_option maxHeartbeats 2000000 in
theorem mulImpl_zi16 (a b c1 m1 e1 c2 m2 e2 : Int) (s1 s2 sg : Bool) (V1 : Hid (∀ w, Calls Try.prog 29 #[(.agg #[.int .i64 10, .int .i64 15, .int .u32 31]), .int .u32 a] w fun e w' => e = .returned (.agg #[.int .i64 c1, .bool s1, .int .u64 m1, .int .i64 e1]) ∧ Below w.heap.size w w'))
    (V2 : Hid (∀ w, Calls Try.prog 29 #[(.agg #[.int .i64 10, .int .i64 15, .int .u32 31]), .int .u32 b] w fun e w' => e = .returned (.agg #[.int .i64 c2, .bool s2, .int .u64 m2, .int .i64 e2]) ∧ Below w.heap.size w w')) (hsg : (!(s1 == s2)) = sg) (hc1 : c1 = 0) (hc2 : c2 = 1) (hm1 : m1 = 0) (w : World) :
    Calls Try.prog 10 #[.int .i64 16, .int .u32 a, .int .u32 b] w fun e w' => e = .returned (.int .u32 (31744 + 512)) ∧ Below w.heap.size w w' := by
  subst hc1
  subst hc2
  subst hm1
  go_enter Try.func10, Try.ntmps10
  go_wp2_with fail
  refine (form16 _).mono ?_
  rintro e' w1 ⟨rfl, B1⟩
  go_wp2_with fail
  obtain ⟨W, hW⟩ : ∃ W, w1.alloc (.cells #[.int .i64 10, .int .i64 15, .int .u32 31] 45) = W := ⟨_, rfl⟩
  obtain ⟨g, hg⟩ : ∃ g, w1.heap.size = g := ⟨_, rfl⟩
  have hs : W.heap.size = g + 1 := by rw [← hW, ← hg]; simp
  have H : Hid (Below w.heap.size w W) := by unfold Hid; rw [← hW]; ((repeat (first | refine bel_alloc ?_ _ | refine bel_dN ?_ _ | refine Below.drew ?_ | refine Below.setCell ?_ (by first | (simp; done) | (simp; omega)) _)); refine bel_step ?_ B1; (repeat (first | refine bel_alloc ?_ _ | refine bel_dN ?_ _ | refine Below.drew ?_ | refine Below.setCell ?_ (by first | (simp; done) | (simp; omega)) _)); exact Below.refl _ _)
  have k0 : ∀ w, Keeps W w → w.cell? ⟨g, 0, none⟩ = some (.int .i64 10) := fun w h => h.cell (by omega) (by rw [← hW, ← hg]; simp)
  have k1 : ∀ w, Keeps W w → w.cell? ⟨g, 1, none⟩ = some (.int .i64 15) := fun w h => h.cell (by omega) (by rw [← hW, ← hg]; simp)
  have k2 : ∀ w, Keeps W w → w.cell? ⟨g, 2, none⟩ = some (.int .u32 31) := fun w h => h.cell (by omega) (by rw [← hW, ← hg]; simp)
  rw [hW, hg]
  clear hW B1 hg
  refine region_m (C := KeepsM W (.cells #[.int .i64 0, .bool false, .int .u64 0, .int .i64 0] 50)) 8 6 (by kernel_rfl) (by kernel_rfl) (KeepsM.start W _) ?_
  simp only [List.take_succ_cons, List.take_zero, List.drop_succ_cons, List.drop_zero]
  (iterate 6
    (apply wm_go _ (by omega) (by rfl)
     · intro M wq hq
       have hx := hq.keeps
       go_simp
       first
         | (apply uponF_call; go_at_call_of 29 a; exact mcall hq (V1.out _))
         | (apply uponF_call; go_at_call_of 29 b; exact mcall hq (V2.out _))
         | exact uponF_value hq rfl
     simp only [Act.put, List.setIfInBounds_toArray, List.set_cons_succ, List.set_cons_zero]))
  refine wm_make (by omega) (by rfl) (fun M wq hq => ⟨wq.heap.size, ?_⟩) (fun b9 => ?_)
  · go_simp
    exact uponF_value (hq.make 6) rfl
  simp only [Act.put, List.setIfInBounds_toArray, List.set_cons_succ, List.set_cons_zero, ptrTo]
  refine wm_make (by omega) (by rfl) (fun M wq hq => ⟨wq.heap.size, ?_⟩) (fun b10 => ?_)
  · go_simp
    exact uponF_value (hq.make 7) rfl
  simp only [Act.put, List.setIfInBounds_toArray, List.set_cons_succ, List.set_cons_zero, ptrTo]
  refine wm_nil ?_
  intro w2 hk
  obtain ⟨u1, u2, u3⟩ := hk.made 6 b9 (by simp [updM])
  obtain ⟨v1, v2, v3⟩ := hk.made 7 b10 (by simp [updM])
  have ne1 : b9 ≠ b10 := fun h => by have := hk.apart 6 7 b9 (by simp [updM]) (by simp [updM, h]); omega
  have ne2 : b10 ≠ b9 := Ne.symm ne1
  have y0 : w2.cell? ⟨b9, 0, none⟩ = some (.int .i64 0) := by simp [World.cell?, u3]
  have y1 : w2.cell? ⟨b9, 1, none⟩ = some (.bool false) := by simp [World.cell?, u3]
  have y2 : w2.cell? ⟨b9, 2, none⟩ = some (.int .u64 0) := by simp [World.cell?, u3]
  have y3 : w2.cell? ⟨b9, 3, none⟩ = some (.int .i64 0) := by simp [World.cell?, u3]
  have z0 : w2.cell? ⟨b10, 0, none⟩ = some (.int .i64 0) := by simp [World.cell?, v3]
  have z1 : w2.cell? ⟨b10, 1, none⟩ = some (.bool false) := by simp [World.cell?, v3]
  have z2 : w2.cell? ⟨b10, 2, none⟩ = some (.int .u64 0) := by simp [World.cell?, v3]
  have z3 : w2.cell? ⟨b10, 3, none⟩ = some (.int .i64 0) := by simp [World.cell?, v3]
  have fz9 : ∀ j, w2.frozen? ⟨b9, j, none⟩ = false := fun j => by simp [World.frozen?, u3]
  have fz10 : ∀ j, w2.frozen? ⟨b10, j, none⟩ = false := fun j => by simp [World.frozen?, v3]
  have q0 := k0 _ hk.keeps
  have q1 := k1 _ hk.keeps
  have q2 := k2 _ hk.keeps
  have ng1 : g ≠ b9 := by omega
  have ng2 : g ≠ b10 := by omega
  have hwz := H.out.size
  obtain ⟨W3, hW3⟩ : ∃ W3, ((((((((w2.setCell ⟨b9, 0, none⟩ (.int .i64 0)).setCell ⟨b9, 1, none⟩ (.bool s1)).setCell ⟨b9, 2, none⟩ (.int .u64 0)).setCell ⟨b9, 3, none⟩ (.int .i64 e1)).setCell ⟨b10, 0, none⟩ (.int .i64 1)).setCell ⟨b10, 1, none⟩ (.bool s2)).setCell ⟨b10, 2, none⟩ (.int .u64 m2)).setCell ⟨b10, 3, none⟩ (.int .i64 e2)) = W3 := ⟨_, rfl⟩
  have H3 : Hid (Below w.heap.size w W3) := by
    unfold Hid
    rw [← hW3]
    have hb := bel_step H.out hk.keeps.below
    exact (((((((hb.setCell (p := ⟨b9, 0, none⟩) (by simp; omega) _).setCell (p := ⟨b9, 1, none⟩) (by simp; omega) _).setCell (p := ⟨b9, 2, none⟩) (by simp; omega) _).setCell (p := ⟨b9, 3, none⟩) (by simp; omega) _).setCell (p := ⟨b10, 0, none⟩) (by simp; omega) _).setCell (p := ⟨b10, 1, none⟩) (by simp; omega) _).setCell (p := ⟨b10, 2, none⟩) (by simp; omega) _).setCell (p := ⟨b10, 3, none⟩) (by simp; omega) _
  obtain ⟨⟨p0, p1, p2, p3, p4, p5, p6, p7⟩, pg, hsz⟩ := twoStructs w2 W3 b9 b10 _ _ _ _ _ _ _ _ _ _ _ _ _ _ _ _ ne1 ne2 y0 y1 y2 y3 z0 z1 z2 z3 hW3
  have t0 := (pg g 0 ng1 ng2).trans q0
  have t1 := (pg g 1 ng1 ng2).trans q1
  have t2 := (pg g 2 ng1 ng2).trans q2
  have l0 : g < W3.heap.size := by have := hk.keeps.below.size; omega
  have l9 : b9 < W3.heap.size := by omega
  have l10 : b10 < W3.heap.size := by omega
  clear k0 k1 k2 hk H V1 V2 hs q0 q1 q2 u1 u2 u3 v1 v2 v3 hwz hsz ng1 ng2 pg
  have l0b : g < W3.heap.size + 1 := by omega
  have l9b : b9 < W3.heap.size + 1 := by omega
  have l10b : b10 < W3.heap.size + 1 := by omega
  have l0c : g < W3.heap.size + 1 + 1 := by omega
  have l9c : b9 < W3.heap.size + 1 + 1 := by omega
  have l10c : b10 < W3.heap.size + 1 + 1 := by omega
  go_wp2_with (first | (go_at_call 30; refine (noNumber16 _).mono ?_; rintro e' w3 ⟨rfl, B3⟩) | (go_at_call 32; refine (infinite16 sg _).mono ?_; rintro e' w3 ⟨rfl, B3⟩) | (go_at_call 31; go_in))
  go_ret
  refine ⟨rfl, ?_⟩
  refine bel_step ?_ B3
  refine bel_step H3.out ?_
  (repeat (first | refine Below.alloc ?_ (by first | (simp; done) | (simp; omega)) _ | refine Below.setCell ?_ (by first | (simp; done) | (simp; omega)) _ | refine bel_dN ?_ _ | refine Below.drew ?_ | exact Below.refl _ _))

set_option maxHeartbeats 2000000 in
theorem mulImpl_zi32 (a b c1 m1 e1 c2 m2 e2 : Int) (s1 s2 sg : Bool) (V1 : Hid (∀ w, Calls Try.prog 29 #[(.agg #[.int .i64 23, .int .i64 127, .int .u32 255]), .int .u32 a] w fun e w' => e = .returned (.agg #[.int .i64 c1, .bool s1, .int .u64 m1, .int .i64 e1]) ∧ Below w.heap.size w w'))
    (V2 : Hid (∀ w, Calls Try.prog 29 #[(.agg #[.int .i64 23, .int .i64 127, .int .u32 255]), .int .u32 b] w fun e w' => e = .returned (.agg #[.int .i64 c2, .bool s2, .int .u64 m2, .int .i64 e2]) ∧ Below w.heap.size w w')) (hsg : (!(s1 == s2)) = sg) (hc1 : c1 = 0) (hc2 : c2 = 1) (hm1 : m1 = 0) (w : World) :
    Calls Try.prog 10 #[.int .i64 32, .int .u32 a, .int .u32 b] w fun e w' => e = .returned (.int .u32 (2139095040 + 4194304)) ∧ Below w.heap.size w w' := by
  subst hc1
  subst hc2
  subst hm1
  go_enter Try.func10, Try.ntmps10
  go_wp2_with fail
  refine (form32 _).mono ?_
  rintro e' w1 ⟨rfl, B1⟩
  go_wp2_with fail
  obtain ⟨W, hW⟩ : ∃ W, w1.alloc (.cells #[.int .i64 23, .int .i64 127, .int .u32 255] 45) = W := ⟨_, rfl⟩
  obtain ⟨g, hg⟩ : ∃ g, w1.heap.size = g := ⟨_, rfl⟩
  have hs : W.heap.size = g + 1 := by rw [← hW, ← hg]; simp
  have H : Hid (Below w.heap.size w W) := by unfold Hid; rw [← hW]; ((repeat (first | refine bel_alloc ?_ _ | refine bel_dN ?_ _ | refine Below.drew ?_ | refine Below.setCell ?_ (by first | (simp; done) | (simp; omega)) _)); refine bel_step ?_ B1; (repeat (first | refine bel_alloc ?_ _ | refine bel_dN ?_ _ | refine Below.drew ?_ | refine Below.setCell ?_ (by first | (simp; done) | (simp; omega)) _)); exact Below.refl _ _)
  have k0 : ∀ w, Keeps W w → w.cell? ⟨g, 0, none⟩ = some (.int .i64 23) := fun w h => h.cell (by omega) (by rw [← hW, ← hg]; simp)
  have k1 : ∀ w, Keeps W w → w.cell? ⟨g, 1, none⟩ = some (.int .i64 127) := fun w h => h.cell (by omega) (by rw [← hW, ← hg]; simp)
  have k2 : ∀ w, Keeps W w → w.cell? ⟨g, 2, none⟩ = some (.int .u32 255) := fun w h => h.cell (by omega) (by rw [← hW, ← hg]; simp)
  rw [hW, hg]
  clear hW B1 hg
  refine region_m (C := KeepsM W (.cells #[.int .i64 0, .bool false, .int .u64 0, .int .i64 0] 50)) 8 6 (by kernel_rfl) (by kernel_rfl) (KeepsM.start W _) ?_
  simp only [List.take_succ_cons, List.take_zero, List.drop_succ_cons, List.drop_zero]
  (iterate 6
    (apply wm_go _ (by omega) (by rfl)
     · intro M wq hq
       have hx := hq.keeps
       go_simp
       first
         | (apply uponF_call; go_at_call_of 29 a; exact mcall hq (V1.out _))
         | (apply uponF_call; go_at_call_of 29 b; exact mcall hq (V2.out _))
         | exact uponF_value hq rfl
     simp only [Act.put, List.setIfInBounds_toArray, List.set_cons_succ, List.set_cons_zero]))
  refine wm_make (by omega) (by rfl) (fun M wq hq => ⟨wq.heap.size, ?_⟩) (fun b9 => ?_)
  · go_simp
    exact uponF_value (hq.make 6) rfl
  simp only [Act.put, List.setIfInBounds_toArray, List.set_cons_succ, List.set_cons_zero, ptrTo]
  refine wm_make (by omega) (by rfl) (fun M wq hq => ⟨wq.heap.size, ?_⟩) (fun b10 => ?_)
  · go_simp
    exact uponF_value (hq.make 7) rfl
  simp only [Act.put, List.setIfInBounds_toArray, List.set_cons_succ, List.set_cons_zero, ptrTo]
  refine wm_nil ?_
  intro w2 hk
  obtain ⟨u1, u2, u3⟩ := hk.made 6 b9 (by simp [updM])
  obtain ⟨v1, v2, v3⟩ := hk.made 7 b10 (by simp [updM])
  have ne1 : b9 ≠ b10 := fun h => by have := hk.apart 6 7 b9 (by simp [updM]) (by simp [updM, h]); omega
  have ne2 : b10 ≠ b9 := Ne.symm ne1
  have y0 : w2.cell? ⟨b9, 0, none⟩ = some (.int .i64 0) := by simp [World.cell?, u3]
  have y1 : w2.cell? ⟨b9, 1, none⟩ = some (.bool false) := by simp [World.cell?, u3]
  have y2 : w2.cell? ⟨b9, 2, none⟩ = some (.int .u64 0) := by simp [World.cell?, u3]
  have y3 : w2.cell? ⟨b9, 3, none⟩ = some (.int .i64 0) := by simp [World.cell?, u3]
  have z0 : w2.cell? ⟨b10, 0, none⟩ = some (.int .i64 0) := by simp [World.cell?, v3]
  have z1 : w2.cell? ⟨b10, 1, none⟩ = some (.bool false) := by simp [World.cell?, v3]
  have z2 : w2.cell? ⟨b10, 2, none⟩ = some (.int .u64 0) := by simp [World.cell?, v3]
  have z3 : w2.cell? ⟨b10, 3, none⟩ = some (.int .i64 0) := by simp [World.cell?, v3]
  have fz9 : ∀ j, w2.frozen? ⟨b9, j, none⟩ = false := fun j => by simp [World.frozen?, u3]
  have fz10 : ∀ j, w2.frozen? ⟨b10, j, none⟩ = false := fun j => by simp [World.frozen?, v3]
  have q0 := k0 _ hk.keeps
  have q1 := k1 _ hk.keeps
  have q2 := k2 _ hk.keeps
  have ng1 : g ≠ b9 := by omega
  have ng2 : g ≠ b10 := by omega
  have hwz := H.out.size
  obtain ⟨W3, hW3⟩ : ∃ W3, ((((((((w2.setCell ⟨b9, 0, none⟩ (.int .i64 0)).setCell ⟨b9, 1, none⟩ (.bool s1)).setCell ⟨b9, 2, none⟩ (.int .u64 0)).setCell ⟨b9, 3, none⟩ (.int .i64 e1)).setCell ⟨b10, 0, none⟩ (.int .i64 1)).setCell ⟨b10, 1, none⟩ (.bool s2)).setCell ⟨b10, 2, none⟩ (.int .u64 m2)).setCell ⟨b10, 3, none⟩ (.int .i64 e2)) = W3 := ⟨_, rfl⟩
  have H3 : Hid (Below w.heap.size w W3) := by
    unfold Hid
    rw [← hW3]
    have hb := bel_step H.out hk.keeps.below
    exact (((((((hb.setCell (p := ⟨b9, 0, none⟩) (by simp; omega) _).setCell (p := ⟨b9, 1, none⟩) (by simp; omega) _).setCell (p := ⟨b9, 2, none⟩) (by simp; omega) _).setCell (p := ⟨b9, 3, none⟩) (by simp; omega) _).setCell (p := ⟨b10, 0, none⟩) (by simp; omega) _).setCell (p := ⟨b10, 1, none⟩) (by simp; omega) _).setCell (p := ⟨b10, 2, none⟩) (by simp; omega) _).setCell (p := ⟨b10, 3, none⟩) (by simp; omega) _
  obtain ⟨⟨p0, p1, p2, p3, p4, p5, p6, p7⟩, pg, hsz⟩ := twoStructs w2 W3 b9 b10 _ _ _ _ _ _ _ _ _ _ _ _ _ _ _ _ ne1 ne2 y0 y1 y2 y3 z0 z1 z2 z3 hW3
  have t0 := (pg g 0 ng1 ng2).trans q0
  have t1 := (pg g 1 ng1 ng2).trans q1
  have t2 := (pg g 2 ng1 ng2).trans q2
  have l0 : g < W3.heap.size := by have := hk.keeps.below.size; omega
  have l9 : b9 < W3.heap.size := by omega
  have l10 : b10 < W3.heap.size := by omega
  clear k0 k1 k2 hk H V1 V2 hs q0 q1 q2 u1 u2 u3 v1 v2 v3 hwz hsz ng1 ng2 pg
  have l0b : g < W3.heap.size + 1 := by omega
  have l9b : b9 < W3.heap.size + 1 := by omega
  have l10b : b10 < W3.heap.size + 1 := by omega
  have l0c : g < W3.heap.size + 1 + 1 := by omega
  have l9c : b9 < W3.heap.size + 1 + 1 := by omega
  have l10c : b10 < W3.heap.size + 1 + 1 := by omega
  go_wp2_with (first | (go_at_call 30; refine (noNumber32 _).mono ?_; rintro e' w3 ⟨rfl, B3⟩) | (go_at_call 32; refine (infinite32 sg _).mono ?_; rintro e' w3 ⟨rfl, B3⟩) | (go_at_call 31; go_in))
  go_ret
  refine ⟨rfl, ?_⟩
  refine bel_step ?_ B3
  refine bel_step H3.out ?_
  (repeat (first | refine Below.alloc ?_ (by first | (simp; done) | (simp; omega)) _ | refine Below.setCell ?_ (by first | (simp; done) | (simp; omega)) _ | refine bel_dN ?_ _ | refine Below.drew ?_ | exact Below.refl _ _))

set_option maxHeartbeats 1000000 in
theorem mulProd_ni16 (m1 e1 m2 e2 : Int) (s1 s2 sg : Bool) (hsg : (!(s1 == s2)) = sg) (hm1 : (m1 == 0) = false) (w : World) :
    Calls Try.prog 39 #[(.agg #[.int .u64 5, .int .u64 10]), .agg #[.bool s1, .bool false, .bool false, .int .u64 m1, .int .i64 e1], .agg #[.bool s2, .bool true, .bool false, .int .u64 m2, .int .i64 e2]] w fun e w' => e = .returned (.int .u32 (sg.toNat * 32768 + 31744)) ∧ Below w.heap.size w w' := by
  go_enter Try.func39, Try.ntmps39
  go_wp2_with fail
  refine (l4Inf16 sg _).mono ?_
  rintro e' w3 ⟨rfl, B3⟩
  go_wp2
  go_ret
  refine ⟨rfl, ?_⟩
  ((repeat (first | refine bel_alloc ?_ _ | refine bel_dN ?_ _ | refine Below.drew ?_ | refine Below.setCell ?_ (by first | (simp; done) | (simp; omega)) _)); refine bel_step ?_ B3; (repeat (first | refine bel_alloc ?_ _ | refine bel_dN ?_ _ | refine Below.drew ?_ | refine Below.setCell ?_ (by first | (simp; done) | (simp; omega)) _)); exact Below.refl _ _)

set_option maxHeartbeats 1000000 in
theorem mulProd_ni32 (m1 e1 m2 e2 : Int) (s1 s2 sg : Bool) (hsg : (!(s1 == s2)) = sg) (hm1 : (m1 == 0) = false) (w : World) :
    Calls Try.prog 39 #[(.agg #[.int .u64 8, .int .u64 23]), .agg #[.bool s1, .bool false, .bool false, .int .u64 m1, .int .i64 e1], .agg #[.bool s2, .bool true, .bool false, .int .u64 m2, .int .i64 e2]] w fun e w' => e = .returned (.int .u32 (sg.toNat * 2147483648 + 2139095040)) ∧ Below w.heap.size w w' := by
  go_enter Try.func39, Try.ntmps39
  go_wp2_with fail
  refine (l4Inf32 sg _).mono ?_
  rintro e' w3 ⟨rfl, B3⟩
  go_wp2
  go_ret
  refine ⟨rfl, ?_⟩
  ((repeat (first | refine bel_alloc ?_ _ | refine bel_dN ?_ _ | refine Below.drew ?_ | refine Below.setCell ?_ (by first | (simp; done) | (simp; omega)) _)); refine bel_step ?_ B3; (repeat (first | refine bel_alloc ?_ _ | refine bel_dN ?_ _ | refine Below.drew ?_ | refine Below.setCell ?_ (by first | (simp; done) | (simp; omega)) _)); exact Below.refl _ _)

set_option maxHeartbeats 2000000 in
theorem mulImpl_ni16 (a b c1 m1 e1 c2 m2 e2 : Int) (s1 s2 sg : Bool) (V1 : Hid (∀ w, Calls Try.prog 29 #[(.agg #[.int .i64 10, .int .i64 15, .int .u32 31]), .int .u32 a] w fun e w' => e = .returned (.agg #[.int .i64 c1, .bool s1, .int .u64 m1, .int .i64 e1]) ∧ Below w.heap.size w w'))
    (V2 : Hid (∀ w, Calls Try.prog 29 #[(.agg #[.int .i64 10, .int .i64 15, .int .u32 31]), .int .u32 b] w fun e w' => e = .returned (.agg #[.int .i64 c2, .bool s2, .int .u64 m2, .int .i64 e2]) ∧ Below w.heap.size w w')) (hsg : (!(s1 == s2)) = sg) (hc1 : c1 = 0) (hc2 : c2 = 1) (hm1 : (m1 == 0) = false) (w : World) :
    Calls Try.prog 10 #[.int .i64 16, .int .u32 a, .int .u32 b] w fun e w' => e = .returned (.int .u32 (sg.toNat * 32768 + 31744)) ∧ Below w.heap.size w w' := by
  subst hc1
  subst hc2
  go_enter Try.func10, Try.ntmps10
  go_wp2_with fail
  refine (form16 _).mono ?_
  rintro e' w1 ⟨rfl, B1⟩
  go_wp2_with fail
  obtain ⟨W, hW⟩ : ∃ W, w1.alloc (.cells #[.int .i64 10, .int .i64 15, .int .u32 31] 45) = W := ⟨_, rfl⟩
  obtain ⟨g, hg⟩ : ∃ g, w1.heap.size = g := ⟨_, rfl⟩
  have hs : W.heap.size = g + 1 := by rw [← hW, ← hg]; simp
  have H : Hid (Below w.heap.size w W) := by unfold Hid; rw [← hW]; ((repeat (first | refine bel_alloc ?_ _ | refine bel_dN ?_ _ | refine Below.drew ?_ | refine Below.setCell ?_ (by first | (simp; done) | (simp; omega)) _)); refine bel_step ?_ B1; (repeat (first | refine bel_alloc ?_ _ | refine bel_dN ?_ _ | refine Below.drew ?_ | refine Below.setCell ?_ (by first | (simp; done) | (simp; omega)) _)); exact Below.refl _ _)
  have k0 : ∀ w, Keeps W w → w.cell? ⟨g, 0, none⟩ = some (.int .i64 10) := fun w h => h.cell (by omega) (by rw [← hW, ← hg]; simp)
  have k1 : ∀ w, Keeps W w → w.cell? ⟨g, 1, none⟩ = some (.int .i64 15) := fun w h => h.cell (by omega) (by rw [← hW, ← hg]; simp)
  have k2 : ∀ w, Keeps W w → w.cell? ⟨g, 2, none⟩ = some (.int .u32 31) := fun w h => h.cell (by omega) (by rw [← hW, ← hg]; simp)
  rw [hW, hg]
  clear hW B1 hg
  refine region_m (C := KeepsM W (.cells #[.int .i64 0, .bool false, .int .u64 0, .int .i64 0] 50)) 8 6 (by kernel_rfl) (by kernel_rfl) (KeepsM.start W _) ?_
  simp only [List.take_succ_cons, List.take_zero, List.drop_succ_cons, List.drop_zero]
  (iterate 6
    (apply wm_go _ (by omega) (by rfl)
     · intro M wq hq
       have hx := hq.keeps
       go_simp
       first
         | (apply uponF_call; go_at_call_of 29 a; exact mcall hq (V1.out _))
         | (apply uponF_call; go_at_call_of 29 b; exact mcall hq (V2.out _))
         | exact uponF_value hq rfl
     simp only [Act.put, List.setIfInBounds_toArray, List.set_cons_succ, List.set_cons_zero]))
  refine wm_make (by omega) (by rfl) (fun M wq hq => ⟨wq.heap.size, ?_⟩) (fun b9 => ?_)
  · go_simp
    exact uponF_value (hq.make 6) rfl
  simp only [Act.put, List.setIfInBounds_toArray, List.set_cons_succ, List.set_cons_zero, ptrTo]
  refine wm_make (by omega) (by rfl) (fun M wq hq => ⟨wq.heap.size, ?_⟩) (fun b10 => ?_)
  · go_simp
    exact uponF_value (hq.make 7) rfl
  simp only [Act.put, List.setIfInBounds_toArray, List.set_cons_succ, List.set_cons_zero, ptrTo]
  refine wm_nil ?_
  intro w2 hk
  obtain ⟨u1, u2, u3⟩ := hk.made 6 b9 (by simp [updM])
  obtain ⟨v1, v2, v3⟩ := hk.made 7 b10 (by simp [updM])
  have ne1 : b9 ≠ b10 := fun h => by have := hk.apart 6 7 b9 (by simp [updM]) (by simp [updM, h]); omega
  have ne2 : b10 ≠ b9 := Ne.symm ne1
  have y0 : w2.cell? ⟨b9, 0, none⟩ = some (.int .i64 0) := by simp [World.cell?, u3]
  have y1 : w2.cell? ⟨b9, 1, none⟩ = some (.bool false) := by simp [World.cell?, u3]
  have y2 : w2.cell? ⟨b9, 2, none⟩ = some (.int .u64 0) := by simp [World.cell?, u3]
  have y3 : w2.cell? ⟨b9, 3, none⟩ = some (.int .i64 0) := by simp [World.cell?, u3]
  have z0 : w2.cell? ⟨b10, 0, none⟩ = some (.int .i64 0) := by simp [World.cell?, v3]
  have z1 : w2.cell? ⟨b10, 1, none⟩ = some (.bool false) := by simp [World.cell?, v3]
  have z2 : w2.cell? ⟨b10, 2, none⟩ = some (.int .u64 0) := by simp [World.cell?, v3]
  have z3 : w2.cell? ⟨b10, 3, none⟩ = some (.int .i64 0) := by simp [World.cell?, v3]
  have fz9 : ∀ j, w2.frozen? ⟨b9, j, none⟩ = false := fun j => by simp [World.frozen?, u3]
  have fz10 : ∀ j, w2.frozen? ⟨b10, j, none⟩ = false := fun j => by simp [World.frozen?, v3]
  have q0 := k0 _ hk.keeps
  have q1 := k1 _ hk.keeps
  have q2 := k2 _ hk.keeps
  have ng1 : g ≠ b9 := by omega
  have ng2 : g ≠ b10 := by omega
  have hwz := H.out.size
  obtain ⟨W3, hW3⟩ : ∃ W3, ((((((((w2.setCell ⟨b9, 0, none⟩ (.int .i64 0)).setCell ⟨b9, 1, none⟩ (.bool s1)).setCell ⟨b9, 2, none⟩ (.int .u64 m1)).setCell ⟨b9, 3, none⟩ (.int .i64 e1)).setCell ⟨b10, 0, none⟩ (.int .i64 1)).setCell ⟨b10, 1, none⟩ (.bool s2)).setCell ⟨b10, 2, none⟩ (.int .u64 m2)).setCell ⟨b10, 3, none⟩ (.int .i64 e2)) = W3 := ⟨_, rfl⟩
  have H3 : Hid (Below w.heap.size w W3) := by
    unfold Hid
    rw [← hW3]
    have hb := bel_step H.out hk.keeps.below
    exact (((((((hb.setCell (p := ⟨b9, 0, none⟩) (by simp; omega) _).setCell (p := ⟨b9, 1, none⟩) (by simp; omega) _).setCell (p := ⟨b9, 2, none⟩) (by simp; omega) _).setCell (p := ⟨b9, 3, none⟩) (by simp; omega) _).setCell (p := ⟨b10, 0, none⟩) (by simp; omega) _).setCell (p := ⟨b10, 1, none⟩) (by simp; omega) _).setCell (p := ⟨b10, 2, none⟩) (by simp; omega) _).setCell (p := ⟨b10, 3, none⟩) (by simp; omega) _
  obtain ⟨⟨p0, p1, p2, p3, p4, p5, p6, p7⟩, pg, hsz⟩ := twoStructs w2 W3 b9 b10 _ _ _ _ _ _ _ _ _ _ _ _ _ _ _ _ ne1 ne2 y0 y1 y2 y3 z0 z1 z2 z3 hW3
  have t0 := (pg g 0 ng1 ng2).trans q0
  have t1 := (pg g 1 ng1 ng2).trans q1
  have t2 := (pg g 2 ng1 ng2).trans q2
  have l0 : g < W3.heap.size := by have := hk.keeps.below.size; omega
  have l9 : b9 < W3.heap.size := by omega
  have l10 : b10 < W3.heap.size := by omega
  clear k0 k1 k2 hk H V1 V2 hs q0 q1 q2 u1 u2 u3 v1 v2 v3 hwz hsz ng1 ng2 pg
  have l0b : g < W3.heap.size + 1 := by omega
  have l9b : b9 < W3.heap.size + 1 := by omega
  have l10b : b10 < W3.heap.size + 1 := by omega
  have l0c : g < W3.heap.size + 1 + 1 := by omega
  have l9c : b9 < W3.heap.size + 1 + 1 := by omega
  have l10c : b10 < W3.heap.size + 1 + 1 := by omega
  go_wp2_with (first | (go_at_call 30; refine (noNumber16 _).mono ?_; rintro e' w3 ⟨rfl, B3⟩) | (go_at_call 32; refine (infinite16 sg _).mono ?_; rintro e' w3 ⟨rfl, B3⟩) | (go_at_call 31; go_in))
  go_ret
  refine ⟨rfl, ?_⟩
  refine bel_step ?_ B3
  refine bel_step H3.out ?_
  (repeat (first | refine Below.alloc ?_ (by first | (simp; done) | (simp; omega)) _ | refine Below.setCell ?_ (by first | (simp; done) | (simp; omega)) _ | refine bel_dN ?_ _ | refine Below.drew ?_ | exact Below.refl _ _))

set_option maxHeartbeats 2000000 in
theorem mulImpl_ni32 (a b c1 m1 e1 c2 m2 e2 : Int) (s1 s2 sg : Bool) (V1 : Hid (∀ w, Calls Try.prog 29 #[(.agg #[.int .i64 23, .int .i64 127, .int .u32 255]), .int .u32 a] w fun e w' => e = .returned (.agg #[.int .i64 c1, .bool s1, .int .u64 m1, .int .i64 e1]) ∧ Below w.heap.size w w'))
    (V2 : Hid (∀ w, Calls Try.prog 29 #[(.agg #[.int .i64 23, .int .i64 127, .int .u32 255]), .int .u32 b] w fun e w' => e = .returned (.agg #[.int .i64 c2, .bool s2, .int .u64 m2, .int .i64 e2]) ∧ Below w.heap.size w w')) (hsg : (!(s1 == s2)) = sg) (hc1 : c1 = 0) (hc2 : c2 = 1) (hm1 : (m1 == 0) = false) (w : World) :
    Calls Try.prog 10 #[.int .i64 32, .int .u32 a, .int .u32 b] w fun e w' => e = .returned (.int .u32 (sg.toNat * 2147483648 + 2139095040)) ∧ Below w.heap.size w w' := by
  subst hc1
  subst hc2
  go_enter Try.func10, Try.ntmps10
  go_wp2_with fail
  refine (form32 _).mono ?_
  rintro e' w1 ⟨rfl, B1⟩
  go_wp2_with fail
  obtain ⟨W, hW⟩ : ∃ W, w1.alloc (.cells #[.int .i64 23, .int .i64 127, .int .u32 255] 45) = W := ⟨_, rfl⟩
  obtain ⟨g, hg⟩ : ∃ g, w1.heap.size = g := ⟨_, rfl⟩
  have hs : W.heap.size = g + 1 := by rw [← hW, ← hg]; simp
  have H : Hid (Below w.heap.size w W) := by unfold Hid; rw [← hW]; ((repeat (first | refine bel_alloc ?_ _ | refine bel_dN ?_ _ | refine Below.drew ?_ | refine Below.setCell ?_ (by first | (simp; done) | (simp; omega)) _)); refine bel_step ?_ B1; (repeat (first | refine bel_alloc ?_ _ | refine bel_dN ?_ _ | refine Below.drew ?_ | refine Below.setCell ?_ (by first | (simp; done) | (simp; omega)) _)); exact Below.refl _ _)
  have k0 : ∀ w, Keeps W w → w.cell? ⟨g, 0, none⟩ = some (.int .i64 23) := fun w h => h.cell (by omega) (by rw [← hW, ← hg]; simp)
  have k1 : ∀ w, Keeps W w → w.cell? ⟨g, 1, none⟩ = some (.int .i64 127) := fun w h => h.cell (by omega) (by rw [← hW, ← hg]; simp)
  have k2 : ∀ w, Keeps W w → w.cell? ⟨g, 2, none⟩ = some (.int .u32 255) := fun w h => h.cell (by omega) (by rw [← hW, ← hg]; simp)
  rw [hW, hg]
  clear hW B1 hg
  refine region_m (C := KeepsM W (.cells #[.int .i64 0, .bool false, .int .u64 0, .int .i64 0] 50)) 8 6 (by kernel_rfl) (by kernel_rfl) (KeepsM.start W _) ?_
  simp only [List.take_succ_cons, List.take_zero, List.drop_succ_cons, List.drop_zero]
  (iterate 6
    (apply wm_go _ (by omega) (by rfl)
     · intro M wq hq
       have hx := hq.keeps
       go_simp
       first
         | (apply uponF_call; go_at_call_of 29 a; exact mcall hq (V1.out _))
         | (apply uponF_call; go_at_call_of 29 b; exact mcall hq (V2.out _))
         | exact uponF_value hq rfl
     simp only [Act.put, List.setIfInBounds_toArray, List.set_cons_succ, List.set_cons_zero]))
  refine wm_make (by omega) (by rfl) (fun M wq hq => ⟨wq.heap.size, ?_⟩) (fun b9 => ?_)
  · go_simp
    exact uponF_value (hq.make 6) rfl
  simp only [Act.put, List.setIfInBounds_toArray, List.set_cons_succ, List.set_cons_zero, ptrTo]
  refine wm_make (by omega) (by rfl) (fun M wq hq => ⟨wq.heap.size, ?_⟩) (fun b10 => ?_)
  · go_simp
    exact uponF_value (hq.make 7) rfl
  simp only [Act.put, List.setIfInBounds_toArray, List.set_cons_succ, List.set_cons_zero, ptrTo]
  refine wm_nil ?_
  intro w2 hk
  obtain ⟨u1, u2, u3⟩ := hk.made 6 b9 (by simp [updM])
  obtain ⟨v1, v2, v3⟩ := hk.made 7 b10 (by simp [updM])
  have ne1 : b9 ≠ b10 := fun h => by have := hk.apart 6 7 b9 (by simp [updM]) (by simp [updM, h]); omega
  have ne2 : b10 ≠ b9 := Ne.symm ne1
  have y0 : w2.cell? ⟨b9, 0, none⟩ = some (.int .i64 0) := by simp [World.cell?, u3]
  have y1 : w2.cell? ⟨b9, 1, none⟩ = some (.bool false) := by simp [World.cell?, u3]
  have y2 : w2.cell? ⟨b9, 2, none⟩ = some (.int .u64 0) := by simp [World.cell?, u3]
  have y3 : w2.cell? ⟨b9, 3, none⟩ = some (.int .i64 0) := by simp [World.cell?, u3]
  have z0 : w2.cell? ⟨b10, 0, none⟩ = some (.int .i64 0) := by simp [World.cell?, v3]
  have z1 : w2.cell? ⟨b10, 1, none⟩ = some (.bool false) := by simp [World.cell?, v3]
  have z2 : w2.cell? ⟨b10, 2, none⟩ = some (.int .u64 0) := by simp [World.cell?, v3]
  have z3 : w2.cell? ⟨b10, 3, none⟩ = some (.int .i64 0) := by simp [World.cell?, v3]
  have fz9 : ∀ j, w2.frozen? ⟨b9, j, none⟩ = false := fun j => by simp [World.frozen?, u3]
  have fz10 : ∀ j, w2.frozen? ⟨b10, j, none⟩ = false := fun j => by simp [World.frozen?, v3]
  have q0 := k0 _ hk.keeps
  have q1 := k1 _ hk.keeps
  have q2 := k2 _ hk.keeps
  have ng1 : g ≠ b9 := by omega
  have ng2 : g ≠ b10 := by omega
  have hwz := H.out.size
  obtain ⟨W3, hW3⟩ : ∃ W3, ((((((((w2.setCell ⟨b9, 0, none⟩ (.int .i64 0)).setCell ⟨b9, 1, none⟩ (.bool s1)).setCell ⟨b9, 2, none⟩ (.int .u64 m1)).setCell ⟨b9, 3, none⟩ (.int .i64 e1)).setCell ⟨b10, 0, none⟩ (.int .i64 1)).setCell ⟨b10, 1, none⟩ (.bool s2)).setCell ⟨b10, 2, none⟩ (.int .u64 m2)).setCell ⟨b10, 3, none⟩ (.int .i64 e2)) = W3 := ⟨_, rfl⟩
  have H3 : Hid (Below w.heap.size w W3) := by
    unfold Hid
    rw [← hW3]
    have hb := bel_step H.out hk.keeps.below
    exact (((((((hb.setCell (p := ⟨b9, 0, none⟩) (by simp; omega) _).setCell (p := ⟨b9, 1, none⟩) (by simp; omega) _).setCell (p := ⟨b9, 2, none⟩) (by simp; omega) _).setCell (p := ⟨b9, 3, none⟩) (by simp; omega) _).setCell (p := ⟨b10, 0, none⟩) (by simp; omega) _).setCell (p := ⟨b10, 1, none⟩) (by simp; omega) _).setCell (p := ⟨b10, 2, none⟩) (by simp; omega) _).setCell (p := ⟨b10, 3, none⟩) (by simp; omega) _
  obtain ⟨⟨p0, p1, p2, p3, p4, p5, p6, p7⟩, pg, hsz⟩ := twoStructs w2 W3 b9 b10 _ _ _ _ _ _ _ _ _ _ _ _ _ _ _ _ ne1 ne2 y0 y1 y2 y3 z0 z1 z2 z3 hW3
  have t0 := (pg g 0 ng1 ng2).trans q0
  have t1 := (pg g 1 ng1 ng2).trans q1
  have t2 := (pg g 2 ng1 ng2).trans q2
  have l0 : g < W3.heap.size := by have := hk.keeps.below.size; omega
  have l9 : b9 < W3.heap.size := by omega
  have l10 : b10 < W3.heap.size := by omega
  clear k0 k1 k2 hk H V1 V2 hs q0 q1 q2 u1 u2 u3 v1 v2 v3 hwz hsz ng1 ng2 pg
  have l0b : g < W3.heap.size + 1 := by omega
  have l9b : b9 < W3.heap.size + 1 := by omega
  have l10b : b10 < W3.heap.size + 1 := by omega
  have l0c : g < W3.heap.size + 1 + 1 := by omega
  have l9c : b9 < W3.heap.size + 1 + 1 := by omega
  have l10c : b10 < W3.heap.size + 1 + 1 := by omega
  go_wp2_with (first | (go_at_call 30; refine (noNumber32 _).mono ?_; rintro e' w3 ⟨rfl, B3⟩) | (go_at_call 32; refine (infinite32 sg _).mono ?_; rintro e' w3 ⟨rfl, B3⟩) | (go_at_call 31; go_in))
  go_ret
  refine ⟨rfl, ?_⟩
  refine bel_step ?_ B3
  refine bel_step H3.out ?_
  (repeat (first | refine Below.alloc ?_ (by first | (simp; done) | (simp; omega)) _ | refine Below.setCell ?_ (by first | (simp; done) | (simp; omega)) _ | refine bel_dN ?_ _ | refine Below.drew ?_ | exact Below.refl _ _))

set_option maxHeartbeats 1000000 in
theorem mulProd_nf16 (m1 e1 m2 e2 : Int) (s1 s2 sg : Bool) (hsg : (!(s1 == s2)) = sg)  (M E r : Int) (hM : IntKind.u64.wrap (m1 * m2) = M) (hE : wrap64 (e1 + e2) = E)
    (RR : Hid (∀ w, Calls Try.prog 58 #[(.agg #[.int .u64 5, .int .u64 10]), .bool sg, .int .u64 M, .int .i64 E, .bool false] w fun e w' => e = .returned (.int .u32 r) ∧ Below w.heap.size w w')) (w : World) :
    Calls Try.prog 39 #[(.agg #[.int .u64 5, .int .u64 10]), .agg #[.bool s1, .bool false, .bool false, .int .u64 m1, .int .i64 e1], .agg #[.bool s2, .bool false, .bool false, .int .u64 m2, .int .i64 e2]] w fun e w' => e = .returned (.int .u32 (r)) ∧ Below w.heap.size w w' := by
  go_enter Try.func39, Try.ntmps39
  go_wp2_with fail
  refine (RR.out _).mono ?_
  rintro e' w3 ⟨rfl, B3⟩
  go_wp2
  go_ret
  refine ⟨rfl, ?_⟩
  ((repeat (first | refine bel_alloc ?_ _ | refine bel_dN ?_ _ | refine Below.drew ?_ | refine Below.setCell ?_ (by first | (simp; done) | (simp; omega)) _)); refine bel_step ?_ B3; (repeat (first | refine bel_alloc ?_ _ | refine bel_dN ?_ _ | refine Below.drew ?_ | refine Below.setCell ?_ (by first | (simp; done) | (simp; omega)) _)); exact Below.refl _ _)

set_option maxHeartbeats 1000000 in
theorem mulProd_nf32 (m1 e1 m2 e2 : Int) (s1 s2 sg : Bool) (hsg : (!(s1 == s2)) = sg)  (M E r : Int) (hM : IntKind.u64.wrap (m1 * m2) = M) (hE : wrap64 (e1 + e2) = E)
    (RR : Hid (∀ w, Calls Try.prog 58 #[(.agg #[.int .u64 8, .int .u64 23]), .bool sg, .int .u64 M, .int .i64 E, .bool false] w fun e w' => e = .returned (.int .u32 r) ∧ Below w.heap.size w w')) (w : World) :
    Calls Try.prog 39 #[(.agg #[.int .u64 8, .int .u64 23]), .agg #[.bool s1, .bool false, .bool false, .int .u64 m1, .int .i64 e1], .agg #[.bool s2, .bool false, .bool false, .int .u64 m2, .int .i64 e2]] w fun e w' => e = .returned (.int .u32 (r)) ∧ Below w.heap.size w w' := by
  go_enter Try.func39, Try.ntmps39
  go_wp2_with fail
  refine (RR.out _).mono ?_
  rintro e' w3 ⟨rfl, B3⟩
  go_wp2
  go_ret
  refine ⟨rfl, ?_⟩
  ((repeat (first | refine bel_alloc ?_ _ | refine bel_dN ?_ _ | refine Below.drew ?_ | refine Below.setCell ?_ (by first | (simp; done) | (simp; omega)) _)); refine bel_step ?_ B3; (repeat (first | refine bel_alloc ?_ _ | refine bel_dN ?_ _ | refine Below.drew ?_ | refine Below.setCell ?_ (by first | (simp; done) | (simp; omega)) _)); exact Below.refl _ _)

set_option maxHeartbeats 2000000 in
theorem mulImpl_nf16 (a b c1 m1 e1 c2 m2 e2 : Int) (s1 s2 sg : Bool) (V1 : Hid (∀ w, Calls Try.prog 29 #[(.agg #[.int .i64 10, .int .i64 15, .int .u32 31]), .int .u32 a] w fun e w' => e = .returned (.agg #[.int .i64 c1, .bool s1, .int .u64 m1, .int .i64 e1]) ∧ Below w.heap.size w w'))
    (V2 : Hid (∀ w, Calls Try.prog 29 #[(.agg #[.int .i64 10, .int .i64 15, .int .u32 31]), .int .u32 b] w fun e w' => e = .returned (.agg #[.int .i64 c2, .bool s2, .int .u64 m2, .int .i64 e2]) ∧ Below w.heap.size w w')) (hsg : (!(s1 == s2)) = sg) (hc1 : c1 = 0) (hc2 : c2 = 0) (hm1 : (m1 == 0) = false) (M E r : Int) (hM : IntKind.u64.wrap (m1 * m2) = M) (hE : wrap64 (e1 + e2) = E)
    (RR : Hid (∀ w, Calls Try.prog 33 #[(.agg #[.int .i64 10, .int .i64 15, .int .u32 31]), .bool sg, .int .u64 M, .int .i64 E, .bool false] w fun e w' => e = .returned (.int .u32 r) ∧ Below w.heap.size w w')) (w : World) :
    Calls Try.prog 10 #[.int .i64 16, .int .u32 a, .int .u32 b] w fun e w' => e = .returned (.int .u32 (r)) ∧ Below w.heap.size w w' := by
  subst hc1
  subst hc2
  go_enter Try.func10, Try.ntmps10
  go_wp2_with fail
  refine (form16 _).mono ?_
  rintro e' w1 ⟨rfl, B1⟩
  go_wp2_with fail
  obtain ⟨W, hW⟩ : ∃ W, w1.alloc (.cells #[.int .i64 10, .int .i64 15, .int .u32 31] 45) = W := ⟨_, rfl⟩
  obtain ⟨g, hg⟩ : ∃ g, w1.heap.size = g := ⟨_, rfl⟩
  have hs : W.heap.size = g + 1 := by rw [← hW, ← hg]; simp
  have H : Hid (Below w.heap.size w W) := by unfold Hid; rw [← hW]; ((repeat (first | refine bel_alloc ?_ _ | refine bel_dN ?_ _ | refine Below.drew ?_ | refine Below.setCell ?_ (by first | (simp; done) | (simp; omega)) _)); refine bel_step ?_ B1; (repeat (first | refine bel_alloc ?_ _ | refine bel_dN ?_ _ | refine Below.drew ?_ | refine Below.setCell ?_ (by first | (simp; done) | (simp; omega)) _)); exact Below.refl _ _)
  have k0 : ∀ w, Keeps W w → w.cell? ⟨g, 0, none⟩ = some (.int .i64 10) := fun w h => h.cell (by omega) (by rw [← hW, ← hg]; simp)
  have k1 : ∀ w, Keeps W w → w.cell? ⟨g, 1, none⟩ = some (.int .i64 15) := fun w h => h.cell (by omega) (by rw [← hW, ← hg]; simp)
  have k2 : ∀ w, Keeps W w → w.cell? ⟨g, 2, none⟩ = some (.int .u32 31) := fun w h => h.cell (by omega) (by rw [← hW, ← hg]; simp)
  rw [hW, hg]
  clear hW B1 hg
  refine region_m (C := KeepsM W (.cells #[.int .i64 0, .bool false, .int .u64 0, .int .i64 0] 50)) 8 6 (by kernel_rfl) (by kernel_rfl) (KeepsM.start W _) ?_
  simp only [List.take_succ_cons, List.take_zero, List.drop_succ_cons, List.drop_zero]
  (iterate 6
    (apply wm_go _ (by omega) (by rfl)
     · intro M wq hq
       have hx := hq.keeps
       go_simp
       first
         | (apply uponF_call; go_at_call_of 29 a; exact mcall hq (V1.out _))
         | (apply uponF_call; go_at_call_of 29 b; exact mcall hq (V2.out _))
         | exact uponF_value hq rfl
     simp only [Act.put, List.setIfInBounds_toArray, List.set_cons_succ, List.set_cons_zero]))
  refine wm_make (by omega) (by rfl) (fun M wq hq => ⟨wq.heap.size, ?_⟩) (fun b9 => ?_)
  · go_simp
    exact uponF_value (hq.make 6) rfl
  simp only [Act.put, List.setIfInBounds_toArray, List.set_cons_succ, List.set_cons_zero, ptrTo]
  refine wm_make (by omega) (by rfl) (fun M wq hq => ⟨wq.heap.size, ?_⟩) (fun b10 => ?_)
  · go_simp
    exact uponF_value (hq.make 7) rfl
  simp only [Act.put, List.setIfInBounds_toArray, List.set_cons_succ, List.set_cons_zero, ptrTo]
  refine wm_nil ?_
  intro w2 hk
  obtain ⟨u1, u2, u3⟩ := hk.made 6 b9 (by simp [updM])
  obtain ⟨v1, v2, v3⟩ := hk.made 7 b10 (by simp [updM])
  have ne1 : b9 ≠ b10 := fun h => by have := hk.apart 6 7 b9 (by simp [updM]) (by simp [updM, h]); omega
  have ne2 : b10 ≠ b9 := Ne.symm ne1
  have y0 : w2.cell? ⟨b9, 0, none⟩ = some (.int .i64 0) := by simp [World.cell?, u3]
  have y1 : w2.cell? ⟨b9, 1, none⟩ = some (.bool false) := by simp [World.cell?, u3]
  have y2 : w2.cell? ⟨b9, 2, none⟩ = some (.int .u64 0) := by simp [World.cell?, u3]
  have y3 : w2.cell? ⟨b9, 3, none⟩ = some (.int .i64 0) := by simp [World.cell?, u3]
  have z0 : w2.cell? ⟨b10, 0, none⟩ = some (.int .i64 0) := by simp [World.cell?, v3]
  have z1 : w2.cell? ⟨b10, 1, none⟩ = some (.bool false) := by simp [World.cell?, v3]
  have z2 : w2.cell? ⟨b10, 2, none⟩ = some (.int .u64 0) := by simp [World.cell?, v3]
  have z3 : w2.cell? ⟨b10, 3, none⟩ = some (.int .i64 0) := by simp [World.cell?, v3]
  have fz9 : ∀ j, w2.frozen? ⟨b9, j, none⟩ = false := fun j => by simp [World.frozen?, u3]
  have fz10 : ∀ j, w2.frozen? ⟨b10, j, none⟩ = false := fun j => by simp [World.frozen?, v3]
  have q0 := k0 _ hk.keeps
  have q1 := k1 _ hk.keeps
  have q2 := k2 _ hk.keeps
  have ng1 : g ≠ b9 := by omega
  have ng2 : g ≠ b10 := by omega
  have hwz := H.out.size
  obtain ⟨W3, hW3⟩ : ∃ W3, ((((((((w2.setCell ⟨b9, 0, none⟩ (.int .i64 0)).setCell ⟨b9, 1, none⟩ (.bool s1)).setCell ⟨b9, 2, none⟩ (.int .u64 m1)).setCell ⟨b9, 3, none⟩ (.int .i64 e1)).setCell ⟨b10, 0, none⟩ (.int .i64 0)).setCell ⟨b10, 1, none⟩ (.bool s2)).setCell ⟨b10, 2, none⟩ (.int .u64 m2)).setCell ⟨b10, 3, none⟩ (.int .i64 e2)) = W3 := ⟨_, rfl⟩
  have H3 : Hid (Below w.heap.size w W3) := by
    unfold Hid
    rw [← hW3]
    have hb := bel_step H.out hk.keeps.below
    exact (((((((hb.setCell (p := ⟨b9, 0, none⟩) (by simp; omega) _).setCell (p := ⟨b9, 1, none⟩) (by simp; omega) _).setCell (p := ⟨b9, 2, none⟩) (by simp; omega) _).setCell (p := ⟨b9, 3, none⟩) (by simp; omega) _).setCell (p := ⟨b10, 0, none⟩) (by simp; omega) _).setCell (p := ⟨b10, 1, none⟩) (by simp; omega) _).setCell (p := ⟨b10, 2, none⟩) (by simp; omega) _).setCell (p := ⟨b10, 3, none⟩) (by simp; omega) _
  obtain ⟨⟨p0, p1, p2, p3, p4, p5, p6, p7⟩, pg, hsz⟩ := twoStructs w2 W3 b9 b10 _ _ _ _ _ _ _ _ _ _ _ _ _ _ _ _ ne1 ne2 y0 y1 y2 y3 z0 z1 z2 z3 hW3
  have t0 := (pg g 0 ng1 ng2).trans q0
  have t1 := (pg g 1 ng1 ng2).trans q1
  have t2 := (pg g 2 ng1 ng2).trans q2
  have l0 : g < W3.heap.size := by have := hk.keeps.below.size; omega
  have l9 : b9 < W3.heap.size := by omega
  have l10 : b10 < W3.heap.size := by omega
  clear k0 k1 k2 hk H V1 V2 hs q0 q1 q2 u1 u2 u3 v1 v2 v3 hwz hsz ng1 ng2 pg
  have l0b : g < W3.heap.size + 1 := by omega
  have l9b : b9 < W3.heap.size + 1 := by omega
  have l10b : b10 < W3.heap.size + 1 := by omega
  have l0c : g < W3.heap.size + 1 + 1 := by omega
  have l9c : b9 < W3.heap.size + 1 + 1 := by omega
  have l10c : b10 < W3.heap.size + 1 + 1 := by omega
  go_wp2_with (first | (go_at_call 30; refine (noNumber16 _).mono ?_; rintro e' w3 ⟨rfl, B3⟩) | (go_at_call 32; refine (infinite16 sg _).mono ?_; rintro e' w3 ⟨rfl, B3⟩) | (go_at_call 31; go_in) | (go_at_call 33; refine (RR.out _).mono ?_; rintro e' w3 ⟨rfl, B3⟩))
  go_ret
  refine ⟨rfl, ?_⟩
  refine bel_step ?_ B3
  refine bel_step H3.out ?_
  (repeat (first | refine Below.alloc ?_ (by first | (simp; done) | (simp; omega)) _ | refine Below.setCell ?_ (by first | (simp; done) | (simp; omega)) _ | refine bel_dN ?_ _ | refine Below.drew ?_ | exact Below.refl _ _))

set_option maxHeartbeats 2000000 in
theorem mulImpl_nf32 (a b c1 m1 e1 c2 m2 e2 : Int) (s1 s2 sg : Bool) (V1 : Hid (∀ w, Calls Try.prog 29 #[(.agg #[.int .i64 23, .int .i64 127, .int .u32 255]), .int .u32 a] w fun e w' => e = .returned (.agg #[.int .i64 c1, .bool s1, .int .u64 m1, .int .i64 e1]) ∧ Below w.heap.size w w'))
    (V2 : Hid (∀ w, Calls Try.prog 29 #[(.agg #[.int .i64 23, .int .i64 127, .int .u32 255]), .int .u32 b] w fun e w' => e = .returned (.agg #[.int .i64 c2, .bool s2, .int .u64 m2, .int .i64 e2]) ∧ Below w.heap.size w w')) (hsg : (!(s1 == s2)) = sg) (hc1 : c1 = 0) (hc2 : c2 = 0) (hm1 : (m1 == 0) = false) (M E r : Int) (hM : IntKind.u64.wrap (m1 * m2) = M) (hE : wrap64 (e1 + e2) = E)
    (RR : Hid (∀ w, Calls Try.prog 33 #[(.agg #[.int .i64 23, .int .i64 127, .int .u32 255]), .bool sg, .int .u64 M, .int .i64 E, .bool false] w fun e w' => e = .returned (.int .u32 r) ∧ Below w.heap.size w w')) (w : World) :
    Calls Try.prog 10 #[.int .i64 32, .int .u32 a, .int .u32 b] w fun e w' => e = .returned (.int .u32 (r)) ∧ Below w.heap.size w w' := by
  subst hc1
  subst hc2
  go_enter Try.func10, Try.ntmps10
  go_wp2_with fail
  refine (form32 _).mono ?_
  rintro e' w1 ⟨rfl, B1⟩
  go_wp2_with fail
  obtain ⟨W, hW⟩ : ∃ W, w1.alloc (.cells #[.int .i64 23, .int .i64 127, .int .u32 255] 45) = W := ⟨_, rfl⟩
  obtain ⟨g, hg⟩ : ∃ g, w1.heap.size = g := ⟨_, rfl⟩
  have hs : W.heap.size = g + 1 := by rw [← hW, ← hg]; simp
  have H : Hid (Below w.heap.size w W) := by unfold Hid; rw [← hW]; ((repeat (first | refine bel_alloc ?_ _ | refine bel_dN ?_ _ | refine Below.drew ?_ | refine Below.setCell ?_ (by first | (simp; done) | (simp; omega)) _)); refine bel_step ?_ B1; (repeat (first | refine bel_alloc ?_ _ | refine bel_dN ?_ _ | refine Below.drew ?_ | refine Below.setCell ?_ (by first | (simp; done) | (simp; omega)) _)); exact Below.refl _ _)
  have k0 : ∀ w, Keeps W w → w.cell? ⟨g, 0, none⟩ = some (.int .i64 23) := fun w h => h.cell (by omega) (by rw [← hW, ← hg]; simp)
  have k1 : ∀ w, Keeps W w → w.cell? ⟨g, 1, none⟩ = some (.int .i64 127) := fun w h => h.cell (by omega) (by rw [← hW, ← hg]; simp)
  have k2 : ∀ w, Keeps W w → w.cell? ⟨g, 2, none⟩ = some (.int .u32 255) := fun w h => h.cell (by omega) (by rw [← hW, ← hg]; simp)
  rw [hW, hg]
  clear hW B1 hg
  refine region_m (C := KeepsM W (.cells #[.int .i64 0, .bool false, .int .u64 0, .int .i64 0] 50)) 8 6 (by kernel_rfl) (by kernel_rfl) (KeepsM.start W _) ?_
  simp only [List.take_succ_cons, List.take_zero, List.drop_succ_cons, List.drop_zero]
  (iterate 6
    (apply wm_go _ (by omega) (by rfl)
     · intro M wq hq
       have hx := hq.keeps
       go_simp
       first
         | (apply uponF_call; go_at_call_of 29 a; exact mcall hq (V1.out _))
         | (apply uponF_call; go_at_call_of 29 b; exact mcall hq (V2.out _))
         | exact uponF_value hq rfl
     simp only [Act.put, List.setIfInBounds_toArray, List.set_cons_succ, List.set_cons_zero]))
  refine wm_make (by omega) (by rfl) (fun M wq hq => ⟨wq.heap.size, ?_⟩) (fun b9 => ?_)
  · go_simp
    exact uponF_value (hq.make 6) rfl
  simp only [Act.put, List.setIfInBounds_toArray, List.set_cons_succ, List.set_cons_zero, ptrTo]
  refine wm_make (by omega) (by rfl) (fun M wq hq => ⟨wq.heap.size, ?_⟩) (fun b10 => ?_)
  · go_simp
    exact uponF_value (hq.make 7) rfl
  simp only [Act.put, List.setIfInBounds_toArray, List.set_cons_succ, List.set_cons_zero, ptrTo]
  refine wm_nil ?_
  intro w2 hk
  obtain ⟨u1, u2, u3⟩ := hk.made 6 b9 (by simp [updM])
  obtain ⟨v1, v2, v3⟩ := hk.made 7 b10 (by simp [updM])
  have ne1 : b9 ≠ b10 := fun h => by have := hk.apart 6 7 b9 (by simp [updM]) (by simp [updM, h]); omega
  have ne2 : b10 ≠ b9 := Ne.symm ne1
  have y0 : w2.cell? ⟨b9, 0, none⟩ = some (.int .i64 0) := by simp [World.cell?, u3]
  have y1 : w2.cell? ⟨b9, 1, none⟩ = some (.bool false) := by simp [World.cell?, u3]
  have y2 : w2.cell? ⟨b9, 2, none⟩ = some (.int .u64 0) := by simp [World.cell?, u3]
  have y3 : w2.cell? ⟨b9, 3, none⟩ = some (.int .i64 0) := by simp [World.cell?, u3]
  have z0 : w2.cell? ⟨b10, 0, none⟩ = some (.int .i64 0) := by simp [World.cell?, v3]
  have z1 : w2.cell? ⟨b10, 1, none⟩ = some (.bool false) := by simp [World.cell?, v3]
  have z2 : w2.cell? ⟨b10, 2, none⟩ = some (.int .u64 0) := by simp [World.cell?, v3]
  have z3 : w2.cell? ⟨b10, 3, none⟩ = some (.int .i64 0) := by simp [World.cell?, v3]
  have fz9 : ∀ j, w2.frozen? ⟨b9, j, none⟩ = false := fun j => by simp [World.frozen?, u3]
  have fz10 : ∀ j, w2.frozen? ⟨b10, j, none⟩ = false := fun j => by simp [World.frozen?, v3]
  have q0 := k0 _ hk.keeps
  have q1 := k1 _ hk.keeps
  have q2 := k2 _ hk.keeps
  have ng1 : g ≠ b9 := by omega
  have ng2 : g ≠ b10 := by omega
  have hwz := H.out.size
  obtain ⟨W3, hW3⟩ : ∃ W3, ((((((((w2.setCell ⟨b9, 0, none⟩ (.int .i64 0)).setCell ⟨b9, 1, none⟩ (.bool s1)).setCell ⟨b9, 2, none⟩ (.int .u64 m1)).setCell ⟨b9, 3, none⟩ (.int .i64 e1)).setCell ⟨b10, 0, none⟩ (.int .i64 0)).setCell ⟨b10, 1, none⟩ (.bool s2)).setCell ⟨b10, 2, none⟩ (.int .u64 m2)).setCell ⟨b10, 3, none⟩ (.int .i64 e2)) = W3 := ⟨_, rfl⟩
  have H3 : Hid (Below w.heap.size w W3) := by
    unfold Hid
    rw [← hW3]
    have hb := bel_step H.out hk.keeps.below
    exact (((((((hb.setCell (p := ⟨b9, 0, none⟩) (by simp; omega) _).setCell (p := ⟨b9, 1, none⟩) (by simp; omega) _).setCell (p := ⟨b9, 2, none⟩) (by simp; omega) _).setCell (p := ⟨b9, 3, none⟩) (by simp; omega) _).setCell (p := ⟨b10, 0, none⟩) (by simp; omega) _).setCell (p := ⟨b10, 1, none⟩) (by simp; omega) _).setCell (p := ⟨b10, 2, none⟩) (by simp; omega) _).setCell (p := ⟨b10, 3, none⟩) (by simp; omega) _
  obtain ⟨⟨p0, p1, p2, p3, p4, p5, p6, p7⟩, pg, hsz⟩ := twoStructs w2 W3 b9 b10 _ _ _ _ _ _ _ _ _ _ _ _ _ _ _ _ ne1 ne2 y0 y1 y2 y3 z0 z1 z2 z3 hW3
  have t0 := (pg g 0 ng1 ng2).trans q0
  have t1 := (pg g 1 ng1 ng2).trans q1
  have t2 := (pg g 2 ng1 ng2).trans q2
  have l0 : g < W3.heap.size := by have := hk.keeps.below.size; omega
  have l9 : b9 < W3.heap.size := by omega
  have l10 : b10 < W3.heap.size := by omega
  clear k0 k1 k2 hk H V1 V2 hs q0 q1 q2 u1 u2 u3 v1 v2 v3 hwz hsz ng1 ng2 pg
  have l0b : g < W3.heap.size + 1 := by omega
  have l9b : b9 < W3.heap.size + 1 := by omega
  have l10b : b10 < W3.heap.size + 1 := by omega
  have l0c : g < W3.heap.size + 1 + 1 := by omega
  have l9c : b9 < W3.heap.size + 1 + 1 := by omega
  have l10c : b10 < W3.heap.size + 1 + 1 := by omega
  go_wp2_with (first | (go_at_call 30; refine (noNumber32 _).mono ?_; rintro e' w3 ⟨rfl, B3⟩) | (go_at_call 32; refine (infinite32 sg _).mono ?_; rintro e' w3 ⟨rfl, B3⟩) | (go_at_call 31; go_in) | (go_at_call 33; refine (RR.out _).mono ?_; rintro e' w3 ⟨rfl, B3⟩))
  go_ret
  refine ⟨rfl, ?_⟩
  refine bel_step ?_ B3
  refine bel_step H3.out ?_
  (repeat (first | refine Below.alloc ?_ (by first | (simp; done) | (simp; omega)) _ | refine Below.setCell ?_ (by first | (simp; done) | (simp; omega)) _ | refine bel_dN ?_ _ | refine Below.drew ?_ | exact Below.refl _ _))

end Go.Proofs.Yteniijmnpgdpcaa
