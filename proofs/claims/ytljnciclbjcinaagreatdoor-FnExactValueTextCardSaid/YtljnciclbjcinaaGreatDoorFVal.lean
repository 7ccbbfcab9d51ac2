/-
  What a float means: impl's value.
-/
import Derived.Test.YtljnciclbjcinaaGreatDoorFBase
import Derived.Test.YtljnciclbjcinaaGreatDoorQFlag
namespace Go.Proofs.YtljnciclbjcinaaGreatDoor
open Go.RowKit

set_option maxHeartbeats 1000000 in
theorem valNorm16 (s x f a : Int) (x0 : 0 ≤ x) (x1 : x ≤ 31) (f0 : 0 ≤ f) (f1 : f < 1024) (hx : x ≠ 0) (hy : x ≠ 31)
    (HS : Hid (∀ w, Calls Tryz.prog 143 #[(.agg #[.int .i64 10, .int .i64 15, .int .u32 31]), .int .u32 a] w fun e w' => e = .returned (.agg #[.int .u32 s, .int .u32 x, .int .u32 f]) ∧ Below w.heap.size w w')) (w : World) :
    Calls Tryz.prog 122 #[(.agg #[.int .i64 10, .int .i64 15, .int .u32 31]), .int .u32 a] w fun e w' => e = .returned (.agg #[.int .i64 0, .bool (s == 1), .int .u64 (1024 + f), .int .i64 ((-24) + x - 1)]) ∧ Below w.heap.size w w' := by
  have k1 : (x == 31) = false := by simp [hy]
  have k2 : (x == 0) = false := by simp [hx]
  have v1 : IntKind.u64.wrap f = f := by rw [IntKind.wrap_u64]; omega
  have v2 : IntKind.u64.wrap 1024 = 1024 := by rw [IntKind.wrap_u64]; omega
  have v3 : IntKind.u64.wrap (1024 + f) = 1024 + f := by rw [IntKind.wrap_u64]; omega
  have v4 : IntKind.i64.wrap x = x := by rw [IntKind.wrap_i64]; omega
  have v5 : IntKind.i64.wrap ((-24) + x) = (-24) + x := by rw [IntKind.wrap_i64]; omega
  have v6 : IntKind.i64.wrap ((-24) + x - 1) = (-24) + x - 1 := by rw [IntKind.wrap_i64]; omega
  clear hx hy x0 x1 f0 f1
  obtain ⟨g, hg⟩ : ∃ g, w.heap.size = g := ⟨_, rfl⟩
  obtain ⟨W, hW⟩ : ∃ W, (w.alloc (.cells #[.int .i64 10, .int .i64 15, .int .u32 31] 191)).alloc (.cells #[.int .i64 0, .bool false, .int .u64 0, .int .i64 0] 195) = W := ⟨_, rfl⟩
  have H : Hid (Below w.heap.size w W) := by unfold Hid; rw [← hW]; (repeat (first | refine Below.alloc ?_ (by first | (simp; done) | (simp; omega)) _ | refine Below.setCell ?_ (by first | (simp; done) | (simp; omega)) _ | refine bel_dN ?_ _ | refine Below.drew ?_ | exact Below.refl _ _))
  have hs : W.heap.size = g + 2 := by rw [← hW, ← hg]; simp
  have c0 : W.cell? ⟨g, 0, none⟩ = some (.int .i64 10) := by rw [← hW, ← hg]; simp
  have c1 : W.cell? ⟨g, 1, none⟩ = some (.int .i64 15) := by rw [← hW, ← hg]; simp
  have c2 : W.cell? ⟨g, 2, none⟩ = some (.int .u32 31) := by rw [← hW, ← hg]; simp
  have d0 : W.cell? ⟨g + 1, 0, none⟩ = some (.int .i64 0) := by rw [← hW, ← hg]; simp
  have d1 : W.cell? ⟨g + 1, 1, none⟩ = some (.bool false) := by rw [← hW, ← hg]; simp
  have d2 : W.cell? ⟨g + 1, 2, none⟩ = some (.int .u64 0) := by rw [← hW, ← hg]; simp
  have d3 : W.cell? ⟨g + 1, 3, none⟩ = some (.int .i64 0) := by rw [← hW, ← hg]; simp
  have z : ∀ j, W.frozen? ⟨g + 1, j, none⟩ = false := fun j => by rw [← hW, ← hg]; simp
  go_enter Tryz.func122, Tryz.ntmps122
  go_wp2_with fail
  refine (HS.out _).mono ?_
  rintro e w1 ⟨rfl, B1⟩
  have hk : Keeps W w1 := ⟨B1⟩
  have hl := B1.size
  rw [hs] at hl
  have q0 := hk.cell (by omega) c0
  have q1 := hk.cell (by omega) c1
  have q2 := hk.cell (by omega) c2
  have r0 := hk.cell (by omega) d0
  have r1 := hk.cell (by omega) d1
  have r2 := hk.cell (by omega) d2
  have r3 := hk.cell (by omega) d3
  have z0 := hk.frozen (by omega) (z 0)
  have z1 := hk.frozen (by omega) (z 1)
  have z2 := hk.frozen (by omega) (z 2)
  have z3 := hk.frozen (by omega) (z 3)
  have H1 : Hid (Below w.heap.size w w1) := bel_step H.out B1
  have l0 : g < w1.heap.size := by omega
  have l1 : g + 1 < w1.heap.size := by omega
  clear c0 c1 c2 d0 d1 d2 d3 z hk hs hW H B1 hl
  go_wp2
  obtain ⟨W2, hW2⟩ : ∃ W2, (w1.alloc (.cells #[.int .u32 s, .int .u32 x, .int .u32 f] 218)).alloc (.cells #[.int .i64 0, .bool (s == 1), .int .u64 0, .int .i64 0] 195) = W2 := ⟨_, rfl⟩
  obtain ⟨h, hh⟩ : ∃ h, w1.heap.size = h := ⟨_, rfl⟩
  have low : ∀ b j, b < h → W2.cell? ⟨b, j, none⟩ = w1.cell? ⟨b, j, none⟩ := fun b j hb => by
    rw [← hW2]; exact Below.cell (B := h) (p := ⟨b, j, none⟩) (((Below.refl _ _).alloc (by omega) _).alloc (by simp; omega) _) hb
  have lowf : ∀ b j, b < h → W2.frozen? ⟨b, j, none⟩ = w1.frozen? ⟨b, j, none⟩ := fun b j hb => by
    rw [← hW2]; exact Below.frozen (B := h) (p := ⟨b, j, none⟩) (((Below.refl _ _).alloc (by omega) _).alloc (by simp; omega) _) hb
  have H2 : Hid (Below w.heap.size w W2) := by
    unfold Hid; rw [← hW2]; exact bel_step H1.out (((Below.refl _ _).alloc (by omega) _).alloc (by simp) _)
  have hs2 : W2.heap.size = h + 2 := by rw [← hW2, ← hh]; simp
  rw [hh] at l0 l1
  have p0 : W2.cell? ⟨h, 0, none⟩ = some (.int .u32 s) := by rw [← hW2, ← hh]; simp
  have p1 : W2.cell? ⟨h, 1, none⟩ = some (.int .u32 x) := by rw [← hW2, ← hh]; simp
  have p2 : W2.cell? ⟨h, 2, none⟩ = some (.int .u32 f) := by rw [← hW2, ← hh]; simp
  have t0 : W2.cell? ⟨h + 1, 0, none⟩ = some (.int .i64 0) := by rw [← hW2, ← hh]; simp
  have t1 : W2.cell? ⟨h + 1, 1, none⟩ = some (.bool (s == 1)) := by rw [← hW2, ← hh]; simp
  have t2 : W2.cell? ⟨h + 1, 2, none⟩ = some (.int .u64 0) := by rw [← hW2, ← hh]; simp
  have t3 : W2.cell? ⟨h + 1, 3, none⟩ = some (.int .i64 0) := by rw [← hW2, ← hh]; simp
  have y : ∀ j, W2.frozen? ⟨h + 1, j, none⟩ = false := fun j => by rw [← hW2, ← hh]; simp
  rw [hW2, hh]
  replace q0 := (low g 0 l0).trans q0
  replace q1 := (low g 1 l0).trans q1
  replace q2 := (low g 2 l0).trans q2
  replace r0 := (low (g + 1) 0 l1).trans r0
  replace r1 := (low (g + 1) 1 l1).trans r1
  replace r2 := (low (g + 1) 2 l1).trans r2
  replace r3 := (low (g + 1) 3 l1).trans r3
  replace z0 := (lowf (g + 1) 0 l1).trans z0
  replace z1 := (lowf (g + 1) 1 l1).trans z1
  replace z2 := (lowf (g + 1) 2 l1).trans z2
  replace z3 := (lowf (g + 1) 3 l1).trans z3
  clear low lowf hW2 hh H1
  have a0 : ∀ w, KeepsAny W2 ⟨h + 1, 2, none⟩ (.int .u64 (1024 + f)) w → w.cell? ⟨g, 0, none⟩ = some (.int .i64 10) := fun w hK => hK.cell (by omega) q0 (by simp)
  have a1 : ∀ w, KeepsAny W2 ⟨h + 1, 2, none⟩ (.int .u64 (1024 + f)) w → w.cell? ⟨g, 1, none⟩ = some (.int .i64 15) := fun w hK => hK.cell (by omega) q1 (by simp)
  have a2 : ∀ w, KeepsAny W2 ⟨h + 1, 2, none⟩ (.int .u64 (1024 + f)) w → w.cell? ⟨g, 2, none⟩ = some (.int .u32 31) := fun w hK => hK.cell (by omega) q2 (by simp)
  have b1 : ∀ w, KeepsAny W2 ⟨h + 1, 2, none⟩ (.int .u64 (1024 + f)) w → w.cell? ⟨h, 1, none⟩ = some (.int .u32 x) := fun w hK => hK.cell (by omega) p1 (by simp)
  have b2 : ∀ w, KeepsAny W2 ⟨h + 1, 2, none⟩ (.int .u64 (1024 + f)) w → w.cell? ⟨h, 2, none⟩ = some (.int .u32 f) := fun w hK => hK.cell (by omega) p2 (by simp)
  have u2 : ∀ w, KeepsB W2 ⟨h + 1, 2, none⟩ (.int .u64 (1024 + f)) false w → w.cell? ⟨h + 1, 2, none⟩ = some (.int .u64 0) := fun w hK => Keeps.cell (W := W2) hK (by omega) t2
  have u3 : ∀ w, KeepsB W2 ⟨h + 1, 2, none⟩ (.int .u64 (1024 + f)) false w → w.frozen? ⟨h + 1, 2, none⟩ = false := fun w hK => Keeps.frozen (W := W2) hK (by omega) (y 2)
  refine region_flag (C := KeepsB W2 ⟨h + 1, 2, none⟩ (.int .u64 (1024 + f))) 16 15 (by kernel_rfl) (by kernel_rfl) (by omega) (Keeps.drew W2) ?_
  simp only [List.take_succ_cons, List.take_zero, List.drop_succ_cons, List.drop_zero]
  (iterate 15
    (apply wpFlag_go _ (by rfl) false (by rfl)
     · intro bq wq _ hq
       have hx := hq.any
       go_simp
       first
         | (apply uponF_call; go_at_call 144; exact fcall hq (least16 _))
         | exact uponF_value hq rfl
     simp only [Act.put, List.setIfInBounds_toArray, List.set_cons_succ, List.set_cons_zero]))
  (apply wpFlag_go _ (by rfl) true (by rfl)
   · intro bq wq hb hq
     obtain rfl := hb rfl
     have hx := hq.any
     go_simp
     first
       | exact uponF_skip (keepsB_store hq) rfl
       | exact uponF_value (keepsB_store hq) rfl
   simp only [Act.put])
  clear a0 a1 a2 b1 b2 u2 u3
  intro w3 hk
  replace t0 := hk.any.cell (by omega) t0 (by simp)
  replace t1 := hk.any.cell (by omega) t1 (by simp)
  replace t3 := hk.any.cell (by omega) t3 (by simp)
  replace t2 := keepsB_here hk (by omega) t2
  have y3 := keepsB_frozen hk (by omega) (y 3)
  replace r0 := hk.any.cell (by omega) r0 (by simp)
  replace r1 := hk.any.cell (by omega) r1 (by simp)
  replace r2 := hk.any.cell (by omega) r2 (by simp)
  replace r3 := hk.any.cell (by omega) r3 (by simp)
  replace z0 := keepsB_frozen hk (by omega) z0
  replace z1 := keepsB_frozen hk (by omega) z1
  replace z2 := keepsB_frozen hk (by omega) z2
  replace z3 := keepsB_frozen hk (by omega) z3
  have H3 : Hid (Below w.heap.size w w3) := keepsB_below hk H2.out (by omega) (by simp; omega)
  have ne : g ≠ h := by omega
  clear hk y q0 q1 q2 p0 p1 p2 H2 hs2
  go_wp2
  refine bodyPost_ret (v := .agg #[.int .i64 0, .bool (s == 1), .int .u64 (1024 + f), .int .i64 ((-24) + x - 1)]) (by simp [results, Tryz.results122, go_sem, r0, r1, r2, r3]) rfl ⟨rfl, ?_⟩
  exact ((((H3.out.setCell (p := ⟨h + 1, 3, none⟩) (by simp; omega) _).setCell (p := ⟨g + 1, 0, none⟩) (by simp; omega) _).setCell (p := ⟨g + 1, 1, none⟩) (by simp; omega) _).setCell (p := ⟨g + 1, 2, none⟩) (by simp; omega) _).setCell (p := ⟨g + 1, 3, none⟩) (by simp; omega) _

set_option maxHeartbeats 1000000 in
theorem valNorm32 (s x f a : Int) (x0 : 0 ≤ x) (x1 : x ≤ 255) (f0 : 0 ≤ f) (f1 : f < 8388608) (hx : x ≠ 0) (hy : x ≠ 255)
    (HS : Hid (∀ w, Calls Tryz.prog 143 #[(.agg #[.int .i64 23, .int .i64 127, .int .u32 255]), .int .u32 a] w fun e w' => e = .returned (.agg #[.int .u32 s, .int .u32 x, .int .u32 f]) ∧ Below w.heap.size w w')) (w : World) :
    Calls Tryz.prog 122 #[(.agg #[.int .i64 23, .int .i64 127, .int .u32 255]), .int .u32 a] w fun e w' => e = .returned (.agg #[.int .i64 0, .bool (s == 1), .int .u64 (8388608 + f), .int .i64 ((-149) + x - 1)]) ∧ Below w.heap.size w w' := by
  have k1 : (x == 255) = false := by simp [hy]
  have k2 : (x == 0) = false := by simp [hx]
  have v1 : IntKind.u64.wrap f = f := by rw [IntKind.wrap_u64]; omega
  have v2 : IntKind.u64.wrap 8388608 = 8388608 := by rw [IntKind.wrap_u64]; omega
  have v3 : IntKind.u64.wrap (8388608 + f) = 8388608 + f := by rw [IntKind.wrap_u64]; omega
  have v4 : IntKind.i64.wrap x = x := by rw [IntKind.wrap_i64]; omega
  have v5 : IntKind.i64.wrap ((-149) + x) = (-149) + x := by rw [IntKind.wrap_i64]; omega
  have v6 : IntKind.i64.wrap ((-149) + x - 1) = (-149) + x - 1 := by rw [IntKind.wrap_i64]; omega
  clear hx hy x0 x1 f0 f1
  obtain ⟨g, hg⟩ : ∃ g, w.heap.size = g := ⟨_, rfl⟩
  obtain ⟨W, hW⟩ : ∃ W, (w.alloc (.cells #[.int .i64 23, .int .i64 127, .int .u32 255] 191)).alloc (.cells #[.int .i64 0, .bool false, .int .u64 0, .int .i64 0] 195) = W := ⟨_, rfl⟩
  have H : Hid (Below w.heap.size w W) := by unfold Hid; rw [← hW]; (repeat (first | refine Below.alloc ?_ (by first | (simp; done) | (simp; omega)) _ | refine Below.setCell ?_ (by first | (simp; done) | (simp; omega)) _ | refine bel_dN ?_ _ | refine Below.drew ?_ | exact Below.refl _ _))
  have hs : W.heap.size = g + 2 := by rw [← hW, ← hg]; simp
  have c0 : W.cell? ⟨g, 0, none⟩ = some (.int .i64 23) := by rw [← hW, ← hg]; simp
  have c1 : W.cell? ⟨g, 1, none⟩ = some (.int .i64 127) := by rw [← hW, ← hg]; simp
  have c2 : W.cell? ⟨g, 2, none⟩ = some (.int .u32 255) := by rw [← hW, ← hg]; simp
  have d0 : W.cell? ⟨g + 1, 0, none⟩ = some (.int .i64 0) := by rw [← hW, ← hg]; simp
  have d1 : W.cell? ⟨g + 1, 1, none⟩ = some (.bool false) := by rw [← hW, ← hg]; simp
  have d2 : W.cell? ⟨g + 1, 2, none⟩ = some (.int .u64 0) := by rw [← hW, ← hg]; simp
  have d3 : W.cell? ⟨g + 1, 3, none⟩ = some (.int .i64 0) := by rw [← hW, ← hg]; simp
  have z : ∀ j, W.frozen? ⟨g + 1, j, none⟩ = false := fun j => by rw [← hW, ← hg]; simp
  go_enter Tryz.func122, Tryz.ntmps122
  go_wp2_with fail
  refine (HS.out _).mono ?_
  rintro e w1 ⟨rfl, B1⟩
  have hk : Keeps W w1 := ⟨B1⟩
  have hl := B1.size
  rw [hs] at hl
  have q0 := hk.cell (by omega) c0
  have q1 := hk.cell (by omega) c1
  have q2 := hk.cell (by omega) c2
  have r0 := hk.cell (by omega) d0
  have r1 := hk.cell (by omega) d1
  have r2 := hk.cell (by omega) d2
  have r3 := hk.cell (by omega) d3
  have z0 := hk.frozen (by omega) (z 0)
  have z1 := hk.frozen (by omega) (z 1)
  have z2 := hk.frozen (by omega) (z 2)
  have z3 := hk.frozen (by omega) (z 3)
  have H1 : Hid (Below w.heap.size w w1) := bel_step H.out B1
  have l0 : g < w1.heap.size := by omega
  have l1 : g + 1 < w1.heap.size := by omega
  clear c0 c1 c2 d0 d1 d2 d3 z hk hs hW H B1 hl
  go_wp2
  obtain ⟨W2, hW2⟩ : ∃ W2, (w1.alloc (.cells #[.int .u32 s, .int .u32 x, .int .u32 f] 218)).alloc (.cells #[.int .i64 0, .bool (s == 1), .int .u64 0, .int .i64 0] 195) = W2 := ⟨_, rfl⟩
  obtain ⟨h, hh⟩ : ∃ h, w1.heap.size = h := ⟨_, rfl⟩
  have low : ∀ b j, b < h → W2.cell? ⟨b, j, none⟩ = w1.cell? ⟨b, j, none⟩ := fun b j hb => by
    rw [← hW2]; exact Below.cell (B := h) (p := ⟨b, j, none⟩) (((Below.refl _ _).alloc (by omega) _).alloc (by simp; omega) _) hb
  have lowf : ∀ b j, b < h → W2.frozen? ⟨b, j, none⟩ = w1.frozen? ⟨b, j, none⟩ := fun b j hb => by
    rw [← hW2]; exact Below.frozen (B := h) (p := ⟨b, j, none⟩) (((Below.refl _ _).alloc (by omega) _).alloc (by simp; omega) _) hb
  have H2 : Hid (Below w.heap.size w W2) := by
    unfold Hid; rw [← hW2]; exact bel_step H1.out (((Below.refl _ _).alloc (by omega) _).alloc (by simp) _)
  have hs2 : W2.heap.size = h + 2 := by rw [← hW2, ← hh]; simp
  rw [hh] at l0 l1
  have p0 : W2.cell? ⟨h, 0, none⟩ = some (.int .u32 s) := by rw [← hW2, ← hh]; simp
  have p1 : W2.cell? ⟨h, 1, none⟩ = some (.int .u32 x) := by rw [← hW2, ← hh]; simp
  have p2 : W2.cell? ⟨h, 2, none⟩ = some (.int .u32 f) := by rw [← hW2, ← hh]; simp
  have t0 : W2.cell? ⟨h + 1, 0, none⟩ = some (.int .i64 0) := by rw [← hW2, ← hh]; simp
  have t1 : W2.cell? ⟨h + 1, 1, none⟩ = some (.bool (s == 1)) := by rw [← hW2, ← hh]; simp
  have t2 : W2.cell? ⟨h + 1, 2, none⟩ = some (.int .u64 0) := by rw [← hW2, ← hh]; simp
  have t3 : W2.cell? ⟨h + 1, 3, none⟩ = some (.int .i64 0) := by rw [← hW2, ← hh]; simp
  have y : ∀ j, W2.frozen? ⟨h + 1, j, none⟩ = false := fun j => by rw [← hW2, ← hh]; simp
  rw [hW2, hh]
  replace q0 := (low g 0 l0).trans q0
  replace q1 := (low g 1 l0).trans q1
  replace q2 := (low g 2 l0).trans q2
  replace r0 := (low (g + 1) 0 l1).trans r0
  replace r1 := (low (g + 1) 1 l1).trans r1
  replace r2 := (low (g + 1) 2 l1).trans r2
  replace r3 := (low (g + 1) 3 l1).trans r3
  replace z0 := (lowf (g + 1) 0 l1).trans z0
  replace z1 := (lowf (g + 1) 1 l1).trans z1
  replace z2 := (lowf (g + 1) 2 l1).trans z2
  replace z3 := (lowf (g + 1) 3 l1).trans z3
  clear low lowf hW2 hh H1
  have a0 : ∀ w, KeepsAny W2 ⟨h + 1, 2, none⟩ (.int .u64 (8388608 + f)) w → w.cell? ⟨g, 0, none⟩ = some (.int .i64 23) := fun w hK => hK.cell (by omega) q0 (by simp)
  have a1 : ∀ w, KeepsAny W2 ⟨h + 1, 2, none⟩ (.int .u64 (8388608 + f)) w → w.cell? ⟨g, 1, none⟩ = some (.int .i64 127) := fun w hK => hK.cell (by omega) q1 (by simp)
  have a2 : ∀ w, KeepsAny W2 ⟨h + 1, 2, none⟩ (.int .u64 (8388608 + f)) w → w.cell? ⟨g, 2, none⟩ = some (.int .u32 255) := fun w hK => hK.cell (by omega) q2 (by simp)
  have b1 : ∀ w, KeepsAny W2 ⟨h + 1, 2, none⟩ (.int .u64 (8388608 + f)) w → w.cell? ⟨h, 1, none⟩ = some (.int .u32 x) := fun w hK => hK.cell (by omega) p1 (by simp)
  have b2 : ∀ w, KeepsAny W2 ⟨h + 1, 2, none⟩ (.int .u64 (8388608 + f)) w → w.cell? ⟨h, 2, none⟩ = some (.int .u32 f) := fun w hK => hK.cell (by omega) p2 (by simp)
  have u2 : ∀ w, KeepsB W2 ⟨h + 1, 2, none⟩ (.int .u64 (8388608 + f)) false w → w.cell? ⟨h + 1, 2, none⟩ = some (.int .u64 0) := fun w hK => Keeps.cell (W := W2) hK (by omega) t2
  have u3 : ∀ w, KeepsB W2 ⟨h + 1, 2, none⟩ (.int .u64 (8388608 + f)) false w → w.frozen? ⟨h + 1, 2, none⟩ = false := fun w hK => Keeps.frozen (W := W2) hK (by omega) (y 2)
  refine region_flag (C := KeepsB W2 ⟨h + 1, 2, none⟩ (.int .u64 (8388608 + f))) 16 15 (by kernel_rfl) (by kernel_rfl) (by omega) (Keeps.drew W2) ?_
  simp only [List.take_succ_cons, List.take_zero, List.drop_succ_cons, List.drop_zero]
  (iterate 15
    (apply wpFlag_go _ (by rfl) false (by rfl)
     · intro bq wq _ hq
       have hx := hq.any
       go_simp
       first
         | (apply uponF_call; go_at_call 144; exact fcall hq (least32 _))
         | exact uponF_value hq rfl
     simp only [Act.put, List.setIfInBounds_toArray, List.set_cons_succ, List.set_cons_zero]))
  (apply wpFlag_go _ (by rfl) true (by rfl)
   · intro bq wq hb hq
     obtain rfl := hb rfl
     have hx := hq.any
     go_simp
     first
       | exact uponF_skip (keepsB_store hq) rfl
       | exact uponF_value (keepsB_store hq) rfl
   simp only [Act.put])
  clear a0 a1 a2 b1 b2 u2 u3
  intro w3 hk
  replace t0 := hk.any.cell (by omega) t0 (by simp)
  replace t1 := hk.any.cell (by omega) t1 (by simp)
  replace t3 := hk.any.cell (by omega) t3 (by simp)
  replace t2 := keepsB_here hk (by omega) t2
  have y3 := keepsB_frozen hk (by omega) (y 3)
  replace r0 := hk.any.cell (by omega) r0 (by simp)
  replace r1 := hk.any.cell (by omega) r1 (by simp)
  replace r2 := hk.any.cell (by omega) r2 (by simp)
  replace r3 := hk.any.cell (by omega) r3 (by simp)
  replace z0 := keepsB_frozen hk (by omega) z0
  replace z1 := keepsB_frozen hk (by omega) z1
  replace z2 := keepsB_frozen hk (by omega) z2
  replace z3 := keepsB_frozen hk (by omega) z3
  have H3 : Hid (Below w.heap.size w w3) := keepsB_below hk H2.out (by omega) (by simp; omega)
  have ne : g ≠ h := by omega
  clear hk y q0 q1 q2 p0 p1 p2 H2 hs2
  go_wp2
  refine bodyPost_ret (v := .agg #[.int .i64 0, .bool (s == 1), .int .u64 (8388608 + f), .int .i64 ((-149) + x - 1)]) (by simp [results, Tryz.results122, go_sem, r0, r1, r2, r3]) rfl ⟨rfl, ?_⟩
  exact ((((H3.out.setCell (p := ⟨h + 1, 3, none⟩) (by simp; omega) _).setCell (p := ⟨g + 1, 0, none⟩) (by simp; omega) _).setCell (p := ⟨g + 1, 1, none⟩) (by simp; omega) _).setCell (p := ⟨g + 1, 2, none⟩) (by simp; omega) _).setCell (p := ⟨g + 1, 3, none⟩) (by simp; omega) _

set_option maxHeartbeats 1000000 in
theorem valSub16 (s f a : Int) (f0 : 0 ≤ f) (f1 : f < 1024)
    (HS : Hid (∀ w, Calls Tryz.prog 143 #[(.agg #[.int .i64 10, .int .i64 15, .int .u32 31]), .int .u32 a] w fun e w' => e = .returned (.agg #[.int .u32 s, .int .u32 0, .int .u32 f]) ∧ Below w.heap.size w w')) (w : World) :
    Calls Tryz.prog 122 #[(.agg #[.int .i64 10, .int .i64 15, .int .u32 31]), .int .u32 a] w fun e w' => e = .returned (.agg #[.int .i64 0, .bool (s == 1), .int .u64 (f), .int .i64 (-24)]) ∧ Below w.heap.size w w' := by
  have v1 : IntKind.u64.wrap f = f := by rw [IntKind.wrap_u64]; omega
  clear f0 f1
  obtain ⟨g, hg⟩ : ∃ g, w.heap.size = g := ⟨_, rfl⟩
  obtain ⟨W, hW⟩ : ∃ W, (w.alloc (.cells #[.int .i64 10, .int .i64 15, .int .u32 31] 191)).alloc (.cells #[.int .i64 0, .bool false, .int .u64 0, .int .i64 0] 195) = W := ⟨_, rfl⟩
  have H : Hid (Below w.heap.size w W) := by unfold Hid; rw [← hW]; (repeat (first | refine Below.alloc ?_ (by first | (simp; done) | (simp; omega)) _ | refine Below.setCell ?_ (by first | (simp; done) | (simp; omega)) _ | refine bel_dN ?_ _ | refine Below.drew ?_ | exact Below.refl _ _))
  have hs : W.heap.size = g + 2 := by rw [← hW, ← hg]; simp
  have c0 : W.cell? ⟨g, 0, none⟩ = some (.int .i64 10) := by rw [← hW, ← hg]; simp
  have c1 : W.cell? ⟨g, 1, none⟩ = some (.int .i64 15) := by rw [← hW, ← hg]; simp
  have c2 : W.cell? ⟨g, 2, none⟩ = some (.int .u32 31) := by rw [← hW, ← hg]; simp
  have d0 : W.cell? ⟨g + 1, 0, none⟩ = some (.int .i64 0) := by rw [← hW, ← hg]; simp
  have d1 : W.cell? ⟨g + 1, 1, none⟩ = some (.bool false) := by rw [← hW, ← hg]; simp
  have d2 : W.cell? ⟨g + 1, 2, none⟩ = some (.int .u64 0) := by rw [← hW, ← hg]; simp
  have d3 : W.cell? ⟨g + 1, 3, none⟩ = some (.int .i64 0) := by rw [← hW, ← hg]; simp
  have z : ∀ j, W.frozen? ⟨g + 1, j, none⟩ = false := fun j => by rw [← hW, ← hg]; simp
  go_enter Tryz.func122, Tryz.ntmps122
  go_wp2_with fail
  refine (HS.out _).mono ?_
  rintro e w1 ⟨rfl, B1⟩
  have hk : Keeps W w1 := ⟨B1⟩
  have hl := B1.size
  rw [hs] at hl
  have q0 := hk.cell (by omega) c0
  have q1 := hk.cell (by omega) c1
  have q2 := hk.cell (by omega) c2
  have r0 := hk.cell (by omega) d0
  have r1 := hk.cell (by omega) d1
  have r2 := hk.cell (by omega) d2
  have r3 := hk.cell (by omega) d3
  have z0 := hk.frozen (by omega) (z 0)
  have z1 := hk.frozen (by omega) (z 1)
  have z2 := hk.frozen (by omega) (z 2)
  have z3 := hk.frozen (by omega) (z 3)
  have H1 : Hid (Below w.heap.size w w1) := bel_step H.out B1
  have l0 : g < w1.heap.size := by omega
  have l1 : g + 1 < w1.heap.size := by omega
  clear c0 c1 c2 d0 d1 d2 d3 z hk hs hW H B1 hl
  go_wp2
  obtain ⟨W2, hW2⟩ : ∃ W2, (w1.alloc (.cells #[.int .u32 s, .int .u32 0, .int .u32 f] 218)).alloc (.cells #[.int .i64 0, .bool (s == 1), .int .u64 0, .int .i64 0] 195) = W2 := ⟨_, rfl⟩
  obtain ⟨h, hh⟩ : ∃ h, w1.heap.size = h := ⟨_, rfl⟩
  have low : ∀ b j, b < h → W2.cell? ⟨b, j, none⟩ = w1.cell? ⟨b, j, none⟩ := fun b j hb => by
    rw [← hW2]; exact Below.cell (B := h) (p := ⟨b, j, none⟩) (((Below.refl _ _).alloc (by omega) _).alloc (by simp; omega) _) hb
  have lowf : ∀ b j, b < h → W2.frozen? ⟨b, j, none⟩ = w1.frozen? ⟨b, j, none⟩ := fun b j hb => by
    rw [← hW2]; exact Below.frozen (B := h) (p := ⟨b, j, none⟩) (((Below.refl _ _).alloc (by omega) _).alloc (by simp; omega) _) hb
  have H2 : Hid (Below w.heap.size w W2) := by
    unfold Hid; rw [← hW2]; exact bel_step H1.out (((Below.refl _ _).alloc (by omega) _).alloc (by simp) _)
  have hs2 : W2.heap.size = h + 2 := by rw [← hW2, ← hh]; simp
  rw [hh] at l0 l1
  have p0 : W2.cell? ⟨h, 0, none⟩ = some (.int .u32 s) := by rw [← hW2, ← hh]; simp
  have p1 : W2.cell? ⟨h, 1, none⟩ = some (.int .u32 0) := by rw [← hW2, ← hh]; simp
  have p2 : W2.cell? ⟨h, 2, none⟩ = some (.int .u32 f) := by rw [← hW2, ← hh]; simp
  have t0 : W2.cell? ⟨h + 1, 0, none⟩ = some (.int .i64 0) := by rw [← hW2, ← hh]; simp
  have t1 : W2.cell? ⟨h + 1, 1, none⟩ = some (.bool (s == 1)) := by rw [← hW2, ← hh]; simp
  have t2 : W2.cell? ⟨h + 1, 2, none⟩ = some (.int .u64 0) := by rw [← hW2, ← hh]; simp
  have t3 : W2.cell? ⟨h + 1, 3, none⟩ = some (.int .i64 0) := by rw [← hW2, ← hh]; simp
  have y : ∀ j, W2.frozen? ⟨h + 1, j, none⟩ = false := fun j => by rw [← hW2, ← hh]; simp
  rw [hW2, hh]
  replace q0 := (low g 0 l0).trans q0
  replace q1 := (low g 1 l0).trans q1
  replace q2 := (low g 2 l0).trans q2
  replace r0 := (low (g + 1) 0 l1).trans r0
  replace r1 := (low (g + 1) 1 l1).trans r1
  replace r2 := (low (g + 1) 2 l1).trans r2
  replace r3 := (low (g + 1) 3 l1).trans r3
  replace z0 := (lowf (g + 1) 0 l1).trans z0
  replace z1 := (lowf (g + 1) 1 l1).trans z1
  replace z2 := (lowf (g + 1) 2 l1).trans z2
  replace z3 := (lowf (g + 1) 3 l1).trans z3
  clear low lowf hW2 hh H1
  have a0 : ∀ w, KeepsAny W2 ⟨h + 1, 2, none⟩ (.int .u64 (f)) w → w.cell? ⟨g, 0, none⟩ = some (.int .i64 10) := fun w hK => hK.cell (by omega) q0 (by simp)
  have a1 : ∀ w, KeepsAny W2 ⟨h + 1, 2, none⟩ (.int .u64 (f)) w → w.cell? ⟨g, 1, none⟩ = some (.int .i64 15) := fun w hK => hK.cell (by omega) q1 (by simp)
  have a2 : ∀ w, KeepsAny W2 ⟨h + 1, 2, none⟩ (.int .u64 (f)) w → w.cell? ⟨g, 2, none⟩ = some (.int .u32 31) := fun w hK => hK.cell (by omega) q2 (by simp)
  have b1 : ∀ w, KeepsAny W2 ⟨h + 1, 2, none⟩ (.int .u64 (f)) w → w.cell? ⟨h, 1, none⟩ = some (.int .u32 0) := fun w hK => hK.cell (by omega) p1 (by simp)
  have b2 : ∀ w, KeepsAny W2 ⟨h + 1, 2, none⟩ (.int .u64 (f)) w → w.cell? ⟨h, 2, none⟩ = some (.int .u32 f) := fun w hK => hK.cell (by omega) p2 (by simp)
  have u2 : ∀ w, KeepsB W2 ⟨h + 1, 2, none⟩ (.int .u64 (f)) false w → w.cell? ⟨h + 1, 2, none⟩ = some (.int .u64 0) := fun w hK => Keeps.cell (W := W2) hK (by omega) t2
  have u3 : ∀ w, KeepsB W2 ⟨h + 1, 2, none⟩ (.int .u64 (f)) false w → w.frozen? ⟨h + 1, 2, none⟩ = false := fun w hK => Keeps.frozen (W := W2) hK (by omega) (y 2)
  refine region_flag (C := KeepsB W2 ⟨h + 1, 2, none⟩ (.int .u64 (f))) 7 6 (by kernel_rfl) (by kernel_rfl) (by omega) (Keeps.drew W2) ?_
  simp only [List.take_succ_cons, List.take_zero, List.drop_succ_cons, List.drop_zero]
  (iterate 6
    (apply wpFlag_go _ (by rfl) false (by rfl)
     · intro bq wq _ hq
       have hx := hq.any
       go_simp
       first
         | (apply uponF_call; go_at_call 144; exact fcall hq (least16 _))
         | exact uponF_value hq rfl
     simp only [Act.put, List.setIfInBounds_toArray, List.set_cons_succ, List.set_cons_zero]))
  (apply wpFlag_go _ (by rfl) true (by rfl)
   · intro bq wq hb hq
     obtain rfl := hb rfl
     have hx := hq.any
     go_simp
     first
       | exact uponF_skip (keepsB_store hq) rfl
       | exact uponF_value (keepsB_store hq) rfl
   simp only [Act.put])
  clear a0 a1 a2 b1 b2 u2 u3
  intro w3 hk
  replace t0 := hk.any.cell (by omega) t0 (by simp)
  replace t1 := hk.any.cell (by omega) t1 (by simp)
  replace t3 := hk.any.cell (by omega) t3 (by simp)
  replace t2 := keepsB_here hk (by omega) t2
  have y3 := keepsB_frozen hk (by omega) (y 3)
  replace r0 := hk.any.cell (by omega) r0 (by simp)
  replace r1 := hk.any.cell (by omega) r1 (by simp)
  replace r2 := hk.any.cell (by omega) r2 (by simp)
  replace r3 := hk.any.cell (by omega) r3 (by simp)
  replace z0 := keepsB_frozen hk (by omega) z0
  replace z1 := keepsB_frozen hk (by omega) z1
  replace z2 := keepsB_frozen hk (by omega) z2
  replace z3 := keepsB_frozen hk (by omega) z3
  have H3 : Hid (Below w.heap.size w w3) := keepsB_below hk H2.out (by omega) (by simp; omega)
  have ne : g ≠ h := by omega
  clear hk y q0 q1 q2 p0 p1 p2 H2 hs2
  go_wp2
  refine bodyPost_ret (v := .agg #[.int .i64 0, .bool (s == 1), .int .u64 (f), .int .i64 (-24)]) (by simp [results, Tryz.results122, go_sem, r0, r1, r2, r3]) rfl ⟨rfl, ?_⟩
  exact ((((H3.out.setCell (p := ⟨h + 1, 3, none⟩) (by simp; omega) _).setCell (p := ⟨g + 1, 0, none⟩) (by simp; omega) _).setCell (p := ⟨g + 1, 1, none⟩) (by simp; omega) _).setCell (p := ⟨g + 1, 2, none⟩) (by simp; omega) _).setCell (p := ⟨g + 1, 3, none⟩) (by simp; omega) _

set_option maxHeartbeats 1000000 in
theorem valSub32 (s f a : Int) (f0 : 0 ≤ f) (f1 : f < 8388608)
    (HS : Hid (∀ w, Calls Tryz.prog 143 #[(.agg #[.int .i64 23, .int .i64 127, .int .u32 255]), .int .u32 a] w fun e w' => e = .returned (.agg #[.int .u32 s, .int .u32 0, .int .u32 f]) ∧ Below w.heap.size w w')) (w : World) :
    Calls Tryz.prog 122 #[(.agg #[.int .i64 23, .int .i64 127, .int .u32 255]), .int .u32 a] w fun e w' => e = .returned (.agg #[.int .i64 0, .bool (s == 1), .int .u64 (f), .int .i64 (-149)]) ∧ Below w.heap.size w w' := by
  have v1 : IntKind.u64.wrap f = f := by rw [IntKind.wrap_u64]; omega
  clear f0 f1
  obtain ⟨g, hg⟩ : ∃ g, w.heap.size = g := ⟨_, rfl⟩
  obtain ⟨W, hW⟩ : ∃ W, (w.alloc (.cells #[.int .i64 23, .int .i64 127, .int .u32 255] 191)).alloc (.cells #[.int .i64 0, .bool false, .int .u64 0, .int .i64 0] 195) = W := ⟨_, rfl⟩
  have H : Hid (Below w.heap.size w W) := by unfold Hid; rw [← hW]; (repeat (first | refine Below.alloc ?_ (by first | (simp; done) | (simp; omega)) _ | refine Below.setCell ?_ (by first | (simp; done) | (simp; omega)) _ | refine bel_dN ?_ _ | refine Below.drew ?_ | exact Below.refl _ _))
  have hs : W.heap.size = g + 2 := by rw [← hW, ← hg]; simp
  have c0 : W.cell? ⟨g, 0, none⟩ = some (.int .i64 23) := by rw [← hW, ← hg]; simp
  have c1 : W.cell? ⟨g, 1, none⟩ = some (.int .i64 127) := by rw [← hW, ← hg]; simp
  have c2 : W.cell? ⟨g, 2, none⟩ = some (.int .u32 255) := by rw [← hW, ← hg]; simp
  have d0 : W.cell? ⟨g + 1, 0, none⟩ = some (.int .i64 0) := by rw [← hW, ← hg]; simp
  have d1 : W.cell? ⟨g + 1, 1, none⟩ = some (.bool false) := by rw [← hW, ← hg]; simp
  have d2 : W.cell? ⟨g + 1, 2, none⟩ = some (.int .u64 0) := by rw [← hW, ← hg]; simp
  have d3 : W.cell? ⟨g + 1, 3, none⟩ = some (.int .i64 0) := by rw [← hW, ← hg]; simp
  have z : ∀ j, W.frozen? ⟨g + 1, j, none⟩ = false := fun j => by rw [← hW, ← hg]; simp
  go_enter Tryz.func122, Tryz.ntmps122
  go_wp2_with fail
  refine (HS.out _).mono ?_
  rintro e w1 ⟨rfl, B1⟩
  have hk : Keeps W w1 := ⟨B1⟩
  have hl := B1.size
  rw [hs] at hl
  have q0 := hk.cell (by omega) c0
  have q1 := hk.cell (by omega) c1
  have q2 := hk.cell (by omega) c2
  have r0 := hk.cell (by omega) d0
  have r1 := hk.cell (by omega) d1
  have r2 := hk.cell (by omega) d2
  have r3 := hk.cell (by omega) d3
  have z0 := hk.frozen (by omega) (z 0)
  have z1 := hk.frozen (by omega) (z 1)
  have z2 := hk.frozen (by omega) (z 2)
  have z3 := hk.frozen (by omega) (z 3)
  have H1 : Hid (Below w.heap.size w w1) := bel_step H.out B1
  have l0 : g < w1.heap.size := by omega
  have l1 : g + 1 < w1.heap.size := by omega
  clear c0 c1 c2 d0 d1 d2 d3 z hk hs hW H B1 hl
  go_wp2
  obtain ⟨W2, hW2⟩ : ∃ W2, (w1.alloc (.cells #[.int .u32 s, .int .u32 0, .int .u32 f] 218)).alloc (.cells #[.int .i64 0, .bool (s == 1), .int .u64 0, .int .i64 0] 195) = W2 := ⟨_, rfl⟩
  obtain ⟨h, hh⟩ : ∃ h, w1.heap.size = h := ⟨_, rfl⟩
  have low : ∀ b j, b < h → W2.cell? ⟨b, j, none⟩ = w1.cell? ⟨b, j, none⟩ := fun b j hb => by
    rw [← hW2]; exact Below.cell (B := h) (p := ⟨b, j, none⟩) (((Below.refl _ _).alloc (by omega) _).alloc (by simp; omega) _) hb
  have lowf : ∀ b j, b < h → W2.frozen? ⟨b, j, none⟩ = w1.frozen? ⟨b, j, none⟩ := fun b j hb => by
    rw [← hW2]; exact Below.frozen (B := h) (p := ⟨b, j, none⟩) (((Below.refl _ _).alloc (by omega) _).alloc (by simp; omega) _) hb
  have H2 : Hid (Below w.heap.size w W2) := by
    unfold Hid; rw [← hW2]; exact bel_step H1.out (((Below.refl _ _).alloc (by omega) _).alloc (by simp) _)
  have hs2 : W2.heap.size = h + 2 := by rw [← hW2, ← hh]; simp
  rw [hh] at l0 l1
  have p0 : W2.cell? ⟨h, 0, none⟩ = some (.int .u32 s) := by rw [← hW2, ← hh]; simp
  have p1 : W2.cell? ⟨h, 1, none⟩ = some (.int .u32 0) := by rw [← hW2, ← hh]; simp
  have p2 : W2.cell? ⟨h, 2, none⟩ = some (.int .u32 f) := by rw [← hW2, ← hh]; simp
  have t0 : W2.cell? ⟨h + 1, 0, none⟩ = some (.int .i64 0) := by rw [← hW2, ← hh]; simp
  have t1 : W2.cell? ⟨h + 1, 1, none⟩ = some (.bool (s == 1)) := by rw [← hW2, ← hh]; simp
  have t2 : W2.cell? ⟨h + 1, 2, none⟩ = some (.int .u64 0) := by rw [← hW2, ← hh]; simp
  have t3 : W2.cell? ⟨h + 1, 3, none⟩ = some (.int .i64 0) := by rw [← hW2, ← hh]; simp
  have y : ∀ j, W2.frozen? ⟨h + 1, j, none⟩ = false := fun j => by rw [← hW2, ← hh]; simp
  rw [hW2, hh]
  replace q0 := (low g 0 l0).trans q0
  replace q1 := (low g 1 l0).trans q1
  replace q2 := (low g 2 l0).trans q2
  replace r0 := (low (g + 1) 0 l1).trans r0
  replace r1 := (low (g + 1) 1 l1).trans r1
  replace r2 := (low (g + 1) 2 l1).trans r2
  replace r3 := (low (g + 1) 3 l1).trans r3
  replace z0 := (lowf (g + 1) 0 l1).trans z0
  replace z1 := (lowf (g + 1) 1 l1).trans z1
  replace z2 := (lowf (g + 1) 2 l1).trans z2
  replace z3 := (lowf (g + 1) 3 l1).trans z3
  clear low lowf hW2 hh H1
  have a0 : ∀ w, KeepsAny W2 ⟨h + 1, 2, none⟩ (.int .u64 (f)) w → w.cell? ⟨g, 0, none⟩ = some (.int .i64 23) := fun w hK => hK.cell (by omega) q0 (by simp)
  have a1 : ∀ w, KeepsAny W2 ⟨h + 1, 2, none⟩ (.int .u64 (f)) w → w.cell? ⟨g, 1, none⟩ = some (.int .i64 127) := fun w hK => hK.cell (by omega) q1 (by simp)
  have a2 : ∀ w, KeepsAny W2 ⟨h + 1, 2, none⟩ (.int .u64 (f)) w → w.cell? ⟨g, 2, none⟩ = some (.int .u32 255) := fun w hK => hK.cell (by omega) q2 (by simp)
  have b1 : ∀ w, KeepsAny W2 ⟨h + 1, 2, none⟩ (.int .u64 (f)) w → w.cell? ⟨h, 1, none⟩ = some (.int .u32 0) := fun w hK => hK.cell (by omega) p1 (by simp)
  have b2 : ∀ w, KeepsAny W2 ⟨h + 1, 2, none⟩ (.int .u64 (f)) w → w.cell? ⟨h, 2, none⟩ = some (.int .u32 f) := fun w hK => hK.cell (by omega) p2 (by simp)
  have u2 : ∀ w, KeepsB W2 ⟨h + 1, 2, none⟩ (.int .u64 (f)) false w → w.cell? ⟨h + 1, 2, none⟩ = some (.int .u64 0) := fun w hK => Keeps.cell (W := W2) hK (by omega) t2
  have u3 : ∀ w, KeepsB W2 ⟨h + 1, 2, none⟩ (.int .u64 (f)) false w → w.frozen? ⟨h + 1, 2, none⟩ = false := fun w hK => Keeps.frozen (W := W2) hK (by omega) (y 2)
  refine region_flag (C := KeepsB W2 ⟨h + 1, 2, none⟩ (.int .u64 (f))) 7 6 (by kernel_rfl) (by kernel_rfl) (by omega) (Keeps.drew W2) ?_
  simp only [List.take_succ_cons, List.take_zero, List.drop_succ_cons, List.drop_zero]
  (iterate 6
    (apply wpFlag_go _ (by rfl) false (by rfl)
     · intro bq wq _ hq
       have hx := hq.any
       go_simp
       first
         | (apply uponF_call; go_at_call 144; exact fcall hq (least32 _))
         | exact uponF_value hq rfl
     simp only [Act.put, List.setIfInBounds_toArray, List.set_cons_succ, List.set_cons_zero]))
  (apply wpFlag_go _ (by rfl) true (by rfl)
   · intro bq wq hb hq
     obtain rfl := hb rfl
     have hx := hq.any
     go_simp
     first
       | exact uponF_skip (keepsB_store hq) rfl
       | exact uponF_value (keepsB_store hq) rfl
   simp only [Act.put])
  clear a0 a1 a2 b1 b2 u2 u3
  intro w3 hk
  replace t0 := hk.any.cell (by omega) t0 (by simp)
  replace t1 := hk.any.cell (by omega) t1 (by simp)
  replace t3 := hk.any.cell (by omega) t3 (by simp)
  replace t2 := keepsB_here hk (by omega) t2
  have y3 := keepsB_frozen hk (by omega) (y 3)
  replace r0 := hk.any.cell (by omega) r0 (by simp)
  replace r1 := hk.any.cell (by omega) r1 (by simp)
  replace r2 := hk.any.cell (by omega) r2 (by simp)
  replace r3 := hk.any.cell (by omega) r3 (by simp)
  replace z0 := keepsB_frozen hk (by omega) z0
  replace z1 := keepsB_frozen hk (by omega) z1
  replace z2 := keepsB_frozen hk (by omega) z2
  replace z3 := keepsB_frozen hk (by omega) z3
  have H3 : Hid (Below w.heap.size w w3) := keepsB_below hk H2.out (by omega) (by simp; omega)
  have ne : g ≠ h := by omega
  clear hk y q0 q1 q2 p0 p1 p2 H2 hs2
  go_wp2
  refine bodyPost_ret (v := .agg #[.int .i64 0, .bool (s == 1), .int .u64 (f), .int .i64 (-149)]) (by simp [results, Tryz.results122, go_sem, r0, r1, r2, r3]) rfl ⟨rfl, ?_⟩
  exact ((((H3.out.setCell (p := ⟨h + 1, 3, none⟩) (by simp; omega) _).setCell (p := ⟨g + 1, 0, none⟩) (by simp; omega) _).setCell (p := ⟨g + 1, 1, none⟩) (by simp; omega) _).setCell (p := ⟨g + 1, 2, none⟩) (by simp; omega) _).setCell (p := ⟨g + 1, 3, none⟩) (by simp; omega) _

end Go.Proofs.YtljnciclbjcinaaGreatDoor
