/-
  What a float means where it is infinite or no number.
-/
import Derived.Test.YtljnciclbjcinaaGreatDoorFBase
namespace Go.Proofs.YtljnciclbjcinaaGreatDoor
open Go.RowKit

set_option maxHeartbeats 1000000 in
theorem valInf16 (s a : Int)
    (HS : Hid (∀ w, Calls Tryz.prog 143 #[(.agg #[.int .i64 10, .int .i64 15, .int .u32 31]), .int .u32 a] w fun e w' => e = .returned (.agg #[.int .u32 s, .int .u32 31, .int .u32 0]) ∧ Below w.heap.size w w')) (w : World) :
    Calls Tryz.prog 122 #[(.agg #[.int .i64 10, .int .i64 15, .int .u32 31]), .int .u32 a] w fun e w' => e = .returned (.agg #[.int .i64 1, .bool (s == 1), .int .u64 0, .int .i64 0]) ∧ Below w.heap.size w w' := by
  obtain ⟨g, hg⟩ : ∃ g, w.heap.size = g := ⟨_, rfl⟩
  obtain ⟨W, hW⟩ : ∃ W, (w.alloc (.cells #[.int .i64 10, .int .i64 15, .int .u32 31] 191)).alloc (.cells #[.int .i64 0, .bool false, .int .u64 0, .int .i64 0] 195) = W := ⟨_, rfl⟩
  have H : Hid (Below w.heap.size w W) := by unfold Hid; rw [← hW]; (repeat (first | refine Below.alloc ?_ (by first | (simp; done) | (simp; omega)) _ | refine Below.setCell ?_ (by first | (simp; done) | (simp; omega)) _ | refine bel_dN ?_ _ | refine Below.drew ?_ | exact Below.refl _ _))
  have hs : W.heap.size = g + 2 := by rw [← hW, ← hg]; simp
  have c0 : W.cell? ⟨g, 0, none⟩ = some (.int .i64 10) := by rw [← hW, ← hg]; simp
  have c1 : W.cell? ⟨g, 1, none⟩ = some (.int .i64 15) := by rw [← hW, ← hg]; simp
  have c2 : W.cell? ⟨g, 2, none⟩ = some (.int .u32 31) := by rw [← hW, ← hg]; simp
  have d0 : W.cell? ⟨g + 1, 0, none⟩ = some (.int .i64 0) := by rw [← hW, ← hg]; simp
  have d1 : W.cell? ⟨g + 1, 1, none⟩ = some (.bool false) := by rw [← hW, ← hg]; simp
  have d2 : W.cell? ⟨g + 1, 2, none⟩ = some (.int .u64 0) := by rw [← hW, ← hg]; simp
  have d3 : W.cell? ⟨g + 1, 3, none⟩ = some (.int .i64 0) := by rw [← hW, ← hg]; simp
  have z : ∀ j, W.frozen? ⟨g + 1, j, none⟩ = false := fun j => by rw [← hW, ← hg]; simp
  go_enter Tryz.func122, Tryz.ntmps122
  go_wp2_with fail
  refine (HS.out _).mono ?_
  rintro e w1 ⟨rfl, B1⟩
  have hk : Keeps W w1 := ⟨B1⟩
  have hl := B1.size
  rw [hs] at hl
  have q0 := hk.cell (by omega) c0
  have q1 := hk.cell (by omega) c1
  have q2 := hk.cell (by omega) c2
  have r0 := hk.cell (by omega) d0
  have r1 := hk.cell (by omega) d1
  have r2 := hk.cell (by omega) d2
  have r3 := hk.cell (by omega) d3
  have z0 := hk.frozen (by omega) (z 0)
  have z1 := hk.frozen (by omega) (z 1)
  have z2 := hk.frozen (by omega) (z 2)
  have z3 := hk.frozen (by omega) (z 3)
  have H1 : Hid (Below w.heap.size w w1) := bel_step H.out B1
  have l0 : g < w1.heap.size := by omega
  have l1 : g + 1 < w1.heap.size := by omega
  clear c0 c1 c2 d0 d1 d2 d3 z hk hs hW H B1 hl
  go_wp2
  refine bodyPost_ret (v := .agg #[.int .i64 1, .bool (s == 1), .int .u64 0, .int .i64 0]) (by simp [results, Tryz.results122, go_sem, r0, r1, r2, r3, l0, l1]) rfl ⟨rfl, ?_⟩
  have hz := H1.out.size
  exact (((((H1.out.setCell (p := ⟨g + 1, 0, none⟩) (by simp; omega) _).setCell (p := ⟨g + 1, 1, none⟩) (by simp; omega) _).setCell (p := ⟨g + 1, 2, none⟩) (by simp; omega) _).setCell (p := ⟨g + 1, 3, none⟩) (by simp; omega) _).alloc (by simp; omega) _).alloc (by simp; omega) _

set_option maxHeartbeats 1000000 in
theorem valInf32 (s a : Int)
    (HS : Hid (∀ w, Calls Tryz.prog 143 #[(.agg #[.int .i64 23, .int .i64 127, .int .u32 255]), .int .u32 a] w fun e w' => e = .returned (.agg #[.int .u32 s, .int .u32 255, .int .u32 0]) ∧ Below w.heap.size w w')) (w : World) :
    Calls Tryz.prog 122 #[(.agg #[.int .i64 23, .int .i64 127, .int .u32 255]), .int .u32 a] w fun e w' => e = .returned (.agg #[.int .i64 1, .bool (s == 1), .int .u64 0, .int .i64 0]) ∧ Below w.heap.size w w' := by
  obtain ⟨g, hg⟩ : ∃ g, w.heap.size = g := ⟨_, rfl⟩
  obtain ⟨W, hW⟩ : ∃ W, (w.alloc (.cells #[.int .i64 23, .int .i64 127, .int .u32 255] 191)).alloc (.cells #[.int .i64 0, .bool false, .int .u64 0, .int .i64 0] 195) = W := ⟨_, rfl⟩
  have H : Hid (Below w.heap.size w W) := by unfold Hid; rw [← hW]; (repeat (first | refine Below.alloc ?_ (by first | (simp; done) | (simp; omega)) _ | refine Below.setCell ?_ (by first | (simp; done) | (simp; omega)) _ | refine bel_dN ?_ _ | refine Below.drew ?_ | exact Below.refl _ _))
  have hs : W.heap.size = g + 2 := by rw [← hW, ← hg]; simp
  have c0 : W.cell? ⟨g, 0, none⟩ = some (.int .i64 23) := by rw [← hW, ← hg]; simp
  have c1 : W.cell? ⟨g, 1, none⟩ = some (.int .i64 127) := by rw [← hW, ← hg]; simp
  have c2 : W.cell? ⟨g, 2, none⟩ = some (.int .u32 255) := by rw [← hW, ← hg]; simp
  have d0 : W.cell? ⟨g + 1, 0, none⟩ = some (.int .i64 0) := by rw [← hW, ← hg]; simp
  have d1 : W.cell? ⟨g + 1, 1, none⟩ = some (.bool false) := by rw [← hW, ← hg]; simp
  have d2 : W.cell? ⟨g + 1, 2, none⟩ = some (.int .u64 0) := by rw [← hW, ← hg]; simp
  have d3 : W.cell? ⟨g + 1, 3, none⟩ = some (.int .i64 0) := by rw [← hW, ← hg]; simp
  have z : ∀ j, W.frozen? ⟨g + 1, j, none⟩ = false := fun j => by rw [← hW, ← hg]; simp
  go_enter Tryz.func122, Tryz.ntmps122
  go_wp2_with fail
  refine (HS.out _).mono ?_
  rintro e w1 ⟨rfl, B1⟩
  have hk : Keeps W w1 := ⟨B1⟩
  have hl := B1.size
  rw [hs] at hl
  have q0 := hk.cell (by omega) c0
  have q1 := hk.cell (by omega) c1
  have q2 := hk.cell (by omega) c2
  have r0 := hk.cell (by omega) d0
  have r1 := hk.cell (by omega) d1
  have r2 := hk.cell (by omega) d2
  have r3 := hk.cell (by omega) d3
  have z0 := hk.frozen (by omega) (z 0)
  have z1 := hk.frozen (by omega) (z 1)
  have z2 := hk.frozen (by omega) (z 2)
  have z3 := hk.frozen (by omega) (z 3)
  have H1 : Hid (Below w.heap.size w w1) := bel_step H.out B1
  have l0 : g < w1.heap.size := by omega
  have l1 : g + 1 < w1.heap.size := by omega
  clear c0 c1 c2 d0 d1 d2 d3 z hk hs hW H B1 hl
  go_wp2
  refine bodyPost_ret (v := .agg #[.int .i64 1, .bool (s == 1), .int .u64 0, .int .i64 0]) (by simp [results, Tryz.results122, go_sem, r0, r1, r2, r3, l0, l1]) rfl ⟨rfl, ?_⟩
  have hz := H1.out.size
  exact (((((H1.out.setCell (p := ⟨g + 1, 0, none⟩) (by simp; omega) _).setCell (p := ⟨g + 1, 1, none⟩) (by simp; omega) _).setCell (p := ⟨g + 1, 2, none⟩) (by simp; omega) _).setCell (p := ⟨g + 1, 3, none⟩) (by simp; omega) _).alloc (by simp; omega) _).alloc (by simp; omega) _

set_option maxHeartbeats 1000000 in
theorem valNan16 (s f a : Int) (hf : f ≠ 0)
    (HS : Hid (∀ w, Calls Tryz.prog 143 #[(.agg #[.int .i64 10, .int .i64 15, .int .u32 31]), .int .u32 a] w fun e w' => e = .returned (.agg #[.int .u32 s, .int .u32 31, .int .u32 f]) ∧ Below w.heap.size w w')) (w : World) :
    Calls Tryz.prog 122 #[(.agg #[.int .i64 10, .int .i64 15, .int .u32 31]), .int .u32 a] w fun e w' => e = .returned (.agg #[.int .i64 2, .bool (s == 1), .int .u64 0, .int .i64 0]) ∧ Below w.heap.size w w' := by
  have k1 : (f == 0) = false := by simp [hf]
  clear hf
  obtain ⟨g, hg⟩ : ∃ g, w.heap.size = g := ⟨_, rfl⟩
  obtain ⟨W, hW⟩ : ∃ W, (w.alloc (.cells #[.int .i64 10, .int .i64 15, .int .u32 31] 191)).alloc (.cells #[.int .i64 0, .bool false, .int .u64 0, .int .i64 0] 195) = W := ⟨_, rfl⟩
  have H : Hid (Below w.heap.size w W) := by unfold Hid; rw [← hW]; (repeat (first | refine Below.alloc ?_ (by first | (simp; done) | (simp; omega)) _ | refine Below.setCell ?_ (by first | (simp; done) | (simp; omega)) _ | refine bel_dN ?_ _ | refine Below.drew ?_ | exact Below.refl _ _))
  have hs : W.heap.size = g + 2 := by rw [← hW, ← hg]; simp
  have c0 : W.cell? ⟨g, 0, none⟩ = some (.int .i64 10) := by rw [← hW, ← hg]; simp
  have c1 : W.cell? ⟨g, 1, none⟩ = some (.int .i64 15) := by rw [← hW, ← hg]; simp
  have c2 : W.cell? ⟨g, 2, none⟩ = some (.int .u32 31) := by rw [← hW, ← hg]; simp
  have d0 : W.cell? ⟨g + 1, 0, none⟩ = some (.int .i64 0) := by rw [← hW, ← hg]; simp
  have d1 : W.cell? ⟨g + 1, 1, none⟩ = some (.bool false) := by rw [← hW, ← hg]; simp
  have d2 : W.cell? ⟨g + 1, 2, none⟩ = some (.int .u64 0) := by rw [← hW, ← hg]; simp
  have d3 : W.cell? ⟨g + 1, 3, none⟩ = some (.int .i64 0) := by rw [← hW, ← hg]; simp
  have z : ∀ j, W.frozen? ⟨g + 1, j, none⟩ = false := fun j => by rw [← hW, ← hg]; simp
  go_enter Tryz.func122, Tryz.ntmps122
  go_wp2_with fail
  refine (HS.out _).mono ?_
  rintro e w1 ⟨rfl, B1⟩
  have hk : Keeps W w1 := ⟨B1⟩
  have hl := B1.size
  rw [hs] at hl
  have q0 := hk.cell (by omega) c0
  have q1 := hk.cell (by omega) c1
  have q2 := hk.cell (by omega) c2
  have r0 := hk.cell (by omega) d0
  have r1 := hk.cell (by omega) d1
  have r2 := hk.cell (by omega) d2
  have r3 := hk.cell (by omega) d3
  have z0 := hk.frozen (by omega) (z 0)
  have z1 := hk.frozen (by omega) (z 1)
  have z2 := hk.frozen (by omega) (z 2)
  have z3 := hk.frozen (by omega) (z 3)
  have H1 : Hid (Below w.heap.size w w1) := bel_step H.out B1
  have l0 : g < w1.heap.size := by omega
  have l1 : g + 1 < w1.heap.size := by omega
  clear c0 c1 c2 d0 d1 d2 d3 z hk hs hW H B1 hl
  go_wp2
  refine bodyPost_ret (v := .agg #[.int .i64 2, .bool (s == 1), .int .u64 0, .int .i64 0]) (by simp [results, Tryz.results122, go_sem, r0, r1, r2, r3, l0, l1]) rfl ⟨rfl, ?_⟩
  have hz := H1.out.size
  exact (((((H1.out.setCell (p := ⟨g + 1, 0, none⟩) (by simp; omega) _).setCell (p := ⟨g + 1, 1, none⟩) (by simp; omega) _).setCell (p := ⟨g + 1, 2, none⟩) (by simp; omega) _).setCell (p := ⟨g + 1, 3, none⟩) (by simp; omega) _).alloc (by simp; omega) _).alloc (by simp; omega) _

set_option maxHeartbeats 1000000 in
theorem valNan32 (s f a : Int) (hf : f ≠ 0)
    (HS : Hid (∀ w, Calls Tryz.prog 143 #[(.agg #[.int .i64 23, .int .i64 127, .int .u32 255]), .int .u32 a] w fun e w' => e = .returned (.agg #[.int .u32 s, .int .u32 255, .int .u32 f]) ∧ Below w.heap.size w w')) (w : World) :
    Calls Tryz.prog 122 #[(.agg #[.int .i64 23, .int .i64 127, .int .u32 255]), .int .u32 a] w fun e w' => e = .returned (.agg #[.int .i64 2, .bool (s == 1), .int .u64 0, .int .i64 0]) ∧ Below w.heap.size w w' := by
  have k1 : (f == 0) = false := by simp [hf]
  clear hf
  obtain ⟨g, hg⟩ : ∃ g, w.heap.size = g := ⟨_, rfl⟩
  obtain ⟨W, hW⟩ : ∃ W, (w.alloc (.cells #[.int .i64 23, .int .i64 127, .int .u32 255] 191)).alloc (.cells #[.int .i64 0, .bool false, .int .u64 0, .int .i64 0] 195) = W := ⟨_, rfl⟩
  have H : Hid (Below w.heap.size w W) := by unfold Hid; rw [← hW]; (repeat (first | refine Below.alloc ?_ (by first | (simp; done) | (simp; omega)) _ | refine Below.setCell ?_ (by first | (simp; done) | (simp; omega)) _ | refine bel_dN ?_ _ | refine Below.drew ?_ | exact Below.refl _ _))
  have hs : W.heap.size = g + 2 := by rw [← hW, ← hg]; simp
  have c0 : W.cell? ⟨g, 0, none⟩ = some (.int .i64 23) := by rw [← hW, ← hg]; simp
  have c1 : W.cell? ⟨g, 1, none⟩ = some (.int .i64 127) := by rw [← hW, ← hg]; simp
  have c2 : W.cell? ⟨g, 2, none⟩ = some (.int .u32 255) := by rw [← hW, ← hg]; simp
  have d0 : W.cell? ⟨g + 1, 0, none⟩ = some (.int .i64 0) := by rw [← hW, ← hg]; simp
  have d1 : W.cell? ⟨g + 1, 1, none⟩ = some (.bool false) := by rw [← hW, ← hg]; simp
  have d2 : W.cell? ⟨g + 1, 2, none⟩ = some (.int .u64 0) := by rw [← hW, ← hg]; simp
  have d3 : W.cell? ⟨g + 1, 3, none⟩ = some (.int .i64 0) := by rw [← hW, ← hg]; simp
  have z : ∀ j, W.frozen? ⟨g + 1, j, none⟩ = false := fun j => by rw [← hW, ← hg]; simp
  go_enter Tryz.func122, Tryz.ntmps122
  go_wp2_with fail
  refine (HS.out _).mono ?_
  rintro e w1 ⟨rfl, B1⟩
  have hk : Keeps W w1 := ⟨B1⟩
  have hl := B1.size
  rw [hs] at hl
  have q0 := hk.cell (by omega) c0
  have q1 := hk.cell (by omega) c1
  have q2 := hk.cell (by omega) c2
  have r0 := hk.cell (by omega) d0
  have r1 := hk.cell (by omega) d1
  have r2 := hk.cell (by omega) d2
  have r3 := hk.cell (by omega) d3
  have z0 := hk.frozen (by omega) (z 0)
  have z1 := hk.frozen (by omega) (z 1)
  have z2 := hk.frozen (by omega) (z 2)
  have z3 := hk.frozen (by omega) (z 3)
  have H1 : Hid (Below w.heap.size w w1) := bel_step H.out B1
  have l0 : g < w1.heap.size := by omega
  have l1 : g + 1 < w1.heap.size := by omega
  clear c0 c1 c2 d0 d1 d2 d3 z hk hs hW H B1 hl
  go_wp2
  refine bodyPost_ret (v := .agg #[.int .i64 2, .bool (s == 1), .int .u64 0, .int .i64 0]) (by simp [results, Tryz.results122, go_sem, r0, r1, r2, r3, l0, l1]) rfl ⟨rfl, ?_⟩
  have hz := H1.out.size
  exact (((((H1.out.setCell (p := ⟨g + 1, 0, none⟩) (by simp; omega) _).setCell (p := ⟨g + 1, 1, none⟩) (by simp; omega) _).setCell (p := ⟨g + 1, 2, none⟩) (by simp; omega) _).setCell (p := ⟨g + 1, 3, none⟩) (by simp; omega) _).alloc (by simp; omega) _).alloc (by simp; omega) _

end Go.Proofs.YtljnciclbjcinaaGreatDoor
