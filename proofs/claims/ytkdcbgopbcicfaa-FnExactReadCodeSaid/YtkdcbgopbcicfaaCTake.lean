/-
  Reading one instruction: the program's own side, whole.
-/
import Derived.Test.YtkdcbgopbcicfaaCReadI
import Derived.Test.YtkdcbgopbcicfaaQHide
import Derived.Test.YtkdcbgopbcicfaaKeep
namespace Go.Proofs.Ytkdcbgopbcicfaa
open Go.ChangeShapes Go.WideShapes Go.ChangeAt Go.RowKit Go.PlainAid

set_option maxRecDepth 100000 in
set_option maxHeartbeats 1600000 in
theorem takeIns_none (c : ByteArray) (op a : Int) (t : Nat) (ov : Value) (h0 : 0 < c.size) (hop : bt c 0 = op) (hlo : 0 ≤ op) (hhi : op ≤ 255) (_ht : t ≤ 1048576)
    (O : ∀ w : World, Calls Try.prog 30 #[.int .i64 op] w fun e w' => e = .returned ov ∧ w' = w)
    (TO : ∀ w : World, Calls Try.prog 50 #[.string (c.extract 1 c.size), ov] w fun e w' => e = .returned (.tuple #[.int .i64 a, .int .i64 (t : Int), .bool false]) ∧ Below w.heap.size w w')
    (w : World) :
    Calls Try.prog 37 #[.string c] w fun e w' => e = .returned (.tuple #[.agg #[.int .i64 0, .int .i64 0], .int .i64 0]) ∧ Below w.heap.size w w' := by
  obtain ⟨b, hbs⟩ : ∃ b, w.heap.size = b := ⟨_, rfl⟩
  obtain ⟨W, hW⟩ : ∃ W, w.alloc (.cells #[.int .i64 0, .int .i64 0] 25) = W := ⟨_, rfl⟩
  have hWs : W.heap.size = b + 1 := by rw [← hW]; simp; omega
  have hB0 : Hid (Below w.heap.size w W) := by unfold Hid; rw [← hW]; exact (Below.refl _ _).alloc (Nat.le_refl _) _
  have p0 : W.cell? ⟨b, 0, none⟩ = some (.int .i64 0) := by rw [← hW, ← hbs]; simp
  have p1 : W.cell? ⟨b, 1, none⟩ = some (.int .i64 0) := by rw [← hW, ← hbs]; simp
  have z0 : W.frozen? ⟨b, 0, none⟩ = false := by rw [← hW, ← hbs]; simp
  have z1 : W.frozen? ⟨b, 1, none⟩ = false := by rw [← hW, ← hbs]; simp
  have e0 := get_bt c 0 h0
  rw [hop] at e0
  have hsl : ∀ wx : World, (Instr.slice 9 (.string c) (some (.int .i64 1)) none none).run Try.prog wx = .ok (.string (c.extract 1 c.size)) wx := fun wx => slice_from (P := Try.prog) 9 Try.underlying9 c 1 (by omega) wx
  clear hop
  go_enter Try.func37, Try.ntmps37
  go_wp2_with fail
  refine region_q (C := Keeps W) (by kernel_rfl) (by kernel_rfl) (by first | exact Keeps.drew W | (rw [← hW]; exact Keeps.drew _)) ?_
  (iterate 12
    (apply wpQuiet_go _ (by rfl)
     · intro wq hq
       go_simp
       first
         | (go_at_call 30; exact qsame hq (O _))
         | (go_at_call 50; exact qcall hq (TO _))
         | exact rfl
     simp only [Act.put, List.setIfInBounds_toArray, List.set_cons_succ, List.set_cons_zero]))
  refine wpQuiet_nil ?_
  intro wz hk
  have hbz : Hid (Below w.heap.size w wz) := hB0.out.trans (hk.below.mono hB0.out.size)
  have q0 : wz.cell? ⟨b, 0, none⟩ = some (.int .i64 0) := hk.cell (by omega) p0
  have q1 : wz.cell? ⟨b, 1, none⟩ = some (.int .i64 0) := hk.cell (by omega) p1
  have y0 : wz.frozen? ⟨b, 0, none⟩ = false := hk.frozen (by omega) z0
  have y1 : wz.frozen? ⟨b, 1, none⟩ = false := hk.frozen (by omega) z1
  have hzs : b < wz.heap.size := by have := hk.below.size; omega
  clear hk p0 p1 z0 z1 hB0 hW hWs O TO e0 hsl
  go_wp2
  have r0 : ∀ o, (((wz.setCell ⟨b, 0, none⟩ (.int .i64 0)).setCell ⟨b, 1, none⟩ (.int .i64 0)).alloc o).cell? ⟨b, 0, none⟩ = some (.int .i64 0) := fun o => pastCell (by first | exact hzs | (simp; exact hzs)) (by simp [go_sem, q0])
  have r1 : ∀ o, (((wz.setCell ⟨b, 0, none⟩ (.int .i64 0)).setCell ⟨b, 1, none⟩ (.int .i64 0)).alloc o).cell? ⟨b, 1, none⟩ = some (.int .i64 0) := fun o => pastCell (by first | exact hzs | (simp; exact hzs)) (by simp [go_sem, q1])
  refine bodyPost_ret (v := .tuple #[.agg #[.int .i64 0, .int .i64 0], .int .i64 0]) (by simp [results, Try.results37, go_sem, r0, r1]) rfl ⟨rfl, ?_⟩
  exact (((hbz.out.setCell (by simp; omega) _).setCell (by simp; omega) _).alloc (by first | exact hbz.out.size | (simp; exact hbz.out.size)) _)

set_option maxRecDepth 100000 in
set_option maxHeartbeats 1600000 in
theorem takeIns_bad (c : ByteArray) (op a : Int) (t : Nat) (ov : Value) (h0 : 0 < c.size) (hop : bt c 0 = op) (hlo : 0 ≤ op) (hhi : op ≤ 255) (_ht : t ≤ 1048576)
    (O : ∀ w : World, Calls Try.prog 30 #[.int .i64 op] w fun e w' => e = .returned ov ∧ w' = w)
    (TO : ∀ w : World, Calls Try.prog 50 #[.string (c.extract 1 c.size), ov] w fun e w' => e = .returned (.tuple #[.int .i64 a, .int .i64 (t : Int), .bool true]) ∧ Below w.heap.size w w')
    (GI : Hid (∀ w : World, Calls Try.prog 10 #[.agg #[.int .i64 op, .int .i64 a]] w fun e w' => e = .returned (.bool false) ∧ Below w.heap.size w w')) (w : World) :
    Calls Try.prog 37 #[.string c] w fun e w' => e = .returned (.tuple #[.agg #[.int .i64 0, .int .i64 0], .int .i64 0]) ∧ Below w.heap.size w w' := by
  obtain ⟨b, hbs⟩ : ∃ b, w.heap.size = b := ⟨_, rfl⟩
  obtain ⟨W, hW⟩ : ∃ W, w.alloc (.cells #[.int .i64 0, .int .i64 0] 25) = W := ⟨_, rfl⟩
  have hWs : W.heap.size = b + 1 := by rw [← hW]; simp; omega
  have hB0 : Hid (Below w.heap.size w W) := by unfold Hid; rw [← hW]; exact (Below.refl _ _).alloc (Nat.le_refl _) _
  have p0 : W.cell? ⟨b, 0, none⟩ = some (.int .i64 0) := by rw [← hW, ← hbs]; simp
  have p1 : W.cell? ⟨b, 1, none⟩ = some (.int .i64 0) := by rw [← hW, ← hbs]; simp
  have z0 : W.frozen? ⟨b, 0, none⟩ = false := by rw [← hW, ← hbs]; simp
  have z1 : W.frozen? ⟨b, 1, none⟩ = false := by rw [← hW, ← hbs]; simp
  have e0 := get_bt c 0 h0
  rw [hop] at e0
  have hsl : ∀ wx : World, (Instr.slice 9 (.string c) (some (.int .i64 1)) none none).run Try.prog wx = .ok (.string (c.extract 1 c.size)) wx := fun wx => slice_from (P := Try.prog) 9 Try.underlying9 c 1 (by omega) wx
  clear hop
  go_enter Try.func37, Try.ntmps37
  go_wp2_with fail
  refine region_q (C := Keeps W) (by kernel_rfl) (by kernel_rfl) (by first | exact Keeps.drew W | (rw [← hW]; exact Keeps.drew _)) ?_
  (iterate 12
    (apply wpQuiet_go _ (by rfl)
     · intro wq hq
       go_simp
       first
         | (go_at_call 30; exact qsame hq (O _))
         | (go_at_call 50; exact qcall hq (TO _))
         | exact rfl
     simp only [Act.put, List.setIfInBounds_toArray, List.set_cons_succ, List.set_cons_zero]))
  refine wpQuiet_nil ?_
  intro wz hk
  have hbz : Hid (Below w.heap.size w wz) := hB0.out.trans (hk.below.mono hB0.out.size)
  have q0 : wz.cell? ⟨b, 0, none⟩ = some (.int .i64 0) := hk.cell (by omega) p0
  have q1 : wz.cell? ⟨b, 1, none⟩ = some (.int .i64 0) := hk.cell (by omega) p1
  have y0 : wz.frozen? ⟨b, 0, none⟩ = false := hk.frozen (by omega) z0
  have y1 : wz.frozen? ⟨b, 1, none⟩ = false := hk.frozen (by omega) z1
  have hzs : b < wz.heap.size := by have := hk.below.size; omega
  clear hk p0 p1 z0 z1 hB0 hW hWs O TO e0 hsl
  go_wp2_with fail
  refine (GI.out _).mono ?_
  rintro e w2 ⟨rfl, hb2⟩
  have hb2s := hb2.size
  simp at hb2s
  have r0 : w2.cell? ⟨b, 0, none⟩ = some (.int .i64 0) := keepCell hb2 (by simp; omega) (pastCell hzs q0)
  have r1 : w2.cell? ⟨b, 1, none⟩ = some (.int .i64 0) := keepCell hb2 (by simp; omega) (pastCell hzs q1)
  have x0 : w2.frozen? ⟨b, 0, none⟩ = false := keepFree hb2 (by simp; omega) (pastFree hzs y0)
  have x1 : w2.frozen? ⟨b, 1, none⟩ = false := keepFree hb2 (by simp; omega) (pastFree hzs y1)
  have s0 : w2.cell? ⟨wz.heap.size, 0, none⟩ = some (.int .i64 op) := (hb2.cell (p := ⟨wz.heap.size, 0, none⟩) (by simp)).trans (by simp)
  have s1 : w2.cell? ⟨wz.heap.size, 1, none⟩ = some (.int .i64 a) := (hb2.cell (p := ⟨wz.heap.size, 1, none⟩) (by simp)).trans (by simp)
  have hbw : Hid (Below w.heap.size w w2) := below2 (hbz.out.alloc hbz.out.size _) hb2
  clear hb2 q0 q1 y0 y1
  go_wp2
  refine bodyPost_ret (v := .tuple #[.agg #[.int .i64 0, .int .i64 0], .int .i64 0]) (by simp [results, Try.results37, go_sem, r0, r1]) rfl ⟨rfl, ?_⟩
  exact (hbw.out.setCell (by simp; omega) _).setCell (by simp; omega) _

set_option maxRecDepth 100000 in
set_option maxHeartbeats 1600000 in
theorem takeIns_good (c : ByteArray) (op a : Int) (t : Nat) (ov : Value) (h0 : 0 < c.size) (hop : bt c 0 = op) (hlo : 0 ≤ op) (hhi : op ≤ 255) (ht : t ≤ 1048576)
    (O : ∀ w : World, Calls Try.prog 30 #[.int .i64 op] w fun e w' => e = .returned ov ∧ w' = w)
    (TO : ∀ w : World, Calls Try.prog 50 #[.string (c.extract 1 c.size), ov] w fun e w' => e = .returned (.tuple #[.int .i64 a, .int .i64 (t : Int), .bool true]) ∧ Below w.heap.size w w')
    (GI : Hid (∀ w : World, Calls Try.prog 10 #[.agg #[.int .i64 op, .int .i64 a]] w fun e w' => e = .returned (.bool true) ∧ Below w.heap.size w w')) (w : World) :
    Calls Try.prog 37 #[.string c] w fun e w' => e = .returned (.tuple #[.agg #[.int .i64 op, .int .i64 a], .int .i64 (1 + (t : Int))]) ∧ Below w.heap.size w w' := by
  obtain ⟨b, hbs⟩ : ∃ b, w.heap.size = b := ⟨_, rfl⟩
  obtain ⟨W, hW⟩ : ∃ W, w.alloc (.cells #[.int .i64 0, .int .i64 0] 25) = W := ⟨_, rfl⟩
  have hWs : W.heap.size = b + 1 := by rw [← hW]; simp; omega
  have hB0 : Hid (Below w.heap.size w W) := by unfold Hid; rw [← hW]; exact (Below.refl _ _).alloc (Nat.le_refl _) _
  have p0 : W.cell? ⟨b, 0, none⟩ = some (.int .i64 0) := by rw [← hW, ← hbs]; simp
  have p1 : W.cell? ⟨b, 1, none⟩ = some (.int .i64 0) := by rw [← hW, ← hbs]; simp
  have z0 : W.frozen? ⟨b, 0, none⟩ = false := by rw [← hW, ← hbs]; simp
  have z1 : W.frozen? ⟨b, 1, none⟩ = false := by rw [← hW, ← hbs]; simp
  have e0 := get_bt c 0 h0
  rw [hop] at e0
  have hsl : ∀ wx : World, (Instr.slice 9 (.string c) (some (.int .i64 1)) none none).run Try.prog wx = .ok (.string (c.extract 1 c.size)) wx := fun wx => slice_from (P := Try.prog) 9 Try.underlying9 c 1 (by omega) wx
  clear hop
  go_enter Try.func37, Try.ntmps37
  go_wp2_with fail
  refine region_q (C := Keeps W) (by kernel_rfl) (by kernel_rfl) (by first | exact Keeps.drew W | (rw [← hW]; exact Keeps.drew _)) ?_
  (iterate 12
    (apply wpQuiet_go _ (by rfl)
     · intro wq hq
       go_simp
       first
         | (go_at_call 30; exact qsame hq (O _))
         | (go_at_call 50; exact qcall hq (TO _))
         | exact rfl
     simp only [Act.put, List.setIfInBounds_toArray, List.set_cons_succ, List.set_cons_zero]))
  refine wpQuiet_nil ?_
  intro wz hk
  have hbz : Hid (Below w.heap.size w wz) := hB0.out.trans (hk.below.mono hB0.out.size)
  have q0 : wz.cell? ⟨b, 0, none⟩ = some (.int .i64 0) := hk.cell (by omega) p0
  have q1 : wz.cell? ⟨b, 1, none⟩ = some (.int .i64 0) := hk.cell (by omega) p1
  have y0 : wz.frozen? ⟨b, 0, none⟩ = false := hk.frozen (by omega) z0
  have y1 : wz.frozen? ⟨b, 1, none⟩ = false := hk.frozen (by omega) z1
  have hzs : b < wz.heap.size := by have := hk.below.size; omega
  clear hk p0 p1 z0 z1 hB0 hW hWs O TO e0 hsl
  go_wp2_with fail
  refine (GI.out _).mono ?_
  rintro e w2 ⟨rfl, hb2⟩
  have hb2s := hb2.size
  simp at hb2s
  have r0 : w2.cell? ⟨b, 0, none⟩ = some (.int .i64 0) := keepCell hb2 (by simp; omega) (pastCell hzs q0)
  have r1 : w2.cell? ⟨b, 1, none⟩ = some (.int .i64 0) := keepCell hb2 (by simp; omega) (pastCell hzs q1)
  have x0 : w2.frozen? ⟨b, 0, none⟩ = false := keepFree hb2 (by simp; omega) (pastFree hzs y0)
  have x1 : w2.frozen? ⟨b, 1, none⟩ = false := keepFree hb2 (by simp; omega) (pastFree hzs y1)
  have s0 : w2.cell? ⟨wz.heap.size, 0, none⟩ = some (.int .i64 op) := (hb2.cell (p := ⟨wz.heap.size, 0, none⟩) (by simp)).trans (by simp)
  have s1 : w2.cell? ⟨wz.heap.size, 1, none⟩ = some (.int .i64 a) := (hb2.cell (p := ⟨wz.heap.size, 1, none⟩) (by simp)).trans (by simp)
  have hbw : Hid (Below w.heap.size w w2) := below2 (hbz.out.alloc hbz.out.size _) hb2
  clear hb2 q0 q1 y0 y1
  go_wp2
  refine bodyPost_ret (v := .tuple #[.agg #[.int .i64 op, .int .i64 a], .int .i64 (1 + (t : Int))]) (by simp [results, Try.results37, go_sem, r0, r1]) rfl ⟨rfl, ?_⟩
  exact (hbw.out.setCell (by simp; omega) _).setCell (by simp; omega) _

end Go.Proofs.Ytkdcbgopbcicfaa
