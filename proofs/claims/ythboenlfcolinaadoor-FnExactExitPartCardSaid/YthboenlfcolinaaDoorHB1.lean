/-
  Heaps: what the laws do with them, what is read of one that comes in, and what a good one is.
-/
import Derived.Test.YthboenlfcolinaaDoorMSt
import Derived.Deep.Fields
import Derived.Test.YthboenlfcolinaaDoorBlk
namespace Go.Proofs.YthboenlfcolinaaDoor
open Go.ChangeShapes Go.WideShapes Go.ChangeAt Go.RowKit Go.Deep

/-- A heap as a value. -/
abbrev hpV (M : Int) (D : ByteArray) (N : Int) : Value := .agg #[.int .i64 M, .string D, .int .i64 N]

theorem memCellsH : Tryd.prog.cellsOf 23 = 2 := by kernel_rfl
theorem heapCells : Tryd.prog.cellsOf 25 = 3 := by kernel_rfl
theorem intCells : Tryd.prog.cellsOf 3 = 1 := by kernel_rfl
theorem listH3 {α : Type} {cs : List α} (h : cs.length = 3) : ∃ c0 c1 c2, cs = [c0, c1, c2] := by
  match cs, h with
  | [c0, c1, c2], _ => exact ⟨c0, c1, c2, rfl⟩

set_option maxRecDepth 100000 in
theorem open_heap {H : Type} {enc : TypeId × Value → H} {W : World} {b0 : Nat} {v : Value} {d : DataW H} {p : List MemPlace} (hv : Value.okWide Tryd.prog W .any b0 25 v)
    (h : DataW.Trod enc Tryd.prog W 0 (fun _ => true) true 25 v d p) : ∃ M D N, v = hpV M D N ∧ D.size ≤ maxLen ∧ (Lit.int .i64 N).wf = true := by
  obtain ⟨⟨cs⟩, rfl, hsz⟩ := okWide_struct Tryd.underlying25 hv
  rw [heapCells] at hsz
  obtain ⟨c0, c1, c2, rfl⟩ := listH3 (by simpa using hsz)
  obtain ⟨fuel, hf⟩ := h
  obtain ⟨xs, n, _, _, _, hlen, hf⟩ := DataW.trod_struct Tryd.underlying25 hf
  have h0 : DataW.trod enc Tryd.prog W 0 (fun _ => true) true n 23 (List.take (Tryd.prog.cellsOf 23) [c0, c1, c2]) = xs[0]? := hf 0 _ rfl
  have h1 : DataW.trod enc Tryd.prog W 0 (fun _ => true) true n 3 (List.take (Tryd.prog.cellsOf 3) [c2]) = xs[1]? := hf 1 _ rfl
  have l2 : xs.length = 2 := hlen
  rw [List.getElem?_eq_getElem (by omega)] at h0 h1
  rw [memCellsH] at h0
  rw [intCells] at h1
  simp only [List.take_succ_cons, List.take_zero] at h0 h1
  obtain ⟨ys, m, _, _, _, hlen2, hg⟩ := DataW.trod_struct Tryd.underlying23 h0
  have g0 : DataW.trod enc Tryd.prog W 0 (fun _ => true) true m 3 (List.take (Tryd.prog.cellsOf 3) [c0, c1]) = ys[0]? := hg 0 _ rfl
  have g1 : DataW.trod enc Tryd.prog W 0 (fun _ => true) true m 9 (List.take (Tryd.prog.cellsOf 9) [c1]) = ys[1]? := hg 1 _ rfl
  have l3 : ys.length = 2 := hlen2
  rw [List.getElem?_eq_getElem (by omega)] at g0 g1
  rw [intCells] at g0
  rw [show Tryd.prog.cellsOf 9 = 1 by kernel_rfl] at g1
  simp only [List.take_succ_cons, List.take_zero] at g0 g1
  obtain ⟨mx, hr0, _, _⟩ := DataW.trod_int Tryd.underlying3 g0
  obtain ⟨D, hr1, _, hD⟩ := DataW.trod_string Tryd.underlying9 g1
  obtain ⟨N, hr2, _, hN⟩ := DataW.trod_int Tryd.underlying3 h1
  simp at hr0 hr1 hr2
  subst hr0 hr1 hr2
  exact ⟨mx, D, N, rfl, hD, hN⟩

theorem new_block {w : World} (c : Array Value) (t : TypeId) {g : Nat} (h : g = w.heap.size) : (w.alloc (.cells c t)).heap[g]? = some (.cells c t (0, 0)) := by subst h; exact heap_alloc_new _ _
/-- Three cells of a block are written. -/
theorem set3 {W : World} {z : Nat} {t : TypeId} {a0 a1 a2 : Value} (h : W.heap[z]? = some (.cells #[a0, a1, a2] t (0, 0))) (b0 b1 b2 : Value) {G : World} (hG : ((W.setCell ⟨z, 0, none⟩ b0).setCell ⟨z, 1, none⟩ b1).setCell ⟨z, 2, none⟩ b2 = G) :
    G.heap[z]? = some (.cells #[b0, b1, b2] t (0, 0)) := by
  subst hG
  rw [heap_setCell_same _ _ _ _ _ _ (heap_setCell_same _ _ _ _ _ _ (heap_setCell_same _ _ _ _ _ _ h))]
  rfl
theorem set3k {W : World} {z : Nat} {o : Obj} (h : W.heap[z]? = some o) (y : Nat) (hy : z ≠ y) (b0 b1 b2 : Value) {G : World} (hG : ((W.setCell ⟨y, 0, none⟩ b0).setCell ⟨y, 1, none⟩ b1).setCell ⟨y, 2, none⟩ b2 = G) : G.heap[z]? = some o := by
  subst hG
  exact (heap_setCell_other _ _ _ _ (by simpa using hy)).trans ((heap_setCell_other _ _ _ _ (by simpa using hy)).trans ((heap_setCell_other _ _ _ _ (by simpa using hy)).trans h))

theorem toHeap (M : Int) (D : ByteArray) (N : Int) (w : World) :
    Calls Tryd.prog 19 #[hpV M D N] w fun e w' => e = .returned (hpV M D N) ∧ Below w.heap.size w w' := by
  have T := toMemory M D
  obtain ⟨g, hgs⟩ : ∃ g, w.heap.size = g := ⟨_, rfl⟩
  go_enter Tryd.func19, Tryd.ntmps19
  go_wp2_with fail
  refine (T _).mono ?_
  rintro e w1 ⟨rfl, B1⟩
  have hs := B1.size
  simp at hs
  have hB : Hid (Below w.heap.size w w1) := by unfold Hid; ((repeat (first | refine bel_alloc ?_ _ | refine bel_dN ?_ _ | refine Below.drew ?_ | refine Below.setCell ?_ (by first | (simp; done) | (simp; omega)) _)); refine bel_step ?_ B1; (repeat (first | refine bel_alloc ?_ _ | refine bel_dN ?_ _ | refine Below.drew ?_ | refine Below.setCell ?_ (by first | (simp; done) | (simp; omega)) _)); exact Below.refl _ _)
  have e0 : w1.heap[g]? = some (.cells #[.int .i64 M, .string D, .int .i64 N] 25 (0, 0)) := (B1.block _ (by simp; omega)).trans (by rw [← hgs]; exact (Below.heap_alloc _ _ _ (by simp; omega)).trans ((Below.heap_alloc _ _ _ (by simp)).trans (heap_alloc_new _ _)))
  have e1 : w1.heap[g + 1]? = some (.cells #[.int .i64 0, .string ⟨#[]⟩, .int .i64 0] 32 (0, 0)) := (B1.block _ (by simp; omega)).trans (by rw [← hgs]; exact (Below.heap_alloc _ _ _ (by simp)).trans (new_block _ _ (by simp)))
  have e2 : w1.heap[g + 2]? = some (.cells #[.int .i64 0, .string ⟨#[]⟩, .int .i64 0] 32 (0, 0)) := (B1.block _ (by simp; omega)).trans (by rw [← hgs]; exact new_block _ _ (by simp))
  have p2 := (cell_of_block e0 2).trans rfl
  have q0 := (cell_of_block e1 0).trans rfl
  have q1 := (cell_of_block e1 1).trans rfl
  have q2 := (cell_of_block e1 2).trans rfl
  have r0 := (cell_of_block e2 0).trans rfl
  have r1 := (cell_of_block e2 1).trans rfl
  have r2 := (cell_of_block e2 2).trans rfl
  have z0 := free_of_block e1 0
  have z1 := free_of_block e1 1
  have z2 := free_of_block e1 2
  have y0 := free_of_block e2 0
  have y1 := free_of_block e2 1
  have y2 := free_of_block e2 2
  have hl : g + 2 < w1.heap.size := by omega
  have F := set3 (set3k e1 (g + 2) (by omega) (.int .i64 M) (.string D) (.int .i64 N) rfl) (.int .i64 M) (.string D) (.int .i64 N) rfl
  have k0 := (cell_of_block F 0).trans rfl
  have k1 := (cell_of_block F 1).trans rfl
  have k2 := (cell_of_block F 2).trans rfl
  clear B1 T hs e0 e1 e2 F
  go_wp2
  refine bodyPost_ret (v := hpV M D N) (by simp [results, Tryd.results19, go_sem, k0, k1, k2]) rfl ⟨rfl, ?_⟩
  refine Below.setCell (Below.setCell (Below.setCell (Below.setCell (Below.setCell (Below.setCell hB.out ?_ _) ?_ _) ?_ _) ?_ _) ?_ _) ?_ _ <;> simp <;> omega

theorem szHeap_no (M : Int) (D : ByteArray) (N : Int) (h : 1048576 < D.size) (hm : D.size ≤ 9223372036854775807) (w : World) :
    Calls Tryd.prog 15 #[hpV M D N, .int .i64 1048576] w fun e w' => e = .returned (.int .i64 (-1)) ∧ Below w.heap.size w w' := by
  have T := szMemory_no M D h hm
  clear h hm
  go_enter Tryd.func15, Tryd.ntmps15
  go_wp2_with fail
  refine (T _).mono ?_
  rintro e w1 ⟨rfl, B1⟩
  have hB : Hid (Below w.heap.size w w1) := by unfold Hid; ((repeat (first | refine bel_alloc ?_ _ | refine bel_dN ?_ _ | refine Below.drew ?_ | refine Below.setCell ?_ (by first | (simp; done) | (simp; omega)) _)); refine bel_step ?_ B1; (repeat (first | refine bel_alloc ?_ _ | refine bel_dN ?_ _ | refine Below.drew ?_ | refine Below.setCell ?_ (by first | (simp; done) | (simp; omega)) _)); exact Below.refl _ _)
  clear B1 T
  go_wp2
  go_ret
  exact ⟨rfl, hB.out⟩

theorem szHeap_yes (M : Int) (D : ByteArray) (N : Int) (h : D.size ≤ 1048576) (w : World) :
    Calls Tryd.prog 15 #[hpV M D N, .int .i64 1048576] w fun e w' => e = .returned (.int .i64 (1048576 - (D.size : Int))) ∧ Below w.heap.size w w' := by
  have T := szMemory_yes M D h
  have k : ¬ 1048576 - (D.size : Int) < 0 := by omega
  generalize (1048576 - (D.size : Int)) = n at *
  clear h
  go_enter Tryd.func15, Tryd.ntmps15
  go_wp2_with fail
  refine (T _).mono ?_
  rintro e w1 ⟨rfl, B1⟩
  have hB : Hid (Below w.heap.size w w1) := by unfold Hid; ((repeat (first | refine bel_alloc ?_ _ | refine bel_dN ?_ _ | refine Below.drew ?_ | refine Below.setCell ?_ (by first | (simp; done) | (simp; omega)) _)); refine bel_step ?_ B1; (repeat (first | refine bel_alloc ?_ _ | refine bel_dN ?_ _ | refine Below.drew ?_ | refine Below.setCell ?_ (by first | (simp; done) | (simp; omega)) _)); exact Below.refl _ _)
  clear B1 T
  go_wp2
  go_ret
  exact ⟨rfl, hB.out⟩

theorem eqHeap (M : Int) (D : ByteArray) (N : Int) (w : World) :
    Calls Tryd.prog 24 #[hpV M D N, hpV M D N] w fun e w' => e = .returned (.bool true) ∧ Below w.heap.size w w' := by
  have T := eqMemory M D
  obtain ⟨g, hgs⟩ : ∃ g, w.heap.size = g := ⟨_, rfl⟩
  go_enter Tryd.func24, Tryd.ntmps24
  go_wp2_with fail
  refine (T _).mono ?_
  rintro e w1 ⟨rfl, B1⟩
  have hs := B1.size
  simp at hs
  have hB : Hid (Below w.heap.size w w1) := by unfold Hid; ((repeat (first | refine bel_alloc ?_ _ | refine bel_dN ?_ _ | refine Below.drew ?_ | refine Below.setCell ?_ (by first | (simp; done) | (simp; omega)) _)); refine bel_step ?_ B1; (repeat (first | refine bel_alloc ?_ _ | refine bel_dN ?_ _ | refine Below.drew ?_ | refine Below.setCell ?_ (by first | (simp; done) | (simp; omega)) _)); exact Below.refl _ _)
  have p2 : w1.cell? ⟨g, 2, none⟩ = some (.int .i64 N) := keepCell B1 (by simp; omega) (pastCell (by simp; omega) (by rw [← hgs]; simp))
  have q2 : w1.cell? ⟨g + 1, 2, none⟩ = some (.int .i64 N) := keepCell B1 (by simp; omega) (newCell (by simp; omega) rfl)
  clear B1 T hs
  go_wp2
  all_goals try go_quiet (fail)
  go_wp2
  go_ret
  exact ⟨rfl, by first | exact hB.out | exact below_drewN hB.out _⟩

/-- A heap that is good. -/
def goodH (M : Int) (D : ByteArray) (N : Int) : Bool := good M D && (decide (0 ≤ N) && decide (N ≤ (D.size : Int)))
theorem goodH_yes {M N : Int} {D : ByteArray} (h : goodH M D N = true) : good M D = true ∧ 0 ≤ N ∧ N ≤ (D.size : Int) := by
  simpa [goodH, and_assoc] using h

end Go.Proofs.YthboenlfcolinaaDoor
