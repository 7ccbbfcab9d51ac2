/-
  Heaps: what the laws do with them, what is read of one that comes in, and what a good one is.
-/
import Derived.Test.YtgepplddhmgifaaDoorMSt
import Derived.Deep.Fields
import Derived.Test.YtgepplddhmgifaaDoorBlk
namespace Go.Proofs.YtgepplddhmgifaaDoor
open Go.ChangeShapes Go.WideShapes Go.ChangeAt Go.RowKit Go.Deep

/-- A heap as a value. -/
abbrev hpV (M : Int) (D : ByteArray) (N : Int) : Value := .agg #[.int .i64 M, .string D, .int .i64 N]

theorem memCellsH : Tryd.prog.cellsOf 23 = 2 := by kernel_rfl
theorem heapCells : Tryd.prog.cellsOf 25 = 3 := by kernel_rfl
theorem intCells : Tryd.prog.cellsOf 3 = 1 := by kernel_rfl
theorem listH3 {α : Type} {cs : List α} (h : cs.length = 3) : ∃ c0 c1 c2, cs = [c0, c1, c2] := by
  match cs, h with
  | [c0, c1, c2], _ => exact ⟨c0, c1, c2, rfl⟩

set_option maxRecDepth 100000 in
theorem open_heap {H : Type} {enc : TypeId × Value → H} {W : World} {b0 : Nat} {v : Value} {d : DataW H} {p : List MemPlace} (hv : Value.okWide Tryd.prog W .any b0 25 v)
    (h : DataW.Trod enc Tryd.prog W 0 (fun _ => true) true 25 v d p) : ∃ M D N, v = hpV M D N ∧ D.size ≤ maxLen ∧ (Lit.int .i64 N).wf = true := by
  obtain ⟨⟨cs⟩, rfl, hsz⟩ := okWide_struct Tryd.underlying25 hv
  rw [heapCells] at hsz
  obtain ⟨c0, c1, c2, rfl⟩ := listH3 (by simpa using hsz)
  obtain ⟨fuel, hf⟩ := h
  obtain ⟨xs, n, _, _, _, hlen, hf⟩ := DataW.trod_struct Tryd.underlying25 hf
  have h0 : DataW.trod enc Tryd.prog W 0 (fun _ => true) true n 23 (List.take (Tryd.prog.cellsOf 23) [c0, c1, c2]) = xs[0]? := hf 0 _ rfl
  have h1 : DataW.trod enc Tryd.prog W 0 (fun _ => true) true n 3 (List.take (Tryd.prog.cellsOf 3) [c2]) = xs[1]? := hf 1 _ rfl
  have l2 : xs.length = 2 := hlen
  rw [List.getElem?_eq_getElem (by omega)] at h0 h1
  rw [memCellsH] at h0
  rw [intCells] at h1
  simp only [List.take_succ_cons, List.take_zero] at h0 h1
  obtain ⟨ys, m, _, _, _, hlen2, hg⟩ := DataW.trod_struct Tryd.underlying23 h0
  have g0 : DataW.trod enc Tryd.prog W 0 (fun _ => true) true m 3 (List.take (Tryd.prog.cellsOf 3) [c0, c1]) = ys[0]? := hg 0 _ rfl
  have g1 : DataW.trod enc Tryd.prog W 0 (fun _ => true) true m 9 (List.take (Tryd.prog.cellsOf 9) [c1]) = ys[1]? := hg 1 _ rfl
  have l3 : ys.length = 2 := hlen2
  rw [List.getElem?_eq_getElem (by omega)] at g0 g1
  rw [intCells] at g0
  rw [show Tryd.prog.cellsOf 9 = 1 by kernel_rfl] at g1
  simp only [List.take_succ_cons, List.take_zero] at g0 g1
  obtain ⟨mx, hr0, _, _⟩ := DataW.trod_int Tryd.underlying3 g0
  obtain ⟨D, hr1, _, hD⟩ := DataW.trod_string Tryd.underlying9 g1
  obtain ⟨N, hr2, _, hN⟩ := DataW.trod_int Tryd.underlying3 h1
  simp at hr0 hr1 hr2
  subst hr0 hr1 hr2
  exact ⟨mx, D, N, rfl, hD, hN⟩

theorem new_block {w : World} (c : Array Value) (t : TypeId) {g : Nat} (h : g = w.heap.size) : (w.alloc (.cells c t)).heap[g]? = some (.cells c t (0, 0)) := by subst h; exact heap_alloc_new _ _
/-- Three cells of a block are written. -/
theorem set3 {W : World} {z : Nat} {t : TypeId} {a0 a1 a2 : Value} (h : W.heap[z]? = some (.cells #[a0, a1, a2] t (0, 0))) (b0 b1 b2 : Value) {G : World} (hG : ((W.setCell ⟨z, 0, none⟩ b0).setCell ⟨z, 1, none⟩ b1).setCell ⟨z, 2, none⟩ b2 = G) :
    G.heap[z]? = some (.cells #[b0, b1, b2] t (0, 0)) := by
  subst hG
  rw [heap_setCell_same _ _ _ _ _ _ (heap_setCell_same _ _ _ _ _ _ (heap_setCell_same _ _ _ _ _ _ h))]
  rfl
theorem set3k {W : World} {z : Nat} {o : Obj} (h : W.heap[z]? = some o) (y : Nat) (hy : z ≠ y) (b0 b1 b2 : Value) {G : World} (hG : ((W.setCell ⟨y, 0, none⟩ b0).setCell ⟨y, 1, none⟩ b1).setCell ⟨y, 2, none⟩ b2 = G) : G.heap[z]? = some o := by
  subst hG
  exact (heap_setCell_other _ _ _ _ (by simpa using hy)).trans ((heap_setCell_other _ _ _ _ (by simpa using hy)).trans ((heap_setCell_other _ _ _ _ (by simpa using hy)).trans h))

theorem toHeap (M : Int) (D : ByteArray) (N : Int) (w : World) :
    Calls Tryd.prog 8 #[hpV M D N] w fun e w' => e = .returned (hpV M D N) ∧ Below w.heap.size w w' := by
  have T := toMemory M D
  obtain ⟨g, hgs⟩ : ∃ g, w.heap.size = g := ⟨_, rfl⟩
  go_enter Tryd.func8, Tryd.ntmps8
  go_wp2_with fail
  refine (T _).mono ?_
  rintro e w1 ⟨rfl, B1⟩
  have hs := B1.size
  simp at hs
  have hB : Hid (Below w.heap.size w w1) := by unfold Hid; ((repeat (first | refine bel_alloc ?_ _ | refine bel_dN ?_ _ | refine Below.drew ?_ | refine Below.setCell ?_ (by first | (simp; done) | (simp; omega)) _)); refine bel_step ?_ B1; (repeat (first | refine bel_alloc ?_ _ | refine bel_dN ?_ _ | refine Below.drew ?_ | refine Below.setCell ?_ (by first | (simp; done) | (simp; omega)) _)); exact Below.refl _ _)
  have e0 : w1.heap[g]? = some (.cells #[.int .i64 M, .string D, .int .i64 N] 25 (0, 0)) := (B1.block _ (by simp; omega)).trans (by rw [← hgs]; exact (Below.heap_alloc _ _ _ (by simp; omega)).trans ((Below.heap_alloc _ _ _ (by simp)).trans (heap_alloc_new _ _)))
  have e1 : w1.heap[g + 1]? = some (.cells #[.int .i64 0, .string ⟨#[]⟩, .int .i64 0] 29 (0, 0)) := (B1.block _ (by simp; omega)).trans (by rw [← hgs]; exact (Below.heap_alloc _ _ _ (by simp)).trans (new_block _ _ (by simp)))
  have e2 : w1.heap[g + 2]? = some (.cells #[.int .i64 0, .string ⟨#[]⟩, .int .i64 0] 29 (0, 0)) := (B1.block _ (by simp; omega)).trans (by rw [← hgs]; exact new_block _ _ (by simp))
  have p2 := (cell_of_block e0 2).trans rfl
  have q0 := (cell_of_block e1 0).trans rfl
  have q1 := (cell_of_block e1 1).trans rfl
  have q2 := (cell_of_block e1 2).trans rfl
  have r0 := (cell_of_block e2 0).trans rfl
  have r1 := (cell_of_block e2 1).trans rfl
  have r2 := (cell_of_block e2 2).trans rfl
  have z0 := free_of_block e1 0
  have z1 := free_of_block e1 1
  have z2 := free_of_block e1 2
  have y0 := free_of_block e2 0
  have y1 := free_of_block e2 1
  have y2 := free_of_block e2 2
  have hl : g + 2 < w1.heap.size := by omega
  have F := set3 (set3k e1 (g + 2) (by omega) (.int .i64 M) (.string D) (.int .i64 N) rfl) (.int .i64 M) (.string D) (.int .i64 N) rfl
  have k0 := (cell_of_block F 0).trans rfl
  have k1 := (cell_of_block F 1).trans rfl
  have k2 := (cell_of_block F 2).trans rfl
  clear B1 T hs e0 e1 e2 F
  go_wp2
  refine bodyPost_ret (v := hpV M D N) (by simp [results, Tryd.results8, go_sem, k0, k1, k2]) rfl ⟨rfl, ?_⟩
  refine Below.setCell (Below.setCell (Below.setCell (Below.setCell (Below.setCell (Below.setCell hB.out ?_ _) ?_ _) ?_ _) ?_ _) ?_ _) ?_ _ <;> simp <;> omega

theorem szHeap_no (M : Int) (D : ByteArray) (N : Int) (h : 1048576 < D.size) (hm : D.size ≤ 9223372036854775807) (w : World) :
    Calls Tryd.prog 6 #[hpV M D N, .int .i64 1048576] w fun e w' => e = .returned (.int .i64 (-1)) ∧ Below w.heap.size w w' := by
  have T := szMemory_no M D h hm
  clear h hm
  go_enter Tryd.func6, Tryd.ntmps6
  go_wp2_with fail
  refine (T _).mono ?_
  rintro e w1 ⟨rfl, B1⟩
  have hB : Hid (Below w.heap.size w w1) := by unfold Hid; ((repeat (first | refine bel_alloc ?_ _ | refine bel_dN ?_ _ | refine Below.drew ?_ | refine Below.setCell ?_ (by first | (simp; done) | (simp; omega)) _)); refine bel_step ?_ B1; (repeat (first | refine bel_alloc ?_ _ | refine bel_dN ?_ _ | refine Below.drew ?_ | refine Below.setCell ?_ (by first | (simp; done) | (simp; omega)) _)); exact Below.refl _ _)
  clear B1 T
  go_wp2
  go_ret
  exact ⟨rfl, hB.out⟩

theorem szHeap_yes (M : Int) (D : ByteArray) (N : Int) (h : D.size ≤ 1048576) (w : World) :
    Calls Tryd.prog 6 #[hpV M D N, .int .i64 1048576] w fun e w' => e = .returned (.int .i64 (1048576 - (D.size : Int))) ∧ Below w.heap.size w w' := by
  have T := szMemory_yes M D h
  have k : ¬ 1048576 - (D.size : Int) < 0 := by omega
  generalize (1048576 - (D.size : Int)) = n at *
  clear h
  go_enter Tryd.func6, Tryd.ntmps6
  go_wp2_with fail
  refine (T _).mono ?_
  rintro e w1 ⟨rfl, B1⟩
  have hB : Hid (Below w.heap.size w w1) := by unfold Hid; ((repeat (first | refine bel_alloc ?_ _ | refine bel_dN ?_ _ | refine Below.drew ?_ | refine Below.setCell ?_ (by first | (simp; done) | (simp; omega)) _)); refine bel_step ?_ B1; (repeat (first | refine bel_alloc ?_ _ | refine bel_dN ?_ _ | refine Below.drew ?_ | refine Below.setCell ?_ (by first | (simp; done) | (simp; omega)) _)); exact Below.refl _ _)
  clear B1 T
  go_wp2
  go_ret
  exact ⟨rfl, hB.out⟩

theorem eqHeap (M : Int) (D : ByteArray) (N : Int) (w : World) :
    Calls Tryd.prog 10 #[hpV M D N, hpV M D N] w fun e w' => e = .returned (.bool true) ∧ Below w.heap.size w w' := by
  have T := eqMemory M D
  obtain ⟨g, hgs⟩ : ∃ g, w.heap.size = g := ⟨_, rfl⟩
  go_enter Tryd.func10, Tryd.ntmps10
  go_wp2_with fail
  refine (T _).mono ?_
  rintro e w1 ⟨rfl, B1⟩
  have hs := B1.size
  simp at hs
  have hB : Hid (Below w.heap.size w w1) := by unfold Hid; ((repeat (first | refine bel_alloc ?_ _ | refine bel_dN ?_ _ | refine Below.drew ?_ | refine Below.setCell ?_ (by first | (simp; done) | (simp; omega)) _)); refine bel_step ?_ B1; (repeat (first | refine bel_alloc ?_ _ | refine bel_dN ?_ _ | refine Below.drew ?_ | refine Below.setCell ?_ (by first | (simp; done) | (simp; omega)) _)); exact Below.refl _ _)
  have p2 : w1.cell? ⟨g, 2, none⟩ = some (.int .i64 N) := keepCell B1 (by simp; omega) (pastCell (by simp; omega) (by rw [← hgs]; simp))
  have q2 : w1.cell? ⟨g + 1, 2, none⟩ = some (.int .i64 N) := keepCell B1 (by simp; omega) (newCell (by simp; omega) rfl)
  clear B1 T hs
  go_wp2
  all_goals try go_quiet (fail)
  go_wp2
  go_ret
  exact ⟨rfl, by first | exact hB.out | exact below_drewN hB.out _⟩

/-- A heap that is good. -/
def goodH (M : Int) (D : ByteArray) (N : Int) : Bool := good M D && (decide (0 ≤ N) && decide (N ≤ (D.size : Int)))
theorem goodH_yes {M N : Int} {D : ByteArray} (h : goodH M D N = true) : good M D = true ∧ 0 ≤ N ∧ N ≤ (D.size : Int) := by
  simpa [goodH, and_assoc] using h

end Go.Proofs.YtgepplddhmgifaaDoor

namespace Go.Proofs.YtgepplddhmgifaaDoor
open Go.ChangeShapes Go.WideShapes Go.ChangeAt Go.RowKit Go.Deep

theorem goodH_no {M N : Int} {D : ByteArray} (h : good M D = false) : goodH M D N = false := by unfold goodH; rw [h]; rfl
theorem goodH_in {M N : Int} {D : ByteArray} (h : good M D = true) : goodH M D N = (decide (0 ≤ N) && decide (N ≤ (D.size : Int))) := by unfold goodH; rw [h]; rfl

theorem implGoodHeap (M : Int) (D : ByteArray) (N : Int) (h : D.size ≤ 1048576) (w : World) :
    Calls Tryd.prog 20 #[hpV M D N] w fun e w' => e = .returned (.bool (goodH M D N)) ∧ Below w.heap.size w w' := by
  have I := mGoodI M D h
  obtain ⟨g, hgs⟩ : ∃ g, w.heap.size = g := ⟨_, rfl⟩
  obtain ⟨n, hn⟩ : ∃ n : Int, (D.size : Int) = n := ⟨_, rfl⟩
  clear h
  cases hg : good M D with
  | false =>
    rw [hg] at I
    rw [goodH_no hg]
    clear hg
    go_enter Tryd.func20, Tryd.ntmps20
    go_wp2_with fail
    refine (I _).mono ?_
    rintro e w1 ⟨rfl, B1⟩
    have hB : Hid (Below w.heap.size w w1) := by unfold Hid; ((repeat (first | refine bel_alloc ?_ _ | refine bel_dN ?_ _ | refine Below.drew ?_ | refine Below.setCell ?_ (by first | (simp; done) | (simp; omega)) _)); refine bel_step ?_ B1; (repeat (first | refine bel_alloc ?_ _ | refine bel_dN ?_ _ | refine Below.drew ?_ | refine Below.setCell ?_ (by first | (simp; done) | (simp; omega)) _)); exact Below.refl _ _)
    clear B1 I
    go_wp2
    go_ret
    exact ⟨rfl, hB.out⟩
  | true =>
    rw [hg] at I
    rw [goodH_in hg, hn]
    clear hg
    go_enter Tryd.func20, Tryd.ntmps20
    go_wp2_with fail
    refine (I _).mono ?_
    rintro e w1 ⟨rfl, B1⟩
    have hB : Hid (Below w.heap.size w w1) := by unfold Hid; ((repeat (first | refine bel_alloc ?_ _ | refine bel_dN ?_ _ | refine Below.drew ?_ | refine Below.setCell ?_ (by first | (simp; done) | (simp; omega)) _)); refine bel_step ?_ B1; (repeat (first | refine bel_alloc ?_ _ | refine bel_dN ?_ _ | refine Below.drew ?_ | refine Below.setCell ?_ (by first | (simp; done) | (simp; omega)) _)); exact Below.refl _ _)
    have hs := B1.size
    simp at hs
    have e0 : w1.heap[g]? = some (.cells #[.int .i64 M, .string D, .int .i64 N] 29 (0, 0)) := (B1.block _ (by simp; omega)).trans (by rw [← hgs]; exact heap_alloc_new _ _)
    have p1 : w1.cell? ⟨g, 1, none⟩ = some (.string D) := (cell_of_block e0 1).trans rfl
    have p2 : w1.cell? ⟨g, 2, none⟩ = some (.int .i64 N) := (cell_of_block e0 2).trans rfl
    clear B1 I e0
    by_cases h0 : 0 ≤ N
    · have k0 : decide (0 ≤ N) = true := by simpa using h0
      go_wp2
      go_ret
      exact ⟨by rw [k0]; rfl, hB.out⟩
    · have k0 : decide (0 ≤ N) = false := by simpa using h0
      go_wp2
      go_ret
      exact ⟨by rw [k0]; rfl, hB.out⟩

theorem specGoodHeap (M : Int) (D : ByteArray) (N : Int) (h : D.size ≤ 1048576) (w : World) :
    Calls Tryd.prog 17 #[hpV M D N] w fun e w' => e = .returned (.bool (goodH M D N)) ∧ Below w.heap.size w w' := by
  have I := mGoodS M D h
  obtain ⟨g, hgs⟩ : ∃ g, w.heap.size = g := ⟨_, rfl⟩
  obtain ⟨n, hn⟩ : ∃ n : Int, (D.size : Int) = n := ⟨_, rfl⟩
  clear h
  cases hg : good M D with
  | false =>
    rw [hg] at I
    rw [goodH_no hg]
    clear hg
    go_enter Tryd.func17, Tryd.ntmps17
    go_wp2_with fail
    refine (I _).mono ?_
    rintro e w1 ⟨rfl, B1⟩
    have hB : Hid (Below w.heap.size w w1) := by unfold Hid; ((repeat (first | refine bel_alloc ?_ _ | refine bel_dN ?_ _ | refine Below.drew ?_ | refine Below.setCell ?_ (by first | (simp; done) | (simp; omega)) _)); refine bel_step ?_ B1; (repeat (first | refine bel_alloc ?_ _ | refine bel_dN ?_ _ | refine Below.drew ?_ | refine Below.setCell ?_ (by first | (simp; done) | (simp; omega)) _)); exact Below.refl _ _)
    clear B1 I
    go_wp2
    go_ret
    exact ⟨rfl, hB.out⟩
  | true =>
    rw [hg] at I
    rw [goodH_in hg, hn]
    obtain ⟨r, hr⟩ : ∃ r, Hid ((decide (0 ≤ N) && decide (N ≤ n)) = r) := ⟨_, rfl⟩
    rw [hr.out]
    have IN := in_eq N 0 n r hr
    clear hg
    go_enter Tryd.func17, Tryd.ntmps17
    go_wp2_with fail
    refine (I _).mono ?_
    rintro e w1 ⟨rfl, B1⟩
    have hB : Hid (Below w.heap.size w w1) := by unfold Hid; ((repeat (first | refine bel_alloc ?_ _ | refine bel_dN ?_ _ | refine Below.drew ?_ | refine Below.setCell ?_ (by first | (simp; done) | (simp; omega)) _)); refine bel_step ?_ B1; (repeat (first | refine bel_alloc ?_ _ | refine bel_dN ?_ _ | refine Below.drew ?_ | refine Below.setCell ?_ (by first | (simp; done) | (simp; omega)) _)); exact Below.refl _ _)
    have hs := B1.size
    simp at hs
    have e0 : w1.heap[g]? = some (.cells #[.int .i64 M, .string D, .int .i64 N] 29 (0, 0)) := (B1.block _ (by simp; omega)).trans (by rw [← hgs]; exact heap_alloc_new _ _)
    have p1 : w1.cell? ⟨g, 1, none⟩ = some (.string D) := (cell_of_block e0 1).trans rfl
    have p2 : w1.cell? ⟨g, 2, none⟩ = some (.int .i64 N) := (cell_of_block e0 2).trans rfl
    clear B1 I e0 hr
    go_wp2_with (go_at_call 39; refine (IN _).mono ?_; rintro e w' ⟨rfl, hw⟩; obtain rfl := hw.symm)
    go_ret
    exact ⟨rfl, hB.out⟩

end Go.Proofs.YtgepplddhmgifaaDoor

namespace Go.Proofs.YtgepplddhmgifaaDoor
open Go.ChangeShapes Go.WideShapes Go.ChangeAt Go.RowKit Go.Deep

/-- The next multiple of A from N on. -/
def upA (N A : Int) : Int := (N + A - 1) / A * A
theorem upA_in {N A : Int} (hA : A = 1 ∨ A = 2 ∨ A = 4 ∨ A = 8) : N ≤ upA N A ∧ upA N A ≤ N + 7 := by
  unfold upA
  rcases hA with rfl | rfl | rfl | rfl <;> omega
theorem up_go {N A : Int} (hA : A = 1 ∨ A = 2 ∨ A = 4 ∨ A = 8) (h0 : 0 ≤ N) (h1 : N ≤ 1048576) : wrap64 (N + A) = N + A ∧ wrap64 (N + A - 1) = N + A - 1 ∧ 1 ≤ A ∧ (A == 0) = false ∧ ∃ q, (N + A - 1).tdiv A = q ∧ wrap64 q = q ∧ q * A = upA N A ∧ wrap64 (upA N A) = upA N A := by
  have h2 := upA_in (N := N) hA
  have h3 : (N + A - 1).tdiv A = (N + A - 1) / A := Int.tdiv_eq_ediv_of_nonneg (by omega)
  refine ⟨by unfold wrap64; omega, by unfold wrap64; omega, by omega, by rw [beq_eq_false_iff_ne]; omega, (N + A - 1) / A, h3, ?_, rfl, by unfold wrap64; omega⟩
  have : 0 ≤ (N + A - 1) / A ∧ (N + A - 1) / A ≤ 1048600 := by rcases hA with rfl | rfl | rfl | rfl <;> omega
  unfold wrap64; omega

theorem implFilled (N A : Int) (hA : A = 1 ∨ A = 2 ∨ A = 4 ∨ A = 8) (h0 : 0 ≤ N) (h1 : N ≤ 1048576) (w : World) :
    Calls Tryd.prog 47 #[.int .i64 N, .int .i64 A] w fun e w' => e = .returned (.int .i64 (upA N A)) ∧ w' = w := by
  obtain ⟨v1, v2, v3, v4, q, v5, v6, v7, v8⟩ := up_go hA h0 h1
  obtain ⟨u, hu⟩ : ∃ u, upA N A = u := ⟨_, rfl⟩
  rw [hu] at v7 v8 ⊢
  clear hA h0 h1 hu
  go_enter Tryd.func47, Tryd.ntmps47
  go_wp2
  go_ret
  exact ⟨by show Ending.returned (Value.int IntKind.i64 (wrap64 u)) = _; rw [v8], rfl⟩

theorem specUpH (N A : Int) (hA : A = 1 ∨ A = 2 ∨ A = 4 ∨ A = 8) (h0 : 0 ≤ N) (h1 : N ≤ 1048576) (w : World) :
    Calls Tryd.prog 40 #[.int .i64 N, .int .i64 A] w fun e w' => e = .returned (.int .i64 (upA N A)) ∧ w' = w := by
  obtain ⟨v1, v2, v3, v4, q, v5, v6, v7, v8⟩ := up_go hA h0 h1
  obtain ⟨u, hu⟩ : ∃ u, upA N A = u := ⟨_, rfl⟩
  rw [hu] at v7 v8 ⊢
  clear hA h0 h1 hu
  go_enter Tryd.func40, Tryd.ntmps40
  go_wp2
  go_ret
  exact ⟨by show Ending.returned (Value.int IntKind.i64 (wrap64 u)) = _; rw [v8], rfl⟩

theorem bel_stepK {a b c : World} (h : Below a.heap.size a b) (k : Below b.heap.size b c) : Below a.heap.size a c := h.trans (k.mono h.size)
/-- One that lays down lies at r + 1: its bytes at r, its table behind. -/
structure Lay (w : World) (r c : Nat) (R : Array Value) (D : ByteArray) (N code : Int) : Prop where
  row : w.heap[r]? = some (.cells R 5 (c, c + 1))
  box : w.heap[r + 1]? = some (.cells #[.slice (some ⟨r, 0, none⟩) D.size c, .int .i64 N, .bool false, .int .i64 code, .slice (some ⟨r + 1 + 1, 0, none⟩) 5 5] 74 (0, 0))
  tab : r + 2 < w.heap.size
  hR : R.size = c
  hD : D.size ≤ c
  bytes : ∀ j (h : j < D.data.toList.length), R[j]? = some (.int .u8 (D.data.toList[j].toNat : Int))
/-- Nothing is written but the two blocks. -/
def LFr (r : Nat) (w w' : World) : Prop := Below r w w' ∧ w.heap.size ≤ w'.heap.size ∧ ∀ k, k < w.heap.size → r + 1 < k → w'.heap[k]? = w.heap[k]?
theorem LFr.of_below {r : Nat} {w w' : World} (h : Below w.heap.size w w') (hr : r ≤ w.heap.size) : LFr r w w' := ⟨h.mono hr, h.size, fun k hk _ => h.block k hk⟩
theorem LFr.trans {r : Nat} {a b c : World} (h : LFr r a b) (k : LFr r b c) : LFr r a c := ⟨h.1.trans k.1, Nat.le_trans h.2.1 k.2.1, fun g hg hr => (k.2.2 g (Nat.lt_of_lt_of_le hg h.2.1) hr).trans (h.2.2 g hg hr)⟩
theorem cell_heapH {w w' : World} {g : Nat} (h : w'.heap[g]? = w.heap[g]?) (o : Nat) : w'.cell? ⟨g, o, none⟩ = w.cell? ⟨g, o, none⟩ := by
  simp only [World.cell?, h]
theorem LFr.cell {r : Nat} {a b : World} (h : LFr r a b) {g o : Nat} {v : Value} (hg : g < a.heap.size) (hr : r + 1 < g) (hc : a.cell? ⟨g, o, none⟩ = some v) : b.cell? ⟨g, o, none⟩ = some v := (cell_heapH (h.2.2 g hg hr) _).trans hc
theorem Lay.below {w w' : World} {r c : Nat} {R : Array Value} {D : ByteArray} {N code : Int} (h : Lay w r c R D N code) (hb : Below w.heap.size w w') : Lay w' r c R D N code :=
  ⟨(hb.block _ (by have := h.tab; omega)).trans h.row, (hb.block _ (by have := h.tab; omega)).trans h.box, Nat.lt_of_lt_of_le h.tab hb.size, h.hR, h.hD, h.bytes⟩
theorem bytes_row (D : ByteArray) (c : Nat) (j : Nat) (h : j < D.data.toList.length) : (bytesRow D c)[j]? = some (.int .u8 (D.data.toList[j].toNat : Int)) := by
  rw [← Array.getElem?_toList, bytesRow_list, List.getElem?_append_left (by rw [Lib.byteCells_length]; exact h)]
  unfold Lib.byteCells
  rw [List.getElem?_map, List.getElem?_eq_getElem h]
  rfl

set_option maxRecDepth 100000 in
set_option maxHeartbeats 1600000 in
theorem newLayer (D : ByteArray) (N code : Int) (w : World) :
    Calls Tryd.prog 23 #[.string D, .int .i64 N, .int .i64 code] w fun e w' => ∃ c R, e = .returned (.pointer (some ⟨w.heap.size + 1, 0, none⟩)) ∧ Lay w' w.heap.size c R D N code ∧ Below w.heap.size w w' := by
  have hcv := run_bytes_of_string (P := Tryd.prog) w 9 71 5 D Tryd.underlying9 Tryd.underlying71 Tryd.underlying5
  obtain ⟨c, hc⟩ : ∃ c, grownCap w D.size 0 5 = c := ⟨_, rfl⟩
  have hcD : D.size ≤ c := by rw [← hc]; exact grownCap_ge _ _ _ _
  rw [hc] at hcv
  have hRs : (bytesRow D c).size = c := by rw [← Array.length_toList, bytesRow_list]; simp [Lib.byteCells_length]; omega
  have hby := bytes_row D c
  obtain ⟨R, hR⟩ : ∃ R, bytesRow D c = R := ⟨_, rfl⟩
  rw [hR] at hcv hRs hby
  rw [hRs] at hcv
  obtain ⟨W, hW⟩ : ∃ W, w.drew.alloc (.cells R 5 (c, c + 1)) = W := ⟨_, rfl⟩
  rw [hW] at hcv
  have hWs : W.heap.size = w.heap.size + 1 := by rw [← hW]; exact Array.size_push ..
  have hWr : W.heap[w.heap.size]? = some (.cells R 5 (c, c + 1)) := by rw [← hW]; exact heap_alloc_new w.drew _
  have hWb : Below w.heap.size w W := by rw [← hW]; exact (Below.refl _ _).drew.alloc (Nat.le_refl _) _
  have HP : Hid (∀ A T, Lay ((W.alloc (.cells #[.slice (some ⟨w.heap.size, 0, none⟩) D.size c, .int .i64 N, .bool false, .int .i64 code, .slice (some ⟨w.heap.size + 1 + 1, 0, none⟩) 5 5] 74)).alloc (.cells A T)) w.heap.size c R D N code ∧ Below w.heap.size w ((W.alloc (.cells #[.slice (some ⟨w.heap.size, 0, none⟩) D.size c, .int .i64 N, .bool false, .int .i64 code, .slice (some ⟨w.heap.size + 1 + 1, 0, none⟩) 5 5] 74)).alloc (.cells A T))) := fun A T => by
    refine ⟨⟨?_, ?_, by simp; omega, hRs, hcD, hby⟩, (hWb.alloc (by omega) _).alloc (by simp; omega) _⟩
    · exact (Below.heap_alloc _ _ _ (by simp; omega)).trans ((Below.heap_alloc _ _ _ (by omega)).trans hWr)
    · exact (Below.heap_alloc _ _ _ (by simp; omega)).trans (new_block _ _ (by omega))
  clear hW hR hc hby hRs hcD hWr hWb
  go_enter Tryd.func23, Tryd.ntmps23
  go_wp2
  go_ret
  exact ⟨c, R, rfl, (HP.out _ _).1, (HP.out _ _).2⟩

set_option maxRecDepth 100000 in
set_option maxHeartbeats 1600000 in
theorem lTake (w : World) (r c : Nat) (R : Array Value) (D : ByteArray) (N code size align : Int) (h : Lay w r c R D N code) (hA : align = 1 ∨ align = 2 ∨ align = 4 ∨ align = 8) (h0 : 0 ≤ N) (h1 : N ≤ (D.size : Int)) (hD : D.size ≤ 1048576) (hs0 : 0 ≤ size) (b : Bool) (hb : Hid (decide (size ≤ (D.size : Int) - upA N align) = b)) :
    Calls Tryd.prog 24 #[.pointer (some ⟨r + 1, 0, none⟩), .agg #[.int .i64 size, .int .i64 align]] w fun e w' => e = .returned (.tuple #[.int .i64 (if b = true then upA N align else 0), .bool b]) ∧ Lay w' r c R D (if b = true then upA N align + size else N) code ∧ LFr r w w' := by
  have HF := implFilled N align hA h0 (by omega)
  have hU := upA_in (N := N) hA
  have HW := within (upA N align) size (D.size : Int) (by omega) (by omega) (by omega) (by omega)
  have e1 : spIn (D.size : Int) (upA N align, size) = b := by unfold spIn; exact hb.out
  rw [e1] at HW
  have hadd : b = true → wrap64 (upA N align + size) = upA N align + size := fun hbt => by
    have := hb.out
    rw [hbt] at this
    simp at this
    unfold wrap64; omega
  generalize upA N align = U at *
  obtain ⟨z, hz⟩ : ∃ z, w.heap.size = z := ⟨_, rfl⟩
  obtain ⟨n, hn⟩ : ∃ n, D.size = n := ⟨_, rfl⟩
  have htab := h.tab
  have hbox := h.box
  rw [hn] at hbox HW
  obtain ⟨W, hW⟩ : ∃ W, w.alloc (.cells #[.int .i64 size, .int .i64 align] 53) = W := ⟨_, rfl⟩
  have hWb : Below w.heap.size w W := by rw [← hW]; exact (Below.refl _ _).alloc (Nat.le_refl _) _
  have hWs : W.heap.size = z + 1 := by rw [← hW, ← hz]; simp
  have q : W.heap[z]? = some (.cells #[.int .i64 size, .int .i64 align] 53 (0, 0)) := by rw [← hW, ← hz]; exact heap_alloc_new _ _
  have p : W.heap[r + 1]? = some (.cells #[.slice (some ⟨r, 0, none⟩) n c, .int .i64 N, .bool false, .int .i64 code, .slice (some ⟨r + 1 + 1, 0, none⟩) 5 5] 74 (0, 0)) := (hWb.block _ (by omega)).trans hbox
  have k0 : ∀ w, Keeps W w → w.cell? ⟨z, 0, none⟩ = some (.int .i64 size) := fun w h => h.cell (by omega) ((cell_of_block q 0).trans rfl)
  have k1 : ∀ w, Keeps W w → w.cell? ⟨z, 1, none⟩ = some (.int .i64 align) := fun w h => h.cell (by omega) ((cell_of_block q 1).trans rfl)
  have k2 : ∀ w, Keeps W w → w.cell? ⟨r + 1, 1, none⟩ = some (.int .i64 N) := fun w h => h.cell (by omega) ((cell_of_block p 1).trans rfl)
  have k3 : ∀ w, Keeps W w → w.cell? ⟨r + 1, 0, none⟩ = some (.slice (some ⟨r, 0, none⟩) n c) := fun w h => h.cell (by omega) ((cell_of_block p 0).trans rfl)
  have HH : Hid (∀ w1, Keeps W w1 → Lay w1 r c R D N code ∧ Below w.heap.size w w1 ∧ w1.cell? ⟨r + 1, 1, none⟩ = some (.int .i64 N) ∧ w1.frozen? ⟨r + 1, 1, none⟩ = false ∧ w1.cell? ⟨r + 1, 2, none⟩ = some (.bool false) ∧ w1.cell? ⟨z, 0, none⟩ = some (.int .i64 size)) := fun w1 hk => by
    have hb1 : Below w.heap.size w w1 := bel_step hWb hk.below
    have hbx := (hb1.block _ (by omega)).trans hbox
    exact ⟨h.below hb1, hb1, (cell_of_block hbx 1).trans rfl, free_of_block hbx 1, (cell_of_block hbx 2).trans rfl, k0 _ hk⟩
  have hzl : r + 1 < z := by omega
  clear hWb p q hbox h hb hU hA h0 h1 hD hs0 e1
  go_enter Tryd.func24, Tryd.ntmps24
  go_wp2
  refine region_w (C := Keeps W) (by kernel_rfl) (by kernel_rfl) (Keeps.drew W) ?_
  (iterate 8
    (apply wq_go _ (by rfl)
     · intro wq hq
       go_simp
       first
         | (go_at_call 47; exact qsame hq (HF _))
         | exact rfl
     simp only [Act.put, List.setIfInBounds_toArray, List.set_cons_succ, List.set_cons_zero]))
  refine wq_nil ?_
  intro w1 hk1
  obtain ⟨_, _, _, _, c2, _⟩ := HH.out w1 hk1
  have hk1' : Hid (Keeps W w1) := hk1
  have HKs : Hid (∀ w2, Keeps w1 w2 → Keeps W w2) := fun w2 h2 => ⟨bel_stepK hk1.below h2.below⟩
  have j0 : ∀ w, Keeps w1 w → w.cell? ⟨z, 0, none⟩ = some (.int .i64 size) := fun w h => k0 w (HKs.out w h)
  have j3 : ∀ w, Keeps w1 w → w.cell? ⟨r + 1, 0, none⟩ = some (.slice (some ⟨r, 0, none⟩) n c) := fun w h => k3 w (HKs.out w h)
  clear k0 k1 k2 k3 hk1
  go_wp2
  refine region_w (C := Keeps w1) (by kernel_rfl) (by kernel_rfl) (Keeps.drew w1) ?_
  (iterate 11
    (apply wq_go _ (by rfl)
     · intro wq hq
       go_simp
       first
         | (go_at_call 48; exact qcall hq (HW _))
         | exact rfl
     simp only [Act.put, List.setIfInBounds_toArray, List.set_cons_succ, List.set_cons_zero]))
  refine wq_nil ?_
  intro w2 hk2
  obtain ⟨l2, b2, d1, f1, _, d0⟩ := HH.out w2 (HKs.out w2 hk2)
  have hB2 : Hid (Below w.heap.size w w2) := b2
  have L2 : Hid (Lay w2 r c R D N code) := l2
  clear j0 j3 hk1' HKs HH c2 b2 l2 hk2
  cases b with
  | false =>
    go_wp2
    go_ret2
    exact ⟨rfl, L2.out, LFr.of_below hB2.out (by omega)⟩
  | true =>
    have ha := hadd rfl
    clear hadd
    go_wp2
    go_ret2
    refine ⟨rfl, ?_, ?_⟩
    · have l2 := L2.out
      have hbx := l2.box
      refine ⟨(heap_setCell_other _ _ _ _ (by simp)).trans l2.row, ?_, by simpa using l2.tab, l2.hR, l2.hD, l2.bytes⟩
      rw [heap_setCell_same _ _ _ _ _ _ hbx]
      rfl
    · refine ⟨(hB2.out.mono (by omega)).setCell (by simp) _, by simpa using hB2.out.size, fun k hk hr => ?_⟩
      exact (heap_setCell_other _ _ _ _ (by simp; omega)).trans (hB2.out.block k hk)

end Go.Proofs.YtgepplddhmgifaaDoor

namespace Go.Proofs.YtgepplddhmgifaaDoor
open Go.ChangeShapes Go.WideShapes Go.ChangeAt Go.RowKit Go.Deep

def alB (A : Int) : Bool := A == 1 || A == 2 || A == 4 || A == 8
theorem alB_yes {A : Int} (h : alB A = true) : A = 1 ∨ A = 2 ∨ A = 4 ∨ A = 8 := by simpa [alB, or_assoc] using h

theorem implAlign (A : Int) (w : World) : Calls Tryd.prog 21 #[.int .i64 A] w fun e w' => e = .returned (.bool (alB A)) ∧ w' = w := by
  by_cases h1 : A = 1
  · subst h1
    go_enter Tryd.func21, Tryd.ntmps21
    go_wp2
    go_ret
    exact ⟨rfl, rfl⟩
  · by_cases h2 : A = 2
    · subst h2
      go_enter Tryd.func21, Tryd.ntmps21
      go_wp2
      go_ret
      exact ⟨rfl, rfl⟩
    · by_cases h4 : A = 4
      · subst h4
        go_enter Tryd.func21, Tryd.ntmps21
        go_wp2
        go_ret
        exact ⟨rfl, rfl⟩
      · by_cases h8 : A = 8
        · subst h8
          go_enter Tryd.func21, Tryd.ntmps21
          go_wp2
          go_ret
          exact ⟨rfl, rfl⟩
        · have e1 : (A == 1) = false := by rw [beq_eq_false_iff_ne]; exact h1
          have e2 : (A == 2) = false := by rw [beq_eq_false_iff_ne]; exact h2
          have e4 : (A == 4) = false := by rw [beq_eq_false_iff_ne]; exact h4
          have e8 : (A == 8) = false := by rw [beq_eq_false_iff_ne]; exact h8
          rw [show alB A = false by unfold alB; rw [e1, e2, e4, e8]; rfl]
          go_enter Tryd.func21, Tryd.ntmps21
          go_wp2
          go_ret
          exact ⟨rfl, rfl⟩

theorem specAlign (A : Int) (w : World) : Calls Tryd.prog 18 #[.int .i64 A] w fun e w' => e = .returned (.bool (alB A)) ∧ w' = w := by
  by_cases h1 : A = 1
  · subst h1
    go_enter Tryd.func18, Tryd.ntmps18
    go_wp2
    go_ret
    exact ⟨rfl, rfl⟩
  · by_cases h2 : A = 2
    · subst h2
      go_enter Tryd.func18, Tryd.ntmps18
      go_wp2
      go_ret
      exact ⟨rfl, rfl⟩
    · by_cases h4 : A = 4
      · subst h4
        go_enter Tryd.func18, Tryd.ntmps18
        go_wp2
        go_ret
        exact ⟨rfl, rfl⟩
      · have e1 : (A == 1) = false := by rw [beq_eq_false_iff_ne]; exact h1
        have e2 : (A == 2) = false := by rw [beq_eq_false_iff_ne]; exact h2
        have e4 : (A == 4) = false := by rw [beq_eq_false_iff_ne]; exact h4
        obtain ⟨r, hr⟩ : ∃ r, (A == 8) = r := ⟨_, rfl⟩
        rw [show alB A = r by unfold alB; rw [e1, e2, e4, hr]; rfl]
        go_enter Tryd.func18, Tryd.ntmps18
        go_wp2
        go_ret
        exact ⟨rfl, rfl⟩

/-- What a refusal tells of a heap. -/
def kM (M : Int) (D : ByteArray) (N : Int) : Int := if goodH M D N = true then M else 0
def kD (M : Int) (D : ByteArray) (N : Int) : ByteArray := if goodH M D N = true then D else ⟨#[]⟩
def kN (M : Int) (D : ByteArray) (N : Int) : Int := if goodH M D N = true then N else 0
theorem heap_blk {w : World} {c : Array Value} {t : TypeId} {g : Nat} (h : w.heap.size = g) : (w.alloc (.cells c t)).heap[g]? = some (.cells c t (0, 0)) := by rw [← h]; exact heap_alloc_new _ _
theorem heap_old {w : World} {o : Obj} {g : Nat} {x : Obj} (h : w.heap[g]? = some x) : (w.alloc o).heap[g]? = some x := by
  refine (Below.heap_alloc _ _ _ ?_).trans h
  rcases Nat.lt_or_ge g w.heap.size with h' | h'
  · exact h'
  · rw [Array.getElem?_eq_none h'] at h; simp at h

set_option maxRecDepth 100000 in
set_option maxHeartbeats 1600000 in
theorem heapAsItWas (M : Int) (D : ByteArray) (N : Int) (h : D.size ≤ 1048576) (w : World) :
    Calls Tryd.prog 22 #[hpV M D N] w fun e w' => e = .returned (hpV (kM M D N) (kD M D N) (kN M D N)) ∧ Below w.heap.size w w' := by
  have HG := implGoodHeap M D N h
  have HA := asItWas M D h
  obtain ⟨g, hgs⟩ : ∃ g, w.heap.size = g := ⟨_, rfl⟩
  unfold kM kD kN
  cases hg : goodH M D N with
  | false =>
    rw [hg] at HG
    simp only [Bool.false_eq_true, if_false]
    clear hg HA h
    go_enter Tryd.func22, Tryd.ntmps22
    go_wp2_with fail
    refine (HG _).mono ?_
    rintro e w1 ⟨rfl, B1⟩
    have hs := B1.size
    simp at hs
    have hB : Hid (Below w.heap.size w w1) := by unfold Hid; ((repeat (first | refine bel_alloc ?_ _ | refine bel_dN ?_ _ | refine Below.drew ?_ | refine Below.setCell ?_ (by first | (simp; done) | (simp; omega)) _)); refine bel_step ?_ B1; (repeat (first | refine bel_alloc ?_ _ | refine bel_dN ?_ _ | refine Below.drew ?_ | refine Below.setCell ?_ (by first | (simp; done) | (simp; omega)) _)); exact Below.refl _ _)
    have e1 : w1.heap[g + 1]? = some (.cells #[.int .i64 0, .string ⟨#[]⟩, .int .i64 0] 29 (0, 0)) := (B1.block _ (by simp; omega)).trans (heap_blk (by simp; omega))
    have q0 : w1.cell? ⟨g + 1, 0, none⟩ = some (.int .i64 0) := (cell_of_block e1 0).trans rfl
    have q1 : w1.cell? ⟨g + 1, 1, none⟩ = some (.string ⟨#[]⟩) := (cell_of_block e1 1).trans rfl
    have q2 : w1.cell? ⟨g + 1, 2, none⟩ = some (.int .i64 0) := (cell_of_block e1 2).trans rfl
    have z0 := free_of_block e1 0
    have z1 := free_of_block e1 1
    have z2 := free_of_block e1 2
    have F := set3 e1 (.int .i64 0) (.string ⟨#[]⟩) (.int .i64 0) rfl
    have k0 := (cell_of_block F 0).trans (show _ = some (Value.int .i64 0) from rfl)
    have k1 := (cell_of_block F 1).trans (show _ = some (Value.string ⟨#[]⟩) from rfl)
    have k2 := (cell_of_block F 2).trans (show _ = some (Value.int .i64 0) from rfl)
    clear B1 HG e1 F
    go_wp2
    refine bodyPost_ret (v := hpV 0 ⟨#[]⟩ 0) (by simp [results, Tryd.results22, go_sem, k0, k1, k2]) rfl ⟨rfl, ?_⟩
    refine Below.setCell (Below.setCell (Below.setCell hB.out ?_ _) ?_ _) ?_ _ <;> simp <;> omega
  | true =>
    rw [hg] at HG
    obtain ⟨g1, _, _⟩ := goodH_yes hg
    simp only [kept, g1, if_true] at HA
    simp only [if_true]
    clear hg g1 h
    go_enter Tryd.func22, Tryd.ntmps22
    go_wp2_with fail
    refine (HG _).mono ?_
    rintro e w1 ⟨rfl, B1⟩
    have hs := B1.size
    simp at hs
    have hB : Hid (Below w.heap.size w w1) := by unfold Hid; ((repeat (first | refine bel_alloc ?_ _ | refine bel_dN ?_ _ | refine Below.drew ?_ | refine Below.setCell ?_ (by first | (simp; done) | (simp; omega)) _)); refine bel_step ?_ B1; (repeat (first | refine bel_alloc ?_ _ | refine bel_dN ?_ _ | refine Below.drew ?_ | refine Below.setCell ?_ (by first | (simp; done) | (simp; omega)) _)); exact Below.refl _ _)
    have e0 : w1.heap[g]? = some (.cells #[.int .i64 M, .string D, .int .i64 N] 29 (0, 0)) := (B1.block _ (by simp; omega)).trans (heap_old (heap_blk hgs))
    have e1 : w1.heap[g + 1]? = some (.cells #[.int .i64 0, .string ⟨#[]⟩, .int .i64 0] 29 (0, 0)) := (B1.block _ (by simp; omega)).trans (heap_blk (by simp; omega))
    have k0 : ∀ w, Keeps w1 w → w.cell? ⟨g, 0, none⟩ = some (.int .i64 M) := fun wx h => h.cell (by omega) ((cell_of_block e0 0).trans rfl)
    have k1 : ∀ w, Keeps w1 w → w.cell? ⟨g, 1, none⟩ = some (.string D) := fun wx h => h.cell (by omega) ((cell_of_block e0 1).trans rfl)
    have k2 : ∀ w, Keeps w1 w → w.cell? ⟨g, 2, none⟩ = some (.int .i64 N) := fun wx h => h.cell (by omega) ((cell_of_block e0 2).trans rfl)
    have E1 : Hid (∀ w, Keeps w1 w → w.heap[g + 1]? = some (.cells #[.int .i64 0, .string ⟨#[]⟩, .int .i64 0] 29 (0, 0))) := fun wx h => (h.below.block _ (by omega)).trans e1
    clear B1 HG e0 e1
    go_wp2_with fail
    refine region_qtail (C := Keeps w1) 6 (by kernel_rfl) (by kernel_rfl) (Keeps.drew w1) ?_
    (iterate 6
    (apply wpQuiet_go _ (by rfl)
     · intro wq hq
       go_simp
       first
         | (go_at_call 41; exact qcall hq (HA _))
         | exact rfl
     simp only [Act.put, List.setIfInBounds_toArray, List.set_cons_succ, List.set_cons_zero]))
    refine wpQuiet_nil ?_
    intro w2 hk
    have e1 := E1.out _ hk
    have q0 : w2.cell? ⟨g + 1, 0, none⟩ = some (.int .i64 0) := (cell_of_block e1 0).trans rfl
    have q1 : w2.cell? ⟨g + 1, 1, none⟩ = some (.string ⟨#[]⟩) := (cell_of_block e1 1).trans rfl
    have q2 : w2.cell? ⟨g + 1, 2, none⟩ = some (.int .i64 0) := (cell_of_block e1 2).trans rfl
    have z0 := free_of_block e1 0
    have z1 := free_of_block e1 1
    have z2 := free_of_block e1 2
    have F := set3 e1 (.int .i64 M) (.string D) (.int .i64 N) rfl
    have k7 := (cell_of_block F 0).trans (show _ = some (Value.int .i64 M) from rfl)
    have k8 := (cell_of_block F 1).trans (show _ = some (Value.string D) from rfl)
    have k9 := (cell_of_block F 2).trans (show _ = some (Value.int .i64 N) from rfl)
    have hb := hk.below
    clear k0 k1 k2 E1 HA hk e1 F
    go_wp2
    refine bodyPost_ret (v := hpV M D N) (by simp [results, Tryd.results22, go_sem, k7, k8, k9]) rfl ⟨rfl, ?_⟩
    refine Below.setCell (Below.setCell (Below.setCell (bel_step hB.out hb) ?_ _) ?_ _) ?_ _ <;> simp <;> omega

set_option maxRecDepth 100000 in
set_option maxHeartbeats 1600000 in
theorem lHeap (w : World) (r c : Nat) (R : Array Value) (D : ByteArray) (N code : Int) (M N0 : Int) (D0 : ByteArray) (h : Lay w r c R D N code) :
    Calls Tryd.prog 25 #[.pointer (some ⟨r + 1, 0, none⟩), hpV M D0 N0] w fun e w' => e = .returned (hpV M D N) ∧ Below w.heap.size w w' := by
  obtain ⟨g, hgs⟩ : ∃ g, w.heap.size = g := ⟨_, rfl⟩
  have htab := h.tab
  obtain ⟨W, hW⟩ : ∃ W, (w.alloc (.cells #[.int .i64 M, .string D0, .int .i64 N0] 29)).alloc (.cells #[.int .i64 0, .string ⟨#[]⟩, .int .i64 0] 29) = W := ⟨_, rfl⟩
  have hWb : Below w.heap.size w W := by rw [← hW]; (repeat (first | refine Below.alloc ?_ (by first | (simp; done) | (simp; omega)) _ | refine Below.setCell ?_ (by first | (simp; done) | (simp; omega)) _ | refine bel_dN ?_ _ | refine Below.drew ?_ | exact Below.refl _ _))
  have hWs : W.heap.size = g + 2 := by rw [← hW, ← hgs]; simp
  have e0 : W.heap[g]? = some (.cells #[.int .i64 M, .string D0, .int .i64 N0] 29 (0, 0)) := by rw [← hW]; exact heap_old (heap_blk hgs)
  have e1 : W.heap[g + 1]? = some (.cells #[.int .i64 0, .string ⟨#[]⟩, .int .i64 0] 29 (0, 0)) := by rw [← hW]; exact heap_blk (by simp; omega)
  have hb := h.box
  have hr := h.row
  have p := (hWb.block _ (by omega)).trans hb
  have p' := (hWb.block _ (by omega)).trans hr
  obtain ⟨n, hn⟩ : ∃ n, D.size = n := ⟨_, rfl⟩
  have k0 : ∀ w, Keeps W w → w.cell? ⟨g, 0, none⟩ = some (.int .i64 M) := fun w h => h.cell (by omega) ((cell_of_block e0 0).trans rfl)
  have k1 : ∀ w, Keeps W w → w.cell? ⟨r + 1, 0, none⟩ = some (.slice (some ⟨r, 0, none⟩) n c) := fun w h => h.cell (by omega) (by rw [← hn]; exact (cell_of_block p 0).trans rfl)
  have k2 : ∀ w, Keeps W w → w.cell? ⟨r + 1, 1, none⟩ = some (.int .i64 N) := fun w h => h.cell (by omega) ((cell_of_block p 1).trans rfl)
  have k3 : ∀ w, Keeps W w → (convert 71 9 (.slice (some ⟨r, 0, none⟩) n c)).run Tryd.prog w = .ok (.string D) w := fun w1 hk => by
    have hcb := run_convert_bytes_back (P := Tryd.prog) w1 71 9 5 ⟨r, 0, none⟩ c D.data.toList Tryd.underlying71 Tryd.underlying5 Tryd.underlying9 (fun j hj => by
      have hrr := (hk.below.block r (by omega)).trans p'
      rw [Addr.add_lit, Nat.zero_add]
      have : w1.cell? ⟨r, j, none⟩ = R[j]? := by simp [World.cell?, hrr]
      rw [this]
      exact h.bytes j hj)
    rw [← Lib.size_eq, Lib.mk_data, hn] at hcb
    exact hcb
  have E1 : Hid (∀ w, Keeps W w → w.heap[g + 1]? = some (.cells #[.int .i64 0, .string ⟨#[]⟩, .int .i64 0] 29 (0, 0))) := fun wx h => (h.below.block _ (by omega)).trans e1
  have HB : Hid (Below w.heap.size w W) := hWb
  clear hWb e0 e1 hb hr p p' h hn
  go_enter Tryd.func25, Tryd.ntmps25
  go_wp2
  refine region_qtail (C := Keeps W) 14 (by kernel_rfl) (by kernel_rfl) (Keeps.drew W) ?_
  (iterate 14
    (apply wpQuiet_go _ (by rfl)
     · intro wq hq
       go_simp
       first
         | exact rfl
     simp only [Act.put, List.setIfInBounds_toArray, List.set_cons_succ, List.set_cons_zero]))
  refine wpQuiet_nil ?_
  intro w2 hk
  have e1 := E1.out _ hk
  have q0 : w2.cell? ⟨g + 1, 0, none⟩ = some (.int .i64 0) := (cell_of_block e1 0).trans rfl
  have q1 : w2.cell? ⟨g + 1, 1, none⟩ = some (.string ⟨#[]⟩) := (cell_of_block e1 1).trans rfl
  have q2 : w2.cell? ⟨g + 1, 2, none⟩ = some (.int .i64 0) := (cell_of_block e1 2).trans rfl
  have z0 := free_of_block e1 0
  have z1 := free_of_block e1 1
  have z2 := free_of_block e1 2
  have F := set3 e1 (.int .i64 M) (.string D) (.int .i64 N) rfl
  have k7 := (cell_of_block F 0).trans (show _ = some (Value.int .i64 M) from rfl)
  have k8 := (cell_of_block F 1).trans (show _ = some (Value.string D) from rfl)
  have k9 := (cell_of_block F 2).trans (show _ = some (Value.int .i64 N) from rfl)
  have hb := hk.below
  clear k0 k1 k2 k3 E1 hk e1 F
  go_wp2
  refine bodyPost_ret (v := hpV M D N) (by simp [results, Tryd.results25, go_sem, k7, k8, k9]) rfl ⟨rfl, ?_⟩
  refine Below.setCell (Below.setCell (Below.setCell (bel_step HB.out hb) ?_ _) ?_ _) ?_ _ <;> simp <;> omega

end Go.Proofs.YtgepplddhmgifaaDoor

namespace Go.Proofs.YtgepplddhmgifaaDoor
open Go.ChangeShapes Go.WideShapes Go.ChangeAt Go.RowKit Go.Deep

/-- What is told. -/
def trOk (M : Int) (D : ByteArray) (N A S : Int) : Bool := goodH M D N && (alB A && decide (0 ≤ S))
def trIn (D : ByteArray) (N A S : Int) : Bool := decide (S ≤ (D.size : Int) - upA N A)
def trV (M : Int) (D : ByteArray) (N A S : Int) : Value :=
  if trOk M D N A S = true then (if trIn D N A S = true then .tuple #[hpV M D (upA N A + S), .int .i64 (upA N A), .int .i64 0] else .tuple #[hpV M D N, .int .i64 0, .int .i64 2])
  else .tuple #[hpV (kM M D N) (kD M D N) (kN M D N), .int .i64 0, .int .i64 1]

set_option maxRecDepth 100000 in
set_option maxHeartbeats 1600000 in
theorem implTake_bad (M : Int) (D : ByteArray) (N A S : Int) (h : D.size ≤ 1048576) (hb : trOk M D N A S = false) (w : World) :
    Calls Tryd.prog 9 #[hpV M D N, .int .i64 A, .int .i64 S] w fun e w' => e = .returned (trV M D N A S) ∧ Below w.heap.size w w' := by
  have HG := implGoodHeap M D N h
  have HA := implAlign A
  have HW := heapAsItWas M D N h
  rw [show trV M D N A S = .tuple #[hpV (kM M D N) (kD M D N) (kN M D N), .int .i64 0, .int .i64 1] by unfold trV; rw [hb]; rfl]
  generalize kM M D N = M' at *
  generalize kD M D N = D' at *
  generalize kN M D N = N' at *
  obtain ⟨g, hgs⟩ : ∃ g, w.heap.size = g := ⟨_, rfl⟩
  unfold trOk at hb
  generalize goodH M D N = G at *
  generalize alB A = L at *
  obtain ⟨s, hs9⟩ : ∃ s, decide (0 ≤ S) = s := ⟨_, rfl⟩
  rw [hs9] at hb
  have hS : decide (S < 0) = !s := by rw [← hs9]; by_cases h0 : 0 ≤ S <;> simp [h0] <;> omega
  have HB : Hid ((G && (L && s)) = false) := hb
  clear hb hs9 h
  go_enter Tryd.func9, Tryd.ntmps9
  go_wp2_with fail
  refine (HG _).mono ?_
  rintro e w1 ⟨rfl, B1⟩
  have hs := B1.size
  simp at hs
  have hB : Hid (Below w.heap.size w w1) := by unfold Hid; ((repeat (first | refine bel_alloc ?_ _ | refine bel_dN ?_ _ | refine Below.drew ?_ | refine Below.setCell ?_ (by first | (simp; done) | (simp; omega)) _)); refine bel_step ?_ B1; (repeat (first | refine bel_alloc ?_ _ | refine bel_dN ?_ _ | refine Below.drew ?_ | refine Below.setCell ?_ (by first | (simp; done) | (simp; omega)) _)); exact Below.refl _ _)
  have e0 : w1.heap[g]? = some (.cells #[.int .i64 M, .string D, .int .i64 N] 29 (0, 0)) := (B1.block _ (by simp; omega)).trans (heap_old (heap_blk hgs))
  have e1 : w1.heap[g + 1]? = some (.cells #[.int .i64 0, .string ⟨#[]⟩, .int .i64 0] 29 (0, 0)) := (B1.block _ (by simp; omega)).trans (heap_blk (by simp; omega))
  have p0 : w1.cell? ⟨g, 0, none⟩ = some (.int .i64 M) := (cell_of_block e0 0).trans rfl
  have p1 : w1.cell? ⟨g, 1, none⟩ = some (.string D) := (cell_of_block e0 1).trans rfl
  have p2 : w1.cell? ⟨g, 2, none⟩ = some (.int .i64 N) := (cell_of_block e0 2).trans rfl
  clear B1 HG e0
  have HEND : Hid (∀ w2, Below w1.heap.size w1 w2 → w2.heap[g + 1]? = some (.cells #[.int .i64 0, .string ⟨#[]⟩, .int .i64 0] 29 (0, 0)) ∧ Below w.heap.size w w2 ∧ g + 1 < w2.heap.size) := fun w2 b2 => ⟨(b2.block _ (by omega)).trans e1, bel_stepK hB.out b2, by have := b2.size; omega⟩
  clear e1 hs
  cases G with
  | false =>
    clear HA HB
    go_wp2_with fail
    refine (HW _).mono ?_
    rintro e w2 ⟨rfl, b2⟩
    obtain ⟨e1, hb2, hl⟩ := HEND.out w2 b2
    clear HW b2 HEND p0 p1 p2
    have q0 : w2.cell? ⟨g + 1, 0, none⟩ = some (.int .i64 0) := (cell_of_block e1 0).trans rfl
    have q1 : w2.cell? ⟨g + 1, 1, none⟩ = some (.string ⟨#[]⟩) := (cell_of_block e1 1).trans rfl
    have q2 : w2.cell? ⟨g + 1, 2, none⟩ = some (.int .i64 0) := (cell_of_block e1 2).trans rfl
    have z0 := free_of_block e1 0
    have z1 := free_of_block e1 1
    have z2 := free_of_block e1 2
    have F := set3 e1 (.int .i64 M') (.string D') (.int .i64 N') rfl
    have k7 := (cell_of_block F 0).trans (show _ = some (Value.int .i64 M') from rfl)
    have k8 := (cell_of_block F 1).trans (show _ = some (Value.string D') from rfl)
    have k9 := (cell_of_block F 2).trans (show _ = some (Value.int .i64 N') from rfl)
    clear e1 F 
    go_wp2
    refine bodyPost_ret (v := .tuple #[hpV M' D' N', .int .i64 0, .int .i64 1]) (by simp [results, Tryd.results9, go_sem, k7, k8, k9]) rfl ⟨rfl, ?_⟩
    refine Below.setCell (Below.setCell (Below.setCell hb2 ?_ _) ?_ _) ?_ _ <;> simp <;> omega
  | true =>
    cases L with
    | false =>
      clear HB
      go_wp2_with (go_at_call 21; refine (HA _).mono ?_; rintro e wa ⟨rfl, hwa⟩; obtain rfl := hwa.symm; clear HA)
      refine (HW _).mono ?_
      rintro e w2 ⟨rfl, b2⟩
      obtain ⟨e1, hb2, hl⟩ := HEND.out w2 b2
      clear HW b2 HEND p0 p1 p2
      have q0 : w2.cell? ⟨g + 1, 0, none⟩ = some (.int .i64 0) := (cell_of_block e1 0).trans rfl
      have q1 : w2.cell? ⟨g + 1, 1, none⟩ = some (.string ⟨#[]⟩) := (cell_of_block e1 1).trans rfl
      have q2 : w2.cell? ⟨g + 1, 2, none⟩ = some (.int .i64 0) := (cell_of_block e1 2).trans rfl
      have z0 := free_of_block e1 0
      have z1 := free_of_block e1 1
      have z2 := free_of_block e1 2
      have F := set3 e1 (.int .i64 M') (.string D') (.int .i64 N') rfl
      have k7 := (cell_of_block F 0).trans (show _ = some (Value.int .i64 M') from rfl)
      have k8 := (cell_of_block F 1).trans (show _ = some (Value.string D') from rfl)
      have k9 := (cell_of_block F 2).trans (show _ = some (Value.int .i64 N') from rfl)
      clear e1 F 
      go_wp2
      refine bodyPost_ret (v := .tuple #[hpV M' D' N', .int .i64 0, .int .i64 1]) (by simp [results, Tryd.results9, go_sem, k7, k8, k9]) rfl ⟨rfl, ?_⟩
      refine Below.setCell (Below.setCell (Below.setCell hb2 ?_ _) ?_ _) ?_ _ <;> simp <;> omega
    | true =>
      obtain rfl : s = false := by have := HB.out; simpa using this
      clear HB
      go_wp2_with (go_at_call 21; refine (HA _).mono ?_; rintro e wa ⟨rfl, hwa⟩; obtain rfl := hwa.symm; clear HA)
      refine (HW _).mono ?_
      rintro e w2 ⟨rfl, b2⟩
      obtain ⟨e1, hb2, hl⟩ := HEND.out w2 b2
      clear HW b2 HEND p0 p1 p2
      have q0 : w2.cell? ⟨g + 1, 0, none⟩ = some (.int .i64 0) := (cell_of_block e1 0).trans rfl
      have q1 : w2.cell? ⟨g + 1, 1, none⟩ = some (.string ⟨#[]⟩) := (cell_of_block e1 1).trans rfl
      have q2 : w2.cell? ⟨g + 1, 2, none⟩ = some (.int .i64 0) := (cell_of_block e1 2).trans rfl
      have z0 := free_of_block e1 0
      have z1 := free_of_block e1 1
      have z2 := free_of_block e1 2
      have F := set3 e1 (.int .i64 M') (.string D') (.int .i64 N') rfl
      have k7 := (cell_of_block F 0).trans (show _ = some (Value.int .i64 M') from rfl)
      have k8 := (cell_of_block F 1).trans (show _ = some (Value.string D') from rfl)
      have k9 := (cell_of_block F 2).trans (show _ = some (Value.int .i64 N') from rfl)
      clear e1 F 
      go_wp2
      refine bodyPost_ret (v := .tuple #[hpV M' D' N', .int .i64 0, .int .i64 1]) (by simp [results, Tryd.results9, go_sem, k7, k8, k9]) rfl ⟨rfl, ?_⟩
      refine Below.setCell (Below.setCell (Below.setCell hb2 ?_ _) ?_ _) ?_ _ <;> simp <;> omega

set_option maxRecDepth 100000 in
set_option maxHeartbeats 1600000 in
theorem implTake_good (M : Int) (D : ByteArray) (N A S : Int) (h : D.size ≤ 1048576) (hb : trOk M D N A S = true) (w : World) :
    Calls Tryd.prog 9 #[hpV M D N, .int .i64 A, .int .i64 S] w fun e w' => e = .returned (trV M D N A S) ∧ Below w.heap.size w w' := by
  have HG := implGoodHeap M D N h
  have HA := implAlign A
  have HW := heapAsItWas M D N h
  have HL := newLayer D N 1
  obtain ⟨g1, g2, g3⟩ : goodH M D N = true ∧ alB A = true ∧ 0 ≤ S := by simpa [trOk] using hb
  obtain ⟨_, g4, g5⟩ := goodH_yes g1
  have hAl := alB_yes g2
  unfold kM kD kN at HW
  rw [g1] at HG HW
  simp only [if_true] at HW
  rw [g2] at HA
  obtain ⟨I, hI⟩ : ∃ I, trIn D N A S = I := ⟨_, rfl⟩
  have hI' : Hid (decide (S ≤ (D.size : Int) - upA N A) = I) := hI
  have HTV : Hid (trV M D N A S = if I = true then .tuple #[hpV M D (upA N A + S), .int .i64 (upA N A), .int .i64 0] else .tuple #[hpV M D N, .int .i64 0, .int .i64 2]) := by unfold Hid trV; rw [hb, hI]; rfl
  have HT : Hid (∀ W r c R, Lay W r c R D N 1 → Calls Tryd.prog 24 #[.pointer (some ⟨r + 1, 0, none⟩), .agg #[.int .i64 S, .int .i64 A]] W fun e w' => e = .returned (.tuple #[.int .i64 (if I = true then upA N A else 0), .bool I]) ∧ Lay w' r c R D (if I = true then upA N A + S else N) 1 ∧ LFr r W w') := fun W r c R hl =>
    lTake W r c R D N 1 S A hl hAl g4 g5 h g3 I hI'
  have hS : decide (S < 0) = false := by simp; omega
  obtain ⟨g, hgs⟩ : ∃ g, w.heap.size = g := ⟨_, rfl⟩
  rw [HTV.out]
  generalize upA N A = U at *
  clear hI' HTV hI hb h g1 g2 g3 g4 g5 hAl
  cases I with
  | false =>
    simp only [Bool.false_eq_true, if_false] at HT ⊢
    go_enter Tryd.func9, Tryd.ntmps9
    go_wp2_with fail
    refine (HG _).mono ?_
    rintro e w1 ⟨rfl, B1⟩
    have hs := B1.size
    simp at hs
    have hB : Hid (Below w.heap.size w w1) := by unfold Hid; ((repeat (first | refine bel_alloc ?_ _ | refine bel_dN ?_ _ | refine Below.drew ?_ | refine Below.setCell ?_ (by first | (simp; done) | (simp; omega)) _)); refine bel_step ?_ B1; (repeat (first | refine bel_alloc ?_ _ | refine bel_dN ?_ _ | refine Below.drew ?_ | refine Below.setCell ?_ (by first | (simp; done) | (simp; omega)) _)); exact Below.refl _ _)
    have e0 : w1.heap[g]? = some (.cells #[.int .i64 M, .string D, .int .i64 N] 29 (0, 0)) := (B1.block _ (by simp; omega)).trans (heap_old (heap_blk hgs))
    have e1 : w1.heap[g + 1]? = some (.cells #[.int .i64 0, .string ⟨#[]⟩, .int .i64 0] 29 (0, 0)) := (B1.block _ (by simp; omega)).trans (heap_blk (by simp; omega))
    have p0 : w1.cell? ⟨g, 0, none⟩ = some (.int .i64 M) := (cell_of_block e0 0).trans rfl
    have p1 : w1.cell? ⟨g, 1, none⟩ = some (.string D) := (cell_of_block e0 1).trans rfl
    have p2 : w1.cell? ⟨g, 2, none⟩ = some (.int .i64 N) := (cell_of_block e0 2).trans rfl
    clear B1 HG
    go_wp2_with (go_at_call 21; refine (HA _).mono ?_; rintro e wa ⟨rfl, hwa⟩; obtain rfl := hwa.symm; clear HA)
    refine (HL _).mono ?_
    rintro e w2 ⟨c, R, rfl, L2, b2⟩
    have ht2 := L2.tab
    clear HL p0 p1 p2
    obtain ⟨r, hr⟩ : ∃ r, w1.heap.size = r := ⟨_, rfl⟩
    rw [hr] at L2 b2 hs ht2 ⊢
    have HTT := HT.out w2 r c R L2
    clear HT L2
    go_wp2_with fail
    refine HTT.mono ?_
    rintro e w3 ⟨rfl, L3, f3⟩
    clear HTT
    have b3 : Below r w1 w3 := b2.trans f3.1
    have s3 := f3.2.1
    replace e0 := (b3.block g (by omega)).trans e0
    replace e1 := (b3.block (g + 1) (by omega)).trans e1
    have hB3 : Hid (Below w.heap.size w w3) := hB.out.trans (b3.mono (by omega))
    have p0 : w3.cell? ⟨g, 0, none⟩ = some (.int .i64 M) := (cell_of_block e0 0).trans rfl
    have p1 : w3.cell? ⟨g, 1, none⟩ = some (.string D) := (cell_of_block e0 1).trans rfl
    have p2 : w3.cell? ⟨g, 2, none⟩ = some (.int .i64 N) := (cell_of_block e0 2).trans rfl
    have HEND : Hid (∀ w4, Below w3.heap.size w3 w4 → w4.heap[g + 1]? = some (.cells #[.int .i64 0, .string ⟨#[]⟩, .int .i64 0] 29 (0, 0)) ∧ Below w.heap.size w w4 ∧ g + 1 < w4.heap.size) := fun w4 b4 => ⟨(b4.block _ (by omega)).trans e1, bel_stepK hB3.out b4, by have := b4.size; omega⟩
    clear e0 e1 b2 b3 f3 hB hs
    clear L3
    go_wp2_with fail
    refine (HW _).mono ?_
    rintro e w4 ⟨rfl, b4⟩
    obtain ⟨e1, hb4, hl⟩ := HEND.out w4 b4
    clear HW b4 HEND p0 p1 p2 hB3
    have q0 : w4.cell? ⟨g + 1, 0, none⟩ = some (.int .i64 0) := (cell_of_block e1 0).trans rfl
    have q1 : w4.cell? ⟨g + 1, 1, none⟩ = some (.string ⟨#[]⟩) := (cell_of_block e1 1).trans rfl
    have q2 : w4.cell? ⟨g + 1, 2, none⟩ = some (.int .i64 0) := (cell_of_block e1 2).trans rfl
    have z0 := free_of_block e1 0
    have z1 := free_of_block e1 1
    have z2 := free_of_block e1 2
    have F := set3 e1 (.int .i64 M) (.string D) (.int .i64 N) rfl
    have k7 := (cell_of_block F 0).trans (show _ = some (Value.int .i64 M) from rfl)
    have k8 := (cell_of_block F 1).trans (show _ = some (Value.string D) from rfl)
    have k9 := (cell_of_block F 2).trans (show _ = some (Value.int .i64 N) from rfl)
    clear e1 F 
    go_wp2
    refine bodyPost_ret (v := .tuple #[hpV M D N, .int .i64 0, .int .i64 2]) (by simp [results, Tryd.results9, go_sem, k7, k8, k9]) rfl ⟨rfl, ?_⟩
    refine Below.setCell (Below.setCell (Below.setCell hb4 ?_ _) ?_ _) ?_ _ <;> simp <;> omega
  | true =>
    simp only [if_true] at HT ⊢
    generalize U + S = U2 at *
    go_enter Tryd.func9, Tryd.ntmps9
    go_wp2_with fail
    refine (HG _).mono ?_
    rintro e w1 ⟨rfl, B1⟩
    have hs := B1.size
    simp at hs
    have hB : Hid (Below w.heap.size w w1) := by unfold Hid; ((repeat (first | refine bel_alloc ?_ _ | refine bel_dN ?_ _ | refine Below.drew ?_ | refine Below.setCell ?_ (by first | (simp; done) | (simp; omega)) _)); refine bel_step ?_ B1; (repeat (first | refine bel_alloc ?_ _ | refine bel_dN ?_ _ | refine Below.drew ?_ | refine Below.setCell ?_ (by first | (simp; done) | (simp; omega)) _)); exact Below.refl _ _)
    have e0 : w1.heap[g]? = some (.cells #[.int .i64 M, .string D, .int .i64 N] 29 (0, 0)) := (B1.block _ (by simp; omega)).trans (heap_old (heap_blk hgs))
    have e1 : w1.heap[g + 1]? = some (.cells #[.int .i64 0, .string ⟨#[]⟩, .int .i64 0] 29 (0, 0)) := (B1.block _ (by simp; omega)).trans (heap_blk (by simp; omega))
    have p0 : w1.cell? ⟨g, 0, none⟩ = some (.int .i64 M) := (cell_of_block e0 0).trans rfl
    have p1 : w1.cell? ⟨g, 1, none⟩ = some (.string D) := (cell_of_block e0 1).trans rfl
    have p2 : w1.cell? ⟨g, 2, none⟩ = some (.int .i64 N) := (cell_of_block e0 2).trans rfl
    clear B1 HG
    go_wp2_with (go_at_call 21; refine (HA _).mono ?_; rintro e wa ⟨rfl, hwa⟩; obtain rfl := hwa.symm; clear HA)
    refine (HL _).mono ?_
    rintro e w2 ⟨c, R, rfl, L2, b2⟩
    have ht2 := L2.tab
    clear HL p0 p1 p2
    obtain ⟨r, hr⟩ : ∃ r, w1.heap.size = r := ⟨_, rfl⟩
    rw [hr] at L2 b2 hs ht2 ⊢
    have HTT := HT.out w2 r c R L2
    clear HT L2
    go_wp2_with fail
    refine HTT.mono ?_
    rintro e w3 ⟨rfl, L3, f3⟩
    clear HTT
    have b3 : Below r w1 w3 := b2.trans f3.1
    have s3 := f3.2.1
    replace e0 := (b3.block g (by omega)).trans e0
    replace e1 := (b3.block (g + 1) (by omega)).trans e1
    have hB3 : Hid (Below w.heap.size w w3) := hB.out.trans (b3.mono (by omega))
    have p0 : w3.cell? ⟨g, 0, none⟩ = some (.int .i64 M) := (cell_of_block e0 0).trans rfl
    have p1 : w3.cell? ⟨g, 1, none⟩ = some (.string D) := (cell_of_block e0 1).trans rfl
    have p2 : w3.cell? ⟨g, 2, none⟩ = some (.int .i64 N) := (cell_of_block e0 2).trans rfl
    have HEND : Hid (∀ w4, Below w3.heap.size w3 w4 → w4.heap[g + 1]? = some (.cells #[.int .i64 0, .string ⟨#[]⟩, .int .i64 0] 29 (0, 0)) ∧ Below w.heap.size w w4 ∧ g + 1 < w4.heap.size) := fun w4 b4 => ⟨(b4.block _ (by omega)).trans e1, bel_stepK hB3.out b4, by have := b4.size; omega⟩
    clear e0 e1 b2 b3 f3 hB hs
    have HH := lHeap w3 r c R D U2 1 M N D L3
    clear L3 HW
    go_wp2_with fail
    refine HH.mono ?_
    rintro e w4 ⟨rfl, b4⟩
    obtain ⟨e1, hb4, hl⟩ := HEND.out w4 b4
    clear HH b4 HEND p0 p1 p2 hB3
    have q0 : w4.cell? ⟨g + 1, 0, none⟩ = some (.int .i64 0) := (cell_of_block e1 0).trans rfl
    have q1 : w4.cell? ⟨g + 1, 1, none⟩ = some (.string ⟨#[]⟩) := (cell_of_block e1 1).trans rfl
    have q2 : w4.cell? ⟨g + 1, 2, none⟩ = some (.int .i64 0) := (cell_of_block e1 2).trans rfl
    have z0 := free_of_block e1 0
    have z1 := free_of_block e1 1
    have z2 := free_of_block e1 2
    have F := set3 e1 (.int .i64 M) (.string D) (.int .i64 U2) rfl
    have k7 := (cell_of_block F 0).trans (show _ = some (Value.int .i64 M) from rfl)
    have k8 := (cell_of_block F 1).trans (show _ = some (Value.string D) from rfl)
    have k9 := (cell_of_block F 2).trans (show _ = some (Value.int .i64 U2) from rfl)
    clear e1 F 
    go_wp2
    refine bodyPost_ret (v := .tuple #[hpV M D U2, .int .i64 U, .int .i64 0]) (by simp [results, Tryd.results9, go_sem, k7, k8, k9]) rfl ⟨rfl, ?_⟩
    refine Below.setCell (Below.setCell (Below.setCell hb4 ?_ _) ?_ _) ?_ _ <;> simp <;> omega

theorem implTakeRoom (M : Int) (D : ByteArray) (N A S : Int) (h : D.size ≤ 1048576) (w : World) :
    Calls Tryd.prog 9 #[hpV M D N, .int .i64 A, .int .i64 S] w fun e w' => e = .returned (trV M D N A S) ∧ Below w.heap.size w w' := by
  cases hb : trOk M D N A S with
  | false => exact implTake_bad M D N A S h hb w
  | true => exact implTake_good M D N A S h hb w

end Go.Proofs.YtgepplddhmgifaaDoor

namespace Go.Proofs.YtgepplddhmgifaaDoor
open Go.ChangeShapes Go.WideShapes Go.ChangeAt Go.RowKit Go.Deep

set_option maxRecDepth 100000 in
set_option maxHeartbeats 1600000 in
theorem specTake (M : Int) (D : ByteArray) (N A S : Int) (h : D.size ≤ 1048576) (hA : A = 1 ∨ A = 2 ∨ A = 4 ∨ A = 8) (h0 : 0 ≤ N) (h1 : N ≤ (D.size : Int)) (hS : 0 ≤ S) (I : Bool) (hI : Hid (trIn D N A S = I)) (w : World) :
    Calls Tryd.prog 19 #[hpV M D N, .int .i64 A, .int .i64 S] w fun e w' => e = .returned (.tuple #[hpV M D (if I = true then upA N A + S else N), .int .i64 (if I = true then upA N A else 0), .bool I]) ∧ Below w.heap.size w w' := by
  have HU := specUpH N A hA h0 (by omega)
  have hU := upA_in (N := N) hA
  have hi := hI.out
  unfold trIn at hi
  obtain ⟨n, hn⟩ : ∃ n : Int, (D.size : Int) = n := ⟨_, rfl⟩
  rw [hn] at hi
  generalize upA N A = U at *
  have v1 : U ≤ n → wrap64 (n - U) = n - U := fun _ => by unfold wrap64; omega
  have hUn : ¬ U ≤ n → I = false := fun h => by rw [← hi]; simp; omega
  have v2 : I = true → wrap64 (U + S) = U + S := fun h => by rw [h] at hi; simp at hi; unfold wrap64; omega
  have hgt : decide (n - U < S) = !I := by rw [← hi]; by_cases hc : S ≤ n - U <;> simp [hc] <;> omega
  clear hI hi hA h0 h1 hS h hU
  obtain ⟨g, hgs⟩ : ∃ g, w.heap.size = g := ⟨_, rfl⟩
  obtain ⟨W, hW⟩ : ∃ W, (w.alloc (.cells #[.int .i64 M, .string D, .int .i64 N] 29)).alloc (.cells #[.int .i64 0, .string ⟨#[]⟩, .int .i64 0] 29) = W := ⟨_, rfl⟩
  have hB : Hid (Below w.heap.size w W) := by unfold Hid; rw [← hW]; (repeat (first | refine Below.alloc ?_ (by first | (simp; done) | (simp; omega)) _ | refine Below.setCell ?_ (by first | (simp; done) | (simp; omega)) _ | refine bel_dN ?_ _ | refine Below.drew ?_ | exact Below.refl _ _))
  have hs : W.heap.size = g + 2 := by rw [← hW, ← hgs]; simp
  have e0 : W.heap[g]? = some (.cells #[.int .i64 M, .string D, .int .i64 N] 29 (0, 0)) := by rw [← hW]; exact heap_old (heap_blk hgs)
  have e1 : W.heap[g + 1]? = some (.cells #[.int .i64 0, .string ⟨#[]⟩, .int .i64 0] 29 (0, 0)) := by rw [← hW]; exact heap_blk (by simp; omega)
  have p0 : W.cell? ⟨g, 0, none⟩ = some (.int .i64 M) := (cell_of_block e0 0).trans rfl
  have p1 : W.cell? ⟨g, 1, none⟩ = some (.string D) := (cell_of_block e0 1).trans rfl
  have p2 : W.cell? ⟨g, 2, none⟩ = some (.int .i64 N) := (cell_of_block e0 2).trans rfl
  have y2 := free_of_block e0 2
  clear e0
  by_cases hc : U ≤ n
  · have w1 := v1 hc
    have d1 : decide (n < U) = false := by simp; omega
    clear v1 hUn hc
    cases I with
    | false =>
      simp only [Bool.false_eq_true, if_false, Bool.not_false] at hgt ⊢
      clear v2
      have q0 : W.cell? ⟨g + 1, 0, none⟩ = some (.int .i64 0) := (cell_of_block e1 0).trans rfl
      have q1 : W.cell? ⟨g + 1, 1, none⟩ = some (.string ⟨#[]⟩) := (cell_of_block e1 1).trans rfl
      have q2 : W.cell? ⟨g + 1, 2, none⟩ = some (.int .i64 0) := (cell_of_block e1 2).trans rfl
      have z0 := free_of_block e1 0
      have z1 := free_of_block e1 1
      have z2 := free_of_block e1 2
      have F := set3 e1 (.int .i64 M) (.string D) (.int .i64 N) rfl
      have k7 := (cell_of_block F 0).trans (show _ = some (Value.int .i64 M) from rfl)
      have k8 := (cell_of_block F 1).trans (show _ = some (Value.string D) from rfl)
      have k9 := (cell_of_block F 2).trans (show _ = some (Value.int .i64 N) from rfl)
      clear F
      clear e1
      go_enter Tryd.func19, Tryd.ntmps19
      go_wp2_with (go_at_call 40; refine (HU _).mono ?_; rintro e wa ⟨rfl, hwa⟩; obtain rfl := hwa.symm; clear HU)
      refine bodyPost_ret (v := .tuple #[hpV M D N, .int .i64 0, .bool false]) (by simp [results, Tryd.results19, go_sem, k7, k8, k9]) rfl ⟨rfl, ?_⟩
      refine (Below.setCell (Below.setCell (Below.setCell hB.out ?_ _) ?_ _) ?_ _) <;> simp <;> omega
    | true =>
      simp only [if_true, Bool.not_true] at hgt ⊢
      obtain ⟨U2, hU2⟩ : ∃ x, U + S = x := ⟨_, rfl⟩
      have w2 : wrap64 (U + S) = U2 := (v2 rfl).trans hU2
      rw [hU2]
      clear v2 hU2
      have e2 : (W.setCell ⟨g, 2, none⟩ (.int .i64 U2)).heap[g + 1]? = some (.cells #[.int .i64 0, .string ⟨#[]⟩, .int .i64 0] 29 (0, 0)) := (heap_setCell_other _ _ _ _ (by simp)).trans e1
      have r0 : (W.setCell ⟨g, 2, none⟩ (.int .i64 U2)).cell? ⟨g + 1, 0, none⟩ = some (.int .i64 0) := (cell_of_block e2 0).trans rfl
      have r1 : (W.setCell ⟨g, 2, none⟩ (.int .i64 U2)).cell? ⟨g + 1, 1, none⟩ = some (.string ⟨#[]⟩) := (cell_of_block e2 1).trans rfl
      have r2 : (W.setCell ⟨g, 2, none⟩ (.int .i64 U2)).cell? ⟨g + 1, 2, none⟩ = some (.int .i64 0) := (cell_of_block e2 2).trans rfl
      have x0 := free_of_block e2 0
      have x1 := free_of_block e2 1
      have x2 := free_of_block e2 2
      have F := set3 e2 (.int .i64 M) (.string D) (.int .i64 U2) rfl
      have k7 := (cell_of_block F 0).trans (show _ = some (Value.int .i64 M) from rfl)
      have k8 := (cell_of_block F 1).trans (show _ = some (Value.string D) from rfl)
      have k9 := (cell_of_block F 2).trans (show _ = some (Value.int .i64 U2) from rfl)
      clear F
      have q0 : W.cell? ⟨g + 1, 0, none⟩ = some (.int .i64 0) := (cell_of_block e1 0).trans rfl
      have q1 : W.cell? ⟨g + 1, 1, none⟩ = some (.string ⟨#[]⟩) := (cell_of_block e1 1).trans rfl
      have q2 : W.cell? ⟨g + 1, 2, none⟩ = some (.int .i64 0) := (cell_of_block e1 2).trans rfl
      have z0 := free_of_block e1 0
      have z1 := free_of_block e1 1
      have z2 := free_of_block e1 2
      clear e1 e2
      go_enter Tryd.func19, Tryd.ntmps19
      go_wp2_with (go_at_call 40; refine (HU _).mono ?_; rintro e wa ⟨rfl, hwa⟩; obtain rfl := hwa.symm; clear HU)
      refine bodyPost_ret (v := .tuple #[hpV M D U2, .int .i64 U, .bool true]) (by simp [results, Tryd.results19, go_sem, k7, k8, k9]) rfl ⟨rfl, ?_⟩
      refine (Below.setCell (Below.setCell (Below.setCell (Below.setCell hB.out ?_ _) ?_ _) ?_ _) ?_ _) <;> simp <;> omega
  · obtain rfl := hUn hc
    have d1 : decide (n < U) = true := by simp; omega
    simp only [Bool.false_eq_true, if_false, Bool.not_false] at hgt ⊢
    clear v1 v2 hUn hc hgt
    have q0 : W.cell? ⟨g + 1, 0, none⟩ = some (.int .i64 0) := (cell_of_block e1 0).trans rfl
    have q1 : W.cell? ⟨g + 1, 1, none⟩ = some (.string ⟨#[]⟩) := (cell_of_block e1 1).trans rfl
    have q2 : W.cell? ⟨g + 1, 2, none⟩ = some (.int .i64 0) := (cell_of_block e1 2).trans rfl
    have z0 := free_of_block e1 0
    have z1 := free_of_block e1 1
    have z2 := free_of_block e1 2
    have F := set3 e1 (.int .i64 M) (.string D) (.int .i64 N) rfl
    have k7 := (cell_of_block F 0).trans (show _ = some (Value.int .i64 M) from rfl)
    have k8 := (cell_of_block F 1).trans (show _ = some (Value.string D) from rfl)
    have k9 := (cell_of_block F 2).trans (show _ = some (Value.int .i64 N) from rfl)
    clear F
    clear e1
    go_enter Tryd.func19, Tryd.ntmps19
    go_wp2_with (go_at_call 40; refine (HU _).mono ?_; rintro e wa ⟨rfl, hwa⟩; obtain rfl := hwa.symm; clear HU)
    refine bodyPost_ret (v := .tuple #[hpV M D N, .int .i64 0, .bool false]) (by simp [results, Tryd.results19, go_sem, k7, k8, k9]) rfl ⟨rfl, ?_⟩
    refine (Below.setCell (Below.setCell (Below.setCell hB.out ?_ _) ?_ _) ?_ _) <;> simp <;> omega

set_option maxRecDepth 100000 in
set_option maxHeartbeats 1600000 in
theorem specTakeRoom (M : Int) (D : ByteArray) (N A S : Int) (h : D.size ≤ 1048576) (w : World) :
    Calls Tryd.prog 7 #[hpV M D N, .int .i64 A, .int .i64 S] w fun e w' => e = .returned (trV M D N A S) ∧ Below w.heap.size w w' := by
  have HG := specGoodHeap M D N h
  have HA := specAlign A
  obtain ⟨g, hgs⟩ : ∃ g, w.heap.size = g := ⟨_, rfl⟩
  have HST : Hid (∀ w1, Below ((w.alloc (.cells #[.int .i64 M, .string D, .int .i64 N] 29)).alloc (.cells #[.int .i64 0, .string ⟨#[]⟩, .int .i64 0] 29)).heap.size ((w.alloc (.cells #[.int .i64 M, .string D, .int .i64 N] 29)).alloc (.cells #[.int .i64 0, .string ⟨#[]⟩, .int .i64 0] 29)) w1 → g + 1 < w1.heap.size ∧ Below w.heap.size w w1 ∧ w1.heap[g]? = some (.cells #[.int .i64 M, .string D, .int .i64 N] 29 (0, 0)) ∧ w1.heap[g + 1]? = some (.cells #[.int .i64 0, .string ⟨#[]⟩, .int .i64 0] 29 (0, 0))) := fun w1 B1 => by
    have hs := B1.size
    simp at hs
    refine ⟨by omega, ?_, (B1.block _ (by simp; omega)).trans (heap_old (heap_blk hgs)), (B1.block _ (by simp; omega)).trans (heap_blk (by simp; omega))⟩
    ((repeat (first | refine bel_alloc ?_ _ | refine bel_dN ?_ _ | refine Below.drew ?_ | refine Below.setCell ?_ (by first | (simp; done) | (simp; omega)) _)); refine bel_step ?_ B1; (repeat (first | refine bel_alloc ?_ _ | refine bel_dN ?_ _ | refine Below.drew ?_ | refine Below.setCell ?_ (by first | (simp; done) | (simp; omega)) _)); exact Below.refl _ _)
  cases g1 : goodH M D N with
  | false =>
    rw [g1] at HG
    rw [show trV M D N A S = .tuple #[hpV 0 ⟨#[]⟩ 0, .int .i64 0, .int .i64 1] by unfold trV trOk kM kD kN; rw [g1]; rfl]
    clear g1 HA h
    go_enter Tryd.func7, Tryd.ntmps7
    go_wp2_with fail
    refine (HG _).mono ?_
    rintro e w1 ⟨rfl, B1⟩
    obtain ⟨hl, hB, e0, e1⟩ := HST.out w1 B1
    clear B1 HG HST e0
    have q0 : w1.cell? ⟨g + 1, 0, none⟩ = some (.int .i64 0) := (cell_of_block e1 0).trans rfl
    have q1 : w1.cell? ⟨g + 1, 1, none⟩ = some (.string ⟨#[]⟩) := (cell_of_block e1 1).trans rfl
    have q2 : w1.cell? ⟨g + 1, 2, none⟩ = some (.int .i64 0) := (cell_of_block e1 2).trans rfl
    have z0 := free_of_block e1 0
    have z1 := free_of_block e1 1
    have z2 := free_of_block e1 2
    have F := set3 e1 (.int .i64 0) (.string ⟨#[]⟩) (.int .i64 0) rfl
    have k7 := (cell_of_block F 0).trans (show _ = some (Value.int .i64 0) from rfl)
    have k8 := (cell_of_block F 1).trans (show _ = some (Value.string ⟨#[]⟩) from rfl)
    have k9 := (cell_of_block F 2).trans (show _ = some (Value.int .i64 0) from rfl)
    clear F
    clear e1
    go_wp2
    refine bodyPost_ret (v := .tuple #[hpV 0 ⟨#[]⟩ 0, .int .i64 0, .int .i64 1]) (by simp [results, Tryd.results7, go_sem, k7, k8, k9]) rfl ⟨rfl, ?_⟩
    refine (Below.setCell (Below.setCell (Below.setCell hB ?_ _) ?_ _) ?_ _) <;> simp <;> omega
  | true =>
    rw [g1] at HG
    obtain ⟨_, g4, g5⟩ := goodH_yes g1
    obtain ⟨L, hL⟩ : ∃ L, alB A = L := ⟨_, rfl⟩
    obtain ⟨s, hs9⟩ : ∃ s, decide (0 ≤ S) = s := ⟨_, rfl⟩
    have hS : decide (S < 0) = !s := by rw [← hs9]; by_cases h0 : 0 ≤ S <;> simp [h0] <;> omega
    rw [hL] at HA
    by_cases hbad : (L && s) = false
    · rw [show trV M D N A S = .tuple #[hpV M D N, .int .i64 0, .int .i64 1] by unfold trV trOk kM kD kN; rw [g1, hL, hs9, hbad]; rfl]
      have HB : Hid ((L && s) = false) := hbad
      clear g1 h g4 g5 hL hs9 hbad
      go_enter Tryd.func7, Tryd.ntmps7
      go_wp2_with fail
      refine (HG _).mono ?_
      rintro e w1 ⟨rfl, B1⟩
      obtain ⟨hl, hB, e0, e1⟩ := HST.out w1 B1
      have p0 : w1.cell? ⟨g, 0, none⟩ = some (.int .i64 M) := (cell_of_block e0 0).trans rfl
      have p1 : w1.cell? ⟨g, 1, none⟩ = some (.string D) := (cell_of_block e0 1).trans rfl
      have p2 : w1.cell? ⟨g, 2, none⟩ = some (.int .i64 N) := (cell_of_block e0 2).trans rfl
      clear B1 HG HST e0
      have q0 : w1.cell? ⟨g + 1, 0, none⟩ = some (.int .i64 0) := (cell_of_block e1 0).trans rfl
      have q1 : w1.cell? ⟨g + 1, 1, none⟩ = some (.string ⟨#[]⟩) := (cell_of_block e1 1).trans rfl
      have q2 : w1.cell? ⟨g + 1, 2, none⟩ = some (.int .i64 0) := (cell_of_block e1 2).trans rfl
      have z0 := free_of_block e1 0
      have z1 := free_of_block e1 1
      have z2 := free_of_block e1 2
      have F := set3 e1 (.int .i64 M) (.string D) (.int .i64 N) rfl
      have k7 := (cell_of_block F 0).trans (show _ = some (Value.int .i64 M) from rfl)
      have k8 := (cell_of_block F 1).trans (show _ = some (Value.string D) from rfl)
      have k9 := (cell_of_block F 2).trans (show _ = some (Value.int .i64 N) from rfl)
      clear F
      clear e1
      cases L with
      | false =>
        go_wp2_with (go_at_call 18; refine (HA _).mono ?_; rintro e wa ⟨rfl, hwa⟩; obtain rfl := hwa.symm; clear HA)
        refine bodyPost_ret (v := .tuple #[hpV M D N, .int .i64 0, .int .i64 1]) (by simp [results, Tryd.results7, go_sem, k7, k8, k9]) rfl ⟨rfl, ?_⟩
        refine (Below.setCell (Below.setCell (Below.setCell hB ?_ _) ?_ _) ?_ _) <;> simp <;> omega
      | true =>
        obtain rfl : s = false := by have := HB.out; simpa using this
        go_wp2_with (go_at_call 18; refine (HA _).mono ?_; rintro e wa ⟨rfl, hwa⟩; obtain rfl := hwa.symm; clear HA)
        refine bodyPost_ret (v := .tuple #[hpV M D N, .int .i64 0, .int .i64 1]) (by simp [results, Tryd.results7, go_sem, k7, k8, k9]) rfl ⟨rfl, ?_⟩
        refine (Below.setCell (Below.setCell (Below.setCell hB ?_ _) ?_ _) ?_ _) <;> simp <;> omega
    · obtain ⟨rfl, rfl⟩ : L = true ∧ s = true := by simpa using hbad
      obtain ⟨I, hI⟩ : ∃ I, trIn D N A S = I := ⟨_, rfl⟩
      have HT : Hid (∀ W, Calls Tryd.prog 19 #[hpV M D N, .int .i64 A, .int .i64 S] W fun e w' => e = .returned (.tuple #[hpV M D (if I = true then upA N A + S else N), .int .i64 (if I = true then upA N A else 0), .bool I]) ∧ Below W.heap.size W w') := fun W => specTake M D N A S h (alB_yes hL) g4 g5 (by simpa using hs9) I hI W
      rw [show trV M D N A S = if I = true then .tuple #[hpV M D (upA N A + S), .int .i64 (upA N A), .int .i64 0] else .tuple #[hpV M D N, .int .i64 0, .int .i64 2] by unfold trV trOk; rw [g1, hL, hs9, hI]; rfl]
      generalize upA N A = U at *
      generalize U + S = U2 at *
      simp only [Bool.not_true] at hS
      clear g1 h g4 g5 hL hs9 hbad hI
      cases I with
      | false =>
        simp only [Bool.false_eq_true, if_false] at HT ⊢
        go_enter Tryd.func7, Tryd.ntmps7
        go_wp2_with fail
        refine (HG _).mono ?_
        rintro e w1 ⟨rfl, B1⟩
        obtain ⟨hl, hB, e0, e1⟩ := HST.out w1 B1
        have p0 : w1.cell? ⟨g, 0, none⟩ = some (.int .i64 M) := (cell_of_block e0 0).trans rfl
        have p1 : w1.cell? ⟨g, 1, none⟩ = some (.string D) := (cell_of_block e0 1).trans rfl
        have p2 : w1.cell? ⟨g, 2, none⟩ = some (.int .i64 N) := (cell_of_block e0 2).trans rfl
        clear B1 HG HST
        go_wp2_with (go_at_call 18; refine (HA _).mono ?_; rintro e wa ⟨rfl, hwa⟩; obtain rfl := hwa.symm; clear HA)
        refine (HT.out _).mono ?_
        rintro e w2 ⟨rfl, B2⟩
        have s2 := B2.size
        have hB2 := bel_stepK hB B2
        replace e0 := (B2.block g (by omega)).trans e0
        replace e1 := (B2.block (g + 1) (by omega)).trans e1
        clear HT B2 p0 p1 p2 hB
        have p0 : w2.cell? ⟨g, 0, none⟩ = some (.int .i64 M) := (cell_of_block e0 0).trans rfl
        have p1 : w2.cell? ⟨g, 1, none⟩ = some (.string D) := (cell_of_block e0 1).trans rfl
        have p2 : w2.cell? ⟨g, 2, none⟩ = some (.int .i64 N) := (cell_of_block e0 2).trans rfl
        have e3 := heap_old (o := .cells #[.int .i64 M, .string D, .int .i64 N] 29) e0
        have c0 := (cell_of_block e3 0).trans (show _ = some (Value.int .i64 M) from rfl)
        have c1 := (cell_of_block e3 1).trans (show _ = some (Value.string D) from rfl)
        have c2 := (cell_of_block e3 2).trans (show _ = some (Value.int .i64 N) from rfl)
        clear e3
        have F := heap_old (o := .cells #[.int .i64 M, .string D, .int .i64 N] 29) (set3 e1 (.int .i64 M) (.string D) (.int .i64 N) rfl)
        have k7 := (cell_of_block F 0).trans (show _ = some (Value.int .i64 M) from rfl)
        have k8 := (cell_of_block F 1).trans (show _ = some (Value.string D) from rfl)
        have k9 := (cell_of_block F 2).trans (show _ = some (Value.int .i64 N) from rfl)
        clear F
        have hl2 : g + 1 < w2.heap.size := by omega
        have u0 : w2.cell? ⟨g + 1, 0, none⟩ = some (.int .i64 0) := (cell_of_block e1 0).trans rfl
        have u1 : w2.cell? ⟨g + 1, 1, none⟩ = some (.string ⟨#[]⟩) := (cell_of_block e1 1).trans rfl
        have u2 : w2.cell? ⟨g + 1, 2, none⟩ = some (.int .i64 0) := (cell_of_block e1 2).trans rfl
        have v0 := free_of_block e1 0
        have v1 := free_of_block e1 1
        have v2 := free_of_block e1 2
        clear e0 e1
        go_wp2
        refine bodyPost_ret (v := .tuple #[hpV M D N, .int .i64 0, .int .i64 2]) (by simp [results, Tryd.results7, go_sem, k7, k8, k9]) rfl ⟨rfl, ?_⟩
        refine Below.alloc (Below.setCell (Below.setCell (Below.setCell hB2 ?_ _) ?_ _) ?_ _) ?_ _ <;> simp <;> omega
      | true =>
        simp only [if_true] at HT ⊢
        go_enter Tryd.func7, Tryd.ntmps7
        go_wp2_with fail
        refine (HG _).mono ?_
        rintro e w1 ⟨rfl, B1⟩
        obtain ⟨hl, hB, e0, e1⟩ := HST.out w1 B1
        have p0 : w1.cell? ⟨g, 0, none⟩ = some (.int .i64 M) := (cell_of_block e0 0).trans rfl
        have p1 : w1.cell? ⟨g, 1, none⟩ = some (.string D) := (cell_of_block e0 1).trans rfl
        have p2 : w1.cell? ⟨g, 2, none⟩ = some (.int .i64 N) := (cell_of_block e0 2).trans rfl
        clear B1 HG HST
        go_wp2_with (go_at_call 18; refine (HA _).mono ?_; rintro e wa ⟨rfl, hwa⟩; obtain rfl := hwa.symm; clear HA)
        refine (HT.out _).mono ?_
        rintro e w2 ⟨rfl, B2⟩
        have s2 := B2.size
        have hB2 := bel_stepK hB B2
        replace e0 := (B2.block g (by omega)).trans e0
        replace e1 := (B2.block (g + 1) (by omega)).trans e1
        clear HT B2 p0 p1 p2 hB
        have p0 : w2.cell? ⟨g, 0, none⟩ = some (.int .i64 M) := (cell_of_block e0 0).trans rfl
        have p1 : w2.cell? ⟨g, 1, none⟩ = some (.string D) := (cell_of_block e0 1).trans rfl
        have p2 : w2.cell? ⟨g, 2, none⟩ = some (.int .i64 N) := (cell_of_block e0 2).trans rfl
        have e3 := heap_old (o := .cells #[.int .i64 M, .string D, .int .i64 U2] 29) e0
        have c0 := (cell_of_block e3 0).trans (show _ = some (Value.int .i64 M) from rfl)
        have c1 := (cell_of_block e3 1).trans (show _ = some (Value.string D) from rfl)
        have c2 := (cell_of_block e3 2).trans (show _ = some (Value.int .i64 N) from rfl)
        clear e3
        have F := heap_old (o := .cells #[.int .i64 M, .string D, .int .i64 U2] 29) (set3 e1 (.int .i64 M) (.string D) (.int .i64 U2) rfl)
        have k7 := (cell_of_block F 0).trans (show _ = some (Value.int .i64 M) from rfl)
        have k8 := (cell_of_block F 1).trans (show _ = some (Value.string D) from rfl)
        have k9 := (cell_of_block F 2).trans (show _ = some (Value.int .i64 U2) from rfl)
        clear F
        have hl2 : g + 1 < w2.heap.size := by omega
        have u0 : w2.cell? ⟨g + 1, 0, none⟩ = some (.int .i64 0) := (cell_of_block e1 0).trans rfl
        have u1 : w2.cell? ⟨g + 1, 1, none⟩ = some (.string ⟨#[]⟩) := (cell_of_block e1 1).trans rfl
        have u2 : w2.cell? ⟨g + 1, 2, none⟩ = some (.int .i64 0) := (cell_of_block e1 2).trans rfl
        have v0 := free_of_block e1 0
        have v1 := free_of_block e1 1
        have v2 := free_of_block e1 2
        clear e0 e1
        go_wp2
        refine bodyPost_ret (v := .tuple #[hpV M D U2, .int .i64 U, .int .i64 0]) (by simp [results, Tryd.results7, go_sem, k7, k8, k9]) rfl ⟨rfl, ?_⟩
        refine Below.alloc (Below.setCell (Below.setCell (Below.setCell hB2 ?_ _) ?_ _) ?_ _) ?_ _ <;> simp <;> omega
end Go.Proofs.YtgepplddhmgifaaDoor
