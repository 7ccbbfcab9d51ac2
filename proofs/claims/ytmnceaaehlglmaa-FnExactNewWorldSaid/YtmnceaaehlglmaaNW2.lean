/-
  NewWorld on both sides, and the law. (Made by a generator.)
-/
import Derived.Test.YtmnceaaehlglmaaNW1
import Derived.Test.YtmnceaaehlglmaaMMade
namespace Go.Proofs.Ytmnceaaehlglmaa
open Go.ChangeShapes Go.WideShapes Go.ChangeAt Go.RowKit

theorem set4W {W : World} {z : Nat} {t : TypeId} {a0 a1 a2 a3 : Value} (h : W.heap[z]? = some (.cells #[a0, a1, a2, a3] t (0, 0))) (b0 b1 b2 b3 : Value) {G : World} (hG : (((W.setCell ⟨z, 0, none⟩ b0).setCell ⟨z, 1, none⟩ b1).setCell ⟨z, 2, none⟩ b2).setCell ⟨z, 3, none⟩ b3 = G) :
    G.heap[z]? = some (.cells #[b0, b1, b2, b3] t (0, 0)) ∧ (∀ g, g ≠ z → G.heap[g]? = W.heap[g]?) ∧ G.heap.size = W.heap.size ∧ ∀ (B : Nat) (w : World), B ≤ z → Below B w W → Below B w G := by
  subst hG
  refine ⟨?_, fun g hg => ?_, by simp, fun B w hB hb => (((hb.setCell hB _).setCell hB _).setCell hB _).setCell hB _⟩
  · rw [heap_setCell_same _ _ _ _ _ _ (heap_setCell_same _ _ _ _ _ _ (heap_setCell_same _ _ _ _ _ _ (heap_setCell_same _ _ _ _ _ _ h)))]
    rfl
  · exact (heap_setCell_other _ _ _ _ (by simpa using hg)).trans ((heap_setCell_other _ _ _ _ (by simpa using hg)).trans ((heap_setCell_other _ _ _ _ (by simpa using hg)).trans (heap_setCell_other _ _ _ _ (by simpa using hg))))
theorem made_tab (n j : Nat) (h : j < n * 2) : (madeCells (Value.agg #[.slice none 0 0, .slice none 0 0]).cells (n * 2))[j]? = some (.slice none 0 0) := by
  have hj : j % 2 = 0 ∨ j % 2 = 1 := by omega
  rcases hj with hj | hj <;> simp [madeCells, Value.cells, h, hj]
theorem infoTab : ∃ i0, Try.prog.info? 59 = some i0 ∧ i0.zero = some (.agg #[.slice none 0 0, .slice none 0 0]) ∧ i0.size = 2 ∧ i0.bytes = 48 := by
  have h : (Try.prog.info? 59).map (fun i => (i.zero, i.size, i.bytes)) = some (some (.agg #[.slice none 0 0, .slice none 0 0]), 2, 48) := by kernel_rfl
  exact info_parts h
theorem madeTab (n : Nat) (h : n ≤ 5) (W : World) :
    (Instr.makeSlice 23 (.int .i64 (n : Int)) (.int .i64 (n : Int))).run Try.prog W = .ok (.slice (some ⟨W.heap.size, 0, none⟩) n n) (W.alloc (.cells (madeCells (Value.agg #[.slice none 0 0, .slice none 0 0]).cells (n * 2)) 59)) := by
  obtain ⟨i0, hi, h0, h1, h2⟩ := infoTab
  have H := run_make (P := Try.prog) W 23 59 i0 (.agg #[.slice none 0 0, .slice none 0 0]) Try.underlying23 hi h0 .i64 .i64 (n : Int) (n : Int) (by omega) (by omega) (by rw [h2]; omega) (by omega)
  rw [h1] at H
  simpa using H
theorem made_zt (n : Nat) (W : World) (b : Nat) (hb : W.heap[b]? = some (.cells (madeCells (Value.agg #[.slice none 0 0, .slice none 0 0]).cells (n * 2)) 59 (0, 0))) : ZT W (some ⟨b, 0, none⟩) n := fun _ => ⟨b, rfl, lt_of_block hb, fun k hk => ⟨(cell_of_block hb (k * 2)).trans (made_tab n _ (by omega)), (cell_of_block hb (k * 2 + 1)).trans (made_tab n _ (by omega))⟩⟩

theorem mb_eq (n : Int) (r : Bool) (h : Hid ((decide (1 ≤ n) && decide (n ≤ 5)) = r)) (w : World) : Calls Try.prog 21 #[.int .i64 n] w fun e w' => e = .returned (.bool r) ∧ w' = w := by
  have h' := h.out
  clear h
  by_cases h1 : 1 ≤ n
  · by_cases h2 : n ≤ 5
    · simp [h1, h2] at h'; subst h'
      have k1 : ¬ n < 1 := by omega
      have k2 : ¬ 5 < n := by omega
      go_enter Try.func21, Try.ntmps21
      go_wp2
      go_ret
      exact ⟨rfl, rfl⟩
    · simp [h2] at h'; subst h'
      have k1 : ¬ n < 1 := by omega
      have k2 : 5 < n := by omega
      go_enter Try.func21, Try.ntmps21
      go_wp2
      go_ret
      exact ⟨rfl, rfl⟩
  · simp [h1] at h'; subst h'
    have k1 : n < 1 := by omega
    go_enter Try.func21, Try.ntmps21
    go_wp2
    go_ret
    exact ⟨rfl, rfl⟩

set_option maxRecDepth 100000 in
set_option maxHeartbeats 1600000 in
theorem implNew_yes (n : Nat) (h1 : 1 ≤ n) (h5 : n ≤ 5) (w : World) : Calls Try.prog 7 #[.int .i64 (n : Int)] w fun e w' => ∃ a, e = .returned (.tuple #[wv a n, .bool true]) ∧ Hid (ZT w' a n) ∧ Below w.heap.size w w' := by
  have MB := mb_eq (n : Int) true (by unfold Hid; simp; omega)
  have MT := madeTab n h5
  obtain ⟨z, hz⟩ : ∃ z, w.heap.size = z := ⟨_, rfl⟩
  obtain ⟨W, hW⟩ : ∃ W, w.alloc (.cells #[.slice none 0 0, .slice none 0 0, .slice none 0 0, .slice none 0 0] 27) = W := ⟨_, rfl⟩
  have hb0 : Below w.heap.size w W := by rw [← hW]; exact bel_alloc (Below.refl _ _) _
  have hs0 : W.heap.size = z + 1 := by rw [← hW, ← hz]; simp
  have x0 : W.heap[z]? = some (.cells #[.slice none 0 0, .slice none 0 0, .slice none 0 0, .slice none 0 0] 27 (0, 0)) := by rw [← hW, ← hz]; exact heap_alloc_new _ _
  have HZ : Hid (w.heap.size = z ∧ W.heap.size = z + 1 ∧ n ≤ 5 ∧ Below w.heap.size w W) := ⟨hz, hs0, h5, hb0⟩
  go_enter Try.func7, Try.ntmps7
  go_wp2_with fail
  refine (MB _).mono ?_
  rintro e w1 ⟨rfl, hw⟩
  obtain rfl := hw.symm
  clear MB hW hz hb0 h5 h1
  replace MT := MT W
  rw [hs0] at MT
  obtain ⟨W2, hW2⟩ : ∃ G, W.alloc (.cells (madeCells (Value.agg #[.slice none 0 0, .slice none 0 0]).cells (n * 2)) 59) = G := ⟨_, rfl⟩
  have x1 : W2.heap[z]? = some (.cells #[.slice none 0 0, .slice none 0 0, .slice none 0 0, .slice none 0 0] 27 (0, 0)) := by rw [← hW2]; exact (Below.heap_alloc _ _ _ (by omega)).trans x0
  have y1 : W2.heap[z + 1]? = some (.cells (madeCells (Value.agg #[.slice none 0 0, .slice none 0 0]).cells (n * 2)) 59 (0, 0)) := by rw [← hW2, ← hs0]; exact heap_alloc_new _ _
  have hb2 : Below w.heap.size w W2 := by rw [← hW2]; exact bel_alloc HZ.out.2.2.2 _
  have HB2 : Hid (Below w.heap.size w W2) := hb2
  rw [hW2] at MT
  clear hb2 x0 hs0 hW2
  have c0 : W2.cell? ⟨z, 0, none⟩ = some (.slice none 0 0) := (cell_of_block x1 0).trans rfl
  have c1 : W2.cell? ⟨z, 1, none⟩ = some (.slice none 0 0) := (cell_of_block x1 1).trans rfl
  have c2 : W2.cell? ⟨z, 2, none⟩ = some (.slice none 0 0) := (cell_of_block x1 2).trans rfl
  have c3 : W2.cell? ⟨z, 3, none⟩ = some (.slice none 0 0) := (cell_of_block x1 3).trans rfl
  have f0 := free_of_block x1 0
  have f1 := free_of_block x1 1
  have f2 := free_of_block x1 2
  have f3 := free_of_block x1 3
  go_wp2
  obtain ⟨W3, hW3⟩ : ∃ G, (((W2.setCell ⟨z, 0, none⟩ (.slice none 0 0)).setCell ⟨z, 1, none⟩ (.slice (some ⟨z + 1, 0, none⟩) n n)).setCell ⟨z, 2, none⟩ (.slice none 0 0)).setCell ⟨z, 3, none⟩ (.slice none 0 0) = G := ⟨_, rfl⟩
  obtain ⟨s1, s2, s3, s4⟩ := set4W x1 _ _ _ _ hW3
  rw [hW3]
  have q0 : W3.cell? ⟨z, 0, none⟩ = some (.slice none 0 0) := (cell_of_block s1 0).trans rfl
  have q1 : W3.cell? ⟨z, 1, none⟩ = some (.slice (some ⟨z + 1, 0, none⟩) n n) := (cell_of_block s1 1).trans rfl
  have q2 : W3.cell? ⟨z, 2, none⟩ = some (.slice none 0 0) := (cell_of_block s1 2).trans rfl
  have q3 : W3.cell? ⟨z, 3, none⟩ = some (.slice none 0 0) := (cell_of_block s1 3).trans rfl
  refine bodyPost_ret (v := .tuple #[wv (some ⟨z + 1, 0, none⟩) n, .bool true]) (by simp [results, Try.results7, go_sem, q0, q1, q2, q3, wv]) rfl ⟨_, rfl, ?_, s4 _ _ (by have := HZ.out.1; omega) HB2.out⟩
  exact made_zt n W3 (z + 1) ((s2 (z + 1) (by omega)).trans y1)

set_option maxRecDepth 100000 in
set_option maxHeartbeats 1600000 in
theorem implNew_no (p : Int) (h : ¬ (1 ≤ p ∧ p ≤ 5)) (w : World) : Calls Try.prog 7 #[.int .i64 p] w fun e w' => e = .returned (.tuple #[wv none 0, .bool false]) ∧ Below w.heap.size w w' := by
  have MB := mb_eq p false (by unfold Hid; by_cases h1 : 1 ≤ p <;> simp [h1] <;> omega)
  obtain ⟨z, hz⟩ : ∃ z, w.heap.size = z := ⟨_, rfl⟩
  obtain ⟨W, hW⟩ : ∃ W, w.alloc (.cells #[.slice none 0 0, .slice none 0 0, .slice none 0 0, .slice none 0 0] 27) = W := ⟨_, rfl⟩
  have hb0 : Below w.heap.size w W := by rw [← hW]; exact bel_alloc (Below.refl _ _) _
  have x0 : W.heap[z]? = some (.cells #[.slice none 0 0, .slice none 0 0, .slice none 0 0, .slice none 0 0] 27 (0, 0)) := by rw [← hW, ← hz]; exact heap_alloc_new _ _
  have HZ : Hid (w.heap.size = z ∧ Below w.heap.size w W) := ⟨hz, hb0⟩
  clear h
  go_enter Try.func7, Try.ntmps7
  go_wp2_with fail
  refine (MB _).mono ?_
  rintro e w1 ⟨rfl, hw⟩
  obtain rfl := hw.symm
  clear MB hW hz hb0
  have c0 : W.cell? ⟨z, 0, none⟩ = some (.slice none 0 0) := (cell_of_block x0 0).trans rfl
  have c1 : W.cell? ⟨z, 1, none⟩ = some (.slice none 0 0) := (cell_of_block x0 1).trans rfl
  have c2 : W.cell? ⟨z, 2, none⟩ = some (.slice none 0 0) := (cell_of_block x0 2).trans rfl
  have c3 : W.cell? ⟨z, 3, none⟩ = some (.slice none 0 0) := (cell_of_block x0 3).trans rfl
  have f0 := free_of_block x0 0
  have f1 := free_of_block x0 1
  have f2 := free_of_block x0 2
  have f3 := free_of_block x0 3
  go_wp2
  obtain ⟨W3, hW3⟩ : ∃ G, (((W.setCell ⟨z, 0, none⟩ (.slice none 0 0)).setCell ⟨z, 1, none⟩ (.slice none 0 0)).setCell ⟨z, 2, none⟩ (.slice none 0 0)).setCell ⟨z, 3, none⟩ (.slice none 0 0) = G := ⟨_, rfl⟩
  obtain ⟨s1, s2, s3, s4⟩ := set4W x0 _ _ _ _ hW3
  rw [hW3]
  have q0 : W3.cell? ⟨z, 0, none⟩ = some (.slice none 0 0) := (cell_of_block s1 0).trans rfl
  have q1 : W3.cell? ⟨z, 1, none⟩ = some (.slice none 0 0) := (cell_of_block s1 1).trans rfl
  have q2 : W3.cell? ⟨z, 2, none⟩ = some (.slice none 0 0) := (cell_of_block s1 2).trans rfl
  have q3 : W3.cell? ⟨z, 3, none⟩ = some (.slice none 0 0) := (cell_of_block s1 3).trans rfl
  exact bodyPost_ret (v := .tuple #[wv none 0, .bool false]) (by simp [results, Try.results7, go_sem, q0, q1, q2, q3, wv]) rfl ⟨rfl, s4 _ _ (by have := HZ.out.1; omega) HZ.out.2⟩

set_option maxRecDepth 100000 in
set_option maxHeartbeats 1600000 in
theorem specNew_yes (n : Nat) (h1 : 1 ≤ n) (h5 : n ≤ 5) (w : World) : Calls Try.prog 6 #[.int .i64 (n : Int)] w fun e w' => ∃ a, e = .returned (.tuple #[wv a n, .bool true]) ∧ Hid (ZT w' a n) ∧ Below w.heap.size w w' := by
  have MB := in_eq (n : Int) 1 5 true (by unfold Hid; simp; omega)
  have MT := madeTab n h5
  obtain ⟨z, hz⟩ : ∃ z, w.heap.size = z := ⟨_, rfl⟩
  obtain ⟨W, hW⟩ : ∃ W, w.alloc (.cells #[.slice none 0 0, .slice none 0 0, .slice none 0 0, .slice none 0 0] 27) = W := ⟨_, rfl⟩
  have hb0 : Below w.heap.size w W := by rw [← hW]; exact bel_alloc (Below.refl _ _) _
  have hs0 : W.heap.size = z + 1 := by rw [← hW, ← hz]; simp
  have x0 : W.heap[z]? = some (.cells #[.slice none 0 0, .slice none 0 0, .slice none 0 0, .slice none 0 0] 27 (0, 0)) := by rw [← hW, ← hz]; exact heap_alloc_new _ _
  have HZ : Hid (w.heap.size = z ∧ W.heap.size = z + 1 ∧ n ≤ 5 ∧ Below w.heap.size w W) := ⟨hz, hs0, h5, hb0⟩
  go_enter Try.func6, Try.ntmps6
  go_wp2_with fail
  refine (MB _).mono ?_
  rintro e w1 ⟨rfl, hw⟩
  obtain rfl := hw.symm
  clear MB hW hz hb0 h5 h1
  replace MT := MT W
  rw [hs0] at MT
  obtain ⟨W2, hW2⟩ : ∃ G, W.alloc (.cells (madeCells (Value.agg #[.slice none 0 0, .slice none 0 0]).cells (n * 2)) 59) = G := ⟨_, rfl⟩
  have x1 : W2.heap[z]? = some (.cells #[.slice none 0 0, .slice none 0 0, .slice none 0 0, .slice none 0 0] 27 (0, 0)) := by rw [← hW2]; exact (Below.heap_alloc _ _ _ (by omega)).trans x0
  have y1 : W2.heap[z + 1]? = some (.cells (madeCells (Value.agg #[.slice none 0 0, .slice none 0 0]).cells (n * 2)) 59 (0, 0)) := by rw [← hW2, ← hs0]; exact heap_alloc_new _ _
  have hb2 : Below w.heap.size w W2 := by rw [← hW2]; exact bel_alloc HZ.out.2.2.2 _
  have HB2 : Hid (Below w.heap.size w W2) := hb2
  rw [hW2] at MT
  clear hb2 x0 hs0 hW2
  have c0 : W2.cell? ⟨z, 0, none⟩ = some (.slice none 0 0) := (cell_of_block x1 0).trans rfl
  have c1 : W2.cell? ⟨z, 1, none⟩ = some (.slice none 0 0) := (cell_of_block x1 1).trans rfl
  have c2 : W2.cell? ⟨z, 2, none⟩ = some (.slice none 0 0) := (cell_of_block x1 2).trans rfl
  have c3 : W2.cell? ⟨z, 3, none⟩ = some (.slice none 0 0) := (cell_of_block x1 3).trans rfl
  have f0 := free_of_block x1 0
  have f1 := free_of_block x1 1
  have f2 := free_of_block x1 2
  have f3 := free_of_block x1 3
  go_wp2
  obtain ⟨W3, hW3⟩ : ∃ G, (((W2.setCell ⟨z, 0, none⟩ (.slice none 0 0)).setCell ⟨z, 1, none⟩ (.slice (some ⟨z + 1, 0, none⟩) n n)).setCell ⟨z, 2, none⟩ (.slice none 0 0)).setCell ⟨z, 3, none⟩ (.slice none 0 0) = G := ⟨_, rfl⟩
  obtain ⟨s1, s2, s3, s4⟩ := set4W x1 _ _ _ _ hW3
  rw [hW3]
  have q0 : W3.cell? ⟨z, 0, none⟩ = some (.slice none 0 0) := (cell_of_block s1 0).trans rfl
  have q1 : W3.cell? ⟨z, 1, none⟩ = some (.slice (some ⟨z + 1, 0, none⟩) n n) := (cell_of_block s1 1).trans rfl
  have q2 : W3.cell? ⟨z, 2, none⟩ = some (.slice none 0 0) := (cell_of_block s1 2).trans rfl
  have q3 : W3.cell? ⟨z, 3, none⟩ = some (.slice none 0 0) := (cell_of_block s1 3).trans rfl
  refine bodyPost_ret (v := .tuple #[wv (some ⟨z + 1, 0, none⟩) n, .bool true]) (by simp [results, Try.results6, go_sem, q0, q1, q2, q3, wv]) rfl ⟨_, rfl, ?_, s4 _ _ (by have := HZ.out.1; omega) HB2.out⟩
  exact made_zt n W3 (z + 1) ((s2 (z + 1) (by omega)).trans y1)

set_option maxRecDepth 100000 in
set_option maxHeartbeats 1600000 in
theorem specNew_no (p : Int) (h : ¬ (1 ≤ p ∧ p ≤ 5)) (w : World) : Calls Try.prog 6 #[.int .i64 p] w fun e w' => e = .returned (.tuple #[wv none 0, .bool false]) ∧ Below w.heap.size w w' := by
  have MB := in_eq p 1 5 false (by unfold Hid; by_cases h1 : 1 ≤ p <;> simp [h1] <;> omega)
  obtain ⟨z, hz⟩ : ∃ z, w.heap.size = z := ⟨_, rfl⟩
  obtain ⟨W, hW⟩ : ∃ W, w.alloc (.cells #[.slice none 0 0, .slice none 0 0, .slice none 0 0, .slice none 0 0] 27) = W := ⟨_, rfl⟩
  have hb0 : Below w.heap.size w W := by rw [← hW]; exact bel_alloc (Below.refl _ _) _
  have x0 : W.heap[z]? = some (.cells #[.slice none 0 0, .slice none 0 0, .slice none 0 0, .slice none 0 0] 27 (0, 0)) := by rw [← hW, ← hz]; exact heap_alloc_new _ _
  have HZ : Hid (w.heap.size = z ∧ Below w.heap.size w W) := ⟨hz, hb0⟩
  clear h
  go_enter Try.func6, Try.ntmps6
  go_wp2_with fail
  refine (MB _).mono ?_
  rintro e w1 ⟨rfl, hw⟩
  obtain rfl := hw.symm
  clear MB hW hz hb0
  have c0 : W.cell? ⟨z, 0, none⟩ = some (.slice none 0 0) := (cell_of_block x0 0).trans rfl
  have c1 : W.cell? ⟨z, 1, none⟩ = some (.slice none 0 0) := (cell_of_block x0 1).trans rfl
  have c2 : W.cell? ⟨z, 2, none⟩ = some (.slice none 0 0) := (cell_of_block x0 2).trans rfl
  have c3 : W.cell? ⟨z, 3, none⟩ = some (.slice none 0 0) := (cell_of_block x0 3).trans rfl
  have f0 := free_of_block x0 0
  have f1 := free_of_block x0 1
  have f2 := free_of_block x0 2
  have f3 := free_of_block x0 3
  go_wp2
  obtain ⟨W3, hW3⟩ : ∃ G, (((W.setCell ⟨z, 0, none⟩ (.slice none 0 0)).setCell ⟨z, 1, none⟩ (.slice none 0 0)).setCell ⟨z, 2, none⟩ (.slice none 0 0)).setCell ⟨z, 3, none⟩ (.slice none 0 0) = G := ⟨_, rfl⟩
  obtain ⟨s1, s2, s3, s4⟩ := set4W x0 _ _ _ _ hW3
  rw [hW3]
  have q0 : W3.cell? ⟨z, 0, none⟩ = some (.slice none 0 0) := (cell_of_block s1 0).trans rfl
  have q1 : W3.cell? ⟨z, 1, none⟩ = some (.slice none 0 0) := (cell_of_block s1 1).trans rfl
  have q2 : W3.cell? ⟨z, 2, none⟩ = some (.slice none 0 0) := (cell_of_block s1 2).trans rfl
  have q3 : W3.cell? ⟨z, 3, none⟩ = some (.slice none 0 0) := (cell_of_block s1 3).trans rfl
  exact bodyPost_ret (v := .tuple #[wv none 0, .bool false]) (by simp [results, Try.results6, go_sem, q0, q1, q2, q3, wv]) rfl ⟨rfl, s4 _ _ (by have := HZ.out.1; omega) HZ.out.2⟩

set_option maxRecDepth 100000 in
set_option maxHeartbeats 1600000 in
theorem eqWorld0 (a a' : Option Addr) (n : Nat) (w : World) (h : Hid (ZT w a n)) (h' : Hid (ZT w a' n)) (hn : n ≤ 5) :
    Calls Try.prog 8 #[wv a n, wv a' n] w fun e w' => e = .returned (.bool true) ∧ Below w.heap.size w w' := by
  have E1 := eqThing0
  have E3 := eqLoan0
  have E4 := eqInt0
  have E2 : Hid (∀ W, Below w.heap.size w W → Calls Try.prog 23 #[.slice a n n, .slice a' n n] W fun e w' => e = .returned (.bool true) ∧ Below W.heap.size W w') := fun W hb => eqTabs0 a a' n W (h.out.below hb) (h'.out.below hb) hn
  unfold wv
  clear h h' hn
  obtain ⟨z, hz⟩ : ∃ z, w.heap.size = z := ⟨_, rfl⟩
  obtain ⟨W, hW⟩ : ∃ W, (w.alloc (.cells #[.slice none 0 0, .slice a n n, .slice none 0 0, .slice none 0 0] 27)).alloc (.cells #[.slice none 0 0, .slice a' n n, .slice none 0 0, .slice none 0 0] 27) = W := ⟨_, rfl⟩
  have HB : Hid (Below w.heap.size w W) := by unfold Hid; rw [← hW]; exact bel_alloc (bel_alloc (Below.refl _ _) _) _
  have x0 : W.heap[z]? = some (.cells #[.slice none 0 0, .slice a n n, .slice none 0 0, .slice none 0 0] 27 (0, 0)) := by rw [← hW, ← hz]; exact (Below.heap_alloc _ _ _ (by simp)).trans (heap_alloc_new _ _)
  have y0 : W.heap[z + 1]? = some (.cells #[.slice none 0 0, .slice a' n n, .slice none 0 0, .slice none 0 0] 27 (0, 0)) := by
    rw [← hW, ← hz]
    have h := heap_alloc_new (w.alloc (.cells #[.slice none 0 0, .slice a n n, .slice none 0 0, .slice none 0 0] 27)) (.cells #[.slice none 0 0, .slice a' n n, .slice none 0 0, .slice none 0 0] 27)
    simpa using h
  have p0 : W.cell? ⟨z, 0, none⟩ = some (.slice none 0 0) := (cell_of_block x0 0).trans rfl
  have r0 : W.cell? ⟨z + 1, 0, none⟩ = some (.slice none 0 0) := (cell_of_block y0 0).trans rfl
  have p1 : W.cell? ⟨z, 1, none⟩ = some (.slice a n n) := (cell_of_block x0 1).trans rfl
  have r1 : W.cell? ⟨z + 1, 1, none⟩ = some (.slice a' n n) := (cell_of_block y0 1).trans rfl
  have p2 : W.cell? ⟨z, 2, none⟩ = some (.slice none 0 0) := (cell_of_block x0 2).trans rfl
  have r2 : W.cell? ⟨z + 1, 2, none⟩ = some (.slice none 0 0) := (cell_of_block y0 2).trans rfl
  have p3 : W.cell? ⟨z, 3, none⟩ = some (.slice none 0 0) := (cell_of_block x0 3).trans rfl
  have r3 : W.cell? ⟨z + 1, 3, none⟩ = some (.slice none 0 0) := (cell_of_block y0 3).trans rfl
  go_enter Try.func8, Try.ntmps8
  go_wp2_with fail
  clear hW hz
  refine (E1 _).mono ?_
  rintro e w1 ⟨rfl, hw⟩
  obtain rfl := hw.symm
  go_wp2_with fail
  refine (E2.out _ HB.out).mono ?_
  rintro e w2 ⟨rfl, hb⟩
  replace x0 := (hb.block z (lt_of_block x0)).trans x0
  replace y0 := (hb.block (z + 1) (lt_of_block y0)).trans y0
  replace HB : Hid (Below w.heap.size w w2) := bel_step HB.out hb
  clear hb p0 p1 p2 p3 r0 r1 r2 r3
  have p2 : w2.cell? ⟨z, 2, none⟩ = some (.slice none 0 0) := (cell_of_block x0 2).trans rfl
  have r2 : w2.cell? ⟨z + 1, 2, none⟩ = some (.slice none 0 0) := (cell_of_block y0 2).trans rfl
  have p3 : w2.cell? ⟨z, 3, none⟩ = some (.slice none 0 0) := (cell_of_block x0 3).trans rfl
  have r3 : w2.cell? ⟨z + 1, 3, none⟩ = some (.slice none 0 0) := (cell_of_block y0 3).trans rfl
  go_wp2_with fail
  refine (E3 _).mono ?_
  rintro e w3 ⟨rfl, hw⟩
  obtain rfl := hw.symm
  go_wp2_with fail
  refine (E4 _).mono ?_
  rintro e w4 ⟨rfl, hw⟩
  obtain rfl := hw.symm
  go_wp2
  go_ret
  exact ⟨rfl, HB.out⟩

set_option maxRecDepth 100000 in
set_option maxHeartbeats 1600000 in
theorem markWorld0 (a : Option Addr) (n : Nat) (w : World) (h : Hid (ZT w a n)) (hn : n ≤ 5) :
    Calls Try.prog 9 #[wv a n, .int .i64 1] w fun e w' => e = .returned (.int .i64 1) ∧ Below w.heap.size w w' := by
  have E1 := markThing0 1
  have E3 := markLoan0 1
  have E4 := markInt0 1
  have E2 : Hid (∀ W, Below w.heap.size w W → Calls Try.prog 26 #[.slice a n n, .int .i64 1] W fun e w' => e = .returned (.int .i64 1) ∧ Below W.heap.size W w') := fun W hb => markTabs0 a n W (h.out.below hb) hn
  unfold wv
  clear h hn
  obtain ⟨z, hz⟩ : ∃ z, w.heap.size = z := ⟨_, rfl⟩
  obtain ⟨W, hW⟩ : ∃ W, w.alloc (.cells #[.slice none 0 0, .slice a n n, .slice none 0 0, .slice none 0 0] 27) = W := ⟨_, rfl⟩
  have HB : Hid (Below w.heap.size w W) := by unfold Hid; rw [← hW]; exact bel_alloc (Below.refl _ _) _
  have x0 : W.heap[z]? = some (.cells #[.slice none 0 0, .slice a n n, .slice none 0 0, .slice none 0 0] 27 (0, 0)) := by rw [← hW, ← hz]; exact heap_alloc_new _ _
  have p0 : W.cell? ⟨z, 0, none⟩ = some (.slice none 0 0) := (cell_of_block x0 0).trans rfl
  have p1 : W.cell? ⟨z, 1, none⟩ = some (.slice a n n) := (cell_of_block x0 1).trans rfl
  have p2 : W.cell? ⟨z, 2, none⟩ = some (.slice none 0 0) := (cell_of_block x0 2).trans rfl
  have p3 : W.cell? ⟨z, 3, none⟩ = some (.slice none 0 0) := (cell_of_block x0 3).trans rfl
  go_enter Try.func9, Try.ntmps9
  go_wp2_with fail
  clear hW hz
  refine (E1 _).mono ?_
  rintro e w1 ⟨rfl, hw⟩
  obtain rfl := hw.symm
  go_wp2_with fail
  refine (E2.out _ HB.out).mono ?_
  rintro e w2 ⟨rfl, hb⟩
  replace x0 := (hb.block z (lt_of_block x0)).trans x0
  replace HB : Hid (Below w.heap.size w w2) := bel_step HB.out hb
  clear hb p0 p1 p2 p3
  have p2 : w2.cell? ⟨z, 2, none⟩ = some (.slice none 0 0) := (cell_of_block x0 2).trans rfl
  have p3 : w2.cell? ⟨z, 3, none⟩ = some (.slice none 0 0) := (cell_of_block x0 3).trans rfl
  go_wp2_with fail
  refine (E3 _).mono ?_
  rintro e w3 ⟨rfl, hw⟩
  obtain rfl := hw.symm
  go_wp2_with fail
  refine (E4 _).mono ?_
  rintro e w4 ⟨rfl, hw⟩
  obtain rfl := hw.symm
  go_wp2
  go_ret
  exact ⟨rfl, HB.out⟩

set_option maxRecDepth 100000 in
set_option maxHeartbeats 1600000 in
theorem heldWorld0 (a : Option Addr) (n : Nat) (w : World) (h : Hid (ZT w a n)) (hn : n ≤ 5) :
    Calls Try.prog 10 #[wv a n, .int .i64 1] w fun e w' => e = .returned (.int .i64 1) ∧ Below w.heap.size w w' := by
  have E1 := heldThing0 1
  have E3 := heldLoan0 1
  have E4 := heldInt0 1
  have E2 : Hid (∀ W, Below w.heap.size w W → Calls Try.prog 29 #[.slice a n n, .int .i64 1] W fun e w' => e = .returned (.int .i64 1) ∧ Below W.heap.size W w') := fun W hb => heldTabs0 a n W (h.out.below hb) hn
  unfold wv
  clear h hn
  obtain ⟨z, hz⟩ : ∃ z, w.heap.size = z := ⟨_, rfl⟩
  obtain ⟨W, hW⟩ : ∃ W, w.alloc (.cells #[.slice none 0 0, .slice a n n, .slice none 0 0, .slice none 0 0] 27) = W := ⟨_, rfl⟩
  have HB : Hid (Below w.heap.size w W) := by unfold Hid; rw [← hW]; exact bel_alloc (Below.refl _ _) _
  have x0 : W.heap[z]? = some (.cells #[.slice none 0 0, .slice a n n, .slice none 0 0, .slice none 0 0] 27 (0, 0)) := by rw [← hW, ← hz]; exact heap_alloc_new _ _
  have p0 : W.cell? ⟨z, 0, none⟩ = some (.slice none 0 0) := (cell_of_block x0 0).trans rfl
  have p1 : W.cell? ⟨z, 1, none⟩ = some (.slice a n n) := (cell_of_block x0 1).trans rfl
  have p2 : W.cell? ⟨z, 2, none⟩ = some (.slice none 0 0) := (cell_of_block x0 2).trans rfl
  have p3 : W.cell? ⟨z, 3, none⟩ = some (.slice none 0 0) := (cell_of_block x0 3).trans rfl
  go_enter Try.func10, Try.ntmps10
  go_wp2_with fail
  clear hW hz
  refine (E1 _).mono ?_
  rintro e w1 ⟨rfl, hw⟩
  obtain rfl := hw.symm
  go_wp2_with fail
  refine (E2.out _ HB.out).mono ?_
  rintro e w2 ⟨rfl, hb⟩
  replace x0 := (hb.block z (lt_of_block x0)).trans x0
  replace HB : Hid (Below w.heap.size w w2) := bel_step HB.out hb
  clear hb p0 p1 p2 p3
  have p2 : w2.cell? ⟨z, 2, none⟩ = some (.slice none 0 0) := (cell_of_block x0 2).trans rfl
  have p3 : w2.cell? ⟨z, 3, none⟩ = some (.slice none 0 0) := (cell_of_block x0 3).trans rfl
  go_wp2_with fail
  refine (E3 _).mono ?_
  rintro e w3 ⟨rfl, hw⟩
  obtain rfl := hw.symm
  go_wp2_with fail
  refine (E4 _).mono ?_
  rintro e w4 ⟨rfl, hw⟩
  obtain rfl := hw.symm
  go_wp2
  go_ret
  exact ⟨rfl, HB.out⟩

/-- What both sides tell. -/
theorem newBothW (p : Int) : ∃ (n : Nat) (r : Bool), n ≤ 5 ∧ (∀ w : World, Calls Try.prog 6 #[.int .i64 p] w fun e w' => ∃ a, e = .returned (.tuple #[wv a n, .bool r]) ∧ Hid (ZT w' a n) ∧ Below w.heap.size w w') ∧ (∀ w : World, Calls Try.prog 7 #[.int .i64 p] w fun e w' => ∃ a, e = .returned (.tuple #[wv a n, .bool r]) ∧ Hid (ZT w' a n) ∧ Below w.heap.size w w') := by
  by_cases h : 1 ≤ p ∧ p ≤ 5
  · obtain ⟨n, rfl⟩ := Int.eq_ofNat_of_zero_le (by omega : 0 ≤ p)
    exact ⟨n, true, by omega, fun w => specNew_yes n (by omega) (by omega) w, fun w => implNew_yes n (by omega) (by omega) w⟩
  · exact ⟨0, false, by omega, fun w => (specNew_no p h w).mono fun e w' hh => ⟨none, hh.1, fun h0 => absurd h0 (by omega), hh.2⟩, fun w => (implNew_no p h w).mono fun e w' hh => ⟨none, hh.1, fun h0 => absurd h0 (by omega), hh.2⟩⟩

set_option maxRecDepth 100000 in
set_option maxHeartbeats 3200000 in
theorem newWorld_walk (a0 : Int) (_w0 : (Lit.int .i64 a0).wf = true) (w : World) :
    Calls Try.prog 3 #[.int .i64 a0] w fun e w' => e = .returned (.bool true) ∧ Below w.heap.size w w' := by
  obtain ⟨n, r, hn, S, I⟩ := newBothW a0
  have E := fun a a' w h h' => eqWorld0 a a' n w h h' hn
  have M := fun a w h => markWorld0 a n w h hn
  have Q := fun a w h => heldWorld0 a n w h hn
  unfold wv at S I E M Q
  clear _w0 hn
  obtain ⟨g, hg⟩ : ∃ g, w.heap.size = g := ⟨_, rfl⟩
  have HB : Hid (Below w.heap.size w w) := Below.refl _ _
  clear hg
  go_enter Try.func3, Try.ntmps3
  go_wp2_with fail
  refine (S _).mono ?_
  rintro e w1 ⟨av, rfl, zav, hb⟩
  replace HB : Hid (Below w.heap.size w w1) := bel_step HB.out hb
  clear hb
  obtain ⟨y1, hy1⟩ : ∃ z, w1.heap.size = z := ⟨_, rfl⟩
  obtain ⟨ZV1, hZV1⟩ : ∃ G, w1.alloc (.cells #[.slice none 0 0, .slice none 0 0, .slice none 0 0, .slice none 0 0] 27) = G := ⟨_, rfl⟩
  have hb : Below w1.heap.size w1 ZV1 := by rw [← hZV1]; exact bel_alloc (Below.refl _ _) _
  have hnav : ZV1.heap[y1]? = some (.cells #[.slice none 0 0, .slice none 0 0, .slice none 0 0, .slice none 0 0] 27 (0, 0)) := by rw [← hZV1, ← hy1]; exact heap_alloc_new _ _
  obtain ⟨V1, hV1⟩ : ∃ G, (((ZV1.setCell ⟨y1, 0, none⟩ (.slice none 0 0)).setCell ⟨y1, 1, none⟩ (.slice av n n)).setCell ⟨y1, 2, none⟩ (.slice none 0 0)).setCell ⟨y1, 3, none⟩ (.slice none 0 0) = G := ⟨_, rfl⟩
  obtain ⟨s1, s2, s3, s4⟩ := set4W hnav _ _ _ _ hV1
  replace hb : Below w1.heap.size w1 V1 := s4 _ _ (Nat.le_of_eq hy1) hb
  replace zav : Hid (ZT V1 av n) := zav.out.below hb
  have eav0 : ZV1.cell? ⟨y1, 0, none⟩ = some (.slice none 0 0) := (cell_of_block hnav 0).trans rfl
  have fav0 := free_of_block hnav 0
  have eav1 : ZV1.cell? ⟨y1, 1, none⟩ = some (.slice none 0 0) := (cell_of_block hnav 1).trans rfl
  have fav1 := free_of_block hnav 1
  have eav2 : ZV1.cell? ⟨y1, 2, none⟩ = some (.slice none 0 0) := (cell_of_block hnav 2).trans rfl
  have fav2 := free_of_block hnav 2
  have eav3 : ZV1.cell? ⟨y1, 3, none⟩ = some (.slice none 0 0) := (cell_of_block hnav 3).trans rfl
  have fav3 := free_of_block hnav 3
  have bav : V1.heap[y1]? = some (.cells #[.slice none 0 0, .slice av n n, .slice none 0 0, .slice none 0 0] 27 (0, 0)) := s1
  replace HB : Hid (Below w.heap.size w V1) := bel_step HB.out hb
  clear hb s1 s2 s3 s4 hnav
  go_wp2_with fail
  clear hV1 hy1 hZV1 eav0 fav0 eav1 fav1 eav2 fav2 eav3 fav3
  refine (I _).mono ?_
  rintro e w2 ⟨ai, rfl, zai, hb⟩
  replace bav := (hb.block (y1) (lt_of_block bav)).trans bav
  replace zav : Hid (ZT w2 av n) := zav.out.below hb
  replace HB : Hid (Below w.heap.size w w2) := bel_step HB.out hb
  clear hb
  obtain ⟨y2, hy2⟩ : ∃ z, w2.heap.size = z := ⟨_, rfl⟩
  obtain ⟨ZV2, hZV2⟩ : ∃ G, w2.alloc (.cells #[.slice none 0 0, .slice none 0 0, .slice none 0 0, .slice none 0 0] 27) = G := ⟨_, rfl⟩
  have hb : Below w2.heap.size w2 ZV2 := by rw [← hZV2]; exact bel_alloc (Below.refl _ _) _
  have hnai : ZV2.heap[y2]? = some (.cells #[.slice none 0 0, .slice none 0 0, .slice none 0 0, .slice none 0 0] 27 (0, 0)) := by rw [← hZV2, ← hy2]; exact heap_alloc_new _ _
  obtain ⟨V2, hV2⟩ : ∃ G, (((ZV2.setCell ⟨y2, 0, none⟩ (.slice none 0 0)).setCell ⟨y2, 1, none⟩ (.slice ai n n)).setCell ⟨y2, 2, none⟩ (.slice none 0 0)).setCell ⟨y2, 3, none⟩ (.slice none 0 0) = G := ⟨_, rfl⟩
  obtain ⟨s1, s2, s3, s4⟩ := set4W hnai _ _ _ _ hV2
  replace hb : Below w2.heap.size w2 V2 := s4 _ _ (Nat.le_of_eq hy2) hb
  replace bav := (hb.block (y1) (lt_of_block bav)).trans bav
  replace zav : Hid (ZT V2 av n) := zav.out.below hb
  replace zai : Hid (ZT V2 ai n) := zai.out.below hb
  have eai0 : ZV2.cell? ⟨y2, 0, none⟩ = some (.slice none 0 0) := (cell_of_block hnai 0).trans rfl
  have fai0 := free_of_block hnai 0
  have eai1 : ZV2.cell? ⟨y2, 1, none⟩ = some (.slice none 0 0) := (cell_of_block hnai 1).trans rfl
  have fai1 := free_of_block hnai 1
  have eai2 : ZV2.cell? ⟨y2, 2, none⟩ = some (.slice none 0 0) := (cell_of_block hnai 2).trans rfl
  have fai2 := free_of_block hnai 2
  have eai3 : ZV2.cell? ⟨y2, 3, none⟩ = some (.slice none 0 0) := (cell_of_block hnai 3).trans rfl
  have fai3 := free_of_block hnai 3
  have bai : V2.heap[y2]? = some (.cells #[.slice none 0 0, .slice ai n n, .slice none 0 0, .slice none 0 0] 27 (0, 0)) := s1
  replace HB : Hid (Below w.heap.size w V2) := bel_step HB.out hb
  clear hb s1 s2 s3 s4 hnai
  have cbai0 : V2.cell? ⟨y2, 0, none⟩ = some (.slice none 0 0) := (cell_of_block bai 0).trans rfl
  have cbai1 : V2.cell? ⟨y2, 1, none⟩ = some (.slice ai n n) := (cell_of_block bai 1).trans rfl
  have cbai2 : V2.cell? ⟨y2, 2, none⟩ = some (.slice none 0 0) := (cell_of_block bai 2).trans rfl
  have cbai3 : V2.cell? ⟨y2, 3, none⟩ = some (.slice none 0 0) := (cell_of_block bai 3).trans rfl
  have cbav0 : V2.cell? ⟨y1, 0, none⟩ = some (.slice none 0 0) := (cell_of_block bav 0).trans rfl
  have cbav1 : V2.cell? ⟨y1, 1, none⟩ = some (.slice av n n) := (cell_of_block bav 1).trans rfl
  have cbav2 : V2.cell? ⟨y1, 2, none⟩ = some (.slice none 0 0) := (cell_of_block bav 2).trans rfl
  have cbav3 : V2.cell? ⟨y1, 3, none⟩ = some (.slice none 0 0) := (cell_of_block bav 3).trans rfl
  go_wp2_with fail
  clear hV2 hy2 hZV2 eai0 fai0 eai1 fai1 eai2 fai2 eai3 fai3 cbai0 cbai1 cbai2 cbai3 cbav0 cbav1 cbav2 cbav3
  refine (E _ _ _ zai zav).mono ?_
  rintro e w3 ⟨rfl, hb⟩
  replace bav := (hb.block (y1) (lt_of_block bav)).trans bav
  replace bai := (hb.block (y2) (lt_of_block bai)).trans bai
  replace zav : Hid (ZT w3 av n) := zav.out.below hb
  replace zai : Hid (ZT w3 ai n) := zai.out.below hb
  replace HB : Hid (Below w.heap.size w w3) := bel_step HB.out hb
  clear hb
  have cbai0 : w3.cell? ⟨y2, 0, none⟩ = some (.slice none 0 0) := (cell_of_block bai 0).trans rfl
  have cbai1 : w3.cell? ⟨y2, 1, none⟩ = some (.slice ai n n) := (cell_of_block bai 1).trans rfl
  have cbai2 : w3.cell? ⟨y2, 2, none⟩ = some (.slice none 0 0) := (cell_of_block bai 2).trans rfl
  have cbai3 : w3.cell? ⟨y2, 3, none⟩ = some (.slice none 0 0) := (cell_of_block bai 3).trans rfl
  go_wp2_with fail
  clear cbai0 cbai1 cbai2 cbai3
  refine (M _ _ zai).mono ?_
  rintro e w4 ⟨rfl, hb⟩
  replace bav := (hb.block (y1) (lt_of_block bav)).trans bav
  replace bai := (hb.block (y2) (lt_of_block bai)).trans bai
  replace zav : Hid (ZT w4 av n) := zav.out.below hb
  replace zai : Hid (ZT w4 ai n) := zai.out.below hb
  replace HB : Hid (Below w.heap.size w w4) := bel_step HB.out hb
  clear hb
  have cbai0 : w4.cell? ⟨y2, 0, none⟩ = some (.slice none 0 0) := (cell_of_block bai 0).trans rfl
  have cbai1 : w4.cell? ⟨y2, 1, none⟩ = some (.slice ai n n) := (cell_of_block bai 1).trans rfl
  have cbai2 : w4.cell? ⟨y2, 2, none⟩ = some (.slice none 0 0) := (cell_of_block bai 2).trans rfl
  have cbai3 : w4.cell? ⟨y2, 3, none⟩ = some (.slice none 0 0) := (cell_of_block bai 3).trans rfl
  go_wp2_with fail
  clear cbai0 cbai1 cbai2 cbai3
  refine (Q _ _ zai).mono ?_
  rintro e w5 ⟨rfl, hb⟩
  replace bav := (hb.block (y1) (lt_of_block bav)).trans bav
  replace bai := (hb.block (y2) (lt_of_block bai)).trans bai
  replace zav : Hid (ZT w5 av n) := zav.out.below hb
  replace zai : Hid (ZT w5 ai n) := zai.out.below hb
  replace HB : Hid (Below w.heap.size w w5) := bel_step HB.out hb
  clear hb
  go_wp2_with fail
  refine (I _).mono ?_
  rintro e w6 ⟨aj, rfl, zaj, hb⟩
  replace bav := (hb.block (y1) (lt_of_block bav)).trans bav
  replace bai := (hb.block (y2) (lt_of_block bai)).trans bai
  replace zav : Hid (ZT w6 av n) := zav.out.below hb
  replace zai : Hid (ZT w6 ai n) := zai.out.below hb
  replace HB : Hid (Below w.heap.size w w6) := bel_step HB.out hb
  clear hb
  obtain ⟨y6, hy6⟩ : ∃ z, w6.heap.size = z := ⟨_, rfl⟩
  obtain ⟨ZV6, hZV6⟩ : ∃ G, w6.alloc (.cells #[.slice none 0 0, .slice none 0 0, .slice none 0 0, .slice none 0 0] 27) = G := ⟨_, rfl⟩
  have hb : Below w6.heap.size w6 ZV6 := by rw [← hZV6]; exact bel_alloc (Below.refl _ _) _
  have hnaj : ZV6.heap[y6]? = some (.cells #[.slice none 0 0, .slice none 0 0, .slice none 0 0, .slice none 0 0] 27 (0, 0)) := by rw [← hZV6, ← hy6]; exact heap_alloc_new _ _
  obtain ⟨V6, hV6⟩ : ∃ G, (((ZV6.setCell ⟨y6, 0, none⟩ (.slice none 0 0)).setCell ⟨y6, 1, none⟩ (.slice aj n n)).setCell ⟨y6, 2, none⟩ (.slice none 0 0)).setCell ⟨y6, 3, none⟩ (.slice none 0 0) = G := ⟨_, rfl⟩
  obtain ⟨s1, s2, s3, s4⟩ := set4W hnaj _ _ _ _ hV6
  replace hb : Below w6.heap.size w6 V6 := s4 _ _ (Nat.le_of_eq hy6) hb
  replace bav := (hb.block (y1) (lt_of_block bav)).trans bav
  replace bai := (hb.block (y2) (lt_of_block bai)).trans bai
  replace zav : Hid (ZT V6 av n) := zav.out.below hb
  replace zai : Hid (ZT V6 ai n) := zai.out.below hb
  replace zaj : Hid (ZT V6 aj n) := zaj.out.below hb
  have eaj0 : ZV6.cell? ⟨y6, 0, none⟩ = some (.slice none 0 0) := (cell_of_block hnaj 0).trans rfl
  have faj0 := free_of_block hnaj 0
  have eaj1 : ZV6.cell? ⟨y6, 1, none⟩ = some (.slice none 0 0) := (cell_of_block hnaj 1).trans rfl
  have faj1 := free_of_block hnaj 1
  have eaj2 : ZV6.cell? ⟨y6, 2, none⟩ = some (.slice none 0 0) := (cell_of_block hnaj 2).trans rfl
  have faj2 := free_of_block hnaj 2
  have eaj3 : ZV6.cell? ⟨y6, 3, none⟩ = some (.slice none 0 0) := (cell_of_block hnaj 3).trans rfl
  have faj3 := free_of_block hnaj 3
  have baj : V6.heap[y6]? = some (.cells #[.slice none 0 0, .slice aj n n, .slice none 0 0, .slice none 0 0] 27 (0, 0)) := s1
  replace HB : Hid (Below w.heap.size w V6) := bel_step HB.out hb
  clear hb s1 s2 s3 s4 hnaj
  have cbaj0 : V6.cell? ⟨y6, 0, none⟩ = some (.slice none 0 0) := (cell_of_block baj 0).trans rfl
  have cbaj1 : V6.cell? ⟨y6, 1, none⟩ = some (.slice aj n n) := (cell_of_block baj 1).trans rfl
  have cbaj2 : V6.cell? ⟨y6, 2, none⟩ = some (.slice none 0 0) := (cell_of_block baj 2).trans rfl
  have cbaj3 : V6.cell? ⟨y6, 3, none⟩ = some (.slice none 0 0) := (cell_of_block baj 3).trans rfl
  have cbav0 : V6.cell? ⟨y1, 0, none⟩ = some (.slice none 0 0) := (cell_of_block bav 0).trans rfl
  have cbav1 : V6.cell? ⟨y1, 1, none⟩ = some (.slice av n n) := (cell_of_block bav 1).trans rfl
  have cbav2 : V6.cell? ⟨y1, 2, none⟩ = some (.slice none 0 0) := (cell_of_block bav 2).trans rfl
  have cbav3 : V6.cell? ⟨y1, 3, none⟩ = some (.slice none 0 0) := (cell_of_block bav 3).trans rfl
  go_wp2_with fail
  clear hV6 hy6 hZV6 eaj0 faj0 eaj1 faj1 eaj2 faj2 eaj3 faj3 cbaj0 cbaj1 cbaj2 cbaj3 cbav0 cbav1 cbav2 cbav3
  refine (E _ _ _ zaj zav).mono ?_
  rintro e w7 ⟨rfl, hb⟩
  replace bav := (hb.block (y1) (lt_of_block bav)).trans bav
  replace bai := (hb.block (y2) (lt_of_block bai)).trans bai
  replace baj := (hb.block (y6) (lt_of_block baj)).trans baj
  replace zav : Hid (ZT w7 av n) := zav.out.below hb
  replace zai : Hid (ZT w7 ai n) := zai.out.below hb
  replace zaj : Hid (ZT w7 aj n) := zaj.out.below hb
  replace HB : Hid (Below w.heap.size w w7) := bel_step HB.out hb
  clear hb
  have cbai0 : w7.cell? ⟨y2, 0, none⟩ = some (.slice none 0 0) := (cell_of_block bai 0).trans rfl
  have cbai1 : w7.cell? ⟨y2, 1, none⟩ = some (.slice ai n n) := (cell_of_block bai 1).trans rfl
  have cbai2 : w7.cell? ⟨y2, 2, none⟩ = some (.slice none 0 0) := (cell_of_block bai 2).trans rfl
  have cbai3 : w7.cell? ⟨y2, 3, none⟩ = some (.slice none 0 0) := (cell_of_block bai 3).trans rfl
  go_wp2_with fail
  clear cbai0 cbai1 cbai2 cbai3
  refine (Q _ _ zai).mono ?_
  rintro e w8 ⟨rfl, hb⟩
  replace bav := (hb.block (y1) (lt_of_block bav)).trans bav
  replace bai := (hb.block (y2) (lt_of_block bai)).trans bai
  replace baj := (hb.block (y6) (lt_of_block baj)).trans baj
  replace zav : Hid (ZT w8 av n) := zav.out.below hb
  replace zai : Hid (ZT w8 ai n) := zai.out.below hb
  replace zaj : Hid (ZT w8 aj n) := zaj.out.below hb
  replace HB : Hid (Below w.heap.size w w8) := bel_step HB.out hb
  clear hb
  go_wp2
  go_ret
  exact ⟨rfl, HB.out⟩

end Go.Proofs.Ytmnceaaehlglmaa
