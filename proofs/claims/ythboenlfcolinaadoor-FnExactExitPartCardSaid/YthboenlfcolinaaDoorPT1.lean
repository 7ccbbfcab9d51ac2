/-
  Parts: what the laws do with them, and what is read of one that comes in. (Made by a generator.)
-/
import Derived.Test.YthboenlfcolinaaDoorHT2
import Derived.Test.YthboenlfcolinaaDoorPT0
namespace Go.Proofs.YthboenlfcolinaaDoor
open Go.ChangeShapes Go.WideShapes Go.ChangeAt Go.RowKit Go.Deep

/-- A part as a value. -/
abbrev ptV (A : ByteArray) (M : Int) (D : ByteArray) (N C : Int) (I L : Bool) : Value := .agg #[.string A, .int .i64 M, .string D, .int .i64 N, .int .i64 C, .bool I, .bool L]

theorem partCells : Tryd.prog.cellsOf 27 = 7 := by kernel_rfl
theorem strCells : Tryd.prog.cellsOf 9 = 1 := by kernel_rfl
theorem boolCells : Tryd.prog.cellsOf 4 = 1 := by kernel_rfl
theorem listP7 {α : Type} {cs : List α} (h : cs.length = 7) : ∃ c0 c1 c2 c3 c4 c5 c6, cs = [c0, c1, c2, c3, c4, c5, c6] := by
  match cs, h with
  | [c0, c1, c2, c3, c4, c5, c6], _ => exact ⟨c0, c1, c2, c3, c4, c5, c6, rfl⟩

set_option maxRecDepth 100000 in
theorem open_part {H : Type} {enc : TypeId × Value → H} {W : World} {b0 : Nat} {v : Value} {d : DataW H} {p : List MemPlace} (hv : Value.okWide Tryd.prog W .any b0 27 v)
    (h : DataW.Trod enc Tryd.prog W 0 (fun _ => true) true 27 v d p) : ∃ A M D N C I L, v = ptV A M D N C I L ∧ A.size ≤ maxLen ∧ D.size ≤ maxLen := by
  obtain ⟨⟨cs⟩, rfl, hsz⟩ := okWide_struct Tryd.underlying27 hv
  rw [partCells] at hsz
  obtain ⟨c0, c1, c2, c3, c4, c5, c6, rfl⟩ := listP7 (by simpa using hsz)
  obtain ⟨fuel, hf⟩ := h
  obtain ⟨xs, n, _, _, _, hlen, hf⟩ := DataW.trod_struct Tryd.underlying27 hf
  have h0 : DataW.trod enc Tryd.prog W 0 (fun _ => true) true n 9 (List.take (Tryd.prog.cellsOf 9) [c0, c1, c2, c3, c4, c5, c6]) = xs[0]? := hf 0 _ rfl
  have h1 : DataW.trod enc Tryd.prog W 0 (fun _ => true) true n 25 (List.take (Tryd.prog.cellsOf 25) [c1, c2, c3, c4, c5, c6]) = xs[1]? := hf 1 _ rfl
  have h2 : DataW.trod enc Tryd.prog W 0 (fun _ => true) true n 3 (List.take (Tryd.prog.cellsOf 3) [c4, c5, c6]) = xs[2]? := hf 2 _ rfl
  have h3 : DataW.trod enc Tryd.prog W 0 (fun _ => true) true n 4 (List.take (Tryd.prog.cellsOf 4) [c5, c6]) = xs[3]? := hf 3 _ rfl
  have h4 : DataW.trod enc Tryd.prog W 0 (fun _ => true) true n 4 (List.take (Tryd.prog.cellsOf 4) [c6]) = xs[4]? := hf 4 _ rfl
  have l5 : xs.length = 5 := hlen
  rw [List.getElem?_eq_getElem (by omega)] at h0 h1 h2 h3 h4
  rw [strCells] at h0
  rw [heapCells] at h1
  rw [intCells] at h2
  rw [boolCells] at h3 h4
  simp only [List.take_succ_cons, List.take_zero] at h0 h1 h2 h3 h4
  obtain ⟨ys, m, _, _, _, hlen2, hg⟩ := DataW.trod_struct Tryd.underlying25 h1
  have g0 : DataW.trod enc Tryd.prog W 0 (fun _ => true) true m 23 (List.take (Tryd.prog.cellsOf 23) [c1, c2, c3]) = ys[0]? := hg 0 _ rfl
  have g1 : DataW.trod enc Tryd.prog W 0 (fun _ => true) true m 3 (List.take (Tryd.prog.cellsOf 3) [c3]) = ys[1]? := hg 1 _ rfl
  have l2 : ys.length = 2 := hlen2
  rw [List.getElem?_eq_getElem (by omega)] at g0 g1
  rw [memCellsH] at g0
  rw [intCells] at g1
  simp only [List.take_succ_cons, List.take_zero] at g0 g1
  obtain ⟨zs, k, _, _, _, hlen3, hk⟩ := DataW.trod_struct Tryd.underlying23 g0
  have k0 : DataW.trod enc Tryd.prog W 0 (fun _ => true) true k 3 (List.take (Tryd.prog.cellsOf 3) [c1, c2]) = zs[0]? := hk 0 _ rfl
  have k1 : DataW.trod enc Tryd.prog W 0 (fun _ => true) true k 9 (List.take (Tryd.prog.cellsOf 9) [c2]) = zs[1]? := hk 1 _ rfl
  have l3 : zs.length = 2 := hlen3
  rw [List.getElem?_eq_getElem (by omega)] at k0 k1
  rw [intCells] at k0
  rw [strCells] at k1
  simp only [List.take_succ_cons, List.take_zero] at k0 k1
  obtain ⟨A, hr0, _, hA⟩ := DataW.trod_string Tryd.underlying9 h0
  obtain ⟨M, hr1, _, _⟩ := DataW.trod_int Tryd.underlying3 k0
  obtain ⟨D, hr2, _, hD⟩ := DataW.trod_string Tryd.underlying9 k1
  obtain ⟨N, hr3, _, _⟩ := DataW.trod_int Tryd.underlying3 g1
  obtain ⟨C, hr4, _, _⟩ := DataW.trod_int Tryd.underlying3 h2
  obtain ⟨I, hr5, _⟩ := DataW.trod_bool Tryd.underlying4 h3
  obtain ⟨L, hr6, _⟩ := DataW.trod_bool Tryd.underlying4 h4
  simp at hr0 hr1 hr2 hr3 hr4 hr5 hr6
  subst hr0 hr1 hr2 hr3 hr4 hr5 hr6
  exact ⟨A, M, D, N, C, I, L, rfl, hA, hD⟩

set_option maxRecDepth 100000 in
set_option maxHeartbeats 1600000 in
theorem toPart (A : ByteArray) (M : Int) (D : ByteArray) (N C : Int) (I L : Bool) (w : World) :
    Calls Tryd.prog 8 #[ptV A M D N C I L] w fun e w' => e = .returned (ptV A M D N C I L) ∧ Below w.heap.size w w' := by
  have T := toHeap M D N
  obtain ⟨g, hgs⟩ : ∃ g, w.heap.size = g := ⟨_, rfl⟩
  go_enter Tryd.func8, Tryd.ntmps8
  go_wp2_with fail
  refine (T _).mono ?_
  rintro e w1 ⟨rfl, B1⟩
  have hs := B1.size
  simp at hs
  have hB : Hid (Below w.heap.size w w1) := by unfold Hid; ((repeat (first | refine bel_alloc ?_ _ | refine bel_dN ?_ _ | refine Below.drew ?_ | refine Below.setCell ?_ (by first | (simp; done) | (simp; omega)) _)); refine bel_step ?_ B1; (repeat (first | refine bel_alloc ?_ _ | refine bel_dN ?_ _ | refine Below.drew ?_ | refine Below.setCell ?_ (by first | (simp; done) | (simp; omega)) _)); exact Below.refl _ _)
  have e0 : w1.heap[g]? = some (.cells #[.string A, .int .i64 M, .string D, .int .i64 N, .int .i64 C, .bool I, .bool L] 27 (0, 0)) := by
    rw [← hgs]
    refine (B1.block _ (by simp <;> omega)).trans ?_
    exact heap_old (heap_old (heap_blk rfl))
  have e1 : w1.heap[g + 1]? = some (.cells #[.string ⟨#[]⟩, .int .i64 0, .string ⟨#[]⟩, .int .i64 0, .int .i64 0, .bool false, .bool false] 34 (0, 0)) := by
    rw [← hgs]
    refine (B1.block _ (by simp <;> omega)).trans ?_
    refine heap_old (heap_blk ?_)
    simp
  have e2 : w1.heap[g + 2]? = some (.cells #[.string A, .int .i64 0, .string ⟨#[]⟩, .int .i64 0, .int .i64 0, .bool false, .bool false] 34 (0, 0)) := by
    rw [← hgs]
    refine (B1.block _ (by simp <;> omega)).trans ?_
    refine heap_blk ?_
    simp
  have p4 := (cell_of_block e0 4).trans (show _ = some (.int .i64 C : Value) from rfl)
  have p5 := (cell_of_block e0 5).trans (show _ = some (.bool I : Value) from rfl)
  have p6 := (cell_of_block e0 6).trans (show _ = some (.bool L : Value) from rfl)
  have q0 := (cell_of_block e1 0).trans (show _ = some (.string ⟨#[]⟩ : Value) from rfl)
  have z0 := free_of_block e1 0
  have y0 := free_of_block e2 0
  have q1 := (cell_of_block e1 1).trans (show _ = some (.int .i64 0 : Value) from rfl)
  have z1 := free_of_block e1 1
  have y1 := free_of_block e2 1
  have q2 := (cell_of_block e1 2).trans (show _ = some (.string ⟨#[]⟩ : Value) from rfl)
  have z2 := free_of_block e1 2
  have y2 := free_of_block e2 2
  have q3 := (cell_of_block e1 3).trans (show _ = some (.int .i64 0 : Value) from rfl)
  have z3 := free_of_block e1 3
  have y3 := free_of_block e2 3
  have q4 := (cell_of_block e1 4).trans (show _ = some (.int .i64 0 : Value) from rfl)
  have z4 := free_of_block e1 4
  have y4 := free_of_block e2 4
  have q5 := (cell_of_block e1 5).trans (show _ = some (.bool false : Value) from rfl)
  have z5 := free_of_block e1 5
  have y5 := free_of_block e2 5
  have q6 := (cell_of_block e1 6).trans (show _ = some (.bool false : Value) from rfl)
  have z6 := free_of_block e1 6
  have y6 := free_of_block e2 6
  have r0 := (cell_of_block e2 0).trans (show _ = some (.string A : Value) from rfl)
  have r1 := (cell_of_block e2 1).trans (show _ = some (.int .i64 0 : Value) from rfl)
  have r2 := (cell_of_block e2 2).trans (show _ = some (.string ⟨#[]⟩ : Value) from rfl)
  have r3 := (cell_of_block e2 3).trans (show _ = some (.int .i64 0 : Value) from rfl)
  have r4 := (cell_of_block e2 4).trans (show _ = some (.int .i64 0 : Value) from rfl)
  have r5 := (cell_of_block e2 5).trans (show _ = some (.bool false : Value) from rfl)
  have r6 := (cell_of_block e2 6).trans (show _ = some (.bool false : Value) from rfl)
  have hl : g + 2 < w1.heap.size := by omega
  have F0 : (((((((w1.setCell ⟨g + 2, 1, none⟩ (.int .i64 M)).setCell ⟨g + 2, 2, none⟩ (.string D)).setCell ⟨g + 2, 3, none⟩ (.int .i64 N)).setCell ⟨g + 2, 4, none⟩ (.int .i64 C)).setCell ⟨g + 2, 5, none⟩ (.bool I)).setCell ⟨g + 2, 6, none⟩ (.bool L))).heap[g + 1]? = some (.cells #[.string ⟨#[]⟩, .int .i64 0, .string ⟨#[]⟩, .int .i64 0, .int .i64 0, .bool false, .bool false] 34 (0, 0)) := by
    refine Eq.trans (heap_setCell_other _ _ _ _ ?_) ?_
    · simp
    refine Eq.trans (heap_setCell_other _ _ _ _ ?_) ?_
    · simp
    refine Eq.trans (heap_setCell_other _ _ _ _ ?_) ?_
    · simp
    refine Eq.trans (heap_setCell_other _ _ _ _ ?_) ?_
    · simp
    refine Eq.trans (heap_setCell_other _ _ _ _ ?_) ?_
    · simp
    refine Eq.trans (heap_setCell_other _ _ _ _ ?_) ?_
    · simp
    exact e1
  have F : ((((((((((((((w1.setCell ⟨g + 2, 1, none⟩ (.int .i64 M)).setCell ⟨g + 2, 2, none⟩ (.string D)).setCell ⟨g + 2, 3, none⟩ (.int .i64 N)).setCell ⟨g + 2, 4, none⟩ (.int .i64 C)).setCell ⟨g + 2, 5, none⟩ (.bool I)).setCell ⟨g + 2, 6, none⟩ (.bool L)).setCell ⟨g + 1, 0, none⟩ (.string A)).setCell ⟨g + 1, 1, none⟩ (.int .i64 M)).setCell ⟨g + 1, 2, none⟩ (.string D)).setCell ⟨g + 1, 3, none⟩ (.int .i64 N)).setCell ⟨g + 1, 4, none⟩ (.int .i64 C)).setCell ⟨g + 1, 5, none⟩ (.bool I)).setCell ⟨g + 1, 6, none⟩ (.bool L))).heap[g + 1]? = some (.cells #[.string A, .int .i64 M, .string D, .int .i64 N, .int .i64 C, .bool I, .bool L] 34 (0, 0)) := (heap_setCell_same _ _ _ _ _ _ (heap_setCell_same _ _ _ _ _ _ (heap_setCell_same _ _ _ _ _ _ (heap_setCell_same _ _ _ _ _ _ (heap_setCell_same _ _ _ _ _ _ (heap_setCell_same _ _ _ _ _ _ (heap_setCell_same _ _ _ _ _ _ (F0)))))))).trans rfl
  have k0 := (cell_of_block F 0).trans (show _ = some (.string A : Value) from rfl)
  have k1 := (cell_of_block F 1).trans (show _ = some (.int .i64 M : Value) from rfl)
  have k2 := (cell_of_block F 2).trans (show _ = some (.string D : Value) from rfl)
  have k3 := (cell_of_block F 3).trans (show _ = some (.int .i64 N : Value) from rfl)
  have k4 := (cell_of_block F 4).trans (show _ = some (.int .i64 C : Value) from rfl)
  have k5 := (cell_of_block F 5).trans (show _ = some (.bool I : Value) from rfl)
  have k6 := (cell_of_block F 6).trans (show _ = some (.bool L : Value) from rfl)
  clear B1 T hs e0 e1 e2 F F0
  go_wp2
  refine bodyPost_ret (v := ptV A M D N C I L) (by simp [results, Tryd.results8, go_sem, k0, k1, k2, k3, k4, k5, k6]) rfl ⟨rfl, ?_⟩
  refine Below.setCell (Below.setCell (Below.setCell (Below.setCell (Below.setCell (Below.setCell (Below.setCell (Below.setCell (Below.setCell (Below.setCell (Below.setCell (Below.setCell (Below.setCell (hB.out) ?_ _) ?_ _) ?_ _) ?_ _) ?_ _) ?_ _) ?_ _) ?_ _) ?_ _) ?_ _) ?_ _) ?_ _) ?_ _ <;> simp <;> omega

theorem szMemL (M : Int) (D : ByteArray) (l : Int) (hd : D.size ≤ 9223372036854775807) (h0 : 0 ≤ l) (h1 : l ≤ 1048576) (w : World) :
    Calls Tryd.prog 25 #[.agg #[.int .i64 M, .string D], .int .i64 l] w fun e w' => e = .returned (.int .i64 (if l < (D.size : Int) then -1 else l - (D.size : Int))) ∧ Below w.heap.size w w' := by
  obtain ⟨n, hn⟩ : ∃ n : Int, (D.size : Int) = n := ⟨_, rfl⟩
  have h2 : wrap64 (l - n) = l - n := by unfold wrap64; omega
  rw [hn]
  by_cases h : l < n
  · have h3 : l - n < 0 := by omega
    rw [if_pos h]
    clear hd h0 h1 h
    go_enter Tryd.func25, Tryd.ntmps25
    go_wp2
    go_ret
    refine ⟨rfl, ?_⟩
    (repeat (first | refine Below.alloc ?_ (by first | (simp; done) | (simp; omega)) _ | refine Below.setCell ?_ (by first | (simp; done) | (simp; omega)) _ | refine bel_dN ?_ _ | refine Below.drew ?_ | exact Below.refl _ _))
  · have h3 : ¬ l - n < 0 := by omega
    rw [if_neg h]
    clear hd h0 h1 h
    go_enter Tryd.func25, Tryd.ntmps25
    go_wp2
    go_ret
    refine ⟨rfl, ?_⟩
    (repeat (first | refine Below.alloc ?_ (by first | (simp; done) | (simp; omega)) _ | refine Below.setCell ?_ (by first | (simp; done) | (simp; omega)) _ | refine bel_dN ?_ _ | refine Below.drew ?_ | exact Below.refl _ _))

theorem szHeapL (M : Int) (D : ByteArray) (N l : Int) (hd : D.size ≤ 9223372036854775807) (h0 : 0 ≤ l) (h1 : l ≤ 1048576) (w : World) :
    Calls Tryd.prog 15 #[hpV M D N, .int .i64 l] w fun e w' => e = .returned (.int .i64 (if l < (D.size : Int) then -1 else l - (D.size : Int))) ∧ Below w.heap.size w w' := by
  have T := szMemL M D l hd h0 h1
  obtain ⟨r, hr⟩ : ∃ r, (if l < (D.size : Int) then -1 else l - (D.size : Int)) = r := ⟨_, rfl⟩
  have hc : r = -1 ∨ ¬ r < 0 := by rw [← hr]; split <;> omega
  rw [hr] at T
  rw [hr]
  clear hr hd h0 h1
  rcases hc with rfl | hc
  · go_enter Tryd.func15, Tryd.ntmps15
    go_wp2_with fail
    refine (T _).mono ?_
    rintro e w1 ⟨rfl, B1⟩
    have hB : Hid (Below w.heap.size w w1) := by unfold Hid; ((repeat (first | refine bel_alloc ?_ _ | refine bel_dN ?_ _ | refine Below.drew ?_ | refine Below.setCell ?_ (by first | (simp; done) | (simp; omega)) _)); refine bel_step ?_ B1; (repeat (first | refine bel_alloc ?_ _ | refine bel_dN ?_ _ | refine Below.drew ?_ | refine Below.setCell ?_ (by first | (simp; done) | (simp; omega)) _)); exact Below.refl _ _)
    clear B1 T
    go_wp2
    go_ret
    exact ⟨rfl, hB.out⟩
  · go_enter Tryd.func15, Tryd.ntmps15
    go_wp2_with fail
    refine (T _).mono ?_
    rintro e w1 ⟨rfl, B1⟩
    have hB : Hid (Below w.heap.size w w1) := by unfold Hid; ((repeat (first | refine bel_alloc ?_ _ | refine bel_dN ?_ _ | refine Below.drew ?_ | refine Below.setCell ?_ (by first | (simp; done) | (simp; omega)) _)); refine bel_step ?_ B1; (repeat (first | refine bel_alloc ?_ _ | refine bel_dN ?_ _ | refine Below.drew ?_ | refine Below.setCell ?_ (by first | (simp; done) | (simp; omega)) _)); exact Below.refl _ _)
    clear B1 T
    go_wp2
    go_ret
    exact ⟨rfl, hB.out⟩

/-- What is left of the bound behind a part. -/
def ptL (A D : ByteArray) : Int := if (1048576 : Int) < A.size then -1 else if 1048576 - (A.size : Int) < (D.size : Int) then -1 else 1048576 - (A.size : Int) - (D.size : Int)
theorem ptL_or (A D : ByteArray) : ptL A D = -1 ∨ (¬ ptL A D < 0 ∧ A.size ≤ 1048576 ∧ D.size ≤ 1048576) := by
  unfold ptL
  split
  · exact .inl rfl
  · split
    · exact .inl rfl
    · exact .inr ⟨by omega, by omega, by omega⟩

set_option maxRecDepth 100000 in
set_option maxHeartbeats 1600000 in
theorem szPart (A : ByteArray) (M : Int) (D : ByteArray) (N C : Int) (I L : Bool) (ha : A.size ≤ 9223372036854775807) (hd : D.size ≤ 9223372036854775807) (w : World) :
    Calls Tryd.prog 6 #[ptV A M D N C I L, .int .i64 1048576] w fun e w' => e = .returned (.int .i64 (ptL A D)) ∧ Below w.heap.size w w' := by
  obtain ⟨n, hn⟩ : ∃ n : Int, (A.size : Int) = n := ⟨_, rfl⟩
  have h2 : wrap64 (1048576 - n) = 1048576 - n := by unfold wrap64; omega
  have h00 : 0 ≤ n := by omega
  by_cases h : (1048576 : Int) < n
  · have hp : ptL A D = -1 := by unfold ptL; rw [hn, if_pos h]
    rw [hp]
    have h3 : 1048576 - n < 0 := by omega
    clear hp ha hd h h00
    go_enter Tryd.func6, Tryd.ntmps6
    go_wp2
    go_ret
    refine ⟨rfl, ?_⟩
    (repeat (first | refine Below.alloc ?_ (by first | (simp; done) | (simp; omega)) _ | refine Below.setCell ?_ (by first | (simp; done) | (simp; omega)) _ | refine bel_dN ?_ _ | refine Below.drew ?_ | exact Below.refl _ _))
  · have hp : ptL A D = if 1048576 - n < (D.size : Int) then -1 else 1048576 - n - (D.size : Int) := by unfold ptL; rw [hn, if_neg h]
    have h3 : ¬ 1048576 - n < 0 := by omega
    have T := szHeapL M D N (1048576 - n) hd (by omega) (by omega)
    rw [← hp] at T
    obtain ⟨r, hr⟩ : ∃ r, ptL A D = r := ⟨_, rfl⟩
    have hc : r = -1 ∨ ¬ r < 0 := by rw [← hr]; rcases ptL_or A D with h | h; exact .inl h; exact .inr h.1
    rw [hr] at T ⊢
    clear hp ha hd h h00 hr
    rcases hc with rfl | hc
    · go_enter Tryd.func6, Tryd.ntmps6
      go_wp2_with fail
      refine (T _).mono ?_
      rintro e w1 ⟨rfl, B1⟩
      have hB : Hid (Below w.heap.size w w1) := by unfold Hid; ((repeat (first | refine bel_alloc ?_ _ | refine bel_dN ?_ _ | refine Below.drew ?_ | refine Below.setCell ?_ (by first | (simp; done) | (simp; omega)) _)); refine bel_step ?_ B1; (repeat (first | refine bel_alloc ?_ _ | refine bel_dN ?_ _ | refine Below.drew ?_ | refine Below.setCell ?_ (by first | (simp; done) | (simp; omega)) _)); exact Below.refl _ _)
      clear B1 T
      go_wp2
      go_ret
      exact ⟨rfl, hB.out⟩
    · go_enter Tryd.func6, Tryd.ntmps6
      go_wp2_with fail
      refine (T _).mono ?_
      rintro e w1 ⟨rfl, B1⟩
      have hB : Hid (Below w.heap.size w w1) := by unfold Hid; ((repeat (first | refine bel_alloc ?_ _ | refine bel_dN ?_ _ | refine Below.drew ?_ | refine Below.setCell ?_ (by first | (simp; done) | (simp; omega)) _)); refine bel_step ?_ B1; (repeat (first | refine bel_alloc ?_ _ | refine bel_dN ?_ _ | refine Below.drew ?_ | refine Below.setCell ?_ (by first | (simp; done) | (simp; omega)) _)); exact Below.refl _ _)
      clear B1 T
      go_wp2
      go_ret
      exact ⟨rfl, hB.out⟩

set_option maxRecDepth 100000 in
set_option maxHeartbeats 1600000 in
theorem eqPart (A : ByteArray) (M : Int) (D : ByteArray) (N C : Int) (I L : Bool) (w : World) :
    Calls Tryd.prog 12 #[ptV A M D N C I L, ptV A M D N C I L] w fun e w' => e = .returned (.bool true) ∧ Below w.heap.size w w' := by
  have T := eqHeap M D N
  obtain ⟨g, hgs⟩ : ∃ g, w.heap.size = g := ⟨_, rfl⟩
  go_enter Tryd.func12, Tryd.ntmps12
  go_wp2_with fail
  refine (T _).mono ?_
  rintro e w1 ⟨rfl, B1⟩
  have hs := B1.size
  simp at hs
  have hB : Hid (Below w.heap.size w w1) := by unfold Hid; ((repeat (first | refine bel_alloc ?_ _ | refine bel_dN ?_ _ | refine Below.drew ?_ | refine Below.setCell ?_ (by first | (simp; done) | (simp; omega)) _)); refine bel_step ?_ B1; (repeat (first | refine bel_alloc ?_ _ | refine bel_dN ?_ _ | refine Below.drew ?_ | refine Below.setCell ?_ (by first | (simp; done) | (simp; omega)) _)); exact Below.refl _ _)
  have e0 : w1.heap[g]? = some (.cells #[.string A, .int .i64 M, .string D, .int .i64 N, .int .i64 C, .bool I, .bool L] 34 (0, 0)) := by
    rw [← hgs]
    exact (B1.block _ (by simp; omega)).trans (heap_old (heap_blk rfl))
  have e1 : w1.heap[g + 1]? = some (.cells #[.string A, .int .i64 M, .string D, .int .i64 N, .int .i64 C, .bool I, .bool L] 34 (0, 0)) := by
    rw [← hgs]
    exact (B1.block _ (by simp)).trans (heap_blk (by simp))
  have p4 := (cell_of_block e0 4).trans (show _ = some (.int .i64 C : Value) from rfl)
  have q4 := (cell_of_block e1 4).trans (show _ = some (.int .i64 C : Value) from rfl)
  have p5 := (cell_of_block e0 5).trans (show _ = some (.bool I : Value) from rfl)
  have q5 := (cell_of_block e1 5).trans (show _ = some (.bool I : Value) from rfl)
  have p6 := (cell_of_block e0 6).trans (show _ = some (.bool L : Value) from rfl)
  have q6 := (cell_of_block e1 6).trans (show _ = some (.bool L : Value) from rfl)
  have hi : (I != I) = false := by cases I <;> rfl
  have hl : (L != L) = false := by cases L <;> rfl
  have hi2 : (!(I == I)) = false := by cases I <;> rfl
  have hl2 : (!(L == L)) = false := by cases L <;> rfl
  clear B1 T hs e0 e1
  go_wp2
  go_ret
  exact ⟨rfl, hB.out⟩

end Go.Proofs.YthboenlfcolinaaDoor
