/-
  What lays values down: made, room taken, the heap that comes of it.
-/
import Derived.Test.YtgepplddhmgifaaDoorHG
namespace Go.Proofs.YtgepplddhmgifaaDoor
open Go.ChangeShapes Go.WideShapes Go.ChangeAt Go.RowKit Go.Deep

/-- The next multiple of A from N on. -/
def upA (N A : Int) : Int := (N + A - 1) / A * A
theorem upA_in {N A : Int} (hA : A = 1 ∨ A = 2 ∨ A = 4 ∨ A = 8) : N ≤ upA N A ∧ upA N A ≤ N + 7 := by
  unfold upA
  rcases hA with rfl | rfl | rfl | rfl <;> omega
theorem up_go {N A : Int} (hA : A = 1 ∨ A = 2 ∨ A = 4 ∨ A = 8) (h0 : 0 ≤ N) (h1 : N ≤ 1048576) : wrap64 (N + A) = N + A ∧ wrap64 (N + A - 1) = N + A - 1 ∧ 1 ≤ A ∧ (A == 0) = false ∧ ∃ q, (N + A - 1).tdiv A = q ∧ wrap64 q = q ∧ q * A = upA N A ∧ wrap64 (upA N A) = upA N A := by
  have h2 := upA_in (N := N) hA
  have h3 : (N + A - 1).tdiv A = (N + A - 1) / A := Int.tdiv_eq_ediv_of_nonneg (by omega)
  refine ⟨by unfold wrap64; omega, by unfold wrap64; omega, by omega, by rw [beq_eq_false_iff_ne]; omega, (N + A - 1) / A, h3, ?_, rfl, by unfold wrap64; omega⟩
  have : 0 ≤ (N + A - 1) / A ∧ (N + A - 1) / A ≤ 1048600 := by rcases hA with rfl | rfl | rfl | rfl <;> omega
  unfold wrap64; omega

theorem implFilled (N A : Int) (hA : A = 1 ∨ A = 2 ∨ A = 4 ∨ A = 8) (h0 : 0 ≤ N) (h1 : N ≤ 1048576) (w : World) :
    Calls Tryd.prog 47 #[.int .i64 N, .int .i64 A] w fun e w' => e = .returned (.int .i64 (upA N A)) ∧ w' = w := by
  obtain ⟨v1, v2, v3, v4, q, v5, v6, v7, v8⟩ := up_go hA h0 h1
  obtain ⟨u, hu⟩ : ∃ u, upA N A = u := ⟨_, rfl⟩
  rw [hu] at v7 v8 ⊢
  clear hA h0 h1 hu
  go_enter Tryd.func47, Tryd.ntmps47
  go_wp2
  go_ret
  exact ⟨by show Ending.returned (Value.int IntKind.i64 (wrap64 u)) = _; rw [v8], rfl⟩

theorem specUpH (N A : Int) (hA : A = 1 ∨ A = 2 ∨ A = 4 ∨ A = 8) (h0 : 0 ≤ N) (h1 : N ≤ 1048576) (w : World) :
    Calls Tryd.prog 40 #[.int .i64 N, .int .i64 A] w fun e w' => e = .returned (.int .i64 (upA N A)) ∧ w' = w := by
  obtain ⟨v1, v2, v3, v4, q, v5, v6, v7, v8⟩ := up_go hA h0 h1
  obtain ⟨u, hu⟩ : ∃ u, upA N A = u := ⟨_, rfl⟩
  rw [hu] at v7 v8 ⊢
  clear hA h0 h1 hu
  go_enter Tryd.func40, Tryd.ntmps40
  go_wp2
  go_ret
  exact ⟨by show Ending.returned (Value.int IntKind.i64 (wrap64 u)) = _; rw [v8], rfl⟩

theorem bel_stepK {a b c : World} (h : Below a.heap.size a b) (k : Below b.heap.size b c) : Below a.heap.size a c := h.trans (k.mono h.size)
/-- One that lays down lies at r + 1: its bytes at r, its table behind. -/
structure Lay (w : World) (r c : Nat) (R : Array Value) (D : ByteArray) (N code : Int) : Prop where
  row : w.heap[r]? = some (.cells R 5 (c, c + 1))
  box : w.heap[r + 1]? = some (.cells #[.slice (some ⟨r, 0, none⟩) D.size c, .int .i64 N, .bool false, .int .i64 code, .slice (some ⟨r + 1 + 1, 0, none⟩) 5 5] 74 (0, 0))
  tab : r + 2 < w.heap.size
  hR : R.size = c
  hD : D.size ≤ c
  bytes : ∀ j (h : j < D.data.toList.length), R[j]? = some (.int .u8 (D.data.toList[j].toNat : Int))
/-- Nothing is written but the two blocks. -/
def LFr (r : Nat) (w w' : World) : Prop := Below r w w' ∧ w.heap.size ≤ w'.heap.size ∧ ∀ k, k < w.heap.size → r + 1 < k → w'.heap[k]? = w.heap[k]?
theorem LFr.of_below {r : Nat} {w w' : World} (h : Below w.heap.size w w') (hr : r ≤ w.heap.size) : LFr r w w' := ⟨h.mono hr, h.size, fun k hk _ => h.block k hk⟩
theorem LFr.trans {r : Nat} {a b c : World} (h : LFr r a b) (k : LFr r b c) : LFr r a c := ⟨h.1.trans k.1, Nat.le_trans h.2.1 k.2.1, fun g hg hr => (k.2.2 g (Nat.lt_of_lt_of_le hg h.2.1) hr).trans (h.2.2 g hg hr)⟩
theorem cell_heapH {w w' : World} {g : Nat} (h : w'.heap[g]? = w.heap[g]?) (o : Nat) : w'.cell? ⟨g, o, none⟩ = w.cell? ⟨g, o, none⟩ := by
  simp only [World.cell?, h]
theorem LFr.cell {r : Nat} {a b : World} (h : LFr r a b) {g o : Nat} {v : Value} (hg : g < a.heap.size) (hr : r + 1 < g) (hc : a.cell? ⟨g, o, none⟩ = some v) : b.cell? ⟨g, o, none⟩ = some v := (cell_heapH (h.2.2 g hg hr) _).trans hc
theorem Lay.below {w w' : World} {r c : Nat} {R : Array Value} {D : ByteArray} {N code : Int} (h : Lay w r c R D N code) (hb : Below w.heap.size w w') : Lay w' r c R D N code :=
  ⟨(hb.block _ (by have := h.tab; omega)).trans h.row, (hb.block _ (by have := h.tab; omega)).trans h.box, Nat.lt_of_lt_of_le h.tab hb.size, h.hR, h.hD, h.bytes⟩
theorem bytes_row (D : ByteArray) (c : Nat) (j : Nat) (h : j < D.data.toList.length) : (bytesRow D c)[j]? = some (.int .u8 (D.data.toList[j].toNat : Int)) := by
  rw [← Array.getElem?_toList, bytesRow_list, List.getElem?_append_left (by rw [Lib.byteCells_length]; exact h)]
  unfold Lib.byteCells
  rw [List.getElem?_map, List.getElem?_eq_getElem h]
  rfl

set_option maxRecDepth 100000 in
set_option maxHeartbeats 1600000 in
theorem newLayer (D : ByteArray) (N code : Int) (w : World) :
    Calls Tryd.prog 23 #[.string D, .int .i64 N, .int .i64 code] w fun e w' => ∃ c R, e = .returned (.pointer (some ⟨w.heap.size + 1, 0, none⟩)) ∧ Lay w' w.heap.size c R D N code ∧ Below w.heap.size w w' := by
  have hcv := run_bytes_of_string (P := Tryd.prog) w 9 71 5 D Tryd.underlying9 Tryd.underlying71 Tryd.underlying5
  obtain ⟨c, hc⟩ : ∃ c, grownCap w D.size 0 5 = c := ⟨_, rfl⟩
  have hcD : D.size ≤ c := by rw [← hc]; exact grownCap_ge _ _ _ _
  rw [hc] at hcv
  have hRs : (bytesRow D c).size = c := by rw [← Array.length_toList, bytesRow_list]; simp [Lib.byteCells_length]; omega
  have hby := bytes_row D c
  obtain ⟨R, hR⟩ : ∃ R, bytesRow D c = R := ⟨_, rfl⟩
  rw [hR] at hcv hRs hby
  rw [hRs] at hcv
  obtain ⟨W, hW⟩ : ∃ W, w.drew.alloc (.cells R 5 (c, c + 1)) = W := ⟨_, rfl⟩
  rw [hW] at hcv
  have hWs : W.heap.size = w.heap.size + 1 := by rw [← hW]; exact Array.size_push ..
  have hWr : W.heap[w.heap.size]? = some (.cells R 5 (c, c + 1)) := by rw [← hW]; exact heap_alloc_new w.drew _
  have hWb : Below w.heap.size w W := by rw [← hW]; exact (Below.refl _ _).drew.alloc (Nat.le_refl _) _
  have HP : Hid (∀ A T, Lay ((W.alloc (.cells #[.slice (some ⟨w.heap.size, 0, none⟩) D.size c, .int .i64 N, .bool false, .int .i64 code, .slice (some ⟨w.heap.size + 1 + 1, 0, none⟩) 5 5] 74)).alloc (.cells A T)) w.heap.size c R D N code ∧ Below w.heap.size w ((W.alloc (.cells #[.slice (some ⟨w.heap.size, 0, none⟩) D.size c, .int .i64 N, .bool false, .int .i64 code, .slice (some ⟨w.heap.size + 1 + 1, 0, none⟩) 5 5] 74)).alloc (.cells A T))) := fun A T => by
    refine ⟨⟨?_, ?_, by simp; omega, hRs, hcD, hby⟩, (hWb.alloc (by omega) _).alloc (by simp; omega) _⟩
    · exact (Below.heap_alloc _ _ _ (by simp; omega)).trans ((Below.heap_alloc _ _ _ (by omega)).trans hWr)
    · exact (Below.heap_alloc _ _ _ (by simp; omega)).trans (new_block _ _ (by omega))
  clear hW hR hc hby hRs hcD hWr hWb
  go_enter Tryd.func23, Tryd.ntmps23
  go_wp2
  go_ret
  exact ⟨c, R, rfl, (HP.out _ _).1, (HP.out _ _).2⟩

set_option maxRecDepth 100000 in
set_option maxHeartbeats 1600000 in
theorem lTake (w : World) (r c : Nat) (R : Array Value) (D : ByteArray) (N code size align : Int) (h : Lay w r c R D N code) (hA : align = 1 ∨ align = 2 ∨ align = 4 ∨ align = 8) (h0 : 0 ≤ N) (h1 : N ≤ (D.size : Int)) (hD : D.size ≤ 1048576) (hs0 : 0 ≤ size) (b : Bool) (hb : Hid (decide (size ≤ (D.size : Int) - upA N align) = b)) :
    Calls Tryd.prog 24 #[.pointer (some ⟨r + 1, 0, none⟩), .agg #[.int .i64 size, .int .i64 align]] w fun e w' => e = .returned (.tuple #[.int .i64 (if b = true then upA N align else 0), .bool b]) ∧ Lay w' r c R D (if b = true then upA N align + size else N) code ∧ LFr r w w' := by
  have HF := implFilled N align hA h0 (by omega)
  have hU := upA_in (N := N) hA
  have HW := within (upA N align) size (D.size : Int) (by omega) (by omega) (by omega) (by omega)
  have e1 : spIn (D.size : Int) (upA N align, size) = b := by unfold spIn; exact hb.out
  rw [e1] at HW
  have hadd : b = true → wrap64 (upA N align + size) = upA N align + size := fun hbt => by
    have := hb.out
    rw [hbt] at this
    simp at this
    unfold wrap64; omega
  generalize upA N align = U at *
  obtain ⟨z, hz⟩ : ∃ z, w.heap.size = z := ⟨_, rfl⟩
  obtain ⟨n, hn⟩ : ∃ n, D.size = n := ⟨_, rfl⟩
  have htab := h.tab
  have hbox := h.box
  rw [hn] at hbox HW
  obtain ⟨W, hW⟩ : ∃ W, w.alloc (.cells #[.int .i64 size, .int .i64 align] 53) = W := ⟨_, rfl⟩
  have hWb : Below w.heap.size w W := by rw [← hW]; exact (Below.refl _ _).alloc (Nat.le_refl _) _
  have hWs : W.heap.size = z + 1 := by rw [← hW, ← hz]; simp
  have q : W.heap[z]? = some (.cells #[.int .i64 size, .int .i64 align] 53 (0, 0)) := by rw [← hW, ← hz]; exact heap_alloc_new _ _
  have p : W.heap[r + 1]? = some (.cells #[.slice (some ⟨r, 0, none⟩) n c, .int .i64 N, .bool false, .int .i64 code, .slice (some ⟨r + 1 + 1, 0, none⟩) 5 5] 74 (0, 0)) := (hWb.block _ (by omega)).trans hbox
  have k0 : ∀ w, Keeps W w → w.cell? ⟨z, 0, none⟩ = some (.int .i64 size) := fun w h => h.cell (by omega) ((cell_of_block q 0).trans rfl)
  have k1 : ∀ w, Keeps W w → w.cell? ⟨z, 1, none⟩ = some (.int .i64 align) := fun w h => h.cell (by omega) ((cell_of_block q 1).trans rfl)
  have k2 : ∀ w, Keeps W w → w.cell? ⟨r + 1, 1, none⟩ = some (.int .i64 N) := fun w h => h.cell (by omega) ((cell_of_block p 1).trans rfl)
  have k3 : ∀ w, Keeps W w → w.cell? ⟨r + 1, 0, none⟩ = some (.slice (some ⟨r, 0, none⟩) n c) := fun w h => h.cell (by omega) ((cell_of_block p 0).trans rfl)
  have HH : Hid (∀ w1, Keeps W w1 → Lay w1 r c R D N code ∧ Below w.heap.size w w1 ∧ w1.cell? ⟨r + 1, 1, none⟩ = some (.int .i64 N) ∧ w1.frozen? ⟨r + 1, 1, none⟩ = false ∧ w1.cell? ⟨r + 1, 2, none⟩ = some (.bool false) ∧ w1.cell? ⟨z, 0, none⟩ = some (.int .i64 size)) := fun w1 hk => by
    have hb1 : Below w.heap.size w w1 := bel_step hWb hk.below
    have hbx := (hb1.block _ (by omega)).trans hbox
    exact ⟨h.below hb1, hb1, (cell_of_block hbx 1).trans rfl, free_of_block hbx 1, (cell_of_block hbx 2).trans rfl, k0 _ hk⟩
  have hzl : r + 1 < z := by omega
  clear hWb p q hbox h hb hU hA h0 h1 hD hs0 e1
  go_enter Tryd.func24, Tryd.ntmps24
  go_wp2
  refine region_w (C := Keeps W) (by kernel_rfl) (by kernel_rfl) (Keeps.drew W) ?_
  (iterate 8
    (apply wq_go _ (by rfl)
     · intro wq hq
       go_simp
       first
         | (go_at_call 47; exact qsame hq (HF _))
         | exact rfl
     simp only [Act.put, List.setIfInBounds_toArray, List.set_cons_succ, List.set_cons_zero]))
  refine wq_nil ?_
  intro w1 hk1
  obtain ⟨_, _, _, _, c2, _⟩ := HH.out w1 hk1
  have hk1' : Hid (Keeps W w1) := hk1
  have HKs : Hid (∀ w2, Keeps w1 w2 → Keeps W w2) := fun w2 h2 => ⟨bel_stepK hk1.below h2.below⟩
  have j0 : ∀ w, Keeps w1 w → w.cell? ⟨z, 0, none⟩ = some (.int .i64 size) := fun w h => k0 w (HKs.out w h)
  have j3 : ∀ w, Keeps w1 w → w.cell? ⟨r + 1, 0, none⟩ = some (.slice (some ⟨r, 0, none⟩) n c) := fun w h => k3 w (HKs.out w h)
  clear k0 k1 k2 k3 hk1
  go_wp2
  refine region_w (C := Keeps w1) (by kernel_rfl) (by kernel_rfl) (Keeps.drew w1) ?_
  (iterate 11
    (apply wq_go _ (by rfl)
     · intro wq hq
       go_simp
       first
         | (go_at_call 48; exact qcall hq (HW _))
         | exact rfl
     simp only [Act.put, List.setIfInBounds_toArray, List.set_cons_succ, List.set_cons_zero]))
  refine wq_nil ?_
  intro w2 hk2
  obtain ⟨l2, b2, d1, f1, _, d0⟩ := HH.out w2 (HKs.out w2 hk2)
  have hB2 : Hid (Below w.heap.size w w2) := b2
  have L2 : Hid (Lay w2 r c R D N code) := l2
  clear j0 j3 hk1' HKs HH c2 b2 l2 hk2
  cases b with
  | false =>
    go_wp2
    go_ret2
    exact ⟨rfl, L2.out, LFr.of_below hB2.out (by omega)⟩
  | true =>
    have ha := hadd rfl
    clear hadd
    go_wp2
    go_ret2
    refine ⟨rfl, ?_, ?_⟩
    · have l2 := L2.out
      have hbx := l2.box
      refine ⟨(heap_setCell_other _ _ _ _ (by simp)).trans l2.row, ?_, by simpa using l2.tab, l2.hR, l2.hD, l2.bytes⟩
      rw [heap_setCell_same _ _ _ _ _ _ hbx]
      rfl
    · refine ⟨(hB2.out.mono (by omega)).setCell (by simp) _, by simpa using hB2.out.size, fun k hk hr => ?_⟩
      exact (heap_setCell_other _ _ _ _ (by simp; omega)).trans (hB2.out.block k hk)

end Go.Proofs.YtgepplddhmgifaaDoor
