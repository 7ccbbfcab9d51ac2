/-
  Memories that are new or grow.
-/
import Derived.Test.YtlkbalmkljabhaaMStoreB
import Derived.Test.YtlkbalmkljabhaaMMade
namespace Go.Proofs.Ytlkbalmkljabhaa
open Go.ChangeShapes Go.WideShapes Go.ChangeAt Go.RowKit

set_option maxHeartbeats 1000000 in
theorem grownM (M : Int) (D : ByteArray) (b : Nat) (h : D.size + b * 256 ≤ 1048576) (w : World) :
    Calls Try.prog 63 #[.agg #[.int .i64 M, .string D], .int .i64 (b : Int)] w fun e w' => e = .returned (.agg #[.int .i64 M, .string (D ++ zeros (b * 256))]) ∧ Below w.heap.size w w' := by
  obtain ⟨g, hg⟩ : ∃ g, w.heap.size = g := ⟨_, rfl⟩
  obtain ⟨n, hn⟩ : ∃ n, D.size + b * 256 = n := ⟨_, rfl⟩
  have hD : D.size ≤ n := by omega
  have v1 : wrap64 ((b : Int) * 256) = (b : Int) * 256 := by unfold wrap64; omega
  have v2 : wrap64 ((D.size : Int) + (b : Int) * 256) = (n : Int) := by unfold wrap64; omega
  have hmk := madeU8 n (by omega)
  obtain ⟨R, hR⟩ : ∃ R, madeCells (Value.int .u8 0).cells n = R := ⟨_, rfl⟩
  have hRs : R.size = n := by rw [← hR]; exact size_madeCells _ _
  have hRl : R.toList = List.replicate n (.int .u8 0) := by rw [← hR]; exact made_list n
  rw [hR] at hmk
  obtain ⟨V, hV⟩ : ∃ V, (w.alloc (.cells #[.int .i64 M, .string D] 40)).alloc (.cells #[.int .i64 0, .string ⟨#[]⟩] 40) = V := ⟨_, rfl⟩
  have hBv : Below w.heap.size w V := by rw [← hV]; (repeat (first | refine Below.alloc ?_ (by first | (simp; done) | (simp; omega)) _ | refine Below.setCell ?_ (by first | (simp; done) | (simp; omega)) _ | refine bel_dN ?_ _ | refine Below.drew ?_ | exact Below.refl _ _))
  have hsv : V.heap.size = g + 2 := by rw [← hV, ← hg]; simp
  have c0 : V.cell? ⟨g, 0, none⟩ = some (.int .i64 M) := by rw [← hV, ← hg]; simp
  have c1 : V.cell? ⟨g, 1, none⟩ = some (.string D) := by rw [← hV, ← hg]; simp
  have d0 : V.cell? ⟨g + 1, 0, none⟩ = some (.int .i64 0) := by rw [← hV, ← hg]; simp
  have d1 : V.cell? ⟨g + 1, 1, none⟩ = some (.string ⟨#[]⟩) := by rw [← hV, ← hg]; simp
  have z : ∀ j, V.frozen? ⟨g + 1, j, none⟩ = false := fun j => by rw [← hV, ← hg]; simp
  replace hmk := hmk V
  obtain ⟨W0, hW0⟩ : ∃ W0, V.alloc (.cells R 5) = W0 := ⟨_, rfl⟩
  rw [hW0, hsv] at hmk
  have hBd : Below V.heap.size V W0 := by rw [← hW0]; exact (Below.refl _ _).alloc (Nat.le_refl _) _
  have hB0 : Hid (Below w.heap.size w W0) := bel_step hBv hBd
  have hs0 : W0.heap.size = g + 3 := by rw [← hW0]; simp; omega
  have hr0 : W0.heap[g + 2]? = some (.cells R 5 (0, 0)) := by rw [← hW0, ← hsv]; exact heap_alloc_new _ _
  replace c0 := (hBd.cell (p := ⟨g, 0, none⟩) (by show g < _; omega)).trans c0
  have b1 := c1
  replace c1 := (hBd.cell (p := ⟨g, 1, none⟩) (by show g < _; omega)).trans c1
  replace d0 := (hBd.cell (p := ⟨g + 1, 0, none⟩) (by show g + 1 < _; omega)).trans d0
  replace d1 := (hBd.cell (p := ⟨g + 1, 1, none⟩) (by show g + 1 < _; omega)).trans d1
  replace z : ∀ j, W0.frozen? ⟨g + 1, j, none⟩ = false := fun j => (hBd.frozen (p := ⟨g + 1, j, none⟩) (by show g + 1 < _; omega)).trans (z j)
  clear hBd hBv
  have hcp := Lib.run_copy_row_string (P := Try.prog) W0 22 9 3 5 (g + 2) 0 n n D R 5 Try.underlying22 infoU8 hr0 hD (by omega)
  obtain ⟨Y, hY⟩ : ∃ Y, (R.toList.take 0 ++ Lib.byteCells D.data.toList ++ R.toList.drop (0 + D.size)).toArray = Y := ⟨_, rfl⟩
  rw [hY] at hcp
  obtain ⟨X, hX⟩ : ∃ X, D ++ zeros (b * 256) = X := ⟨_, rfl⟩
  have hXd : X.data.toList = D.data.toList ++ List.replicate (b * 256) 0 := by rw [← hX]; simp [zeros, ByteArray.data_append]
  have hXs : X.data.toList.length = n := by rw [hXd]; simp; exact hn
  have hYc : ∀ j (hj : j < X.data.toList.length), Y[j]? = some (.int .u8 (X.data.toList[j].toNat : Int)) := fun j hj => by
    have e : Y.toList = Lib.byteCells X.data.toList := by
      rw [← hY, hXd, hRl]
      simp only [Lib.byteCells, List.take_zero, List.nil_append, List.drop_replicate, List.map_append, List.map_replicate]
      have : n - (0 + D.size) = b * 256 := by omega
      rw [this]; rfl
    rw [← Array.getElem?_toList, e]
    unfold Lib.byteCells
    rw [List.getElem?_map, List.getElem?_eq_getElem hj]
    rfl
  obtain ⟨W3, hW3⟩ : ∃ W3, W0.setRow (g + 2) Y = W3 := ⟨_, rfl⟩
  have hB3 : Hid (Below w.heap.size w W3) := by unfold Hid; rw [← hW3]; exact below_setRow hB0.out (by omega) _
  have hcb := run_convert_bytes_back (P := Try.prog) W3 22 9 5 ⟨g + 2, 0, none⟩ n X.data.toList Try.underlying22 Try.underlying5 Try.underlying9 (fun j hj => by
    rw [Addr.add_lit, Nat.zero_add, ← hW3, cell_setRow_same W0 (g + 2) j R _ 5 (0, 0) hr0]; exact hYc j hj)
  rw [Lib.mk_data, hXs] at hcb
  have e3 : ∀ b o, b < g + 2 → W3.cell? ⟨b, o, none⟩ = W0.cell? ⟨b, o, none⟩ := fun b o hb => by rw [← hW3]; exact cell_setRow_other W0 (g + 2) _ ⟨b, o, none⟩ (by show b ≠ _; omega)
  have p0 : W3.cell? ⟨g, 0, none⟩ = some (.int .i64 M) := by rw [e3 _ _ (by omega)]; exact c0
  have r0 : W3.cell? ⟨g + 1, 0, none⟩ = some (.int .i64 0) := by rw [e3 _ _ (by omega)]; exact d0
  have r1 : W3.cell? ⟨g + 1, 1, none⟩ = some (.string ⟨#[]⟩) := by rw [e3 _ _ (by omega)]; exact d1
  have f3 : ∀ j, W3.frozen? ⟨g + 1, j, none⟩ = false := fun j => by
    rw [← z j, ← hW3]; unfold World.frozen?; simp only [setRow_other W0 (g + 2) (g + 1) _ (by omega)]
  have y0 := f3 0
  have y1 := f3 1
  have hs3 : W3.heap.size = g + 3 := by rw [← hW3, ← hs0]; simp
  rw [hW3] at hcp
  rw [hX]
  clear e3 f3 hYc hXd hX hY hRl hR d0 d1 z hB0 hXs hn hD h hr0 hW3 hRs hs0 hW0 hsv
  go_enter Try.func63, Try.ntmps63
  go_wp2
  refine bodyPost_ret (v := .agg #[.int .i64 M, .string X]) (by simp [results, Try.results63, go_sem, r0, r1]) rfl ⟨rfl, ?_⟩
  refine Below.setCell (Below.setCell hB3.out ?_ _) ?_ _ <;> simp <;> omega

end Go.Proofs.Ytlkbalmkljabhaa
