/-
  Rows of noughts that are made.
-/
import Derived.Test.YtdalkbapfjpkoaaIn
import Derived.Test.YtdalkbapfjpkoaaBel
import Derived.Test.YtdalkbapfjpkoaaQHide
import Derived.Laws.BytesString
import Derived.Laws.IdiomStrings
namespace Go.Proofs.Ytdalkbapfjpkoaa
open Go.ChangeShapes Go.WideShapes Go.ChangeAt Go.RowKit

def zeros (n : Nat) : ByteArray := ⟨Array.replicate n 0⟩
theorem zeros_size (n : Nat) : (zeros n).size = n := by simp [zeros, ByteArray.size]
theorem made_cell (n j : Nat) (h : j < n) : (madeCells (Value.int .u8 0).cells n)[j]? = some (.int .u8 0) := by
  simp [madeCells, Value.cells, h, Nat.mod_one]
theorem made_list (n : Nat) : (madeCells (Value.int .u8 0).cells n).toList = List.replicate n (.int .u8 0) := by
  apply List.ext_getElem?
  intro j
  rw [Array.getElem?_toList]
  by_cases h : j < n
  · rw [made_cell n j h]; simp [h]
  · simp [h, madeCells]
theorem infoU8w : ∃ i0, Try.prog.info? 5 = some i0 ∧ i0.zero = some (.int .u8 0) ∧ i0.size = 1 ∧ i0.bytes = 1 := by
  have h : (Try.prog.info? 5).map (fun i => (i.zero, i.size, i.bytes)) = some (some (.int .u8 0), 1, 1) := by kernel_rfl
  exact info_parts h
theorem madeU8 (n : Nat) (h : n ≤ 1048576) (W : World) :
    (Instr.makeSlice 22 (.int .i64 (n : Int)) (.int .i64 (n : Int))).run Try.prog W = .ok (.slice (some ⟨W.heap.size, 0, none⟩) n n) (W.alloc (.cells (madeCells (Value.int .u8 0).cells n) 5)) := by
  obtain ⟨i0, hi, h0, h1, h2⟩ := infoU8w
  have H := run_make (P := Try.prog) W 22 5 i0 (.int .u8 0) Try.underlying22 hi h0 .i64 .i64 (n : Int) (n : Int) (by omega) (by omega) (by rw [h2]; omega) (by omega)
  rw [h1] at H
  simpa using H
/-- Such a row told as a string. -/
theorem madeTold (W : World) (g n : Nat) (hr : W.heap[g]? = some (.cells (madeCells (Value.int .u8 0).cells n) 5 (0, 0))) :
    (convert 22 9 (.slice (some ⟨g, 0, none⟩) n n)).run Try.prog W = .ok (.string (zeros n)) W := by
  have H := run_convert_bytes_back (P := Try.prog) W 22 9 5 ⟨g, 0, none⟩ n (List.replicate n 0) Try.underlying22 Try.underlying5 Try.underlying9 (fun j hj => by
    rw [Addr.add_lit, Nat.zero_add]
    simp only [List.length_replicate] at hj
    simp [World.cell?, hr, made_cell n j hj])
  simp only [List.length_replicate, List.toArray_replicate] at H
  exact H

end Go.Proofs.Ytdalkbapfjpkoaa
