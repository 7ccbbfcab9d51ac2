/-
  Bytes copied into a row that a string was told as: the run-time's mark lies behind its last cell. Over whatever program.
-/
import Derived.Laws.CopyRow
import Derived.Laws.CopyOwn
import Derived.Laws.IdiomStrings
import Derived.Lib.BufferWrite
import Derived.Lib.Strings
import Derived.Laws.MakeOwn
import Derived.Test.YthboenlfcolinaaDoorBel
namespace Go.Proofs.YthboenlfcolinaaDoor
open Go.RowKit

theorem stored_mark (P : Program) (g o : Nat) (t : TypeId) (lo hi : Nat) : ∀ (vs : List Value) (i : Nat) (cur : Array Value) (w : World),
    w.heap[g]? = some (.cells cur t (lo, hi)) → o + i + vs.length ≤ lo → lo ≤ cur.size → (∀ v ∈ vs, v.oneCell' = true) →
    (storeCells ⟨g, o, none⟩ vs i).run P w = .ok () (w.setRow g (cur.toList.take (o + i) ++ vs ++ cur.toList.drop (o + i + vs.length)).toArray) := by
  intro vs
  induction vs with
  | nil =>
    intro i cur w hg _ _ _
    simp only [storeCells, List.append_nil, List.length_nil, Nat.add_zero, List.take_append_drop, Array.toArray_toList, setRow_self w g cur t (lo, hi) hg]
    rfl
  | cons v rest ih =>
    intro i cur w hg hl hlo h1
    simp only [List.length_cons] at hl
    have ha : (⟨g, o, none⟩ : Addr).add i = ⟨g, o + i, none⟩ := by unfold Addr.add; split <;> simp_all
    have hc : w.cell? ⟨g, o + i, none⟩ = some cur[o + i] := by simp [World.cell?, hg, show o + i < cur.size by omega]
    have hf : w.frozen? ⟨g, o + i, none⟩ = false := by simp [World.frozen?, hg]; omega
    have hs : (store ((⟨g, o, none⟩ : Addr).add i) v).run P w = .ok () (w.setRow g (cur.setIfInBounds (o + i) v)) := by
      rw [ha, run_store P w _ v _ (h1 v (by simp)), hc]
      simp [hf, setCell_eq_setRow w g (o + i) cur t (lo, hi) v hg]
    have hn := ih (i + 1) (cur.setIfInBounds (o + i) v) (w.setRow g (cur.setIfInBounds (o + i) v)) (setRow_heap w g cur _ t _ hg) (by omega) (by simpa using hlo) (fun x hx => h1 x (by simp [hx]))
    simp only [storeCells, Sem.run_bind, hs, Result.andThen_ok, hn, setRow_setRow]
    have e := list_seg_step cur.toList (o + i) v rest (by simp; omega)
    congr 3
    simpa [Array.toList_setIfInBounds, Nat.add_assoc] using e

/-- A string's bytes copied into such a row. -/
theorem copied_mark {P : Program} (w : World) (dT sT ty elem : TypeId) (g o dLen dCap : Nat) (s : ByteArray) (cur : Array Value) (t : TypeId) (lo hi : Nat)
    (hu : P.underlying dT = some (.slice elem)) (hs : (P.info? elem).map (·.size) = some 1) (hg : w.heap[g]? = some (.cells cur t (lo, hi))) (hle : s.size ≤ dLen) (hfit : o + s.size ≤ lo) (hlo : lo ≤ cur.size) :
    (Builtin.copy_ #[dT, sT] ty #[.slice (some ⟨g, o, none⟩) dLen dCap, .string s]).run P w =
      .ok (goInt s.size) (w.setRow g (cur.toList.take o ++ Lib.byteCells s.data.toList ++ cur.toList.drop (o + s.size)).toArray) := by
  have hlen : (Lib.byteCells s.data.toList).length = s.size := by rw [Lib.byteCells_length, ← Lib.size_eq]
  have hst := stored_mark P g o t lo hi (Lib.byteCells s.data.toList) 0 cur w hg (by rw [hlen]; simpa using hfit) hlo (Lib.byteCells_one _)
  have hmin : Nat.min s.size dLen = s.size := Nat.min_eq_left hle
  have htk : List.take s.size (List.map (fun b : UInt8 => Value.int IntKind.u8 (b.toNat : Int)) s.data.toList) = Lib.byteCells s.data.toList := by
    rw [List.take_of_length_le (by rw [List.length_map, ← Lib.size_eq]; exact Nat.le_refl _)]
    rfl
  rw [hlen] at hst
  simp only [Nat.add_zero] at hst
  cases hq : P.info? elem with
  | none => simp [hq] at hs
  | some i =>
    simp [Builtin.copy_, run_underlying hu, Builtin.lenOf, Builtin.firstCells, sizeOf, typeInfo, hq, hmin]
    rw [htk, hst]
    simp [Result.andThen]

/-- Bytes with others laid over them from a place on. -/
def laidOver (D : ByteArray) (a : Nat) (s : ByteArray) : ByteArray := D.extract 0 a ++ s ++ D.extract (a + s.size) D.size
theorem size_laidOver (D : ByteArray) (a : Nat) (s : ByteArray) (h : a + s.size ≤ D.size) : (laidOver D a s).size = D.size := by
  simp [laidOver, ByteArray.size_extract]; omega
theorem data_laidOver (D : ByteArray) (a : Nat) (s : ByteArray) : (laidOver D a s).data.toList = D.data.toList.take a ++ s.data.toList ++ D.data.toList.drop (a + s.size) := by
  have e : ∀ x y, (D.extract x y).data.toList = (D.data.toList.drop x).take (y - x) := fun x y => Lib.extract_data D x y
  simp only [laidOver, ByteArray.data_append, Array.toList_append, e]
  have h2 : (List.drop (a + s.size) D.data.toList).take (D.size - (a + s.size)) = List.drop (a + s.size) D.data.toList :=
    List.take_of_length_le (by rw [List.length_drop, ← Lib.size_eq]; omega)
  rw [h2, List.drop_zero, Nat.sub_zero]
theorem bytesRow_list (s : ByteArray) (cap : Nat) : (bytesRow s cap).toList = Lib.byteCells s.data.toList ++ List.replicate (cap - s.size) (.int .u8 0) := by
  simp [bytesRow, Lib.byteCells]
/-- The row behind such a copy begins with these bytes. -/
theorem row_laidOver (D : ByteArray) (cap a : Nat) (s : ByteArray) (h : a + s.size ≤ D.size) (j : Nat) (hj : j < (laidOver D a s).data.toList.length) :
    ((bytesRow D cap).toList.take a ++ Lib.byteCells s.data.toList ++ (bytesRow D cap).toList.drop (a + s.size)).toArray[j]? = some (.int .u8 ((laidOver D a s).data.toList[j].toNat : Int)) := by
  have hl : (bytesRow D cap).toList.take a ++ Lib.byteCells s.data.toList ++ (bytesRow D cap).toList.drop (a + s.size) = Lib.byteCells (laidOver D a s).data.toList ++ List.replicate (cap - D.size) (.int .u8 0) := by
    rw [bytesRow_list, data_laidOver]
    have h1 : (Lib.byteCells D.data.toList).length = D.size := by rw [Lib.byteCells_length, ← Lib.size_eq]
    rw [List.take_append_of_le_length (by rw [h1]; omega), List.drop_append_of_le_length (by rw [h1]; omega)]
    simp [Lib.byteCells, List.map_take, List.map_drop]
  rw [hl]
  simp only [List.getElem?_toArray]
  rw [List.getElem?_append_left (by rw [Lib.byteCells_length]; exact hj)]
  unfold Lib.byteCells
  rw [List.getElem?_map, List.getElem?_eq_getElem hj]
  rfl

end Go.Proofs.YthboenlfcolinaaDoor
