/-
  A slice of nodes of types in memory, and the walks of what the laws do with it: its size, its copy, its comparison; what is read of one that comes in.
-/
import Derived.Test.YtebendaiokchdaaDoorRows
import Derived.WalkKit
import Derived.WalkLawsBesides
import Derived.ProofKit
import Derived.OpenShut
import Derived.Test.YtebendaiokchdaaDoorOwn
import Derived.Test.YtebendaiokchdaaDoorBlk
import Derived.Deep.RegionWith
import Derived.Deep.SlicePairs
namespace Go.Proofs.YtebendaiokchdaaDoor
open Go.ChangeShapes Go.WideShapes Go.ChangeAt Go.RowKit Go.Deep

abbrev Nd := Int × Int × Int

/-- The nodes L lie from cell 'off' of block b on. -/
def ndAt (w : World) (b off : Nat) (L : List Nd) : Prop :=
  ∀ i (h : i < L.length), w.cell? ⟨b, off + i * 3, none⟩ = some (.int .i64 L[i].1) ∧ w.cell? ⟨b, off + i * 3 + 1, none⟩ = some (.int .i64 L[i].2.1) ∧ w.cell? ⟨b, off + i * 3 + 2, none⟩ = some (.int .i64 L[i].2.2)

theorem ndAt.below {w w' : World} {b off : Nat} {L : List Nd} (h : ndAt w b off L) {B : Nat} (hb : Below B w w') (hl : b < B) : ndAt w' b off L := fun i hi => by
  obtain ⟨h0, h1, h2⟩ := h i hi
  exact ⟨(hb.cell (p := ⟨b, off + i * 3, none⟩) hl).trans h0, (hb.cell (p := ⟨b, off + i * 3 + 1, none⟩) hl).trans h1, (hb.cell (p := ⟨b, off + i * 3 + 2, none⟩) hl).trans h2⟩

theorem nd_put (L : List Nd) (arr : Array Value) (k : Nat) (x y z : Int) (hk : k < L.length) (hs : arr.size = L.length * 3) (hx : (x, y, z) = L[k])
    (hA : ∀ j (h : j < L.length), j < k → arr[j * 3]? = some (.int .i64 L[j].1) ∧ arr[j * 3 + 1]? = some (.int .i64 L[j].2.1) ∧ arr[j * 3 + 2]? = some (.int .i64 L[j].2.2)) :
    ((((arr.setIfInBounds (k * 3) (.int .i64 x)).setIfInBounds (k * 3 + 1) (.int .i64 y))).setIfInBounds (k * 3 + 2) (.int .i64 z)).size = L.length * 3 ∧
    ∀ j (h : j < L.length), j < k + 1 → ((((arr.setIfInBounds (k * 3) (.int .i64 x)).setIfInBounds (k * 3 + 1) (.int .i64 y))).setIfInBounds (k * 3 + 2) (.int .i64 z))[j * 3]? = some (.int .i64 L[j].1) ∧
      ((((arr.setIfInBounds (k * 3) (.int .i64 x)).setIfInBounds (k * 3 + 1) (.int .i64 y))).setIfInBounds (k * 3 + 2) (.int .i64 z))[j * 3 + 1]? = some (.int .i64 L[j].2.1) ∧
      ((((arr.setIfInBounds (k * 3) (.int .i64 x)).setIfInBounds (k * 3 + 1) (.int .i64 y))).setIfInBounds (k * 3 + 2) (.int .i64 z))[j * 3 + 2]? = some (.int .i64 L[j].2.2) := by
  refine ⟨by simpa using hs, fun j hj hjk => ?_⟩
  by_cases e : j = k
  · subst e
    rw [← hx]
    refine ⟨?_, ?_, ?_⟩
    · rw [Array.getElem?_setIfInBounds_ne (by omega), Array.getElem?_setIfInBounds_ne (by omega), Array.getElem?_setIfInBounds_self_of_lt (by omega)]
    · rw [Array.getElem?_setIfInBounds_ne (by omega), Array.getElem?_setIfInBounds_self_of_lt (by simp; omega)]
    · rw [Array.getElem?_setIfInBounds_self_of_lt (by simp; omega)]
  · have h := hA j hj (by omega)
    refine ⟨?_, ?_, ?_⟩
    · rw [Array.getElem?_setIfInBounds_ne (by omega), Array.getElem?_setIfInBounds_ne (by omega), Array.getElem?_setIfInBounds_ne (by omega)]; exact h.1
    · rw [Array.getElem?_setIfInBounds_ne (by omega), Array.getElem?_setIfInBounds_ne (by omega), Array.getElem?_setIfInBounds_ne (by omega)]; exact h.2.1
    · rw [Array.getElem?_setIfInBounds_ne (by omega), Array.getElem?_setIfInBounds_ne (by omega), Array.getElem?_setIfInBounds_ne (by omega)]; exact h.2.2

theorem Tryd.info33 : (Tryd.prog.info? 33).map (fun i => (i.zero, i.size, i.bytes)) = some (some (.agg #[.int .i64 0, .int .i64 0, .int .i64 0]), 3, 24) := by kernel_rfl

def fitsN (L : List Nd) : Prop := ∀ x ∈ L, (-9223372036854775808 ≤ x.1 ∧ x.1 ≤ 9223372036854775807) ∧ (-9223372036854775808 ≤ x.2.1 ∧ x.2.1 ≤ 9223372036854775807) ∧ (-9223372036854775808 ≤ x.2.2 ∧ x.2.2 ≤ 9223372036854775807)

def IsNds (W : World) (a : Option Addr) (L : List Nd) : Prop :=
  ∃ b off, (L ≠ [] → a = some ⟨b, off, none⟩ ∧ b < W.heap.size) ∧ ndAt W b off L ∧ L.length ≤ 9223372036854775807 ∧ fitsN L

theorem nd_block {w : World} {b o : Nat} {v : Value} (h : w.cell? ⟨b, o, none⟩ = some v) : b < w.heap.size := by
  rcases Nat.lt_or_ge b w.heap.size with h' | h'
  · exact h'
  · simp [World.cell?, Array.getElem?_eq_none h'] at h

theorem ndInt : Tryd.prog.cellsOf 3 = 1 := by kernel_rfl

end Go.Proofs.YtebendaiokchdaaDoor
