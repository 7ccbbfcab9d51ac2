/-
  Cells that are kept: small laws.
-/
import Derived.Test.YtljnciclbjcinaaGreatDoorBel
namespace Go.Proofs.YtljnciclbjcinaaGreatDoor
open Go.RowKit

theorem keepCell {a b : World} {B g o : Nat} {v : Value} (h : Below B a b) (hg : g < B) (hc : a.cell? ⟨g, o, none⟩ = some v) : b.cell? ⟨g, o, none⟩ = some v := (h.cell (p := ⟨g, o, none⟩) hg).trans hc
theorem keepFree {a b : World} {B g o : Nat} (h : Below B a b) (hg : g < B) (hc : a.frozen? ⟨g, o, none⟩ = false) : b.frozen? ⟨g, o, none⟩ = false := (h.frozen (p := ⟨g, o, none⟩) hg).trans hc

theorem pastCell {w : World} {o : Obj} {g j : Nat} {v : Value} (hg : g < w.heap.size) (h : w.cell? ⟨g, j, none⟩ = some v) : (w.alloc o).cell? ⟨g, j, none⟩ = some v := keepCell ((Below.refl w.heap.size w).alloc (Nat.le_refl _) o) hg h
theorem pastFree {w : World} {o : Obj} {g j : Nat} (hg : g < w.heap.size) (h : w.frozen? ⟨g, j, none⟩ = false) : (w.alloc o).frozen? ⟨g, j, none⟩ = false := keepFree ((Below.refl w.heap.size w).alloc (Nat.le_refl _) o) hg h
theorem newCell {w : World} {c : Array Value} {t : TypeId} {g j : Nat} {v : Value} (hg : g = w.heap.size) (h : c[j]? = some v) : (w.alloc (.cells c t)).cell? ⟨g, j, none⟩ = some v := (World.cell?_alloc_at c t g j hg).trans h

end Go.Proofs.YtljnciclbjcinaaGreatDoor
