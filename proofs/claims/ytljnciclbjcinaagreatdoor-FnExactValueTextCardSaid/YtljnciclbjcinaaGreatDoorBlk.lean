/-
  Cells of a block that is known.
-/
import Derived.Test.YtljnciclbjcinaaGreatDoorRows
import Derived.WalkKit
import Derived.Test.YtljnciclbjcinaaGreatDoorOwn
namespace Go.Proofs.YtljnciclbjcinaaGreatDoor
open Go.RowKit

theorem cell_of_block {w : World} {g : Nat} {arr : Array Value} {t : TypeId} (h : w.heap[g]? = some (.cells arr t (0, 0))) (i : Nat) : w.cell? ⟨g, i, none⟩ = arr[i]? := by
  simp [World.cell?, h]
theorem free_of_block {w : World} {g : Nat} {arr : Array Value} {t : TypeId} (h : w.heap[g]? = some (.cells arr t (0, 0))) (i : Nat) : w.frozen? ⟨g, i, none⟩ = false := by
  simp [World.frozen?, h]

end Go.Proofs.YtljnciclbjcinaaGreatDoor
