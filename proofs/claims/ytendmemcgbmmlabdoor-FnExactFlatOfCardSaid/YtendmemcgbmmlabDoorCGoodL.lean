/-
  Which instructions are good: the specification's side, and the law on it.
-/
import Derived.Test.YtendmemcgbmmlabDoorCGood
namespace Go.Proofs.YtendmemcgbmmlabDoor
open Go.ChangeShapes Go.WideShapes Go.ChangeAt Go.RowKit

end Go.Proofs.YtendmemcgbmmlabDoor
