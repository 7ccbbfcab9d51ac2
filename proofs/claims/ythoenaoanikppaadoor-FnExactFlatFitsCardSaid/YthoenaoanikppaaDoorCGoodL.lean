/-
  Which instructions are good: the specification's side, and the law on it.
-/
import Derived.Test.YthoenaoanikppaaDoorCGood
namespace Go.Proofs.YthoenaoanikppaaDoor
open Go.ChangeShapes Go.WideShapes Go.ChangeAt Go.RowKit

end Go.Proofs.YthoenaoanikppaaDoor
