/-
  Which instructions are good: both sides, and the law on it.
-/
import Derived.Test.YthoenaoanikppaaDoorCInsI
import Derived.Test.YthoenaoanikppaaDoorCBase
import Derived.Test.YthoenaoanikppaaDoorBel
namespace Go.Proofs.YthoenaoanikppaaDoor
open Go.ChangeShapes Go.WideShapes Go.ChangeAt Go.RowKit

/-- Whether A fits its kind. -/
def mayK (k a : Int) : Bool :=
  if k = 0 then a == 0
  else if k = 1 then (decide (125 ≤ a) && decide (a ≤ 127)) || a == 64
  else if k = 2 then decide (0 ≤ a) && decide (a ≤ 1000)
  else if k = 3 then decide (0 ≤ a) && decide (a ≤ 10000)
  else if k = 4 then decide (-2147483648 ≤ a) && decide (a ≤ 2147483647)
  else if k = 5 then true
  else if k = 6 then decide (0 ≤ a) && decide (a ≤ 4294967295)
  else false
def gi (op a : Int) : Bool := mayK (shp op) a

/-- A call of 'may' by its kind. -/
theorem below_same {w w' : World} (h : w' = w) : Below w.heap.size w w' := by subst h; exact Below.refl _ _

end Go.Proofs.YthoenaoanikppaaDoor
