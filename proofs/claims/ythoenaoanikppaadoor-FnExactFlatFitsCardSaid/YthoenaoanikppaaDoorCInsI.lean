/-
  What an instruction's A is: the program's own side.
-/
import Derived.Test.YthoenaoanikppaaDoorCIns
namespace Go.Proofs.YthoenaoanikppaaDoor
open Go.ChangeShapes Go.WideShapes Go.ChangeAt Go.RowKit

theorem shp_one (op : Int) : shp op = 0 ∨ shp op = 1 ∨ shp op = 2 ∨ shp op = 3 ∨ shp op = 4 ∨ shp op = 5 ∨ shp op = 6 ∨ shp op = -1 := by
  unfold shp; repeat' split
  all_goals simp

end Go.Proofs.YthoenaoanikppaaDoor
