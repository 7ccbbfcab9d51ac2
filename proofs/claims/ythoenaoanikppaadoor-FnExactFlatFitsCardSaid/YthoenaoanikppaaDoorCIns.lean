/-
  What an instruction's A is, on both sides.
-/
import Derived.Test.YthoenaoanikppaaDoorIn
import Derived.Test.YthoenaoanikppaaDoorIBase
import Derived.Deep.QuietTactic
import Derived.BigQuiet
namespace Go.Proofs.YthoenaoanikppaaDoor
open Go.ChangeShapes Go.WideShapes Go.ChangeAt Go.RowKit

/-- The op's kind: 0 without A, 1 a block's type, 2 an index, 3 an offset, 4 and 5 numbers, 6 a float, -1 none. -/
def counted (op : Int) : Bool := (decide (97 ≤ op) && decide (op ≤ 123)) || (decide (129 ≤ op) && decide (op ≤ 155)) || (decide (161 ≤ op) && decide (op ≤ 169))
def bares : List Int := [0, 1, 5, 11, 15, 26, 27, 63, 64, 176, 177, 178, 179, 180]
def shp (op : Int) : Int :=
  if op ∈ bares then 0
  else if op ∈ [2, 3, 4] then 1
  else if op ∈ [12, 13, 16, 32, 33, 34, 35, 36] then 2
  else if op ∈ [40, 41, 54, 55] then 3
  else if op = 65 then 4
  else if op = 66 then 5
  else if op = 67 then 6
  else if counted op then 0 else -1
def named : List Int := [0, 1, 5, 11, 15, 26, 27, 63, 64, 176, 177, 178, 179, 180, 2, 3, 4, 12, 13, 16, 32, 33, 34, 35, 36, 40, 41, 54, 55, 65, 66, 67]
theorem shp_other (op : Int) (h : ¬ op ∈ named) : shp op = if counted op then 0 else -1 := by
  simp only [named, List.mem_cons, List.not_mem_nil, or_false, not_or] at h
  unfold shp bares
  simp only [List.mem_cons, List.not_mem_nil, or_false]
  simp only [h, or_false, if_false]

end Go.Proofs.YthoenaoanikppaaDoor
