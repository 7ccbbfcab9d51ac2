/-
  The walks of the marks that a law lays into an answer of integers, and of the look for them.
-/
import Derived.Test.YtpmfihnhcgmjfaaDoorDec
namespace Go.Proofs.YtpmfihnhcgmjfaaDoor
open Go.ChangeShapes Go.WideShapes Go.ChangeAt Go.RowKit

/-- The marks of n integers. -/
def marksI (n : Nat) : List Int := (List.range n).map fun (i : Nat) => 1 + (i : Int)
theorem marksI_len (n : Nat) : (marksI n).length = n := by simp [marksI]
theorem marksI_at (n i : Nat) (h : i < (marksI n).length) : (marksI n)[i] = 1 + (i : Int) := by simp [marksI]

end Go.Proofs.YtpmfihnhcgmjfaaDoor
