/-
  Tables are marked, and the marks are looked for.
-/
import Derived.Test.YtjielcilcningaaTB9
namespace Go.Proofs.Ytjielcilcningaa
open Go.ChangeShapes Go.WideShapes Go.ChangeAt Go.RowKit

/-- The marks of a handle, from the number q on. -/
def mkH (q : Int) : Hd := ⟨q % 3 == 0, q + 1, q + 2, (q + 3) % 3 == 0, q + 4, q + 5⟩
def marksH (n : Nat) : List Hd := (List.range n).map fun (i : Nat) => mkH (1 + 6 * (i : Int))
theorem marksH_len (n : Nat) : (marksH n).length = n := by simp [marksH]
theorem marksH_at (n i : Nat) (h : i < (marksH n).length) : (marksH n)[i] = mkH (1 + 6 * (i : Int)) := by simp [marksH]
def marksK (k : Int) (n : Nat) : List Int := (List.range n).map fun (i : Nat) => k + (i : Int)
theorem marksK_len (k : Int) (n : Nat) : (marksK k n).length = n := by simp [marksK]
theorem marksK_at (k : Int) (n i : Nat) (h : i < (marksK k n).length) : (marksK k n)[i] = k + (i : Int) := by simp [marksK]
theorem grown_more {w w' : World} {g i : Nat} {u : Value} (h : w.grownBy w' (some g)) : w.grownBy (w'.setCell ⟨g, i, none⟩ u) (some g) := h.trans (grown_set w' g i u)

end Go.Proofs.Ytjielcilcningaa
