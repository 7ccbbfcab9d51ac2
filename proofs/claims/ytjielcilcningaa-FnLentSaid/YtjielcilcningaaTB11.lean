/-
  A table is marked whole, and the marks are looked for.
-/
import Derived.Test.YtjielcilcningaaTB10
namespace Go.Proofs.Ytjielcilcningaa
open Go.ChangeShapes Go.WideShapes Go.ChangeAt Go.RowKit

/-- The marks of a table of n slots and m numbers. -/
def Marked (B : Nat) (w : World) (v u : Value) (n m : Nat) : Prop := TabO B w v u (marksH n) (marksK (1 + 6 * (n : Int)) m)
theorem ownT_row {w : World} {B : Nat} {e : TypeId} {s n k : Nat} {v : Value} {xs : List Value} (h : w.ownsRow B e s v n xs) (hk : k = n) : w.ownsRow B e s v k xs := by rw [hk]; exact h

end Go.Proofs.Ytjielcilcningaa
