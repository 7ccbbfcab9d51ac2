/-
  Spans: none, within, and the code of several.
-/
import Derived.Test.YthboenlfcolinaaDoorMGood
namespace Go.Proofs.YthboenlfcolinaaDoor
open Go.ChangeShapes Go.WideShapes Go.ChangeAt Go.RowKit

def spNone (p : Int × Int) : Bool := decide (p.1 < 0) || decide (p.2 < 0)
def spIn (n : Int) (p : Int × Int) : Bool := decide (p.2 ≤ n - p.1)
/-- The code of spans in a memory of n bytes that is good or not. -/
def codeOf (g : Bool) (n : Int) (L : List (Int × Int)) : Int := if g = false then 1 else if L.any spNone = true then 1 else if L.all (spIn n) = true then 0 else 2
def spanAt (w : World) (b : Nat) (L : List (Int × Int)) : Prop :=
  ∀ i (h : i < L.length), w.cell? ⟨b, i * 2, none⟩ = some (.int .i64 L[i].1) ∧ w.cell? ⟨b, i * 2 + 1, none⟩ = some (.int .i64 L[i].2)

end Go.Proofs.YthboenlfcolinaaDoor
