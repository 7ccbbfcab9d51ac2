/-
  FMul, both sides, and its law.
-/
import Derived.Test.YtlkbalmkljabhabFRndS
import Derived.Test.YtlkbalmkljabhabFFv
import Derived.Test.YtlkbalmkljabhabQMake
import Derived.OpenShut
import Derived.Deep.RegionWith
namespace Go.Proofs.Ytlkbalmkljabhab
open Go.RowKit


theorem twoStructs (w W3 : World) (b9 b10 : Nat) (x0 x1 x2 x3 x4 x5 x6 x7 a0 a1 a2 a3 a4 a5 a6 a7 : Value) (_ne1 : b9 ≠ b10) (ne2 : b10 ≠ b9)
    (y0 : w.cell? ⟨b9, 0, none⟩ = some a0) (y1 : w.cell? ⟨b9, 1, none⟩ = some a1) (y2 : w.cell? ⟨b9, 2, none⟩ = some a2) (y3 : w.cell? ⟨b9, 3, none⟩ = some a3)
    (z0 : w.cell? ⟨b10, 0, none⟩ = some a4) (z1 : w.cell? ⟨b10, 1, none⟩ = some a5) (z2 : w.cell? ⟨b10, 2, none⟩ = some a6) (z3 : w.cell? ⟨b10, 3, none⟩ = some a7)
    (hW : (((((((w.setCell ⟨b9, 0, none⟩ x0).setCell ⟨b9, 1, none⟩ x1).setCell ⟨b9, 2, none⟩ x2).setCell ⟨b9, 3, none⟩ x3).setCell ⟨b10, 0, none⟩ x4).setCell ⟨b10, 1, none⟩ x5).setCell ⟨b10, 2, none⟩ x6).setCell ⟨b10, 3, none⟩ x7 = W3) :
    (W3.cell? ⟨b9, 0, none⟩ = some x0 ∧ W3.cell? ⟨b9, 1, none⟩ = some x1 ∧ W3.cell? ⟨b9, 2, none⟩ = some x2 ∧ W3.cell? ⟨b9, 3, none⟩ = some x3 ∧ W3.cell? ⟨b10, 0, none⟩ = some x4 ∧ W3.cell? ⟨b10, 1, none⟩ = some x5 ∧ W3.cell? ⟨b10, 2, none⟩ = some x6 ∧ W3.cell? ⟨b10, 3, none⟩ = some x7) ∧
    (∀ g j, g ≠ b9 → g ≠ b10 → W3.cell? ⟨g, j, none⟩ = w.cell? ⟨g, j, none⟩) ∧ W3.heap.size = w.heap.size := by
  subst hW
  refine ⟨⟨?_, ?_, ?_, ?_, ?_, ?_, ?_, ?_⟩, fun g j h1 h2 => ?_, ?_⟩
  all_goals try have h3 := Ne.symm h1
  all_goals try have h4 := Ne.symm h2
  all_goals simp [go_sem, *]

end Go.Proofs.Ytlkbalmkljabhab
