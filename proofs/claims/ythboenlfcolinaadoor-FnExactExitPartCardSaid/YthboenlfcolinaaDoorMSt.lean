/-
  StoreBytes: both sides.
-/
import Derived.Test.YthboenlfcolinaaDoorMLoad
import Derived.Test.YthboenlfcolinaaDoorKeep
namespace Go.Proofs.YthboenlfcolinaaDoor
open Go.ChangeShapes Go.WideShapes Go.ChangeAt Go.RowKit

/-- What a refusal tells of a memory. -/
def kept (M : Int) (D : ByteArray) : Int × ByteArray := if good M D = true then (M, D) else (0, ⟨#[]⟩)
theorem asItWas (M : Int) (D : ByteArray) (h : D.size ≤ 1048576) (w : World) :
    Calls Tryd.prog 45 #[.agg #[.int .i64 M, .string D]] w fun e w' => e = .returned (.agg #[.int .i64 (kept M D).1, .string (kept M D).2]) ∧ Below w.heap.size w w' := by
  cases hg : good M D
  · simp only [kept, hg]; exact asItWas_no M D h hg w
  · simp only [kept, hg]; exact asItWas_yes M D h hg w

end Go.Proofs.YthboenlfcolinaaDoor
