/-
  The walk of the law on how many bytes points have.
-/
import Derived.Test.YtpmfihnhcgmjfaaDoorSize
import Derived.Test.YtpmfihnhcgmjfaaDoorPointsLaw
namespace Go.Proofs.YtpmfihnhcgmjfaaDoor
open Go.ChangeShapes Go.WideShapes Go.ChangeAt Go.RowKit

theorem sizeF_form (code : Int) (L : List Int) : ∃ x y, sizeF code L = .tuple #[.int .i64 x, .bool y] := by
  rcases encF_cases code L with ⟨_, h⟩ | ⟨_, h, _⟩
  · exact ⟨_, _, h⟩
  · exact ⟨_, _, h⟩

end Go.Proofs.YtpmfihnhcgmjfaaDoor
