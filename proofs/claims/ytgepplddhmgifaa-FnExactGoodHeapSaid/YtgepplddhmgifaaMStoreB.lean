/-
  Bytes stored in a memory: impl's side.
-/
import Derived.Test.YtgepplddhmgifaaMStore
namespace Go.Proofs.Ytgepplddhmgifaa
open Go.ChangeShapes Go.WideShapes Go.ChangeAt Go.RowKit

theorem infoU8 : (Try.prog.info? 5).map (·.size) = some 1 := by kernel_rfl

end Go.Proofs.Ytgepplddhmgifaa
