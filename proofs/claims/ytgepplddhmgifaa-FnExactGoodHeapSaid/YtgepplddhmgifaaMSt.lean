/-
  StoreBytes: both sides.
-/
import Derived.Test.YtgepplddhmgifaaMLoad
import Derived.Test.YtgepplddhmgifaaKeep
namespace Go.Proofs.Ytgepplddhmgifaa
open Go.ChangeShapes Go.WideShapes Go.ChangeAt Go.RowKit

end Go.Proofs.Ytgepplddhmgifaa
