/-
  Bytes stored in a memory, and memories told anew: impl's side.
-/
import Derived.Test.YtgepplddhmgifaaMSpan
import Derived.Test.YtgepplddhmgifaaMCopy
import Derived.Test.YtgepplddhmgifaaClone
namespace Go.Proofs.Ytgepplddhmgifaa
open Go.ChangeShapes Go.WideShapes Go.ChangeAt Go.RowKit

end Go.Proofs.Ytgepplddhmgifaa
