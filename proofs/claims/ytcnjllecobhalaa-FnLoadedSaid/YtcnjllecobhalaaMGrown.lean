/-
  Memories that are new or grow.
-/
import Derived.Test.YtcnjllecobhalaaMStoreB
import Derived.Test.YtcnjllecobhalaaMMade
namespace Go.Proofs.Ytcnjllecobhalaa
open Go.ChangeShapes Go.WideShapes Go.ChangeAt Go.RowKit

end Go.Proofs.Ytcnjllecobhalaa
