/-
  The library's copy of a string, by the contract that the library holds for it, at this program's numbers.
-/
import Derived.Shelf.LaysM
import Derived.Shelf.Strconv.Clone
import Derived.WalkKit
import Derived.Test.YtgepplddhmgifaaProg
namespace Go.Proofs.Ytgepplddhmgifaa
open Go.Shelf

end Go.Proofs.Ytgepplddhmgifaa
