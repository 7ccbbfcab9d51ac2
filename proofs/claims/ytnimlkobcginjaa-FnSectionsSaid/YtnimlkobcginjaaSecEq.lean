/-
  The walk of the comparison of two slices of sections that hold the same.
-/
import Derived.Test.YtnimlkobcginjaaSecBase
import Derived.Deep.RegionWith
namespace Go.Proofs.Ytnimlkobcginjaa
open Go.ChangeShapes Go.WideShapes Go.ChangeAt Go.RowKit

end Go.Proofs.Ytnimlkobcginjaa
