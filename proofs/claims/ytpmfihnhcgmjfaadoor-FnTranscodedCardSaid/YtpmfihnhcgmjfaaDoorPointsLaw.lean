/-
  The walk of the law on good points.
-/
import Derived.Test.YtpmfihnhcgmjfaaDoorPoints
namespace Go.Proofs.YtpmfihnhcgmjfaaDoor
open Go.ChangeShapes Go.WideShapes Go.ChangeAt Go.RowKit

theorem ibelow2 {a b c : World} (h : Below a.heap.size a b) (k : Below b.heap.size b c) : Below a.heap.size a c := h.trans (k.mono h.size)

end Go.Proofs.YtpmfihnhcgmjfaaDoor
