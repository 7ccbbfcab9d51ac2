/-
  The walks of the functions that write signed numbers in groups of seven bits.
-/
import Derived.Test.YtebendaiokchdaaDoorUleb
import Derived.Test.YtebendaiokchdaaDoorSMath
namespace Go.Proofs.YtebendaiokchdaaDoor
open Go.ChangeShapes Go.WideShapes Go.ChangeAt Go.RowKit

end Go.Proofs.YtebendaiokchdaaDoor
