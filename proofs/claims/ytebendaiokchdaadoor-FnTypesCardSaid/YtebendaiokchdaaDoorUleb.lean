/-
  The walks of the functions that write numbers in groups of seven bits.
-/
import Derived.Test.YtebendaiokchdaaDoorRows
import Derived.Test.YtebendaiokchdaaDoorRet
import Derived.Test.YtebendaiokchdaaDoorMath
import Derived.Test.YtebendaiokchdaaDoorOwn
import Derived.ProofKit
import Derived.OpenShut
namespace Go.Proofs.YtebendaiokchdaaDoor
open Go.ChangeShapes Go.WideShapes Go.ChangeAt Go.RowKit

theorem Tryd.info5 : (Tryd.prog.info? 5).map (fun i => (i.zero, i.size, i.bytes)) = some (some (.int .u8 0), 1, 1) := by kernel_rfl

theorem str_len (l : List UInt8) : (ByteArray.mk l.toArray).size = l.length := by simp [ByteArray.size]

end Go.Proofs.YtebendaiokchdaaDoor
