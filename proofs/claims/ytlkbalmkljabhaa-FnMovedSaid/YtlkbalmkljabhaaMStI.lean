/-
  Numbers stored, and bytes copied within: both sides and their laws. (Made by a generator.)
-/
import Derived.Test.YtlkbalmkljabhaaMIntL
namespace Go.Proofs.Ytlkbalmkljabhaa
open Go.ChangeShapes Go.WideShapes Go.ChangeAt Go.RowKit Go.PlainAid

end Go.Proofs.Ytlkbalmkljabhaa
