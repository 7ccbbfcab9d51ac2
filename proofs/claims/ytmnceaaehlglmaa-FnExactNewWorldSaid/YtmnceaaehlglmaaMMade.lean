/-
  Rows of noughts that are made.
-/
import Derived.Test.YtmnceaaehlglmaaIn
import Derived.Test.YtmnceaaehlglmaaBel
import Derived.Test.YtmnceaaehlglmaaQHide
import Derived.Laws.BytesString
import Derived.Laws.IdiomStrings
namespace Go.Proofs.Ytmnceaaehlglmaa
open Go.ChangeShapes Go.WideShapes Go.ChangeAt Go.RowKit

end Go.Proofs.Ytmnceaaehlglmaa
