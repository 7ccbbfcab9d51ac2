/-
  The walks of the functions that read numbers in groups of seven bits.
-/
import Derived.Test.YtnimlkobcginjaaUleb
import Derived.Test.YtnimlkobcginjaaTMath
namespace Go.Proofs.Ytnimlkobcginjaa
open Go.ChangeShapes Go.WideShapes Go.ChangeAt Go.RowKit Go.PlainAid

theorem ret_pair {k : IntKind} {a c : Int} {b d : Int} (h : a = c) (h2 : b = d) : Ending.returned (.tuple #[.int k a, .int .i64 b]) = .returned (.tuple #[.int k c, .int .i64 d]) := by rw [h, h2]

end Go.Proofs.Ytnimlkobcginjaa
