/-
  The walk of the function that writes several numbers behind bytes that its caller owns.
-/
import Derived.Test.YtcgnefgdfgikdaaGreatU2
namespace Go.Proofs.YtcgnefgdfgikdaaGreat
open Go.ChangeShapes Go.WideShapes Go.ChangeAt Go.RowKit

def ulAll (ns : List Nat) : List UInt8 := ns.flatMap (ul 10)
theorem ulAll_len (ns : List Nat) : (ulAll ns).length ≤ 10 * ns.length := by
  induction ns with
  | nil => simp [ulAll]
  | cons n r ih =>
    have h := ul_len 10 n
    have e : ulAll (n :: r) = ul 10 n ++ ulAll r := by simp [ulAll]
    rw [e, List.length_append, List.length_cons]; omega
theorem ulAll_snoc (ns : List Nat) (k : Nat) (h : k < ns.length) : ulAll (ns.take (k + 1)) = ulAll (ns.take k) ++ ul 10 ns[k] := by
  unfold ulAll; rw [List.take_succ_eq_append_getElem h, List.flatMap_append, List.flatMap_cons, List.flatMap_nil, List.append_nil]
def nums (ns : List Nat) : Array Value := (ns.map fun (n : Nat) => Value.int .u64 (n : Int)).toArray
theorem nums_cell {w : World} {nb : Nat} {ns : List Nat} (h : w.heap[nb]? = some (.cells (nums ns) 44 (0, 0))) (k : Nat) (hk : k < ns.length) : w.cell? ⟨nb, k, none⟩ = some (.int .u64 (ns[k] : Int)) := by
  simp [World.cell?, h, nums, hk]

end Go.Proofs.YtcgnefgdfgikdaaGreat

namespace Go.Proofs.YtcgnefgdfgikdaaGreat
open Go.ChangeShapes Go.WideShapes Go.ChangeAt Go.RowKit

end Go.Proofs.YtcgnefgdfgikdaaGreat

namespace Go.Proofs.YtcgnefgdfgikdaaGreat
open Go.ChangeShapes Go.WideShapes Go.ChangeAt Go.RowKit

end Go.Proofs.YtcgnefgdfgikdaaGreat
