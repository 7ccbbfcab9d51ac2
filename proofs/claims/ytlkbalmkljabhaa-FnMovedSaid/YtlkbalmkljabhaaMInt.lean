/-
  Numbers loaded and stored: both sides. (Made by a generator: one part for each number of bytes.)
-/
import Derived.Test.YtlkbalmkljabhaaMNum
import Derived.Test.YtlkbalmkljabhaaMSt
namespace Go.Proofs.Ytlkbalmkljabhaa
open Go.ChangeShapes Go.WideShapes Go.ChangeAt Go.RowKit Go.PlainAid

theorem or_top (x T : Nat) (hT : T = 256 ∨ T = 65536 ∨ T = 4294967296) (h : x < T) : bits .or .u64 (x : Int) ((18446744073709551616 - T : Nat) : Int) = ((x + (18446744073709551616 - T) : Nat) : Int) := by
  rcases hT with rfl | rfl | rfl
  · rw [or_nat _ _ (by omega) (by omega), Nat.or_comm]
    have e := (Nat.two_pow_add_eq_or_of_lt (i := 8) (b := x) (by omega) 72057594037927935).symm
    rw [show 18446744073709551616 - 256 = 2 ^ 8 * 72057594037927935 by rfl, e]
    omega
  · rw [or_nat _ _ (by omega) (by omega), Nat.or_comm]
    have e := (Nat.two_pow_add_eq_or_of_lt (i := 16) (b := x) (by omega) 281474976710655).symm
    rw [show 18446744073709551616 - 65536 = 2 ^ 16 * 281474976710655 by rfl, e]
    omega
  · rw [or_nat _ _ (by omega) (by omega), Nat.or_comm]
    have e := (Nat.two_pow_add_eq_or_of_lt (i := 32) (b := x) (by omega) 4294967295).symm
    rw [show 18446744073709551616 - 4294967296 = 2 ^ 32 * 4294967295 by rfl, e]
    omega

/-- A number of n bytes told with its sign, in 64 bits. -/
def sgn (n : Nat) (x : Int) : Int := if n = 8 then x else if 2 ^ (8 * n - 1) ≤ x then x + 18446744073709551616 - 2 ^ (8 * n) else x

end Go.Proofs.Ytlkbalmkljabhaa
