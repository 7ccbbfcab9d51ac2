/-
  Numbers of 32 and of 64 bits: the small functions of both sides.
-/
import Derived.Test.YthoenaoanikppaaDoorRows
import Derived.Test.YthoenaoanikppaaDoorRet
import Derived.WalkKit
import Derived.Below
import Derived.Laws.Bits64b
namespace Go.Proofs.YthoenaoanikppaaDoor
open Go.RowKit

/-- What is read of 32 bits with a sign, and of 64. -/
def s32 (a : Int) : Int := (a + 2147483648) % 4294967296 - 2147483648
def s64 (a : Int) : Int := (a + 9223372036854775808) % 18446744073709551616 - 9223372036854775808


theorem mask32 (a : Int) (h0 : 0 ≤ a) (h1 : a ≤ 18446744073709551615) : bits .and .u64 a 4294967295 = a % 4294967296 := by
  obtain ⟨n, rfl⟩ := Int.eq_ofNat_of_zero_le h0
  have h := bits_and_u64_nat n 4294967295 (by omega) (by omega)
  have e : n &&& 4294967295 = n % 4294967296 := Nat.and_two_pow_sub_one_eq_mod n 32
  rw [e] at h
  exact h

end Go.Proofs.YthoenaoanikppaaDoor
