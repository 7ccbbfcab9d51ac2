/-
  Numbers of 32 and of 64 bits: the small functions of both sides.
-/
import Derived.Test.YtdalkbapfjpkoaaRows
import Derived.Test.YtdalkbapfjpkoaaRet
import Derived.WalkKit
import Derived.Below
import Derived.Laws.Bits64b
namespace Go.Proofs.Ytdalkbapfjpkoaa
open Go.RowKit

/-- What is read of 32 bits with a sign, and of 64. -/
def s32 (a : Int) : Int := (a + 2147483648) % 4294967296 - 2147483648
def s64 (a : Int) : Int := (a + 9223372036854775808) % 18446744073709551616 - 9223372036854775808


theorem mask32 (a : Int) (h0 : 0 ≤ a) (h1 : a ≤ 18446744073709551615) : bits .and .u64 a 4294967295 = a % 4294967296 := by
  obtain ⟨n, rfl⟩ := Int.eq_ofNat_of_zero_le h0
  have h := bits_and_u64_nat n 4294967295 (by omega) (by omega)
  have e : n &&& 4294967295 = n % 4294967296 := Nat.and_two_pow_sub_one_eq_mod n 32
  rw [e] at h
  exact h

theorem cut32 (a : Int) (w : World) :
    Calls Try.prog 88 #[.int .i64 32, .int .u64 a] w fun e w' => e = .returned (.int .u64 (a % 4294967296)) ∧ w' = w := by
  go_enter Try.func88, Try.ntmps88
  go_wp2
  go_ret
  refine ⟨ret_int ?_, rfl⟩
  rw [IntKind.wrap_u64]; omega

theorem cut64 (a : Int) (h0 : 0 ≤ a) (h1 : a ≤ 18446744073709551615) (w : World) :
    Calls Try.prog 88 #[.int .i64 64, .int .u64 a] w fun e w' => e = .returned (.int .u64 a) ∧ w' = w := by
  go_enter Try.func88, Try.ntmps88
  go_wp2
  go_ret
  refine ⟨ret_int ?_, rfl⟩
  rfl

theorem signed32 (a : Int) (w : World) :
    Calls Try.prog 86 #[.int .i64 32, .int .u64 a] w fun e w' => e = .returned (.int .i64 (s32 a)) ∧ w' = w := by
  go_enter Try.func86, Try.ntmps86
  go_wp2
  go_ret
  refine ⟨ret_int ?_, rfl⟩
  unfold s32 wrap64; rw [IntKind.wrap_u64]; omega

theorem signed64 (a : Int) (h0 : 0 ≤ a) (h1 : a ≤ 18446744073709551615) (w : World) :
    Calls Try.prog 86 #[.int .i64 64, .int .u64 a] w fun e w' => e = .returned (.int .i64 (s64 a)) ∧ w' = w := by
  go_enter Try.func86, Try.ntmps86
  go_wp2
  go_ret
  refine ⟨ret_int ?_, rfl⟩
  unfold s64 wrap64; omega

end Go.Proofs.Ytdalkbapfjpkoaa
