/-
  Numbers of 32 and of 64 bits: the small functions of both sides.
-/
import Derived.Test.YtnimlkobcginjaaDoorRows
import Derived.Test.YtnimlkobcginjaaDoorRet
import Derived.WalkKit
import Derived.Below
import Derived.Laws.Bits64b
namespace Go.Proofs.YtnimlkobcginjaaDoor
open Go.RowKit

/-- What is read of 32 bits with a sign, and of 64. -/
def s32 (a : Int) : Int := (a + 2147483648) % 4294967296 - 2147483648
def s64 (a : Int) : Int := (a + 9223372036854775808) % 18446744073709551616 - 9223372036854775808


theorem mask32 (a : Int) (h0 : 0 ≤ a) (h1 : a ≤ 18446744073709551615) : bits .and .u64 a 4294967295 = a % 4294967296 := by
  obtain ⟨n, rfl⟩ := Int.eq_ofNat_of_zero_le h0
  have h := bits_and_u64_nat n 4294967295 (by omega) (by omega)
  have e : n &&& 4294967295 = n % 4294967296 := Nat.and_two_pow_sub_one_eq_mod n 32
  rw [e] at h
  exact h

theorem implWrap (a : Int) (w : World) :
    Calls Tryd.prog 7 #[.int .u64 a] w fun e w' => e = .returned (.int .u64 (a % 4294967296)) ∧ w' = w := by
  go_enter Tryd.func7, Tryd.ntmps7
  go_wp2
  go_ret
  refine ⟨ret_int ?_, rfl⟩
  rfl

theorem cut32 (a : Int) (w : World) :
    Calls Tryd.prog 19 #[.int .i64 32, .int .u64 a] w fun e w' => e = .returned (.int .u64 (a % 4294967296)) ∧ w' = w := by
  go_enter Tryd.func19, Tryd.ntmps19
  go_wp2
  go_ret
  refine ⟨ret_int ?_, rfl⟩
  rw [IntKind.wrap_u64]; omega

theorem cut64 (a : Int) (h0 : 0 ≤ a) (h1 : a ≤ 18446744073709551615) (w : World) :
    Calls Tryd.prog 19 #[.int .i64 64, .int .u64 a] w fun e w' => e = .returned (.int .u64 a) ∧ w' = w := by
  go_enter Tryd.func19, Tryd.ntmps19
  go_wp2
  go_ret
  refine ⟨ret_int ?_, rfl⟩
  rfl

theorem signed32 (a : Int) (w : World) :
    Calls Tryd.prog 22 #[.int .i64 32, .int .u64 a] w fun e w' => e = .returned (.int .i64 (s32 a)) ∧ w' = w := by
  go_enter Tryd.func22, Tryd.ntmps22
  go_wp2
  go_ret
  refine ⟨ret_int ?_, rfl⟩
  unfold s32 wrap64; rw [IntKind.wrap_u64]; omega

theorem signed64 (a : Int) (h0 : 0 ≤ a) (h1 : a ≤ 18446744073709551615) (w : World) :
    Calls Tryd.prog 22 #[.int .i64 64, .int .u64 a] w fun e w' => e = .returned (.int .i64 (s64 a)) ∧ w' = w := by
  go_enter Tryd.func22, Tryd.ntmps22
  go_wp2
  go_ret
  refine ⟨ret_int ?_, rfl⟩
  unfold s64 wrap64; omega

theorem specMask32 (a : Int) (h0 : 0 ≤ a) (h1 : a ≤ 18446744073709551615) (w : World) :
    Calls Tryd.prog 24 #[.int .i64 32, .int .u64 a] w fun e w' => e = .returned (.int .u64 (a % 4294967296)) ∧ w' = w := by
  go_enter Tryd.func24, Tryd.ntmps24
  go_wp2
  go_ret
  refine ⟨ret_int ?_, rfl⟩
  exact mask32 a h0 h1

theorem specMask64 (a : Int) (w : World) :
    Calls Tryd.prog 24 #[.int .i64 64, .int .u64 a] w fun e w' => e = .returned (.int .u64 a) ∧ w' = w := by
  go_enter Tryd.func24, Tryd.ntmps24
  go_wp2
  go_ret
  exact ⟨rfl, rfl⟩

theorem specSigned32 (a : Int) (w : World) :
    Calls Tryd.prog 23 #[.int .i64 32, .int .u64 a] w fun e w' => e = .returned (.int .i64 (s32 a)) ∧ w' = w := by
  go_enter Tryd.func23, Tryd.ntmps23
  go_wp2
  go_ret
  refine ⟨ret_int ?_, rfl⟩
  unfold s32 wrap64 wrap32; omega

theorem specSigned64 (a : Int) (w : World) :
    Calls Tryd.prog 23 #[.int .i64 64, .int .u64 a] w fun e w' => e = .returned (.int .i64 (s64 a)) ∧ w' = w := by
  go_enter Tryd.func23, Tryd.ntmps23
  go_wp2
  go_ret
  refine ⟨ret_int ?_, rfl⟩
  unfold s64 wrap64; omega

theorem specBits (b : Int) (w : World) :
    Calls Tryd.prog 20 #[.int .i64 b] w fun e w' => e = .returned (.bool (b == 32 || b == 64)) ∧ w' = w := by
  by_cases h : b = 32
  · subst h
    go_enter Tryd.func20, Tryd.ntmps20
    go_wp2
    go_ret
    exact ⟨rfl, rfl⟩
  · go_enter Tryd.func20, Tryd.ntmps20
    go_wp2
    go_ret
    exact ⟨by simp, rfl⟩

theorem implWidth32 (w : World) :
    Calls Tryd.prog 17 #[.int .i64 32] w fun e w' => e = .returned (.tuple #[.int .i64 32, .bool true]) ∧ w' = w := by
  go_enter Tryd.func17, Tryd.ntmps17
  go_wp2
  go_ret2
  exact ⟨rfl, rfl⟩

theorem implWidth64 (w : World) :
    Calls Tryd.prog 17 #[.int .i64 64] w fun e w' => e = .returned (.tuple #[.int .i64 64, .bool true]) ∧ w' = w := by
  go_enter Tryd.func17, Tryd.ntmps17
  go_wp2
  go_ret2
  exact ⟨rfl, rfl⟩

theorem implWidthNo (b : Int) (h1 : b ≠ 32) (h2 : b ≠ 64) (w : World) :
    Calls Tryd.prog 17 #[.int .i64 b] w fun e w' => e = .returned (.tuple #[.int .i64 0, .bool false]) ∧ w' = w := by
  have k1 : (b != 32) = true := by simp [h1]
  have k2 : (b != 64) = true := by simp [h2]
  go_enter Tryd.func17, Tryd.ntmps17
  go_wp2
  go_ret2
  exact ⟨rfl, rfl⟩

theorem specYes (b : Bool) (w : World) :
    Calls Tryd.prog 35 #[.bool b] w fun e w' => e = .returned (.int .u64 b.toNat) ∧ w' = w := by
  cases b
  · go_enter Tryd.func35, Tryd.ntmps35
    go_wp2
    go_ret
    exact ⟨rfl, rfl⟩
  · go_enter Tryd.func35, Tryd.ntmps35
    go_wp2
    go_ret
    exact ⟨rfl, rfl⟩

theorem implOne (b : Bool) (w : World) :
    Calls Tryd.prog 39 #[.bool b] w fun e w' => e = .returned (.int .u64 b.toNat) ∧ w' = w := by
  cases b
  · go_enter Tryd.func39, Tryd.ntmps39
    go_wp2
    go_ret
    exact ⟨rfl, rfl⟩
  · go_enter Tryd.func39, Tryd.ntmps39
    go_wp2
    go_ret
    exact ⟨rfl, rfl⟩

end Go.Proofs.YtnimlkobcginjaaDoor
