/-
  Numbers of 32 and of 64 bits beside floats (the names of IBase's are taken there).
-/
import Derived.Test.YtnimlkobcginjaaRows
import Derived.Test.YtnimlkobcginjaaRet
import Derived.Test.YtnimlkobcginjaaFTiM
import Derived.Laws.Bits64b
namespace Go.Proofs.Ytnimlkobcginjaa
open Go.RowKit

theorem mask32T (a : Int) (h0 : 0 ≤ a) (h1 : a ≤ 18446744073709551615) : bits .and .u64 a 4294967295 = a % 4294967296 := by
  obtain ⟨n, rfl⟩ := Int.eq_ofNat_of_zero_le h0
  have h := bits_and_u64_nat n 4294967295 (by omega) (by omega)
  have e : n &&& 4294967295 = n % 4294967296 := Nat.and_two_pow_sub_one_eq_mod n 32
  rw [e] at h
  exact h

theorem cut32T (a : Int) (w : World) :
    Calls Try.prog 86 #[.int .i64 32, .int .u64 a] w fun e w' => e = .returned (.int .u64 (a % 4294967296)) ∧ w' = w := by
  go_enter Try.func86, Try.ntmps86
  go_wp2
  go_ret
  refine ⟨ret_int ?_, rfl⟩
  rw [IntKind.wrap_u64]; omega

theorem cut64T (a : Int) (h0 : 0 ≤ a) (h1 : a ≤ 18446744073709551615) (w : World) :
    Calls Try.prog 86 #[.int .i64 64, .int .u64 a] w fun e w' => e = .returned (.int .u64 a) ∧ w' = w := by
  go_enter Try.func86, Try.ntmps86
  go_wp2
  go_ret
  refine ⟨ret_int ?_, rfl⟩
  rfl

theorem specBitsT (b : Int) (w : World) :
    Calls Try.prog 89 #[.int .i64 b] w fun e w' => e = .returned (.bool (b == 32 || b == 64)) ∧ w' = w := by
  by_cases h : b = 32
  · subst h
    go_enter Try.func89, Try.ntmps89
    go_wp2
    go_ret
    exact ⟨rfl, rfl⟩
  · go_enter Try.func89, Try.ntmps89
    go_wp2
    go_ret
    exact ⟨by simp, rfl⟩

theorem implWidth32T (w : World) :
    Calls Try.prog 83 #[.int .i64 32] w fun e w' => e = .returned (.tuple #[.int .i64 32, .bool true]) ∧ w' = w := by
  go_enter Try.func83, Try.ntmps83
  go_wp2
  go_ret2
  exact ⟨rfl, rfl⟩

theorem implWidth64T (w : World) :
    Calls Try.prog 83 #[.int .i64 64] w fun e w' => e = .returned (.tuple #[.int .i64 64, .bool true]) ∧ w' = w := by
  go_enter Try.func83, Try.ntmps83
  go_wp2
  go_ret2
  exact ⟨rfl, rfl⟩

theorem implWidthNoT (b : Int) (h1 : b ≠ 32) (h2 : b ≠ 64) (w : World) :
    Calls Try.prog 83 #[.int .i64 b] w fun e w' => e = .returned (.tuple #[.int .i64 0, .bool false]) ∧ w' = w := by
  have k1 : (b != 32) = true := by simp [h1]
  have k2 : (b != 64) = true := by simp [h2]
  go_enter Try.func83, Try.ntmps83
  go_wp2
  go_ret2
  exact ⟨rfl, rfl⟩

end Go.Proofs.Ytnimlkobcginjaa
