/-
  Plain facts on the bits of two numbers: nothing of the program stands here.
-/
import Derived.WalkKit
import Derived.Below
import Derived.Laws.Bits64b
namespace Go.Proofs.Ytdalkbapfjpkoaa
open Go.RowKit

theorem or_comm' (x y : Int) : bits .or .u64 x y = bits .or .u64 y x := by
  show IntKind.u64.wrap ((BitVec.ofInt 64 x ||| BitVec.ofInt 64 y).toNat : Int) = IntKind.u64.wrap ((BitVec.ofInt 64 y ||| BitVec.ofInt 64 x).toNat : Int)
  rw [BitVec.or_comm]
theorem u64_toNat (n : Nat) (h : n < 18446744073709551616) : (BitVec.ofInt 64 (n : Int)).toNat = n := by
  rw [BitVec.ofInt_natCast, BitVec.toNat_ofNat]
  exact Nat.mod_eq_of_lt (by omega)
theorem or_nat (x y : Nat) (hx : x < 18446744073709551616) (hy : y < 18446744073709551616) : bits .or .u64 (x : Int) (y : Int) = ((x ||| y : Nat) : Int) := by
  have hz : x ||| y < 2 ^ 64 := Nat.or_lt_two_pow (by omega) (by omega)
  show IntKind.u64.wrap ((BitVec.ofInt 64 (x : Int) ||| BitVec.ofInt 64 (y : Int)).toNat : Int) = _
  rw [BitVec.toNat_or, u64_toNat x hx, u64_toNat y hy, IntKind.wrap_u64]
  omega
theorem or_zero (x : Int) (h0 : 0 ≤ x) (h1 : x ≤ 18446744073709551615) : bits .or .u64 x 0 = x := by
  obtain ⟨n, rfl⟩ := Int.eq_ofNat_of_zero_le h0
  have := or_nat n 0 (by omega) (by omega)
  simpa using this
theorem or_high (x : Int) (h0 : 0 ≤ x) (h1 : x ≤ 4294967295) : bits .or .u64 x (x * 4294967296) = x * 4294967296 + x := by
  obtain ⟨n, rfl⟩ := Int.eq_ofNat_of_zero_le h0
  have h := or_nat (4294967296 * n) n (by omega) (by omega)
  have e : 4294967296 * n ||| n = 4294967296 * n + n := (Nat.two_pow_add_eq_or_of_lt (i := 32) (b := n) (by omega) n).symm
  rw [e] at h
  rw [or_comm', show (n : Int) * 4294967296 = ((4294967296 * n : Nat) : Int) by omega, h]
  omega

theorem and_mask (n : Nat) (h : n < 18446744073709551616) : bits .and .u64 (n : Int) 4294967295 = ((n % 4294967296 : Nat) : Int) := by
  have h := bits_and_u64_nat n 4294967295 h (by omega)
  have e : n &&& 4294967295 = n % 4294967296 := Nat.and_two_pow_sub_one_eq_mod n 32
  rw [e] at h
  exact h
theorem or_join (c d : Nat) (hc : c < 4294967296) (hd : d < 4294967296) : bits .or .u64 ((c * 4294967296 : Nat) : Int) (d : Int) = ((c * 4294967296 + d : Nat) : Int) := by
  have e : 4294967296 * c ||| d = 4294967296 * c + d := (Nat.two_pow_add_eq_or_of_lt (i := 32) (b := d) (by omega) c).symm
  rw [or_nat _ _ (by omega) (by omega), Nat.mul_comm, e]

theorem and_maskI (a : Int) (h0 : 0 ≤ a) (h1 : a ≤ 18446744073709551615) : bits .and .u64 a 4294967295 = a % 4294967296 := by
  obtain ⟨n, rfl⟩ := Int.eq_ofNat_of_zero_le h0
  exact (and_mask n (by omega)).trans (by omega)
theorem or_joinI (k d : Int) (d0 : 0 ≤ d) (d1 : d < 4294967296) : bits .or .u64 (IntKind.u64.wrap (k * 4294967296)) d = k % 4294967296 * 4294967296 + d := by
  obtain ⟨n, rfl⟩ := Int.eq_ofNat_of_zero_le d0
  obtain ⟨m, hm⟩ : ∃ m : Nat, k % 4294967296 = m := ⟨(k % 4294967296).toNat, by omega⟩
  have e : IntKind.u64.wrap (k * 4294967296) = ((m * 4294967296 : Nat) : Int) := by rw [IntKind.wrap_u64]; omega
  rw [e, or_join m n (by omega) (by omega), hm]
  omega

end Go.Proofs.Ytdalkbapfjpkoaa
