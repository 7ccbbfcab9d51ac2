/-
  Plain facts on turning, and on bits of two numbers: nothing of the program stands here.
-/
import Derived.Test.YtlhhpoldogoddaaIOrs
namespace Go.Proofs.Ytlhhpoldogoddaa
open Go.RowKit

theorem bit_sum : ∀ a b : Fin 2, (a.val &&& b.val) + (a.val ||| b.val) = a.val + b.val := by decide
/-- What both have and what one has are together both. -/
theorem and_add_or : ∀ (f x y : Nat), x < 2 ^ f → y < 2 ^ f → (x &&& y) + (x ||| y) = x + y
  | 0, x, y, hx, hy => by
    obtain rfl : x = 0 := by simpa using hx
    obtain rfl : y = 0 := by simpa using hy
    rfl
  | f + 1, x, y, hx, hy => by
    have ih := and_add_or f (x / 2) (y / 2) (by rw [Nat.pow_succ] at hx; omega) (by rw [Nat.pow_succ] at hy; omega)
    have a1 := Nat.and_div_two_pow (a := x) (b := y) (n := 1)
    have a2 := Nat.and_mod_two_pow (a := x) (b := y) (n := 1)
    have o1 := Nat.or_div_two_pow (a := x) (b := y) (n := 1)
    have o2 := Nat.or_mod_two_pow (a := x) (b := y) (n := 1)
    rw [Nat.pow_one] at a1 a2 o1 o2
    have s := bit_sum ⟨x % 2, by omega⟩ ⟨y % 2, by omega⟩
    simp only at s
    omega
theorem xor_nat (x y : Nat) (hx : x < 18446744073709551616) (hy : y < 18446744073709551616) : bits .xor .u64 (x : Int) (y : Int) = ((x ^^^ y : Nat) : Int) := by
  have hz : x ^^^ y < 2 ^ 64 := Nat.xor_lt_two_pow (by omega) (by omega)
  show IntKind.u64.wrap ((BitVec.ofInt 64 (x : Int) ^^^ BitVec.ofInt 64 (y : Int)).toNat : Int) = _
  rw [BitVec.toNat_xor, u64_toNat x hx, u64_toNat y hy, IntKind.wrap_u64]
  omega
theorem xor_twice (x y : Nat) : (x ^^^ y) ^^^ y = x := by rw [Nat.xor_assoc, Nat.xor_self, Nat.xor_zero]
/-- What is turned left is turned right again: its upper part and its lower one change places twice. -/
theorem turn_back (p q x : Nat) (_hq : 0 < q) (hx : x < p * q) : ((x % q) * p + x / q) / p + ((x % q) * p + x / q) % p * q = x := by
  have h : x / q < p := Nat.div_lt_of_lt_mul (by rwa [Nat.mul_comm] at hx)
  have e1 : ((x % q) * p + x / q) / p = x % q := by
    rw [Nat.mul_comm, Nat.mul_add_div (Nat.lt_of_le_of_lt (Nat.zero_le _) h), Nat.div_eq_of_lt h]; rfl
  have e2 : ((x % q) * p + x / q) % p = x / q := by
    rw [Nat.mul_comm, Nat.mul_add_mod, Nat.mod_eq_of_lt h]
  rw [e1, e2, Nat.mul_comm (x / q) q, Nat.add_comm]
  exact Nat.div_add_mod x q
/-- Bits that stand apart are added. -/
theorem or_apart (n c d : Nat) (hd : d < 2 ^ n) (hc : c * 2 ^ n + d < 18446744073709551616) : bits .or .u64 ((c * 2 ^ n : Nat) : Int) (d : Int) = ((c * 2 ^ n + d : Nat) : Int) := by
  rw [or_nat _ _ (by omega) (by omega), Nat.mul_comm, ← Nat.two_pow_add_eq_or_of_lt hd]

end Go.Proofs.Ytlhhpoldogoddaa
