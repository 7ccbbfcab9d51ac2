/-
  Turning left, as a sum of its two parts: plain facts.
-/
import Derived.Test.YtlhhpoldogoddaaFTurnM
import Derived.Test.YtlhhpoldogoddaaIWid
namespace Go.Proofs.Ytlhhpoldogoddaa
open Go.RowKit

/-- Turned left by n of k + n bits: the lower part comes to the front, the upper one behind it. -/
theorem turned64 (x n k : Nat) (hk : k + n = 64) (hx : x < 18446744073709551616) :
    bits .or .u64 (IntKind.u64.wrap ((x : Int) * 2 ^ n)) ((x : Int) / 2 ^ k) = ((x % 2 ^ k * 2 ^ n + x / 2 ^ k : Nat) : Int) := by
  have e64 : 2 ^ k * 2 ^ n = 18446744073709551616 := by rw [← Nat.pow_add, hk]
  have hd : x / 2 ^ k < 2 ^ n := Nat.div_lt_of_lt_mul (by rw [e64]; exact hx)
  have hm : x % 2 ^ k < 2 ^ k := Nat.mod_lt _ (Nat.two_pow_pos k)
  have hl : (x % 2 ^ k + 1) * 2 ^ n ≤ 2 ^ k * 2 ^ n := Nat.mul_le_mul_right _ hm
  rw [e64, Nat.add_mul, Nat.one_mul] at hl
  have e1 : IntKind.u64.wrap ((x : Int) * 2 ^ n) = ((x % 2 ^ k * 2 ^ n : Nat) : Int) := by
    rw [show ((x : Int) * 2 ^ n) = ((x * 2 ^ n : Nat) : Int) by simp, IntKind.wrap_u64]
    have := Nat.mul_mod_mul_right (2 ^ n) x (2 ^ k)
    rw [e64] at this
    omega
  rw [e1, show ((x : Int) / 2 ^ k) = ((x / 2 ^ k : Nat) : Int) by simp]
  exact or_apart n _ _ hd (by omega)
theorem turned32 (x n k : Nat) (hk : k + n = 32) (hx : x < 4294967296) :
    bits .or .u64 (IntKind.u64.wrap ((x : Int) * 2 ^ n)) ((x : Int) / 2 ^ k) % 4294967296 = ((x % 2 ^ k * 2 ^ n + x / 2 ^ k : Nat) : Int) := by
  have e32 : 2 ^ k * 2 ^ n = 4294967296 := by rw [← Nat.pow_add, hk]
  have hd : x / 2 ^ k < 2 ^ n := Nat.div_lt_of_lt_mul (by rw [e32]; exact hx)
  have hn : 2 ^ n ≤ 4294967296 := Nat.le_trans (Nat.pow_le_pow_right (by omega) (by omega : n ≤ 32)) (by decide)
  have hp := Nat.two_pow_pos n
  have hm : x % 2 ^ k < 2 ^ k := Nat.mod_lt _ (Nat.two_pow_pos k)
  have hl : (x % 2 ^ k + 1) * 2 ^ n ≤ 2 ^ k * 2 ^ n := Nat.mul_le_mul_right _ hm
  rw [e32, Nat.add_mul, Nat.one_mul] at hl
  have hs : (x + 1) * 2 ^ n ≤ 4294967296 * 4294967296 := Nat.mul_le_mul (by omega) hn
  rw [Nat.add_mul, Nat.one_mul] at hs
  have e1 : IntKind.u64.wrap ((x : Int) * 2 ^ n) = ((x * 2 ^ n : Nat) : Int) := by
    rw [show ((x : Int) * 2 ^ n) = ((x * 2 ^ n : Nat) : Int) by simp, IntKind.wrap_u64]
    omega
  have e2 := Nat.mul_mod_mul_right (2 ^ n) x (2 ^ k)
  rw [e32] at e2
  rw [e1, show ((x : Int) / 2 ^ k) = ((x / 2 ^ k : Nat) : Int) by simp, or_apart n _ _ hd (by omega)]
  generalize x * 2 ^ n = z at *
  generalize x % 2 ^ k * 2 ^ n = y at *
  generalize x / 2 ^ k = v at *
  generalize 2 ^ n = r at *
  omega

end Go.Proofs.Ytlhhpoldogoddaa
