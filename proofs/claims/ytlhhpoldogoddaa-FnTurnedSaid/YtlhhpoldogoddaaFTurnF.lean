/-
  What the operations of the law on turning answer, held against each other: plain facts.
-/
import Derived.Test.YtlhhpoldogoddaaFTurnR
import Derived.Test.YtlhhpoldogoddaaIBoth2
namespace Go.Proofs.Ytlhhpoldogoddaa
open Go.RowKit

theorem cut_zero (b : Int) : cutW b 0 = 0 := by unfold cutW; split <;> rfl
theorem cut_cut (b x : Int) : cutW b (cutW b x) = cutW b x := by
  unfold cutW
  split
  · omega
  · rfl
/-- A number below 2^k, k being b, is its own lowest bits. -/
theorem cut_own (b : Int) (x : Nat) (hb : b = 32 ∨ b = 64) (h : x < 2 ^ b.toNat) : cutW b (x : Int) = x := by
  rcases hb with rfl | rfl
  · have h' : x < 4294967296 := h
    show (x : Int) % 4294967296 = x
    omega
  · rfl
theorem cut_nat' (b a : Int) (hb : b = 32 ∨ b = 64) (a0 : 0 ≤ a) (a1 : a ≤ 18446744073709551615) : ∃ x : Nat, cutW b a = x ∧ x < 2 ^ b.toNat ∧ x < 18446744073709551616 := by
  have h := cutW_le b a a0
  refine ⟨(cutW b a).toNat, by omega, ?_, by omega⟩
  rcases hb with rfl | rfl
  · have e : cutW 32 a = a % 4294967296 := rfl
    rw [e]
    show _ < 2 ^ 32
    omega
  · show _ < 2 ^ 64
    omega
theorem turned (b : Int) (x n k : Nat) (hb : b = 32 ∨ b = 64) (hk : k + n = b.toNat) (hx : x < 2 ^ b.toNat) :
    cutW b (bits .or .u64 (IntKind.u64.wrap ((x : Int) * 2 ^ n)) ((x : Int) / 2 ^ k)) = ((x % 2 ^ k * 2 ^ n + x / 2 ^ k : Nat) : Int) := by
  rcases hb with rfl | rfl
  · exact turned32 x n k hk hx
  · exact turned64 x n k hk hx
theorem turned_lt (B x n k : Nat) (hk : k + n = B) (hx : x < 2 ^ B) : x % 2 ^ k * 2 ^ n + x / 2 ^ k < 2 ^ B := by
  have e : 2 ^ k * 2 ^ n = 2 ^ B := by rw [← Nat.pow_add, hk]
  have hd : x / 2 ^ k < 2 ^ n := Nat.div_lt_of_lt_mul (by rw [e]; exact hx)
  have hm : x % 2 ^ k < 2 ^ k := Nat.mod_lt _ (Nat.two_pow_pos k)
  have hl : (x % 2 ^ k + 1) * 2 ^ n ≤ 2 ^ k * 2 ^ n := Nat.mul_le_mul_right _ hm
  rw [e, Nat.add_mul, Nat.one_mul] at hl
  omega
/-- Left, and right again. -/
theorem there_back (b : Int) (x n k : Nat) (hb : b = 32 ∨ b = 64) (hk : k + n = b.toNat) (hx : x < 2 ^ b.toNat) (l : Nat) (hl : l = x % 2 ^ k * 2 ^ n + x / 2 ^ k) :
    cutW b (bits .or .u64 ((l : Int) / 2 ^ n) (IntKind.u64.wrap ((l : Int) * 2 ^ k))) = x := by
  have h := turned_lt b.toNat x n k hk hx
  rw [← hl] at h
  rw [or_comm', turned b l k n hb (by omega) h]
  have e : 2 ^ n * 2 ^ k = 2 ^ b.toNat := by rw [← Nat.pow_add, show n + k = b.toNat by omega]
  have t := turn_back (2 ^ n) (2 ^ k) x (Nat.two_pow_pos k) (by rw [e]; exact hx)
  rw [← hl] at t
  congr 1
  omega
theorem xor_back (b : Int) (x y : Nat) (hb : b = 32 ∨ b = 64) (hx : x < 2 ^ b.toNat) (hy : y < 2 ^ b.toNat) (hx' : x < 18446744073709551616) (hy' : y < 18446744073709551616) :
    cutW b (bits .xor .u64 (x : Int) y) = ((x ^^^ y : Nat) : Int) ∧ cutW b (bits .xor .u64 ((x ^^^ y : Nat) : Int) y) = x := by
  have hz : x ^^^ y < 2 ^ b.toNat := Nat.xor_lt_two_pow hx hy
  have hz' : x ^^^ y < 18446744073709551616 := Nat.xor_lt_two_pow (n := 64) hx' hy'
  rw [xor_nat x y hx' hy', xor_nat _ y hz' hy', xor_twice]
  exact ⟨cut_own b _ hb hz, cut_own b x hb hx⟩
theorem and_or_sum (b : Int) (x y : Nat) (hb : b = 32 ∨ b = 64) (hx : x < 2 ^ b.toNat) (hy : y < 2 ^ b.toNat) (hx' : x < 18446744073709551616) (hy' : y < 18446744073709551616) :
    cutW b (bits .and .u64 (x : Int) y) = ((x &&& y : Nat) : Int) ∧ cutW b (bits .or .u64 (x : Int) y) = ((x ||| y : Nat) : Int) ∧
    IntKind.u64.wrap (((x &&& y : Nat) : Int) + ((x ||| y : Nat) : Int)) = IntKind.u64.wrap ((x : Int) + y) := by
  have e := and_add_or 64 x y hx' hy'
  have h1 : x &&& y < 2 ^ b.toNat := Nat.and_lt_two_pow _ hy
  have h2 : x ||| y < 2 ^ b.toNat := Nat.or_lt_two_pow hx hy
  rw [bits_and_u64_nat x y hx' hy', or_nat x y hx' hy']
  refine ⟨cut_own b _ hb h1, cut_own b _ hb h2, ?_⟩
  rw [show (((x &&& y : Nat) : Int) + ((x ||| y : Nat) : Int)) = (x : Int) + y by omega]

end Go.Proofs.Ytlhhpoldogoddaa
