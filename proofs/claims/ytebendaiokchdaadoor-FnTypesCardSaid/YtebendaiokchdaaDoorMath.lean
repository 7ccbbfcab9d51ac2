/-
  Plain facts on numbers in groups of seven bits: nothing of the program stands here.
-/
import Derived.Below
import Derived.Laws.BitsAllLaws
namespace Go.Proofs.YtebendaiokchdaaDoor

/-- The lowest seven bits, and 128: there are more. -/
def hiB (m : Nat) : UInt8 := UInt8.ofNat (m % 128 + 128)
def loB (m : Nat) : UInt8 := UInt8.ofNat m
/-- The bytes of n, at most f of them: the lowest seven bits first, 128 more where there are more. -/
def ul : Nat → Nat → List UInt8
  | 0, _ => []
  | f + 1, n => if n < 128 then [loB n] else hiB n :: ul f (n / 128)

theorem hiB_nat (m : Nat) : (hiB m).toNat = m % 128 + 128 := by
  unfold hiB; simp only [UInt8.toNat_ofNat']; omega
theorem loB_nat (m : Nat) (h : m < 128) : (loB m).toNat = m := by
  unfold loB; simp only [UInt8.toNat_ofNat']; omega
theorem or128 : ∀ x, x < 256 → x ||| 128 = x % 128 + 128 := by decide +kernel
theorem hiB_u64 (m : Nat) (h : m < 18446744073709551616) : bits .or .u64 (bits .and .u64 (m : Int) 127) 128 % 256 = ((hiB m).toNat : Int) := by
  have e1 : bits .and .u64 (m : Int) 127 = ((m % 128 : Nat) : Int) := by
    have := u64_and_nat m 127 h (by omega)
    rw [nat_mask7] at this
    exact this
  rw [e1, hiB_nat]
  have e2 := u64_or_nat (m % 128) 128 (by omega) (by omega)
  rw [or128 (m % 128) (by omega)] at e2
  have e3 : bits .or .u64 ((m % 128 : Nat) : Int) 128 = ((m % 128 % 128 + 128 : Nat) : Int) := e2
  rw [e3]
  omega
theorem hiB_u8 (m : Nat) : bits .or .u8 ((m : Int) % 256) 128 = ((hiB m).toNat : Int) := by
  rw [hiB_nat]
  have e2 := u8_or_nat (m % 256) 128 (by omega) (by omega)
  rw [or128 (m % 256) (by omega)] at e2
  have e3 : bits .or .u8 ((m % 256 : Nat) : Int) 128 = ((m % 256 % 128 + 128 : Nat) : Int) := e2
  have e4 : ((m : Int) % 256) = ((m % 256 : Nat) : Int) := by omega
  rw [e4, e3]
  omega
theorem ul_end (f m : Nat) (h : m < 128) : ul (f + 1) m = [loB m] := by simp [ul, h]
theorem ul_more (f m : Nat) (h : 128 ≤ m) : ul (f + 1) m = hiB m :: ul f (m / 128) := by
  simp only [ul]; rw [if_neg (by omega)]
theorem pow_down (f m : Nat) (h : m < 128 ^ (f + 1)) : m / 128 < 128 ^ f := by
  rw [Nat.pow_succ] at h
  exact Nat.div_lt_of_lt_mul (by rw [Nat.mul_comm]; exact h)
theorem pow_two_up (f m : Nat) (h : m < 128 ^ (f + 1)) (h2 : 128 ≤ m) : 1 ≤ f := by
  cases f with
  | zero => simp at h; omega
  | succ f => omega
theorem ul_len (f m : Nat) : (ul f m).length ≤ f := by
  induction f generalizing m with
  | zero => simp [ul]
  | succ f ih =>
    by_cases h : m < 128
    · rw [ul_end f m h]; simp
    · rw [ul_more f m (by omega)]; have := ih (m / 128); simp; omega

end Go.Proofs.YtebendaiokchdaaDoor
