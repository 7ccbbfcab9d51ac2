/-
  Plain facts on signed numbers in groups of seven bits: nothing of the program stands here.
-/
import Derived.Test.YtebendaiokchdaaDoorMath
import Derived.Laws.Bits128
namespace Go.Proofs.YtebendaiokchdaaDoor

/-- The lowest seven bits of a signed number; with 128: there are more. -/
def slo (n : Int) : UInt8 := UInt8.ofNat (n % 128).toNat
def shi (n : Int) : UInt8 := UInt8.ofNat ((n % 128).toNat + 128)
/-- The bytes of a signed number, at most f of them. -/
def sl : Nat → Int → List UInt8
  | 0, _ => []
  | f + 1, n => if -64 ≤ n ∧ n ≤ 63 then [slo n] else shi n :: sl f (n / 128)

theorem slo_int (n : Int) : ((slo n).toNat : Int) = n % 128 := by
  unfold slo; simp only [UInt8.toNat_ofNat']; omega
theorem shi_int (n : Int) : ((shi n).toNat : Int) = n % 128 + 128 := by
  unfold shi; simp only [UInt8.toNat_ofNat']; omega
theorem nat_and64 : ∀ x, x < 256 → x &&& 64 = x / 64 % 2 * 64 := by decide +kernel
theorem nat_and127 : ∀ x, x < 256 → x &&& 127 = x % 128 := by decide +kernel
theorem u8_and64_lo (p : Int) (h0 : 0 ≤ p) (h1 : p < 64) : bits .and .u8 p 64 = 0 := by
  have e := u8_and p 64 h0 (by omega) (by omega) (by omega)
  rw [e]
  have := nat_and64 p.toNat (by omega)
  have e2 : (64 : Int).toNat = 64 := rfl
  rw [e2, this]; omega
theorem u8_and64_hi (p : Int) (h0 : 64 ≤ p) (h1 : p < 128) : bits .and .u8 p 64 = 64 := by
  have e := u8_and p 64 (by omega) (by omega) (by omega) (by omega)
  rw [e]
  have := nat_and64 p.toNat (by omega)
  have e2 : (64 : Int).toNat = 64 := rfl
  rw [e2, this]; omega
theorem u8_and127 (p : Int) (h0 : 0 ≤ p) (h1 : p < 256) : bits .and .u8 p 127 = p % 128 := by
  have e := u8_and p 127 h0 (by omega) (by omega) (by omega)
  rw [e]
  have := nat_and127 p.toNat (by omega)
  have e2 : (127 : Int).toNat = 127 := rfl
  rw [e2, this]; omega
theorem u8_or128 (p : Int) (h0 : 0 ≤ p) (h1 : p < 256) : bits .or .u8 p 128 = p % 128 + 128 := by
  have e := u8_or p 128 h0 (by omega) (by omega) (by omega)
  rw [e]
  have := or128 p.toNat (by omega)
  have e2 : (128 : Int).toNat = 128 := rfl
  rw [e2, this]; omega
theorem shi_u8 (n : Int) : bits .or .u8 (n % 256) 128 = ((shi n).toNat : Int) := by
  rw [shi_int, u8_or128 _ (by omega) (by omega)]; omega
theorem slo_u8 (n : Int) : bits .and .u8 (n % 256) 127 = ((slo n).toNat : Int) := by
  rw [slo_int, u8_and127 _ (by omega) (by omega)]; omega
theorem sl_end (f : Nat) (n : Int) (h : -64 ≤ n ∧ n ≤ 63) : sl (f + 1) n = [slo n] := by simp [sl, h]
theorem sl_more (f : Nat) (n : Int) (h : ¬ (-64 ≤ n ∧ n ≤ 63)) : sl (f + 1) n = shi n :: sl f (n / 128) := by
  simp only [sl]; rw [if_neg h]
/-- n has at most f + 1 groups. -/
def sfit (f : Nat) (n : Int) : Prop := -(64 * (128 : Int) ^ f) ≤ n ∧ n < 64 * (128 : Int) ^ f
theorem sfit_down (f : Nat) (n : Int) (h : sfit (f + 1) n) : sfit f (n / 128) := by
  unfold sfit at *
  rw [Int.pow_succ] at h
  generalize (128 : Int) ^ f = x at *
  omega
theorem sfit_two (f : Nat) (n : Int) (h : sfit f n) (h2 : ¬ (-64 ≤ n ∧ n ≤ 63)) : 1 ≤ f := by
  cases f with
  | zero => simp [sfit] at h; omega
  | succ f => omega
theorem sfit_i64 (n : Int) (h0 : -9223372036854775808 ≤ n) (h1 : n ≤ 9223372036854775807) : sfit 9 n := by
  unfold sfit
  have e : (128 : Int) ^ 9 = 9223372036854775808 := by decide +kernel
  rw [e]; omega
theorem sl_len (f : Nat) (m : Int) : (sl f m).length ≤ f := by
  induction f generalizing m with
  | zero => simp [sl]
  | succ f ih =>
    by_cases h : -64 ≤ m ∧ m ≤ 63
    · rw [sl_end f m h]; simp
    · rw [sl_more f m h]; have := ih (m / 128); simp; omega
end Go.Proofs.YtebendaiokchdaaDoor
