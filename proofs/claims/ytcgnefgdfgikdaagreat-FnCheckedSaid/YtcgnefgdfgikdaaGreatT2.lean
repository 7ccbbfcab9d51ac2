/-
  Plain facts on reading signed numbers in groups of seven bits out of a string: nothing of the program stands here.
-/
import Derived.Test.YtcgnefgdfgikdaaGreatT1
import Derived.Laws.Closers25b
namespace Go.Proofs.YtcgnefgdfgikdaaGreat
open Go.PlainAid Go.RowKit

/-- All bits from the first k groups on. -/
def ones (k : Nat) : Int := IntKind.u64.wrap (18446744073709551615 * 2 ^ (7 * k))
/-- The groups up to byte j, with the sign carried on. -/
def sx (s : ByteArray) (j : Nat) : Int := if 64 ≤ pt s j ∧ j < 9 then bits .or .u64 (acc s (j + 1)) (ones (j + 1)) else acc s (j + 1)
/-- From the sign on all bits are alike. -/
def okS (s : ByteArray) (b j : Nat) : Prop := pt s j / 2 ^ (b - 7 * j - 1) = 0 ∨ pt s j / 2 ^ (b - 7 * j - 1) = 127 / 2 ^ (b - 7 * j - 1)
def okSB (s : ByteArray) (b j : Nat) : Bool := pt s j / 2 ^ (b - 7 * j - 1) == 0 || pt s j / 2 ^ (b - 7 * j - 1) == 127 / 2 ^ (b - 7 * j - 1)
theorem okSB_iff (s : ByteArray) (b j : Nat) : okSB s b j = true ↔ okS s b j := by simp [okSB, okS]
/-- The signed number at the front, and how many bytes it has. -/
def ts (s : ByteArray) (b : Nat) : Int × Nat := match scan s (most b) 0 with
  | none => (0, 0)
  | some j => if okSB s b j then (wrap64 (sx s j), j + 1) else (0, 0)
theorem ts_none (s : ByteArray) (b : Nat) (h : scan s (most b) 0 = none) : ts s b = (0, 0) := by simp [ts, h]
theorem ts_good (s : ByteArray) (b j : Nat) (h : scan s (most b) 0 = some j) (hg : okS s b j) : ts s b = (wrap64 (sx s j), j + 1) := by simp [ts, h, (okSB_iff s b j).2 hg]
theorem ts_bad (s : ByteArray) (b j : Nat) (h : scan s (most b) 0 = some j) (hg : ¬ okS s b j) : ts s b = (0, 0) := by
  have e : okSB s b j = false := by rw [← Bool.not_eq_true, okSB_iff]; exact hg
  simp [ts, h, e]
theorem sx_lo (s : ByteArray) (j : Nat) (h : pt s j < 64) : sx s j = acc s (j + 1) := by unfold sx; rw [if_neg (by omega)]
theorem sx_hi (s : ByteArray) (j : Nat) (h : 64 ≤ pt s j) (h9 : j < 9) : sx s j = bits .or .u64 (acc s (j + 1)) (ones (j + 1)) := by unfold sx; rw [if_pos ⟨h, h9⟩]
theorem sx_nine (s : ByteArray) (j : Nat) (h9 : ¬ j < 9) : sx s j = acc s (j + 1) := by unfold sx; rw [if_neg (by omega)]
theorem u64_and64_lo (p : Int) (h0 : 0 ≤ p) (h1 : p < 64) : bits .and .u64 p 64 = 0 := by
  have e := u64_and p 64 h0 (by omega) (by omega) (by omega)
  rw [e]
  have := nat_and64 p.toNat (by omega)
  have e2 : (64 : Int).toNat = 64 := rfl
  rw [e2, this]; omega
theorem u64_and64_hi (p : Int) (h0 : 64 ≤ p) (h1 : p ≤ 127) : bits .and .u64 p 64 = 64 := by
  have e := u64_and p 64 (by omega) (by omega) (by omega) (by omega)
  rw [e]
  have := nat_and64 p.toNat (by omega)
  have e2 : (64 : Int).toNat = 64 := rfl
  rw [e2, this]; omega
theorem or_nought (x : Int) (h0 : 0 ≤ x) (h1 : x ≤ 18446744073709551615) : bits .or .u64 x 0 = x := by
  have e := u64_or x 0 h0 (by omega) (by omega) (by omega)
  rw [e]
  have e2 : (0 : Int).toNat = 0 := rfl
  rw [e2, Nat.or_zero]; omega
theorem acc_in (s : ByteArray) (k : Nat) : 0 ≤ acc s k ∧ acc s k ≤ 18446744073709551615 := by
  cases k with
  | zero => simp [acc]
  | succ k => exact bits_within .or .u64 _ _
theorem wrap_past : IntKind.u64.wrap 340282366920938463444927863358058659840 = 0 := by rw [IntKind.wrap_u64]; decide +kernel
theorem or_past (s : ByteArray) (k : Nat) : bits .or .u64 (acc s k) (IntKind.u64.wrap 340282366920938463444927863358058659840) = acc s k := by
  rw [wrap_past]; exact or_nought _ (acc_in s k).1 (acc_in s k).2
theorem q_cases (q : Nat) (h : q < 6) : (2 : Int) ^ q = 1 ∨ (2 : Int) ^ q = 2 ∨ (2 : Int) ^ q = 4 ∨ (2 : Int) ^ q = 8 ∨ (2 : Int) ^ q = 16 ∨ (2 : Int) ^ q = 32 := by
  rcases (show q = 0 ∨ q = 1 ∨ q = 2 ∨ q = 3 ∨ q = 4 ∨ q = 5 by omega) with rfl | rfl | rfl | rfl | rfl | rfl <;> simp
/-- Nought ahead of the sign: the sign is clear. -/
theorem zero_lo (p : Int) (q : Nat) (hq : q < 6) (h : p / 2 ^ q = 0) : p < 64 := by
  rcases q_cases q hq with e | e | e | e | e | e <;> rw [e] at h <;> omega
theorem ones_hi (p : Int) (q : Nat) (hq : q < 6) (h : p / 2 ^ q = 127 / 2 ^ q) : 64 ≤ p := by
  rcases q_cases q hq with e | e | e | e | e | e <;> rw [e] at h <;> omega
theorem lo_min (p : Int) (q : Nat) (h0 : 0 ≤ p) (h1 : p < 64) : p / 2 ^ min q 8 = p / 2 ^ q := min8 p q h0 (by omega)
/-- All ones from the sign on: the group is -1 there. -/
theorem neg_ones (p : Int) (q : Nat) (hq : q < 6) (_h0 : 64 ≤ p) (_h1 : p ≤ 127) : (p - 128) / 2 ^ q = -1 ↔ p / 2 ^ q = 127 / 2 ^ q := by
  rcases q_cases q hq with e | e | e | e | e | e <;> rw [e] <;> omega
theorem neg_not_zero (p : Int) (q : Nat) (hq : q < 6) (h0 : 64 ≤ p) (h1 : p ≤ 127) : ¬ (p - 128) / 2 ^ q = 0 := by
  rcases q_cases q hq with e | e | e | e | e | e <;> rw [e] <;> omega
theorem lo_not_ones (p : Int) (q : Nat) (hq : q < 6) (h0 : 0 ≤ p) (h1 : p < 64) : ¬ p / 2 ^ q = 127 / 2 ^ q ∧ ¬ p / 2 ^ q = -1 := by
  rcases q_cases q hq with e | e | e | e | e | e <;> rw [e] <;> omega
theorem hi_not_zero (p : Int) (q : Nat) (hq : q < 6) (h0 : 64 ≤ p) : ¬ p / 2 ^ q = 0 := by
  rcases q_cases q hq with e | e | e | e | e | e <;> rw [e] <;> omega
theorem neg_wide (p : Int) (q : Nat) (hq : 6 ≤ q) (h0 : 64 ≤ p) (h1 : p ≤ 127) : (p - 128) / 2 ^ min q 8 = -1 := by
  rcases (show min q 8 = 6 ∨ min q 8 = 7 ∨ min q 8 = 8 by omega) with e | e | e <;> rw [e] <;> simp <;> omega
theorem okS_wide (s : ByteArray) (b j : Nat) (h : 6 ≤ b - 7 * j - 1) : okS s b j := by
  have h0 := pt_lo s j
  have h1 := pt_hi s j
  unfold okS
  generalize b - 7 * j - 1 = q at h
  by_cases hq : q = 6
  · subst hq; simp; omega
  · left; exact pow_split _ 7 q h0 (by omega) (by omega)
theorem i8_past (p : Int) (h0 : 64 ≤ p) (h1 : p < 128) : IntKind.i8.wrap (p * 2) = p * 2 - 256 := by
  simp [IntKind.wrap, IntKind.bits, IntKind.signed]; omega
theorem lo_pos (p : Int) (q : Nat) (hq : q < 6) (h0 : 0 ≤ p) (h : ¬ p / 2 ^ q = 0) : 0 < p / 2 ^ q := by
  rcases q_cases q hq with e | e | e | e | e | e <;> rw [e] at h ⊢ <;> omega
theorem neg_lt (p : Int) (q : Nat) (hq : q < 6) (h1 : p ≤ 127) : (p - 128) / 2 ^ q < 0 := by
  rcases q_cases q hq with e | e | e | e | e | e <;> rw [e] <;> omega
end Go.Proofs.YtcgnefgdfgikdaaGreat

namespace Go.Proofs.YtcgnefgdfgikdaaGreat
open Go.ChangeShapes Go.WideShapes Go.ChangeAt Go.RowKit Go.PlainAid

end Go.Proofs.YtcgnefgdfgikdaaGreat
