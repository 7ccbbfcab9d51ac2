/-
  Plain facts on reading numbers in groups of seven bits out of a string: nothing of the program stands here.
-/
import Derived.Test.YtcgnefgdfgikdaaGreatU2
import Derived.PlainAid
import Derived.ScopeJumps
import Derived.WalkMore
import Derived.Test.YtcgnefgdfgikdaaGreatA1
import Derived.Deep.QuietTactic
import Derived.BigQuiet
namespace Go.Proofs.YtcgnefgdfgikdaaGreat
open Go.PlainAid

/-- The seven lowest bits of byte k. -/
def pt (s : ByteArray) (k : Nat) : Int := bt s k % 128
theorem pt_lo (s : ByteArray) (k : Nat) : 0 ≤ pt s k := by unfold pt; omega
theorem pt_hi (s : ByteArray) (k : Nat) : pt s k ≤ 127 := by unfold pt; omega
theorem pt_and (s : ByteArray) (k : Nat) : bits .and .u8 (bt s k) 127 = pt s k := u8_and127 _ (bt_nonneg s k) (by have := bt_le s k; omega)
theorem pt_last (s : ByteArray) (k : Nat) (h : bt s k < 128) : pt s k = bt s k := by have := bt_nonneg s k; unfold pt; omega
/-- What the first k bytes join to. -/
def acc (s : ByteArray) : Nat → Int
  | 0 => 0
  | k + 1 => bits .or .u64 (acc s k) (IntKind.u64.wrap (pt s k * 2 ^ (7 * k)))
theorem acc_one (s : ByteArray) : acc s 1 = bits .or .u64 0 (pt s 0) := by
  have h0 := pt_lo s 0
  have h1 := pt_hi s 0
  simp only [acc, Nat.mul_zero, Int.pow_zero, Int.mul_one]
  rw [u64_nonneg h0 (by omega)]
/-- The first byte below 128 from k on, within the next f bytes. -/
def scan (s : ByteArray) : Nat → Nat → Option Nat
  | 0, _ => none
  | f + 1, k => if k < s.size then (if bt s k < 128 then some k else scan s f (k + 1)) else none
theorem scan_zero (s : ByteArray) (k : Nat) : scan s 0 k = none := rfl
theorem scan_out (s : ByteArray) (f k : Nat) (h : s.size ≤ k) : scan s f k = none := by
  cases f with
  | zero => rfl
  | succ f => simp only [scan]; rw [if_neg (by omega)]
theorem scan_hit (s : ByteArray) (f k : Nat) (hf : 0 < f) (h : k < s.size) (hb : bt s k < 128) : scan s f k = some k := by
  cases f with
  | zero => omega
  | succ f => simp only [scan]; rw [if_pos h, if_pos hb]
theorem scan_on (s : ByteArray) (f k : Nat) (hf : 0 < f) (h : k < s.size) (hb : 128 ≤ bt s k) : scan s f k = scan s (f - 1) (k + 1) := by
  cases f with
  | zero => omega
  | succ f => simp only [scan]; rw [if_pos h, if_neg (by omega)]; rfl
theorem scan_is (s : ByteArray) (f : Nat) : ∀ k j, scan s f k = some j → k ≤ j ∧ j < k + f ∧ j < s.size ∧ bt s j < 128 := by
  induction f with
  | zero => intro k j h; simp [scan] at h
  | succ f ih =>
    intro k j h
    simp only [scan] at h
    by_cases h1 : k < s.size
    · rw [if_pos h1] at h
      by_cases h2 : bt s k < 128
      · rw [if_pos h2] at h; simp at h; subst h; exact ⟨by omega, by omega, h1, h2⟩
      · rw [if_neg h2] at h; have := ih _ _ h; omega
    · rw [if_neg h1] at h; simp at h
/-- How many bytes a number of b bits has at most. -/
def most (b : Nat) : Nat := (b + 6) / 7
/-- The groups up to the first byte below 128, and how many bytes these are. -/
def tg (s : ByteArray) (b : Nat) : Int × Nat := match scan s (most b) 0 with
  | none => (0, 0)
  | some j => (acc s (j + 1), j + 1)
/-- The number at the front, and how many bytes it has. -/
def tu (s : ByteArray) (b : Nat) : Int × Nat := match scan s (most b) 0 with
  | none => (0, 0)
  | some j => if pt s j / 2 ^ (b - 7 * j) = 0 then (acc s (j + 1), j + 1) else (0, 0)
theorem tu_none (s : ByteArray) (b : Nat) (h : scan s (most b) 0 = none) : tu s b = (0, 0) := by simp [tu, h]
theorem tu_good (s : ByteArray) (b j : Nat) (h : scan s (most b) 0 = some j) (hg : pt s j / 2 ^ (b - 7 * j) = 0) : tu s b = (acc s (j + 1), j + 1) := by simp [tu, h, hg]
theorem tu_bad (s : ByteArray) (b j : Nat) (h : scan s (most b) 0 = some j) (hg : ¬ pt s j / 2 ^ (b - 7 * j) = 0) : tu s b = (0, 0) := by simp [tu, h, hg]
theorem tg_none (s : ByteArray) (b : Nat) (h : scan s (most b) 0 = none) : tg s b = (0, 0) := by simp [tg, h]
theorem tg_some (s : ByteArray) (b j : Nat) (h : scan s (most b) 0 = some j) : tg s b = (acc s (j + 1), j + 1) := by simp [tg, h]
theorem wide_zero (p : Int) (n : Nat) (h0 : 0 ≤ p) (h1 : p ≤ 127) (hn : 7 ≤ n) : p / 2 ^ n = 0 := by
  obtain ⟨m, rfl⟩ : ∃ m, n = 7 + m := ⟨n - 7, by omega⟩
  have h2 : (0 : Int) < 2 ^ m := Int.pow_pos (by omega)
  have e : (2 : Int) ^ (7 + m) = 128 * 2 ^ m := by rw [Int.pow_add]; rfl
  rw [e]
  refine Int.ediv_eq_zero_of_lt h0 ?_
  have : (2 : Int) ^ m ≥ 1 := by omega
  omega
theorem pow_split (p : Int) (m n : Nat) (h0 : 0 ≤ p) (h1 : p < 2 ^ m) (hn : m ≤ n) : p / 2 ^ n = 0 := by
  obtain ⟨q, rfl⟩ : ∃ q, n = m + q := ⟨n - m, by omega⟩
  have h2 : (0 : Int) < 2 ^ q := Int.pow_pos (by omega)
  have h3 : (0 : Int) < 2 ^ m := Int.pow_pos (by omega)
  refine Int.ediv_eq_zero_of_lt h0 ?_
  rw [Int.pow_add]
  have : (2 : Int) ^ m * 1 ≤ 2 ^ m * 2 ^ q := Int.mul_le_mul_of_nonneg_left (by omega) (by omega)
  omega
theorem min8 (p : Int) (r : Nat) (h0 : 0 ≤ p) (h1 : p ≤ 255) : p / 2 ^ min r 8 = p / 2 ^ r := by
  by_cases h : r ≤ 8
  · rw [Nat.min_eq_left h]
  · rw [Nat.min_eq_right (by omega), pow_split p 8 8 h0 (by omega) (by omega), pow_split p 8 r h0 (by omega) (by omega)]
end Go.Proofs.YtcgnefgdfgikdaaGreat

namespace Go.Proofs.YtcgnefgdfgikdaaGreat
open Go.ChangeShapes Go.WideShapes Go.ChangeAt Go.RowKit Go.PlainAid

theorem ret_pair {k : IntKind} {a c : Int} {b d : Int} (h : a = c) (h2 : b = d) : Ending.returned (.tuple #[.int k a, .int .i64 b]) = .returned (.tuple #[.int k c, .int .i64 d]) := by rw [h, h2]

end Go.Proofs.YtcgnefgdfgikdaaGreat

namespace Go.Proofs.YtcgnefgdfgikdaaGreat
open Go.ChangeShapes Go.WideShapes Go.ChangeAt Go.RowKit Go.PlainAid

/-- What holds at each jump back. -/
def GInv (s : ByteArray) (b : Nat) (a : Act) : Prop := ∃ (k : Nat) (u4 u5 u9 u10 u11 u12 u13 u14 u15 u16 u17 u18 u19 u20 u21 u22 u23 u24 u25 u26 u27 u28 u29 u30 u31 u32 u33 u34 u35 u36 u37 u38 u39 u40 u41 u42 : Value), (1 ≤ k ∧ k ≤ most b ∧ k ≤ s.size ∧ scan s (most b - k) k = scan s (most b) 0) ∧ a = { tmps := #[.string s, .int .i64 b, undef, undef, u4, u5, .int .i64 (most b), .int .u64 (acc s k), .int .i64 k, u9, u10, u11, u12, u13, u14, u15, u16, u17, u18, u19, u20, u21, u22, u23, u24, u25, u26, u27, u28, u29, u30, u31, u32, u33, u34, u35, u36, u37, u38, u39, u40, u41, u42, undef, undef], defers := [] }
theorem ginv_mk (s : ByteArray) (b k : Nat) (n : Int) (i : Int) (u4 u5 u9 u10 u11 u12 u13 u14 u15 u16 u17 u18 u19 u20 u21 u22 u23 u24 u25 u26 u27 u28 u29 u30 u31 u32 u33 u34 u35 u36 u37 u38 u39 u40 u41 u42 : Value) (h : 1 ≤ k ∧ k ≤ most b ∧ k ≤ s.size ∧ scan s (most b - k) k = scan s (most b) 0) (hn : n = acc s k) (hi : i = k) :
    GInv s b { tmps := #[.string s, .int .i64 b, undef, undef, u4, u5, .int .i64 (most b), .int .u64 n, .int .i64 i, u9, u10, u11, u12, u13, u14, u15, u16, u17, u18, u19, u20, u21, u22, u23, u24, u25, u26, u27, u28, u29, u30, u31, u32, u33, u34, u35, u36, u37, u38, u39, u40, u41, u42, undef, undef], defers := [] } := by
  subst hn hi
  exact ⟨k, u4, u5, u9, u10, u11, u12, u13, u14, u15, u16, u17, u18, u19, u20, u21, u22, u23, u24, u25, u26, u27, u28, u29, u30, u31, u32, u33, u34, u35, u36, u37, u38, u39, u40, u41, u42, h, rfl⟩

end Go.Proofs.YtcgnefgdfgikdaaGreat

namespace Go.Proofs.YtcgnefgdfgikdaaGreat
open Go.ChangeShapes Go.WideShapes Go.ChangeAt Go.RowKit Go.PlainAid

end Go.Proofs.YtcgnefgdfgikdaaGreat
