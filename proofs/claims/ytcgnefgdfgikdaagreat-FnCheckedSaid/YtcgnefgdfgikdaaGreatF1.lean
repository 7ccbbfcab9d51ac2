/-
  Bits of words of 32: plain facts.
-/
import Derived.WalkKit
import Derived.Below
import Derived.Laws.Bits64b
import Derived.Lib.BitFns
import Derived.Test.YtcgnefgdfgikdaaGreatRows
import Derived.Test.YtcgnefgdfgikdaaGreatU4
import Derived.Outline
import Derived.Deep.QuietTactic
namespace Go.Proofs.YtcgnefgdfgikdaaGreat
open Go.RowKit

theorem w32_toNat (n : Nat) (h : n < 4294967296) : (BitVec.ofInt 32 (n : Int)).toNat = n := by
  rw [BitVec.ofInt_natCast, BitVec.toNat_ofNat]
  exact Nat.mod_eq_of_lt (by omega)
theorem wr_u32 (n : Int) : IntKind.u32.wrap n = n % 4294967296 := by simp [IntKind.wrap, IntKind.bits, IntKind.signed]
theorem and32_nat (x y : Nat) (hx : x < 4294967296) (hy : y < 4294967296) : bits .and .u32 (x : Int) (y : Int) = ((x &&& y : Nat) : Int) := by
  have hz : x &&& y < 2 ^ 32 := Nat.and_lt_two_pow _ (by omega)
  show IntKind.u32.wrap ((BitVec.ofInt 32 (x : Int) &&& BitVec.ofInt 32 (y : Int)).toNat : Int) = _
  rw [BitVec.toNat_and, w32_toNat x hx, w32_toNat y hy, wr_u32]
  omega
theorem or32_nat (x y : Nat) (hx : x < 4294967296) (hy : y < 4294967296) : bits .or .u32 (x : Int) (y : Int) = ((x ||| y : Nat) : Int) := by
  have hz : x ||| y < 2 ^ 32 := Nat.or_lt_two_pow (by omega) (by omega)
  show IntKind.u32.wrap ((BitVec.ofInt 32 (x : Int) ||| BitVec.ofInt 32 (y : Int)).toNat : Int) = _
  rw [BitVec.toNat_or, w32_toNat x hx, w32_toNat y hy, wr_u32]
  omega
/-- A mask of the lowest bits. -/
theorem low32 (k : Nat) (hk : k ≤ 32) (a : Int) (h0 : 0 ≤ a) (h1 : a ≤ 4294967295) : bits .and .u32 a ((2 : Int) ^ k - 1) = a % (2 : Int) ^ k := by
  obtain ⟨n, rfl⟩ := Int.eq_ofNat_of_zero_le h0
  have hp : (2 : Nat) ^ k ≤ 2 ^ 32 := Nat.pow_le_pow_right (by omega) hk
  have hq := Nat.two_pow_pos k
  have e : ((2 : Int) ^ k - 1) = ((2 ^ k - 1 : Nat) : Int) := by
    have : ((2 ^ k : Nat) : Int) = (2 : Int) ^ k := by simp
    omega
  rw [e, and32_nat n (2 ^ k - 1) (by omega) (by omega), Nat.and_two_pow_sub_one_eq_mod]
  simp
/-- Two numbers one above the other. -/
theorem orJoin (k : Nat) (x y : Int) (x0 : 0 ≤ x) (y0 : 0 ≤ y) (hy : y < (2 : Int) ^ k) (hs : x * (2 : Int) ^ k + y ≤ 4294967295) : bits .or .u32 (x * (2 : Int) ^ k) y = x * (2 : Int) ^ k + y := by
  obtain ⟨n, rfl⟩ := Int.eq_ofNat_of_zero_le x0
  obtain ⟨m, rfl⟩ := Int.eq_ofNat_of_zero_le y0
  have e : (n : Int) * (2 : Int) ^ k = ((2 ^ k * n : Nat) : Int) := by simp [Int.mul_comm]
  have hm : m < 2 ^ k := by
    have : ((2 ^ k : Nat) : Int) = (2 : Int) ^ k := by simp
    omega
  rw [e] at hs ⊢
  rw [or32_nat _ _ (by omega) (by omega), ← Nat.two_pow_add_eq_or_of_lt hm n]
  omega
theorem or32_comm (x y : Int) : bits .or .u32 x y = bits .or .u32 y x := by
  show IntKind.u32.wrap ((BitVec.ofInt 32 x ||| BitVec.ofInt 32 y).toNat : Int) = IntKind.u32.wrap ((BitVec.ofInt 32 y ||| BitVec.ofInt 32 x).toNat : Int)
  rw [BitVec.or_comm]
theorem or32_zero (x : Int) (h0 : 0 ≤ x) (h1 : x ≤ 4294967295) : bits .or .u32 x 0 = x := by
  obtain ⟨n, rfl⟩ := Int.eq_ofNat_of_zero_le h0
  have := or32_nat n 0 (by omega) (by omega)
  simpa using this
theorem zero_or32 (x : Int) (h0 : 0 ≤ x) (h1 : x ≤ 4294967295) : bits .or .u32 0 x = x := by rw [or32_comm, or32_zero x h0 h1]
/-- A mask of the lowest bits, of words of 64. -/
theorem low64 (k : Nat) (hk : k ≤ 64) (a : Int) (h0 : 0 ≤ a) (h1 : a ≤ 18446744073709551615) : bits .and .u64 a ((2 : Int) ^ k - 1) = a % (2 : Int) ^ k := by
  obtain ⟨n, rfl⟩ := Int.eq_ofNat_of_zero_le h0
  have hp : (2 : Nat) ^ k ≤ 2 ^ 64 := Nat.pow_le_pow_right (by omega) hk
  have hq := Nat.two_pow_pos k
  have e : ((2 : Int) ^ k - 1) = ((2 ^ k - 1 : Nat) : Int) := by
    have : ((2 ^ k : Nat) : Int) = (2 : Int) ^ k := by simp
    omega
  rw [e, bits_and_u64_nat n (2 ^ k - 1) (by omega) (by omega), Nat.and_two_pow_sub_one_eq_mod]
  simp

end Go.Proofs.YtcgnefgdfgikdaaGreat

namespace Go.Proofs.YtcgnefgdfgikdaaGreat
open Go.RowKit

theorem bl_two : ∀ (f x : Nat), x < 2 ^ f → x ≠ 0 → 1 ≤ Lib.bitLenAux f x ∧ Lib.bitLenAux f x ≤ f ∧ 2 ^ (Lib.bitLenAux f x - 1) ≤ x ∧ x < 2 ^ Lib.bitLenAux f x
  | 0, x, h, h0 => by simp at h; omega
  | f + 1, x, h, h0 => by
    rw [Lib.bitLenAux, if_neg h0]
    by_cases h2 : x / 2 = 0
    · have hx : x = 1 := by omega
      subst hx
      have e : Lib.bitLenAux f (1 / 2) = 0 := by cases f <;> simp [Lib.bitLenAux]
      rw [e]
      refine ⟨by omega, by omega, by decide, by decide⟩
    · have ih := bl_two f (x / 2) (by rw [Nat.pow_succ] at h; omega) h2
      obtain ⟨i1, i2, i3, i4⟩ := ih
      generalize Lib.bitLenAux f (x / 2) = n at *
      obtain ⟨m, rfl⟩ : ∃ m, n = m + 1 := ⟨n - 1, by omega⟩
      refine ⟨by omega, by omega, ?_, ?_⟩
      · rw [show 1 + (m + 1) - 1 = m + 1 by omega, Nat.pow_succ]
        rw [show m + 1 - 1 = m by omega] at i3
        omega
      · rw [show 1 + (m + 1) = m + 1 + 1 by omega, Nat.pow_succ]
        omega

/-- How many bits a number has, by what it is. -/
theorem bl_is (x : Nat) (h : x < 18446744073709551616) (h0 : x ≠ 0) : 1 ≤ Lib.bitLen x ∧ Lib.bitLen x ≤ 64 ∧ 2 ^ (Lib.bitLen x - 1) ≤ x ∧ x < 2 ^ Lib.bitLen x :=
  bl_two 64 x (by simpa using h) h0
theorem bl_eq (x n : Nat) (h : x < 18446744073709551616) (h1 : 1 ≤ n) (h2 : 2 ^ (n - 1) ≤ x) (h3 : x < 2 ^ n) : Lib.bitLen x = n := by
  have h0 : x ≠ 0 := by have := Nat.two_pow_pos (n - 1); omega
  obtain ⟨a1, a2, a3, a4⟩ := bl_is x h h0
  generalize Lib.bitLen x = k at *
  have u : k - 1 < n := (Nat.pow_lt_pow_iff_right (by omega)).1 (Nat.lt_of_le_of_lt a3 h3)
  have v : n - 1 < k := (Nat.pow_lt_pow_iff_right (by omega)).1 (Nat.lt_of_le_of_lt h2 a4)
  omega
theorem bl_zero : Lib.bitLen 0 = 0 := by decide
theorem bl_le (x n : Nat) (h : x < 18446744073709551616) (h3 : x < 2 ^ n) : Lib.bitLen x ≤ n := by
  by_cases h0 : x = 0
  · subst h0; rw [bl_zero]; omega
  obtain ⟨a1, a2, a3, a4⟩ := bl_is x h h0
  generalize Lib.bitLen x = k at *
  have u : k - 1 < n := (Nat.pow_lt_pow_iff_right (by omega)).1 (Nat.lt_of_le_of_lt a3 h3)
  omega
theorem bl_ge (x n : Nat) (h : x < 18446744073709551616) (h3 : 2 ^ n ≤ x) : n + 1 ≤ Lib.bitLen x := by
  have h0 : x ≠ 0 := by have := Nat.two_pow_pos n; omega
  obtain ⟨a1, a2, a3, a4⟩ := bl_is x h h0
  generalize Lib.bitLen x = k at *
  have u : n < k := (Nat.pow_lt_pow_iff_right (by omega)).1 (Nat.lt_of_le_of_lt h3 a4)
  omega

/-- The whole number nearest to m (and something behind it) by 2^t, of two the even one. -/
def nsh (m t : Nat) (more : Bool) : Nat :=
  if 2 ^ t < 2 * (m % 2 ^ t) ∨ (2 ^ t = 2 * (m % 2 ^ t) ∧ (more = true ∨ m / 2 ^ t % 2 = 1)) then m / 2 ^ t + 1 else m / 2 ^ t

theorem nsh_exact (k t : Nat) : nsh (k * 2 ^ t) t false = k := by
  have hp := Nat.two_pow_pos t
  unfold nsh
  rw [Nat.mul_mod_left, Nat.mul_div_cancel _ hp, if_neg (by omega)]

theorem nsh_more (m t j : Nat) (more : Bool) (ht : 1 ≤ t) : nsh (m / 2 ^ j) t (more || decide (m % 2 ^ j ≠ 0)) = nsh m (t + j) more := by
  obtain ⟨s, rfl⟩ : ∃ s, t = s + 1 := ⟨t - 1, by omega⟩
  have hP := Nat.two_pow_pos j
  have hH := Nat.two_pow_pos s
  have e1 : m / 2 ^ (s + 1 + j) = m / 2 ^ j / 2 ^ (s + 1) := by rw [Nat.div_div_eq_div_mul, ← Nat.pow_add, Nat.add_comm]
  have e2 : m % 2 ^ (s + 1 + j) = m % 2 ^ j + 2 ^ j * (m / 2 ^ j % 2 ^ (s + 1)) := by rw [Nat.add_comm (s + 1) j, Nat.pow_add, Nat.mod_mul]
  have e3 : 2 ^ (s + 1 + j) = 2 * (2 ^ j * 2 ^ s) := by rw [Nat.pow_add, Nat.pow_succ, Nat.mul_comm (2 ^ s), Nat.mul_assoc, Nat.mul_comm (2 ^ s)]
  have e4 : (2 : Nat) ^ (s + 1) = 2 * 2 ^ s := by rw [Nat.pow_succ, Nat.mul_comm]
  unfold nsh
  rw [e1, e2, e3]
  have hr : m % 2 ^ j < 2 ^ j := Nat.mod_lt _ hP
  generalize m / 2 ^ j / 2 ^ (s + 1) = K
  generalize m / 2 ^ j % 2 ^ (s + 1) = L
  rw [e4]
  generalize 2 ^ s = H at *
  generalize 2 ^ j = P at *
  generalize m % P = r at *
  have key : (2 * H < 2 * L ∨ (2 * H = 2 * L ∧ ((more || decide (r ≠ 0)) = true ∨ K % 2 = 1))) ↔ (2 * (P * H) < 2 * (r + P * L) ∨ (2 * (P * H) = 2 * (r + P * L) ∧ (more = true ∨ K % 2 = 1))) := by
    rcases Nat.lt_trichotomy H L with h | h | h
    · have g : P * (H + 1) ≤ P * L := Nat.mul_le_mul_left _ h
      rw [Nat.mul_add, Nat.mul_one] at g
      constructor
      · intro _; left; omega
      · intro _; left; omega
    · subst h
      by_cases h0 : r = 0
      · subst h0; simp
      · simp [h0]; left; omega
    · have g : P * (L + 1) ≤ P * H := Nat.mul_le_mul_left _ h
      rw [Nat.mul_add, Nat.mul_one] at g
      constructor
      · intro x; rcases x with x | ⟨x, _⟩ <;> omega
      · intro x; rcases x with x | ⟨x, _⟩ <;> omega
  simp only [key]

/-- The exponent of the last bit that is kept. -/
def lastOf (p : Nat) (least : Int) (m : Nat) (e : Int) : Int := max (e + Lib.bitLen m - p - 1) least
/-- What is kept of m 2^e. -/
def keptOf (p : Nat) (least : Int) (m : Nat) (e : Int) (more : Bool) : Nat :=
  if e < lastOf p least m e then nsh m (lastOf p least m e - e).toNat more else m * 2 ^ (e - lastOf p least m e).toNat
/-- The bits without sign, were there no greatest one. -/
def toldOf (p : Nat) (least : Int) (m : Nat) (e : Int) (more : Bool) : Nat :=
  if m = 0 then 0 else (lastOf p least m e - least).toNat * 2 ^ p + keptOf p least m e more

theorem told_more (p : Nat) (least : Int) (m : Nat) (e : Int) (more : Bool) (m' j : Nat) (more' : Bool) (hm : m = m' / 2 ^ j) (h0 : m ≠ 0) (hs : m' < 18446744073709551616)
    (hmore : more = (more' || decide (m' % 2 ^ j ≠ 0))) (hc : more = false ∨ e < lastOf p least m e) : toldOf p least m e more = toldOf p least m' (e - j) more' := by
  have hP := Nat.two_pow_pos j
  have hle : m ≤ m' := by rw [hm]; exact Nat.div_le_self _ _
  have hbl : Lib.bitLen m' = Lib.bitLen m + j := by
    obtain ⟨a1, a2, a3, a4⟩ := bl_is m (by omega) h0
    refine bl_eq m' _ hs (by omega) ?_ ?_
    · rw [show Lib.bitLen m + j - 1 = Lib.bitLen m - 1 + j by omega, Nat.pow_add]
      have := Nat.mul_le_mul_right (2 ^ j) a3
      have g := Nat.div_mul_le_self m' (2 ^ j)
      rw [← hm] at g
      omega
    · rw [Nat.pow_add]
      have g : (m + 1) * 2 ^ j ≤ 2 ^ Lib.bitLen m * 2 ^ j := Nat.mul_le_mul_right _ a4
      have k := Nat.lt_mul_div_succ m' hP
      rw [← hm, Nat.mul_comm] at k
      omega
  have hlast : lastOf p least m' (e - j) = lastOf p least m e := by
    unfold lastOf; rw [hbl]; congr 1; omega
  unfold toldOf
  rw [if_neg h0, if_neg (by omega), hlast]
  congr 1
  unfold keptOf
  rw [hlast]
  generalize lastOf p least m e = l at *
  by_cases hl : e < l
  · rw [if_pos hl, if_pos (by omega), hm, hmore, show (l - (e - (j : Int))).toNat = (l - e).toNat + j by omega]
    exact nsh_more m' _ j more' (by omega)
  · have hf : more = false := by rcases hc with h | h; exact h; exact absurd h hl
    rw [hf] at hmore
    have hm' : more' = false := by cases more'; rfl; simp at hmore
    have hr : m' % 2 ^ j = 0 := by rw [hm'] at hmore; simpa using hmore
    have hmm : m' = m * 2 ^ j := by
      have := Nat.div_add_mod m' (2 ^ j)
      rw [hr, ← hm, Nat.mul_comm] at this
      omega
    rw [if_neg hl, hm', hmm]
    by_cases hl2 : e - (j : Int) < l
    · rw [if_pos hl2]
      have hj : j = (e - l).toNat + (l - (e - (j : Int))).toNat := by omega
      have e5 : m * 2 ^ j = m * 2 ^ (e - l).toNat * 2 ^ (l - (e - (j : Int))).toNat := by rw [Nat.mul_assoc, ← Nat.pow_add, ← hj]
      rw [e5, nsh_exact]
    · rw [if_neg hl2, Nat.mul_assoc, ← Nat.pow_add, show j + (e - (j : Int) - l).toNat = (e - l).toNat by omega]

/-- What is kept has p + 1 bits, or the next power of two, or has the least exponent. -/
theorem kept_bounds (p : Nat) (least : Int) (m : Nat) (e : Int) (more : Bool) (h0 : m ≠ 0) (hs : m < 18446744073709551616) :
    keptOf p least m e more ≤ 2 ^ (p + 1) ∧ (least < lastOf p least m e → 2 ^ p ≤ keptOf p least m e more) := by
  obtain ⟨a1, a2, a3, a4⟩ := bl_is m hs h0
  unfold keptOf
  have hL : lastOf p least m e = max (e + Lib.bitLen m - p - 1) least := rfl
  generalize lastOf p least m e = l at *
  generalize Lib.bitLen m = n at *
  by_cases hl : e < l
  · rw [if_pos hl]
    have hT := Nat.two_pow_pos (l - e).toNat
    have g1 : m / 2 ^ (l - e).toNat < 2 ^ (p + 1) := by
      rw [Nat.div_lt_iff_lt_mul hT, ← Nat.pow_add]
      exact Nat.lt_of_lt_of_le a4 (Nat.pow_le_pow_right (by omega) (by omega))
    refine ⟨by unfold nsh; split <;> omega, fun hlt => ?_⟩
    have g2 : 2 ^ p ≤ m / 2 ^ (l - e).toNat := by
      rw [Nat.le_div_iff_mul_le hT, ← Nat.pow_add, show p + (l - e).toNat = n - 1 by omega]
      exact a3
    unfold nsh; split <;> omega
  · rw [if_neg hl]
    refine ⟨?_, fun hlt => ?_⟩
    · have : m * 2 ^ (e - l).toNat < 2 ^ n * 2 ^ (e - l).toNat := Nat.mul_lt_mul_of_pos_right a4 (Nat.two_pow_pos _)
      rw [← Nat.pow_add] at this
      have k : 2 ^ (n + (e - l).toNat) ≤ 2 ^ (p + 1) := Nat.pow_le_pow_right (by omega) (by omega)
      omega
    · have : 2 ^ (n - 1) * 2 ^ (e - l).toNat ≤ m * 2 ^ (e - l).toNat := Nat.mul_le_mul_right _ a3
      rw [← Nat.pow_add, show n - 1 + (e - l).toNat = p by omega] at this
      exact this

/-- A shift beyond all of m tells 0. -/
theorem nsh_far (m t : Nat) (more : Bool) (h : 2 * m < 2 ^ t) : nsh m t more = 0 := by
  have hm : m < 2 ^ t := by omega
  unfold nsh
  rw [Nat.mod_eq_of_lt hm, Nat.div_eq_of_lt hm, if_neg (by omega)]

theorem told_min (p : Nat) (least : Int) (I : Nat) (m : Nat) (e : Int) (more : Bool) (h0 : m ≠ 0) :
    ((min (toldOf p least m e more) I : Nat) : Int) = min ((lastOf p least m e - least) * ((2 ^ p : Nat) : Int) + keptOf p least m e more) I := by
  have hl : least ≤ lastOf p least m e := by unfold lastOf; omega
  unfold toldOf
  rw [if_neg h0]
  generalize lastOf p least m e = l at *
  generalize keptOf p least m e more = k
  obtain ⟨d, hd⟩ : ∃ d : Nat, l - least = d := ⟨(l - least).toNat, by omega⟩
  rw [hd, show ((d : Int)).toNat = d by omega]
  generalize 2 ^ p = P
  rw [show (d : Int) * (P : Int) = ((d * P : Nat) : Int) by simp]
  generalize d * P = X
  omega

end Go.Proofs.YtcgnefgdfgikdaaGreat

namespace Go.Proofs.YtcgnefgdfgikdaaGreat
open Go.RowKit

theorem maskF16 (a : Int) (h0 : 0 ≤ a) (h1 : a ≤ 4294967295) : bits .and .u32 (a / 32768) 1 = a / 32768 % 2 ∧ bits .and .u32 (a / 1024) 31 = a / 1024 % 32 ∧ bits .and .u32 a 1023 = a % 1024 :=
  ⟨low32 1 (by omega) (a / 32768) (by omega) (by omega), low32 5 (by omega) (a / 1024) (by omega) (by omega), low32 10 (by omega) a h0 h1⟩

theorem maskF32 (a : Int) (h0 : 0 ≤ a) (h1 : a ≤ 4294967295) : bits .and .u32 (a / 2147483648) 1 = a / 2147483648 % 2 ∧ bits .and .u32 (a / 8388608) 255 = a / 8388608 % 256 ∧ bits .and .u32 a 8388607 = a % 8388608 :=
  ⟨low32 1 (by omega) (a / 2147483648) (by omega) (by omega), low32 8 (by omega) (a / 8388608) (by omega) (by omega), low32 23 (by omega) a h0 h1⟩

theorem joined16 (s x f : Int) (s0 : 0 ≤ s) (s1 : s ≤ 1) (x0 : 0 ≤ x) (x1 : x ≤ 31) (f0 : 0 ≤ f) (f1 : f < 1024) :
    IntKind.u32.wrap (s * 32768) = s * 32768 ∧ IntKind.u32.wrap (x * 1024) = x * 1024 ∧ bits .or .u32 (s * 32768) (x * 1024) = s * 32768 + x * 1024 ∧ bits .or .u32 (s * 32768 + x * 1024) f = s * 32768 + x * 1024 + f := by
  refine ⟨by rw [wr_u32]; omega, by rw [wr_u32]; omega, ?_, ?_⟩
  · exact orJoin 15 s (x * 1024) s0 (by omega) (by omega) (by omega)
  · have h := orJoin 10 (s * 32 + x) f (by omega) f0 (by omega) (by omega)
    have e : (s * 32 + x) * (2 : Int) ^ 10 = s * 32768 + x * 1024 := by omega
    rw [e] at h
    exact h

theorem joined32 (s x f : Int) (s0 : 0 ≤ s) (s1 : s ≤ 1) (x0 : 0 ≤ x) (x1 : x ≤ 255) (f0 : 0 ≤ f) (f1 : f < 8388608) :
    IntKind.u32.wrap (s * 2147483648) = s * 2147483648 ∧ IntKind.u32.wrap (x * 8388608) = x * 8388608 ∧ bits .or .u32 (s * 2147483648) (x * 8388608) = s * 2147483648 + x * 8388608 ∧ bits .or .u32 (s * 2147483648 + x * 8388608) f = s * 2147483648 + x * 8388608 + f := by
  refine ⟨by rw [wr_u32]; omega, by rw [wr_u32]; omega, ?_, ?_⟩
  · exact orJoin 31 s (x * 8388608) s0 (by omega) (by omega) (by omega)
  · have h := orJoin 23 (s * 256 + x) f (by omega) f0 (by omega) (by omega)
    have e : (s * 256 + x) * (2 : Int) ^ 23 = s * 2147483648 + x * 8388608 := by omega
    rw [e] at h
    exact h

theorem bool_u32 (b : Bool) : IntKind.u32.wrap (b.toNat : Int) = b.toNat ∧ 0 ≤ (b.toNat : Int) ∧ (b.toNat : Int) ≤ 1 := by cases b <;> refine ⟨?_, by decide, by decide⟩ <;> rw [wr_u32] <;> decide

end Go.Proofs.YtcgnefgdfgikdaaGreat
