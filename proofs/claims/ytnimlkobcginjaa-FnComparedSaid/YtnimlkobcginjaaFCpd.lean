/-
  Halves compared: the law.
-/
import Derived.Test.YtnimlkobcginjaaFExh
import Derived.Test.YtnimlkobcginjaaFDrx
import Derived.Test.YtnimlkobcginjaaFMinT
namespace Go.Proofs.Ytnimlkobcginjaa
open Go.RowKit

theorem or32_swap (x y : Int) (hx : 0 ≤ x ∧ x ≤ 4294967295) (hy : 0 ≤ y ∧ y ≤ 4294967295) : bits .or .u32 x y = bits .or .u32 y x := by
  obtain ⟨a, rfl⟩ := Int.eq_ofNat_of_zero_le hx.1
  obtain ⟨b, rfl⟩ := Int.eq_ofNat_of_zero_le hy.1
  rw [or32_nat a b (by omega) (by omega), or32_nat b a (by omega) (by omega), Nat.or_comm]

theorem cmp_swap (c1 r1 c2 r2 : Int) : (cmpOf c1 r1 c2 r2 = 2 ∧ cmpOf c2 r2 c1 r1 = 2) ∨ (cmpOf c1 r1 c2 r2 = -1 ∧ cmpOf c2 r2 c1 r1 = 1) ∨ (cmpOf c1 r1 c2 r2 = 1 ∧ cmpOf c2 r2 c1 r1 = -1) ∨ (cmpOf c1 r1 c2 r2 = 0 ∧ cmpOf c2 r2 c1 r1 = 0) := by
  unfold cmpOf
  by_cases h : c1 = 2 ∨ c2 = 2
  · rw [if_pos h, if_pos (Or.comm.1 h)]; exact Or.inl ⟨rfl, rfl⟩
  · have h' : ¬ (c2 = 2 ∨ c1 = 2) := fun k => h (Or.comm.1 k)
    rw [if_neg h, if_neg h']
    by_cases g : r1 < r2
    · rw [if_pos g, if_neg (by omega), if_pos g]; exact Or.inr (Or.inl ⟨rfl, rfl⟩)
    · by_cases g2 : r2 < r1
      · rw [if_neg g, if_pos g2, if_pos g2]; exact Or.inr (Or.inr (Or.inl ⟨rfl, rfl⟩))
      · rw [if_neg g, if_neg g2, if_neg g2, if_neg g]; exact Or.inr (Or.inr (Or.inr ⟨rfl, rfl⟩))

/-- Both of FCompare and of FMin, in both orders: what they answer. -/
structure Cmp4 (k a b n n2 m : Int) : Prop where
  s1 : ∀ w, Calls Try.prog 30 #[.int .i64 k, .int .u32 a, .int .u32 b] w fun e w' => e = .returned (.int .i64 n) ∧ Below w.heap.size w w'
  i1 : ∀ w, Calls Try.prog 28 #[.int .i64 k, .int .u32 a, .int .u32 b] w fun e w' => e = .returned (.int .i64 n) ∧ Below w.heap.size w w'
  i2 : ∀ w, Calls Try.prog 28 #[.int .i64 k, .int .u32 b, .int .u32 a] w fun e w' => e = .returned (.int .i64 n2) ∧ Below w.heap.size w w'
  m1 : ∀ w, Calls Try.prog 31 #[.int .i64 k, .int .u32 a, .int .u32 b] w fun e w' => e = .returned (.int .u32 m) ∧ Below w.heap.size w w'
  m2 : ∀ w, Calls Try.prog 29 #[.int .i64 k, .int .u32 a, .int .u32 b] w fun e w' => e = .returned (.int .u32 m) ∧ Below w.heap.size w w'
  m3 : ∀ w, Calls Try.prog 29 #[.int .i64 k, .int .u32 b, .int .u32 a] w fun e w' => e = .returned (.int .u32 m) ∧ Below w.heap.size w w'
  nn : (n = 2 ∧ n2 = 2) ∨ (n = -1 ∧ n2 = 1) ∨ (n = 1 ∧ n2 = -1) ∨ (n = 0 ∧ n2 = 0)

def minV16 (a b : Int) : Int := minOf (cmpOf (cl16 a) (rk16 a) (cl16 b) (rk16 b)) (31744 + 512) (a % 65536) (b % 65536) (bits .or .u32 (a % 65536) (b % 65536))

def minV32 (a b : Int) : Int := minOf (cmpOf (cl32 a) (rk32 a) (cl32 b) (rk32 b)) (2139095040 + 4194304) (a % 4294967296) (b % 4294967296) (bits .or .u32 (a % 4294967296) (b % 4294967296))

theorem minSwap16 (a b : Int) : minV16 b a = minV16 a b := by
  unfold minV16
  rw [or32_swap (b % 65536) (a % 65536) (by omega) (by omega)]
  rcases cmp_swap (cl16 a) (rk16 a) (cl16 b) (rk16 b) with ⟨h1, h2⟩ | ⟨h1, h2⟩ | ⟨h1, h2⟩ | ⟨h1, h2⟩ <;> rw [h1, h2] <;> rfl

theorem minSwap32 (a b : Int) : minV32 b a = minV32 a b := by
  unfold minV32
  rw [or32_swap (b % 4294967296) (a % 4294967296) (by omega) (by omega)]
  rcases cmp_swap (cl32 a) (rk32 a) (cl32 b) (rk32 b) with ⟨h1, h2⟩ | ⟨h1, h2⟩ | ⟨h1, h2⟩ | ⟨h1, h2⟩ <;> rw [h1, h2] <;> rfl

theorem minAt16 (a b : Int) (a0 : 0 ≤ a) (a1 : a ≤ 4294967295) (b0 : 0 ≤ b) (b1 : b ≤ 4294967295) :
    (∀ w, Calls Try.prog 31 #[.int .i64 16, .int .u32 a, .int .u32 b] w fun e w' => e = .returned (.int .u32 (minV16 a b)) ∧ Below w.heap.size w w') ∧
    (∀ w, Calls Try.prog 29 #[.int .i64 16, .int .u32 a, .int .u32 b] w fun e w' => e = .returned (.int .u32 (minV16 a b)) ∧ Below w.heap.size w w') := by
  have hA : bits .and .u32 a 65535 = a % 65536 := low32 (15 + 1) (by omega) a a0 a1
  have hB : bits .and .u32 b 65535 = b % 65536 := low32 (15 + 1) (by omega) b b0 b1
  have J1 := join16 (a / 32768 % 2) (a / 1024 % 32) (a % 1024) (by omega) (by omega) (by omega) (by omega) (by omega) (by omega)
  have J2 := join16 (b / 32768 % 2) (b / 1024 % 32) (b % 1024) (by omega) (by omega) (by omega) (by omega) (by omega) (by omega)
  rw [show a / 32768 % 2 * 32768 + a / 1024 % 32 * 1024 + a % 1024 = a % 65536 by omega] at J1
  rw [show b / 32768 % 2 * 32768 + b / 1024 % 32 * 1024 + b % 1024 = b % 65536 by omega] at J2
  have C := implCmp16 (a % 65536) (b % 65536) (by omega) (by omega) (by omega) (by omega)
  rw [(cut_same16 a).1, (cut_same16 a).2, (cut_same16 b).1, (cut_same16 b).2] at C
  exact ⟨minSpec16 a b _ _ _ _ (cmp_is _ _ _ _) hA hB (or_cut16 a b a0 a1 b0 b1) (compare16 a b a0 a1 b0 b1), minImpl16 a b _ _ _ _ _ _ _ _ _ _ (cmp_is _ _ _ _) rfl (split16 a a0 a1) (split16 b b0 b1) J1 J2 C⟩

theorem minAt32 (a b : Int) (a0 : 0 ≤ a) (a1 : a ≤ 4294967295) (b0 : 0 ≤ b) (b1 : b ≤ 4294967295) :
    (∀ w, Calls Try.prog 31 #[.int .i64 32, .int .u32 a, .int .u32 b] w fun e w' => e = .returned (.int .u32 (minV32 a b)) ∧ Below w.heap.size w w') ∧
    (∀ w, Calls Try.prog 29 #[.int .i64 32, .int .u32 a, .int .u32 b] w fun e w' => e = .returned (.int .u32 (minV32 a b)) ∧ Below w.heap.size w w') := by
  have hA : bits .and .u32 a 4294967295 = a % 4294967296 := low32 (31 + 1) (by omega) a a0 a1
  have hB : bits .and .u32 b 4294967295 = b % 4294967296 := low32 (31 + 1) (by omega) b b0 b1
  have J1 := join32 (a / 2147483648 % 2) (a / 8388608 % 256) (a % 8388608) (by omega) (by omega) (by omega) (by omega) (by omega) (by omega)
  have J2 := join32 (b / 2147483648 % 2) (b / 8388608 % 256) (b % 8388608) (by omega) (by omega) (by omega) (by omega) (by omega) (by omega)
  rw [show a / 2147483648 % 2 * 2147483648 + a / 8388608 % 256 * 8388608 + a % 8388608 = a % 4294967296 by omega] at J1
  rw [show b / 2147483648 % 2 * 2147483648 + b / 8388608 % 256 * 8388608 + b % 8388608 = b % 4294967296 by omega] at J2
  have C := implCmp32 (a % 4294967296) (b % 4294967296) (by omega) (by omega) (by omega) (by omega)
  rw [(cut_same32 a).1, (cut_same32 a).2, (cut_same32 b).1, (cut_same32 b).2] at C
  exact ⟨minSpec32 a b _ _ _ _ (cmp_is _ _ _ _) hA hB (or_cut32 a b a0 a1 b0 b1) (compare32 a b a0 a1 b0 b1), minImpl32 a b _ _ _ _ _ _ _ _ _ _ (cmp_is _ _ _ _) rfl (split32 a a0 a1) (split32 b b0 b1) J1 J2 C⟩

theorem cmp416 (a b : Int) (a0 : 0 ≤ a) (a1 : a ≤ 4294967295) (b0 : 0 ≤ b) (b1 : b ≤ 4294967295) : Cmp4 16 a b (cmpOf (cl16 a) (rk16 a) (cl16 b) (rk16 b)) (cmpOf (cl16 b) (rk16 b) (cl16 a) (rk16 a)) (minV16 a b) := by
  have M1 := minAt16 a b a0 a1 b0 b1
  have M2 := minAt16 b a b0 b1 a0 a1
  rw [minSwap16] at M2
  exact ⟨specCmp16 a b a0 a1 b0 b1, implCmp16 a b a0 a1 b0 b1, implCmp16 b a b0 b1 a0 a1, M1.1, M1.2, M2.2, cmp_swap _ _ _ _⟩

theorem cmp432 (a b : Int) (a0 : 0 ≤ a) (a1 : a ≤ 4294967295) (b0 : 0 ≤ b) (b1 : b ≤ 4294967295) : Cmp4 32 a b (cmpOf (cl32 a) (rk32 a) (cl32 b) (rk32 b)) (cmpOf (cl32 b) (rk32 b) (cl32 a) (rk32 a)) (minV32 a b) := by
  have M1 := minAt32 a b a0 a1 b0 b1
  have M2 := minAt32 b a b0 b1 a0 a1
  rw [minSwap32] at M2
  exact ⟨specCmp32 a b a0 a1 b0 b1, implCmp32 a b a0 a1 b0 b1, implCmp32 b a b0 b1 a0 a1, M1.1, M1.2, M2.2, cmp_swap _ _ _ _⟩

theorem cmp4No (k a b : Int) (h1 : k ≠ 16) (h2 : k ≠ 32) : Cmp4 k a b 0 0 0 :=
  ⟨(cmpNo k a b h1 h2).1, (cmpNo k a b h1 h2).2, (cmpNo k b a h1 h2).2, (minNo k a b h1 h2).1, (minNo k a b h1 h2).2, (minNo k b a h1 h2).2, Or.inr (Or.inr (Or.inr ⟨rfl, rfl⟩))⟩

theorem rk_split (a : Int) (T : Nat) (hT : a % 32768 = (T : Int)) : rk16 a = if a / 32768 % 2 = 1 then -(T : Int) else (T : Int) := by unfold rk16; rw [hT]

/-- Finite halves are in the order of their places. -/
theorem exa_rk (x y : Int) (cx : cl16 x = 0) (cy : cl16 y = 0) : (exa x < exa y ↔ rk16 x < rk16 y) ∧ (exa x = exa y ↔ rk16 x = rk16 y) := by
  obtain ⟨S, hS, _, eS⟩ := exa_split x cx
  obtain ⟨T, hT, _, eT⟩ := exa_split y cy
  rw [eS, eT, rk_split x S hS, rk_split y T hT]
  have v0 : valN 0 = 0 := rfl
  have pS : 0 < S → 0 < valN S := fun h => by have := val_lt 0 S h; omega
  have pT : 0 < T → 0 < valN T := fun h => by have := val_lt 0 T h; omega
  have zS : S = 0 → valN S = 0 := fun h => by rw [h]; rfl
  have zT : T = 0 → valN T = 0 := fun h => by rw [h]; rfl
  have h1 : S < T → valN S < valN T := val_lt S T
  have h2 : T < S → valN T < valN S := val_lt T S
  have h3 : S = T → valN S = valN T := fun h => by rw [h]
  generalize valN S = u at *
  generalize valN T = v at *
  split <;> split <;> omega

/-- Halves of one place: what their bits are together. -/
theorem or_place (x y : Int) (cx : cl16 x = 0) (cy : cl16 y = 0) (h : rk16 x = rk16 y) : cl16 (bits .or .u32 (x % 65536) (y % 65536)) = 0 ∧ exa (bits .or .u32 (x % 65536) (y % 65536)) = exa x ∧ 0 ≤ bits .or .u32 (x % 65536) (y % 65536) ∧ bits .or .u32 (x % 65536) (y % 65536) ≤ 4294967295 := by
  by_cases he : x % 65536 = y % 65536
  · rw [← he]
    obtain ⟨X, hX⟩ := Int.eq_ofNat_of_zero_le (show 0 ≤ x % 65536 by omega)
    have ho : bits .or .u32 (x % 65536) (x % 65536) = x % 65536 := by
      rw [hX, or32_nat X X (by omega) (by omega), Nat.or_self]
    rw [ho]
    exact ⟨(exa_cut x).2.trans cx, (exa_cut x).1, by omega, by omega⟩
  · obtain ⟨S, hS, _, eS⟩ := exa_split x cx
    obtain ⟨T, hT, _, eT⟩ := exa_split y cy
    rw [rk_split x S hS, rk_split y T hT] at h
    have hz : S = 0 ∧ T = 0 := by
      split at h <;> split at h <;> omega
    obtain ⟨rfl, rfl⟩ := hz
    have e0 : exa x = 0 := by rw [eS]; split <;> rfl
    have hx : x % 65536 = 0 ∨ x % 65536 = 32768 := by omega
    have hy : y % 65536 = 0 ∨ y % 65536 = 32768 := by omega
    rw [e0]
    rcases hx with hx | hx <;> rcases hy with hy | hy
    · omega
    · rw [hx, hy]; decide
    · rw [hx, hy]; decide
    · omega

theorem drawFCompare (a : Option Addr) (n cap : Nat) (w : World) (hb : Bys w a n w.heap.size) :
    Calls Try.prog 27 #[.slice a n cap] w fun e w' => ∃ k x y : Int, (k = 16 ∨ k = 32 ∨ k = 64) ∧ 0 ≤ x ∧ x ≤ 4294967295 ∧ 0 ≤ y ∧ y ≤ 4294967295 ∧ e = .returned (.tuple #[.int .i64 k, .int .u32 x, .int .u32 y]) ∧ Below w.heap.size w w' := by
  go_enter Try.func27, Try.ntmps27
  go_wp2_with fail
  refine (drawFAdd a n cap w hb).mono ?_
  rintro e w1 ⟨k, x, y, hk, x0, x1, y0, y1, rfl, B1⟩
  go_wp2
  refine bodyPost_ret (three_resD Try.results27 _ _ _) rfl ⟨k, x, y, hk, x0, x1, y0, y1, rfl, B1⟩

end Go.Proofs.Ytnimlkobcginjaa
