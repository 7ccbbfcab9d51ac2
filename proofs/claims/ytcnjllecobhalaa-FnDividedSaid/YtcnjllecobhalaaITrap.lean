/-
  The traps of the divisions, and Binary of the program's side at an operation that is told.
-/
import Derived.Test.YtcnjllecobhalaaIOps
import Derived.Test.YtcnjllecobhalaaIWork
namespace Go.Proofs.Ytcnjllecobhalaa
open Go.RowKit

def trapV (b op x y : Int) : Int := if (op = 4 ∨ op = 5 ∨ op = 6 ∨ op = 7) ∧ y = 0 then 1 else if op = 4 ∧ x = lst b ∧ sgW b y = -1 then 2 else 0

theorem trapOther (b op x y : Int) (hb : b = 32 ∨ b = 64) (h4 : op ≠ 4) (h5 : op ≠ 5) (h6 : op ≠ 6) (h7 : op ≠ 7) (w : World) :
    Calls Try.prog 45 #[.int .i64 b, .int .i64 op, .int .u64 x, .int .u64 y] w fun e w' => e = .returned (.int .i64 0) ∧ w' = w := by
  have k4 : (op == 4) = false := by simp [h4]
  have k5 : (op == 5) = false := by simp [h5]
  have k6 : (op == 6) = false := by simp [h6]
  have k7 : (op == 7) = false := by simp [h7]
  clear h4 h5 h6 h7
  rcases hb with rfl | rfl <;> (go_enter Try.func45, Try.ntmps45; go_wp2; go_ret; exact ⟨rfl, rfl⟩)

theorem trapZero (b op x : Int) (hb : b = 32 ∨ b = 64) (h : op = 4 ∨ op = 5 ∨ op = 6 ∨ op = 7) (w : World) :
    Calls Try.prog 45 #[.int .i64 b, .int .i64 op, .int .u64 x, .int .u64 0] w fun e w' => e = .returned (.int .i64 1) ∧ w' = w := by
  rcases hb with rfl | rfl <;> rcases h with rfl | rfl | rfl | rfl <;> (go_enter Try.func45, Try.ntmps45; go_wp2; go_ret; exact ⟨rfl, rfl⟩)

theorem trapMore (b op x y : Int) (hb : b = 32 ∨ b = 64) (h : op = 5 ∨ op = 6 ∨ op = 7) (hy : y ≠ 0) (w : World) :
    Calls Try.prog 45 #[.int .i64 b, .int .i64 op, .int .u64 x, .int .u64 y] w fun e w' => e = .returned (.int .i64 0) ∧ w' = w := by
  have k : (y == 0) = false := by simp [hy]
  clear hy
  rcases hb with rfl | rfl <;> rcases h with rfl | rfl | rfl <;> (go_enter Try.func45, Try.ntmps45; go_wp2; go_ret; exact ⟨rfl, rfl⟩)

theorem trapDiv (b x y : Int) (hb : b = 32 ∨ b = 64) (hy : y ≠ 0) (y0 : 0 ≤ y) (y1 : y ≤ 18446744073709551615) (w : World) :
    Calls Try.prog 45 #[.int .i64 b, .int .i64 4, .int .u64 x, .int .u64 y] w fun e w' => e = .returned (.int .i64 (if x = lst b ∧ sgW b y = -1 then 2 else 0)) ∧ w' = w := by
  have k : (y == 0) = false := by simp [hy]
  clear hy
  have HS := fun w => signedC b y hb y0 y1 w
  obtain ⟨s, hs⟩ : ∃ s, sgW b y = s := ⟨_, rfl⟩
  rw [hs] at HS ⊢
  clear hs y0 y1
  rcases hb with rfl | rfl
  · by_cases hx : x = 2147483648
    · subst hx
      by_cases h1 : s = -1
      · subst h1
        go_enter Try.func45, Try.ntmps45
        go_wp2_with (go_at_call 85; refine (HS _).mono ?_; rintro e w' ⟨rfl, rfl⟩)
        go_ret
        exact ⟨rfl, rfl⟩
      · have k1 : (s == -1) = false := by simp [h1]
        go_enter Try.func45, Try.ntmps45
        go_wp2_with (go_at_call 85; refine (HS _).mono ?_; rintro e w' ⟨rfl, rfl⟩)
        go_ret
        exact ⟨by simp, rfl⟩
    · have k1 : (x == 2147483648) = false := by simp [hx]
      rw [if_neg (by simp [lst, hx])]
      go_enter Try.func45, Try.ntmps45
      go_wp2
      go_ret
      exact ⟨rfl, rfl⟩
  · by_cases hx : x = 9223372036854775808
    · subst hx
      by_cases h1 : s = -1
      · subst h1
        go_enter Try.func45, Try.ntmps45
        go_wp2_with (go_at_call 85; refine (HS _).mono ?_; rintro e w' ⟨rfl, rfl⟩)
        go_ret
        exact ⟨rfl, rfl⟩
      · have k1 : (s == -1) = false := by simp [h1]
        go_enter Try.func45, Try.ntmps45
        go_wp2_with (go_at_call 85; refine (HS _).mono ?_; rintro e w' ⟨rfl, rfl⟩)
        go_ret
        exact ⟨by simp, rfl⟩
    · have k1 : (x == 9223372036854775808) = false := by simp [hx]
      rw [if_neg (by simp [lst, hx])]
      go_enter Try.func45, Try.ntmps45
      go_wp2
      go_ret
      exact ⟨rfl, rfl⟩

theorem trapC (b op x y : Int) (hb : b = 32 ∨ b = 64) (y0 : 0 ≤ y) (y1 : y ≤ 18446744073709551615) (w : World) :
    Calls Try.prog 45 #[.int .i64 b, .int .i64 op, .int .u64 x, .int .u64 y] w fun e w' => e = .returned (.int .i64 (trapV b op x y)) ∧ w' = w := by
  unfold trapV
  by_cases h : op = 4 ∨ op = 5 ∨ op = 6 ∨ op = 7
  · by_cases hy : y = 0
    · subst hy
      simpa [h] using trapZero b op x hb h w
    · by_cases h4 : op = 4
      · subst h4
        simpa [hy] using trapDiv b x y hb hy y0 y1 w
      · simpa [hy, h4] using trapMore b op x y hb (by omega) hy w
  · have := trapOther b op x y hb (by omega) (by omega) (by omega) (by omega) w
    rw [if_neg (by omega), if_neg (by omega)]
    exact this

theorem widthC (b : Int) (hb : b = 32 ∨ b = 64) (w : World) :
    Calls Try.prog 42 #[.int .i64 b] w fun e w' => e = .returned (.tuple #[.int .i64 b, .bool true]) ∧ w' = w := by
  rcases hb with rfl | rfl
  · exact implWidth32 w
  · exact implWidth64 w

end Go.Proofs.Ytcnjllecobhalaa
