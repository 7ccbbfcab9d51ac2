/-
  What a float may be: its class, m and e.
-/
import Derived.Test.YtnimlkobcginjaaFOpen
namespace Go.Proofs.Ytnimlkobcginjaa
open Go.RowKit


def Fv16 (c m e : Int) : Prop := (c = 0 ∨ c = 1 ∨ c = 2) ∧ 0 ≤ m ∧ m < 2 * 1024 ∧ (-24) ≤ e ∧ e ≤ 31 + (-24) - 2 ∧ (c = 0 → (-24) < e → 1024 ≤ m) ∧ (c ≠ 0 → m = 0 ∧ e = 0)


def Fv32 (c m e : Int) : Prop := (c = 0 ∨ c = 1 ∨ c = 2) ∧ 0 ≤ m ∧ m < 2 * 8388608 ∧ (-149) ≤ e ∧ e ≤ 255 + (-149) - 2 ∧ (c = 0 → (-149) < e → 8388608 ≤ m) ∧ (c ≠ 0 → m = 0 ∧ e = 0)

theorem fv16 (a : Int) : Fv16 (cl16 a) (vm16 a) (ve16 a) := by
  unfold Fv16 cl16 vm16 ve16
  have x0 : 0 ≤ a / 1024 % 32 := by omega
  have x1 : a / 1024 % 32 ≤ 31 := by omega
  have f0 : 0 ≤ a % 1024 := by omega
  have f1 : a % 1024 < 1024 := by omega
  generalize a / 1024 % 32 = x at *
  generalize a % 1024 = f at *
  by_cases hx : x = 31
  · rw [if_pos hx, if_pos hx, if_pos hx]
    by_cases hf : f = 0
    · rw [if_pos hf]; omega
    · rw [if_neg hf]; omega
  · rw [if_neg hx, if_neg hx, if_neg hx]
    by_cases hx0 : x = 0
    · rw [if_pos hx0, if_pos hx0]; omega
    · rw [if_neg hx0, if_neg hx0]; omega

theorem fv32 (a : Int) : Fv32 (cl32 a) (vm32 a) (ve32 a) := by
  unfold Fv32 cl32 vm32 ve32
  have x0 : 0 ≤ a / 8388608 % 256 := by omega
  have x1 : a / 8388608 % 256 ≤ 255 := by omega
  have f0 : 0 ≤ a % 8388608 := by omega
  have f1 : a % 8388608 < 8388608 := by omega
  generalize a / 8388608 % 256 = x at *
  generalize a % 8388608 = f at *
  by_cases hx : x = 255
  · rw [if_pos hx, if_pos hx, if_pos hx]
    by_cases hf : f = 0
    · rw [if_pos hf]; omega
    · rw [if_neg hf]; omega
  · rw [if_neg hx, if_neg hx, if_neg hx]
    by_cases hx0 : x = 0
    · rw [if_pos hx0, if_pos hx0]; omega
    · rw [if_neg hx0, if_neg hx0]; omega

end Go.Proofs.Ytnimlkobcginjaa
