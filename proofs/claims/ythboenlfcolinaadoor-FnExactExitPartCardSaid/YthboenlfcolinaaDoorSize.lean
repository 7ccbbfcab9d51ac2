/-
  The walks of the program's count of a point's bytes, and of all.
-/
import Derived.Test.YthboenlfcolinaaDoorEncSpec
namespace Go.Proofs.YthboenlfcolinaaDoor
open Go.ChangeShapes Go.WideShapes Go.ChangeAt Go.RowKit

/-- How many bytes a point has, 0 where the code has none. -/
def ptSize (code : Int) (p : Nat) : Int := if fitC code p = true then ((encP code p).length : Int) else 0
theorem u8b_pos (p : Nat) : 0 < (u8b p).length := by
  unfold u8b
  repeat' split
  all_goals simp
theorem encP_pos (code : Int) (p : Nat) : 0 < (encP code p).length := by
  unfold encP; split
  · exact u8b_pos p
  · split
    · unfold u16b; split <;> simp
    · simp

set_option maxRecDepth 100000 in
set_option maxHeartbeats 800000 in
theorem implCode (c : Int) (w : World) : Calls Tryd.prog 22 #[.int .i64 c] w fun e w' => e = .returned (.bool (decide (1 ≤ c ∧ c ≤ 3))) ∧ w' = w := by
  by_cases c1 : c = 1
  · subst c1
    go_enter Tryd.func22, Tryd.ntmps22
    go_wp2
    go_ret
    exact ⟨rfl, rfl⟩
  · have n1 : (c == 1) = false := by simpa using c1
    by_cases c2 : c = 2
    · subst c2
      go_enter Tryd.func22, Tryd.ntmps22
      go_wp2
      go_ret
      exact ⟨rfl, rfl⟩
    · have n2 : (c == 2) = false := by simpa using c2
      by_cases c3 : c = 3
      · subst c3
        go_enter Tryd.func22, Tryd.ntmps22
        go_wp2
        go_ret
        exact ⟨rfl, rfl⟩
      · have n3 : (c == 3) = false := by simpa using c3
        rw [decide_eq_false (by omega)]
        go_enter Tryd.func22, Tryd.ntmps22
        go_wp2
        go_ret
        exact ⟨rfl, rfl⟩

end Go.Proofs.YthboenlfcolinaaDoor
