/-
  What an instruction's A is, on both sides.
-/
import Derived.Test.YtdalkbapfjpkoaaIn
import Derived.Test.YtdalkbapfjpkoaaIBase
import Derived.Deep.QuietTactic
import Derived.BigQuiet
namespace Go.Proofs.Ytdalkbapfjpkoaa
open Go.ChangeShapes Go.WideShapes Go.ChangeAt Go.RowKit

/-- The op's kind: 0 without A, 1 a block's type, 2 an index, 3 an offset, 4 and 5 numbers, 6 a float, -1 none. -/
def counted (op : Int) : Bool := (decide (97 ≤ op) && decide (op ≤ 123)) || (decide (129 ≤ op) && decide (op ≤ 155)) || (decide (161 ≤ op) && decide (op ≤ 169))
def bares : List Int := [0, 1, 5, 11, 15, 26, 27, 63, 64, 176, 177, 178, 179, 180]
def shp (op : Int) : Int :=
  if op ∈ bares then 0
  else if op ∈ [2, 3, 4] then 1
  else if op ∈ [12, 13, 16, 32, 33, 34, 35, 36] then 2
  else if op ∈ [40, 41, 54, 55] then 3
  else if op = 65 then 4
  else if op = 66 then 5
  else if op = 67 then 6
  else if counted op then 0 else -1
def named : List Int := [0, 1, 5, 11, 15, 26, 27, 63, 64, 176, 177, 178, 179, 180, 2, 3, 4, 12, 13, 16, 32, 33, 34, 35, 36, 40, 41, 54, 55, 65, 66, 67]
theorem shp_other (op : Int) (h : ¬ op ∈ named) : shp op = if counted op then 0 else -1 := by
  simp only [named, List.mem_cons, List.not_mem_nil, or_false, not_or] at h
  unfold shp bares
  simp only [List.mem_cons, List.not_mem_nil, or_false]
  simp only [h, or_false, if_false]

set_option maxRecDepth 100000 in
set_option maxHeartbeats 1600000 in
theorem specShape_named (op : Int) (h : op ∈ named) (w : World) :
    Calls Try.prog 34 #[.int .i64 op] w fun e w' => e = .returned (.int .i64 (shp op)) ∧ w' = w := by
  simp only [named, List.mem_cons, List.not_mem_nil, or_false] at h
  rcases h with rfl | rfl | rfl | rfl | rfl | rfl | rfl | rfl | rfl | rfl | rfl | rfl | rfl | rfl | rfl | rfl | rfl | rfl | rfl | rfl | rfl | rfl | rfl | rfl | rfl | rfl | rfl | rfl | rfl | rfl | rfl | rfl
  all_goals
    go_enter Try.func34, Try.ntmps34
    go_wp2
    go_ret
    exact ⟨rfl, rfl⟩

set_option maxRecDepth 100000 in
set_option maxHeartbeats 1600000 in
theorem specShape_other (op : Int) (h : ¬ op ∈ named) (w : World) :
    Calls Try.prog 34 #[.int .i64 op] w fun e w' => e = .returned (.int .i64 (shp op)) ∧ w' = w := by
  have hs := shp_other op h
  simp only [named, List.mem_cons, List.not_mem_nil, or_false, not_or] at h
  obtain ⟨a0, a1, a2, a3, a4, a5, a6, a7, a8, a9, b0, b1, b2, b3, b4, b5, b6, b7, b8, b9, c0, c1, c2, c3, c4, c5, c6, c7, c8, c9, d0, d1⟩ := h
  obtain ⟨x, hx⟩ : ∃ x, Hid ((decide (97 ≤ op) && decide (op ≤ 123)) = x) := ⟨_, rfl⟩
  obtain ⟨y, hy⟩ : ∃ y, Hid ((decide (129 ≤ op) && decide (op ≤ 155)) = y) := ⟨_, rfl⟩
  obtain ⟨z, hz⟩ : ∃ z, Hid ((decide (161 ≤ op) && decide (op ≤ 169)) = z) := ⟨_, rfl⟩
  have HS : Hid (shp op = if (x || y || z) then 0 else -1) := by rw [← hx.out, ← hy.out, ← hz.out]; exact hs
  clear hs
  cases x <;> cases y <;> cases z
  all_goals
    go_enter Try.func34, Try.ntmps34
    go_wp2_with (go_at_call 45; refine (in_eq _ _ _ _ (by assumption) _).mono ?_; rintro e w1 ⟨rfl, hw⟩; obtain rfl := hw.symm)
    go_ret
    exact ⟨by rw [HS.out]; rfl, rfl⟩

end Go.Proofs.Ytdalkbapfjpkoaa
