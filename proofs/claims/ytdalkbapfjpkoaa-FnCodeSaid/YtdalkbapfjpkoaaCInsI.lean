/-
  What an instruction's A is: the program's own side.
-/
import Derived.Test.YtdalkbapfjpkoaaCIns
namespace Go.Proofs.Ytdalkbapfjpkoaa
open Go.ChangeShapes Go.WideShapes Go.ChangeAt Go.RowKit

set_option maxRecDepth 100000 in
set_option maxHeartbeats 400000 in
theorem isCounted_eq (n f l : Int) (r : Bool) (h : Hid ((decide (f + 1 ≤ n) && decide (n ≤ f + l)) = r)) (hb : Hid (0 ≤ f ∧ f ≤ 1000 ∧ 0 ≤ l ∧ l ≤ 1000)) (w : World) : Calls Try.prog 43 #[.int .i64 n, .int .i64 f, .int .i64 l] w fun e w' => e = .returned (.bool r) ∧ w' = w := by
  obtain ⟨h1, h2, h3, h4⟩ := hb.out
  have hw : wrap64 (f + l) = f + l := by unfold wrap64; omega
  have hr := h.out
  clear h1 h2 h3 h4 h
  by_cases g1 : f < n
  · by_cases g2 : n ≤ f + l
    · have e2 : decide (n ≤ f + l) = true := by simpa using g2
      rw [decide_eq_true (by omega), e2] at hr
      subst hr
      clear g2
      go_enter Try.func43, Try.ntmps43
      go_wp2
      go_ret
      exact ⟨rfl, rfl⟩
    · have e2 : decide (n ≤ f + l) = false := by simpa using g2
      rw [e2, Bool.and_false] at hr
      subst hr
      clear g2
      go_enter Try.func43, Try.ntmps43
      go_wp2
      go_ret
      exact ⟨rfl, rfl⟩
  · rw [decide_eq_false (by omega), Bool.false_and] at hr
    subst hr
    go_enter Try.func43, Try.ntmps43
    go_wp2
    go_ret
    exact ⟨rfl, rfl⟩

set_option maxRecDepth 100000 in
set_option maxHeartbeats 1600000 in
theorem isBare_yes (op : Int) (h : op ∈ bares) (w : World) :
    Calls Try.prog 32 #[.int .i64 op] w fun e w' => e = .returned (.bool true) ∧ w' = w := by
  simp only [bares, List.mem_cons, List.not_mem_nil, or_false] at h
  rcases h with rfl | rfl | rfl | rfl | rfl | rfl | rfl | rfl | rfl | rfl | rfl | rfl | rfl | rfl
  all_goals
    go_enter Try.func32, Try.ntmps32
    go_wp2
    go_ret
    exact ⟨rfl, rfl⟩

set_option maxRecDepth 100000 in
set_option maxHeartbeats 1600000 in
theorem isBare_other (op : Int) (h : ¬ op ∈ bares) (w : World) :
    Calls Try.prog 32 #[.int .i64 op] w fun e w' => e = .returned (.bool (counted op)) ∧ w' = w := by
  simp only [bares, List.mem_cons, List.not_mem_nil, or_false, not_or] at h
  obtain ⟨a0, a1, a2, a3, a4, a5, a6, a7, a8, a9, b0, b1, b2, b3⟩ := h
  obtain ⟨x, hx⟩ : ∃ x, Hid ((decide ((96 : Int) + 1 ≤ op) && decide (op ≤ 96 + 27)) = x) := ⟨_, rfl⟩
  obtain ⟨y, hy⟩ : ∃ y, Hid ((decide ((128 : Int) + 1 ≤ op) && decide (op ≤ 128 + 27)) = y) := ⟨_, rfl⟩
  obtain ⟨z, hz⟩ : ∃ z, Hid ((decide ((160 : Int) + 1 ≤ op) && decide (op ≤ 160 + 9)) = z) := ⟨_, rfl⟩
  have HS : Hid (counted op = (x || y || z)) := by rw [← hx.out, ← hy.out, ← hz.out]; exact rfl
  cases x <;> cases y <;> cases z
  all_goals
    go_enter Try.func32, Try.ntmps32
    go_wp2_with (go_at_call 43; refine (isCounted_eq _ _ _ _ (by assumption) (by unfold Hid; omega) _).mono ?_; rintro e w1 ⟨rfl, hw⟩; obtain rfl := hw.symm)
    go_ret
    exact ⟨by rw [HS.out]; rfl, rfl⟩

/-- The value that tells of what make A is. -/
def opv (k : Int) : Value :=
  if k = 0 then .iface 74 (.agg #[])
  else if k = 1 then .iface 67 (.agg #[])
  else if k = 2 then .iface 69 (.int .i64 1000)
  else if k = 3 then .iface 69 (.int .i64 10000)
  else if k = 4 then .iface 71 (.int .i64 32)
  else if k = 5 then .iface 71 (.int .i64 64)
  else if k = 6 then .iface 73 (.agg #[])
  else .nilIface

set_option maxRecDepth 100000 in
set_option maxHeartbeats 1600000 in
theorem operandOf_named (op : Int) (h : op ∈ named) (w : World) :
    Calls Try.prog 18 #[.int .i64 op] w fun e w' => e = .returned (opv (shp op)) ∧ w' = w := by
  simp only [named, List.mem_cons, List.not_mem_nil, or_false] at h
  rcases h with rfl | rfl | rfl | rfl | rfl | rfl | rfl | rfl | rfl | rfl | rfl | rfl | rfl | rfl | rfl | rfl | rfl | rfl | rfl | rfl | rfl | rfl | rfl | rfl | rfl | rfl | rfl | rfl | rfl | rfl | rfl | rfl
  all_goals
    go_enter Try.func18, Try.ntmps18
    go_wp2_with (go_at_call 32; refine (isBare_yes _ (by decide) _).mono ?_; rintro e w1 ⟨rfl, hw⟩; obtain rfl := hw.symm)
    go_ret
    exact ⟨rfl, rfl⟩

set_option maxRecDepth 100000 in
set_option maxHeartbeats 1600000 in
theorem operandOf_other (op : Int) (h : ¬ op ∈ named) (w : World) :
    Calls Try.prog 18 #[.int .i64 op] w fun e w' => e = .returned (opv (shp op)) ∧ w' = w := by
  have hs := shp_other op h
  have HB := isBare_other op (fun hb => h (by simp only [named, bares, List.mem_cons, List.not_mem_nil, or_false] at hb ⊢; omega))
  simp only [named, List.mem_cons, List.not_mem_nil, or_false, not_or] at h
  obtain ⟨a0, a1, a2, a3, a4, a5, a6, a7, a8, a9, b0, b1, b2, b3, b4, b5, b6, b7, b8, b9, c0, c1, c2, c3, c4, c5, c6, c7, c8, c9, d0, d1⟩ := h
  clear a0 a1 a2 a3 a4 a5 a6 a7 a8 a9 b0 b1 b2 b3
  rw [hs]
  clear hs
  generalize counted op = c at HB ⊢
  cases c
  all_goals
    go_enter Try.func18, Try.ntmps18
    go_wp2_with (go_at_call 32; refine (HB _).mono ?_; rintro e w1 ⟨rfl, hw⟩; obtain rfl := hw.symm)
    go_ret
    exact ⟨rfl, rfl⟩

theorem operandOf_eq (op : Int) (w : World) :
    Calls Try.prog 18 #[.int .i64 op] w fun e w' => e = .returned (opv (shp op)) ∧ w' = w := by
  by_cases h : op ∈ named
  · exact operandOf_named op h w
  · exact operandOf_other op h w

theorem specShape (op : Int) (w : World) :
    Calls Try.prog 34 #[.int .i64 op] w fun e w' => e = .returned (.int .i64 (shp op)) ∧ w' = w := by
  by_cases h : op ∈ named
  · exact specShape_named op h w
  · exact specShape_other op h w

theorem shp_one (op : Int) : shp op = 0 ∨ shp op = 1 ∨ shp op = 2 ∨ shp op = 3 ∨ shp op = 4 ∨ shp op = 5 ∨ shp op = 6 ∨ shp op = -1 := by
  unfold shp; repeat' split
  all_goals simp

end Go.Proofs.Ytdalkbapfjpkoaa
