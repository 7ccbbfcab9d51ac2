/-
  The walk of the test whether a number lies between two others.
-/
import Derived.Test.YtdcfflmfimepfaaGreatRows
import Derived.WalkKit
import Derived.WalkLawsBesides
import Derived.ProofKit
import Derived.OpenShut
import Derived.Below
import Derived.Laws.Bits64b
import Derived.Deep.QuietTactic
import Derived.BigQuiet
import Derived.Test.YtdcfflmfimepfaaGreatJA1
namespace Go.Proofs.YtdcfflmfimepfaaGreat
open Go.ChangeShapes Go.WideShapes Go.ChangeAt Go.RowKit

set_option maxRecDepth 1000000 in
set_option maxHeartbeats 400000 in
theorem in_yes (n lo hi : Int) (h1 : lo ≤ n) (h2 : n ≤ hi) (w : World) : Calls Tryz.prog 36 #[.int .i64 n, .int .i64 lo, .int .i64 hi] w fun e w' => e = .returned (.bool true) ∧ w' = w := by
  have e1 : decide (n ≤ hi) = true := by simpa using h2
  go_enter Tryz.func36, Tryz.ntmps36
  go_wp2
  go_ret
  exact ⟨rfl, rfl⟩

set_option maxRecDepth 1000000 in
set_option maxHeartbeats 400000 in
theorem in_no (n lo hi : Int) (h : n < lo ∨ hi < n) (w : World) : Calls Tryz.prog 36 #[.int .i64 n, .int .i64 lo, .int .i64 hi] w fun e w' => e = .returned (.bool false) ∧ w' = w := by
  by_cases h1 : lo ≤ n
  · have e1 : decide (n ≤ hi) = false := by simp; omega
    go_enter Tryz.func36, Tryz.ntmps36
    go_wp2
    go_ret
    exact ⟨rfl, rfl⟩
  · go_enter Tryz.func36, Tryz.ntmps36
    go_wp2
    go_ret
    exact ⟨rfl, rfl⟩

/-- What is told, at whatever bounds. -/
theorem in_eq (n lo hi : Int) (r : Bool) (h : Hid ((decide (lo ≤ n) && decide (n ≤ hi)) = r)) (w : World) : Calls Tryz.prog 36 #[.int .i64 n, .int .i64 lo, .int .i64 hi] w fun e w' => e = .returned (.bool r) ∧ w' = w := by
  have h' := h.out
  by_cases h1 : lo ≤ n
  · by_cases h2 : n ≤ hi
    · simp [h1, h2] at h'; subst h'; exact in_yes n lo hi h1 h2 w
    · simp [h2] at h'; subst h'; exact in_no n lo hi (by omega) w
  · simp [h1] at h'; subst h'; exact in_no n lo hi (by omega) w

end Go.Proofs.YtdcfflmfimepfaaGreat

namespace Go.Proofs.YtdcfflmfimepfaaGreat
open Go.RowKit

theorem ret_int {k : IntKind} {a b : Int} (h : a = b) : Ending.returned (.int k a) = .returned (.int k b) := by rw [h]

end Go.Proofs.YtdcfflmfimepfaaGreat

namespace Go.Proofs.YtdcfflmfimepfaaGreat
open Go.RowKit

/-- What is read of 32 bits with a sign, and of 64. -/
def s32 (a : Int) : Int := (a + 2147483648) % 4294967296 - 2147483648
def s64 (a : Int) : Int := (a + 9223372036854775808) % 18446744073709551616 - 9223372036854775808


theorem mask32 (a : Int) (h0 : 0 ≤ a) (h1 : a ≤ 18446744073709551615) : bits .and .u64 a 4294967295 = a % 4294967296 := by
  obtain ⟨n, rfl⟩ := Int.eq_ofNat_of_zero_le h0
  have h := bits_and_u64_nat n 4294967295 (by omega) (by omega)
  have e : n &&& 4294967295 = n % 4294967296 := Nat.and_two_pow_sub_one_eq_mod n 32
  rw [e] at h
  exact h

theorem cut32 (a : Int) (w : World) :
    Calls Tryz.prog 87 #[.int .i64 32, .int .u64 a] w fun e w' => e = .returned (.int .u64 (a % 4294967296)) ∧ w' = w := by
  go_enter Tryz.func87, Tryz.ntmps87
  go_wp2
  go_ret
  refine ⟨ret_int ?_, rfl⟩
  rw [IntKind.wrap_u64]; omega

theorem cut64 (a : Int) (h0 : 0 ≤ a) (h1 : a ≤ 18446744073709551615) (w : World) :
    Calls Tryz.prog 87 #[.int .i64 64, .int .u64 a] w fun e w' => e = .returned (.int .u64 a) ∧ w' = w := by
  go_enter Tryz.func87, Tryz.ntmps87
  go_wp2
  go_ret
  refine ⟨ret_int ?_, rfl⟩
  rfl

theorem signed32 (a : Int) (w : World) :
    Calls Tryz.prog 165 #[.int .i64 32, .int .u64 a] w fun e w' => e = .returned (.int .i64 (s32 a)) ∧ w' = w := by
  go_enter Tryz.func165, Tryz.ntmps165
  go_wp2
  go_ret
  refine ⟨ret_int ?_, rfl⟩
  unfold s32 wrap64; rw [IntKind.wrap_u64]; omega

theorem signed64 (a : Int) (h0 : 0 ≤ a) (h1 : a ≤ 18446744073709551615) (w : World) :
    Calls Tryz.prog 165 #[.int .i64 64, .int .u64 a] w fun e w' => e = .returned (.int .i64 (s64 a)) ∧ w' = w := by
  go_enter Tryz.func165, Tryz.ntmps165
  go_wp2
  go_ret
  refine ⟨ret_int ?_, rfl⟩
  unfold s64 wrap64; omega

end Go.Proofs.YtdcfflmfimepfaaGreat

namespace Go.Proofs.YtdcfflmfimepfaaGreat
open Go.ChangeShapes Go.WideShapes Go.ChangeAt Go.RowKit

/-- The op's kind: 0 without A, 1 a block's type, 2 an index, 3 an offset, 4 and 5 numbers, 6 a float, -1 none. -/
def counted (op : Int) : Bool := (decide (97 ≤ op) && decide (op ≤ 123)) || (decide (129 ≤ op) && decide (op ≤ 155)) || (decide (161 ≤ op) && decide (op ≤ 169))
def bares : List Int := [0, 1, 5, 11, 15, 26, 27, 63, 64, 176, 177, 178, 179, 180]
def shp (op : Int) : Int :=
  if op ∈ bares then 0
  else if op ∈ [2, 3, 4] then 1
  else if op ∈ [12, 13, 16, 32, 33, 34, 35, 36] then 2
  else if op ∈ [40, 41, 54, 55] then 3
  else if op = 65 then 4
  else if op = 66 then 5
  else if op = 67 then 6
  else if counted op then 0 else -1
def named : List Int := [0, 1, 5, 11, 15, 26, 27, 63, 64, 176, 177, 178, 179, 180, 2, 3, 4, 12, 13, 16, 32, 33, 34, 35, 36, 40, 41, 54, 55, 65, 66, 67]
theorem shp_other (op : Int) (h : ¬ op ∈ named) : shp op = if counted op then 0 else -1 := by
  simp only [named, List.mem_cons, List.not_mem_nil, or_false, not_or] at h
  unfold shp bares
  simp only [List.mem_cons, List.not_mem_nil, or_false]
  simp only [h, or_false, if_false]

set_option maxRecDepth 100000 in
set_option maxHeartbeats 1600000 in
theorem specShape_named (op : Int) (h : op ∈ named) (w : World) :
    Calls Tryz.prog 143 #[.int .i64 op] w fun e w' => e = .returned (.int .i64 (shp op)) ∧ w' = w := by
  simp only [named, List.mem_cons, List.not_mem_nil, or_false] at h
  rcases h with rfl | rfl | rfl | rfl | rfl | rfl | rfl | rfl | rfl | rfl | rfl | rfl | rfl | rfl | rfl | rfl | rfl | rfl | rfl | rfl | rfl | rfl | rfl | rfl | rfl | rfl | rfl | rfl | rfl | rfl | rfl | rfl
  all_goals
    go_enter Tryz.func143, Tryz.ntmps143
    go_wp2
    go_ret
    exact ⟨rfl, rfl⟩

set_option maxRecDepth 100000 in
set_option maxHeartbeats 1600000 in
theorem specShape_other (op : Int) (h : ¬ op ∈ named) (w : World) :
    Calls Tryz.prog 143 #[.int .i64 op] w fun e w' => e = .returned (.int .i64 (shp op)) ∧ w' = w := by
  have hs := shp_other op h
  simp only [named, List.mem_cons, List.not_mem_nil, or_false, not_or] at h
  obtain ⟨a0, a1, a2, a3, a4, a5, a6, a7, a8, a9, b0, b1, b2, b3, b4, b5, b6, b7, b8, b9, c0, c1, c2, c3, c4, c5, c6, c7, c8, c9, d0, d1⟩ := h
  obtain ⟨x, hx⟩ : ∃ x, Hid ((decide (97 ≤ op) && decide (op ≤ 123)) = x) := ⟨_, rfl⟩
  obtain ⟨y, hy⟩ : ∃ y, Hid ((decide (129 ≤ op) && decide (op ≤ 155)) = y) := ⟨_, rfl⟩
  obtain ⟨z, hz⟩ : ∃ z, Hid ((decide (161 ≤ op) && decide (op ≤ 169)) = z) := ⟨_, rfl⟩
  have HS : Hid (shp op = if (x || y || z) then 0 else -1) := by rw [← hx.out, ← hy.out, ← hz.out]; exact hs
  clear hs
  cases x <;> cases y <;> cases z
  all_goals
    go_enter Tryz.func143, Tryz.ntmps143
    go_wp2_with (go_at_call 36; refine (in_eq _ _ _ _ (by assumption) _).mono ?_; rintro e w1 ⟨rfl, hw⟩; obtain rfl := hw.symm)
    go_ret
    exact ⟨by rw [HS.out]; rfl, rfl⟩

end Go.Proofs.YtdcfflmfimepfaaGreat

namespace Go.Proofs.YtdcfflmfimepfaaGreat
open Go.ChangeShapes Go.WideShapes Go.ChangeAt Go.RowKit

set_option maxRecDepth 100000 in
set_option maxHeartbeats 400000 in
theorem isCounted_eq (n f l : Int) (r : Bool) (h : Hid ((decide (f + 1 ≤ n) && decide (n ≤ f + l)) = r)) (hb : Hid (0 ≤ f ∧ f ≤ 1000 ∧ 0 ≤ l ∧ l ≤ 1000)) (w : World) : Calls Tryz.prog 139 #[.int .i64 n, .int .i64 f, .int .i64 l] w fun e w' => e = .returned (.bool r) ∧ w' = w := by
  obtain ⟨h1, h2, h3, h4⟩ := hb.out
  have hw : wrap64 (f + l) = f + l := by unfold wrap64; omega
  have hr := h.out
  clear h1 h2 h3 h4 h
  by_cases g1 : f < n
  · by_cases g2 : n ≤ f + l
    · have e2 : decide (n ≤ f + l) = true := by simpa using g2
      rw [decide_eq_true (by omega), e2] at hr
      subst hr
      clear g2
      go_enter Tryz.func139, Tryz.ntmps139
      go_wp2
      go_ret
      exact ⟨rfl, rfl⟩
    · have e2 : decide (n ≤ f + l) = false := by simpa using g2
      rw [e2, Bool.and_false] at hr
      subst hr
      clear g2
      go_enter Tryz.func139, Tryz.ntmps139
      go_wp2
      go_ret
      exact ⟨rfl, rfl⟩
  · rw [decide_eq_false (by omega), Bool.false_and] at hr
    subst hr
    go_enter Tryz.func139, Tryz.ntmps139
    go_wp2
    go_ret
    exact ⟨rfl, rfl⟩

set_option maxRecDepth 100000 in
set_option maxHeartbeats 1600000 in
theorem isBare_yes (op : Int) (h : op ∈ bares) (w : World) :
    Calls Tryz.prog 144 #[.int .i64 op] w fun e w' => e = .returned (.bool true) ∧ w' = w := by
  simp only [bares, List.mem_cons, List.not_mem_nil, or_false] at h
  rcases h with rfl | rfl | rfl | rfl | rfl | rfl | rfl | rfl | rfl | rfl | rfl | rfl | rfl | rfl
  all_goals
    go_enter Tryz.func144, Tryz.ntmps144
    go_wp2
    go_ret
    exact ⟨rfl, rfl⟩

set_option maxRecDepth 100000 in
set_option maxHeartbeats 1600000 in
theorem isBare_other (op : Int) (h : ¬ op ∈ bares) (w : World) :
    Calls Tryz.prog 144 #[.int .i64 op] w fun e w' => e = .returned (.bool (counted op)) ∧ w' = w := by
  simp only [bares, List.mem_cons, List.not_mem_nil, or_false, not_or] at h
  obtain ⟨a0, a1, a2, a3, a4, a5, a6, a7, a8, a9, b0, b1, b2, b3⟩ := h
  obtain ⟨x, hx⟩ : ∃ x, Hid ((decide ((96 : Int) + 1 ≤ op) && decide (op ≤ 96 + 27)) = x) := ⟨_, rfl⟩
  obtain ⟨y, hy⟩ : ∃ y, Hid ((decide ((128 : Int) + 1 ≤ op) && decide (op ≤ 128 + 27)) = y) := ⟨_, rfl⟩
  obtain ⟨z, hz⟩ : ∃ z, Hid ((decide ((160 : Int) + 1 ≤ op) && decide (op ≤ 160 + 9)) = z) := ⟨_, rfl⟩
  have HS : Hid (counted op = (x || y || z)) := by rw [← hx.out, ← hy.out, ← hz.out]; exact rfl
  cases x <;> cases y <;> cases z
  all_goals
    go_enter Tryz.func144, Tryz.ntmps144
    go_wp2_with (go_at_call 139; refine (isCounted_eq _ _ _ _ (by assumption) (by unfold Hid; omega) _).mono ?_; rintro e w1 ⟨rfl, hw⟩; obtain rfl := hw.symm)
    go_ret
    exact ⟨by rw [HS.out]; rfl, rfl⟩

/-- The value that tells of what make A is. -/
def opv (k : Int) : Value :=
  if k = 0 then .iface 195 (.agg #[])
  else if k = 1 then .iface 144 (.agg #[])
  else if k = 2 then .iface 192 (.int .i64 1000)
  else if k = 3 then .iface 192 (.int .i64 10000)
  else if k = 4 then .iface 193 (.int .i64 32)
  else if k = 5 then .iface 193 (.int .i64 64)
  else if k = 6 then .iface 194 (.agg #[])
  else .nilIface

set_option maxRecDepth 100000 in
set_option maxHeartbeats 1600000 in
theorem operandOf_named (op : Int) (h : op ∈ named) (w : World) :
    Calls Tryz.prog 142 #[.int .i64 op] w fun e w' => e = .returned (opv (shp op)) ∧ w' = w := by
  simp only [named, List.mem_cons, List.not_mem_nil, or_false] at h
  rcases h with rfl | rfl | rfl | rfl | rfl | rfl | rfl | rfl | rfl | rfl | rfl | rfl | rfl | rfl | rfl | rfl | rfl | rfl | rfl | rfl | rfl | rfl | rfl | rfl | rfl | rfl | rfl | rfl | rfl | rfl | rfl | rfl
  all_goals
    go_enter Tryz.func142, Tryz.ntmps142
    go_wp2_with (go_at_call 144; refine (isBare_yes _ (by decide) _).mono ?_; rintro e w1 ⟨rfl, hw⟩; obtain rfl := hw.symm)
    go_ret
    exact ⟨rfl, rfl⟩

set_option maxRecDepth 100000 in
set_option maxHeartbeats 1600000 in
theorem operandOf_other (op : Int) (h : ¬ op ∈ named) (w : World) :
    Calls Tryz.prog 142 #[.int .i64 op] w fun e w' => e = .returned (opv (shp op)) ∧ w' = w := by
  have hs := shp_other op h
  have HB := isBare_other op (fun hb => h (by simp only [named, bares, List.mem_cons, List.not_mem_nil, or_false] at hb ⊢; omega))
  simp only [named, List.mem_cons, List.not_mem_nil, or_false, not_or] at h
  obtain ⟨a0, a1, a2, a3, a4, a5, a6, a7, a8, a9, b0, b1, b2, b3, b4, b5, b6, b7, b8, b9, c0, c1, c2, c3, c4, c5, c6, c7, c8, c9, d0, d1⟩ := h
  clear a0 a1 a2 a3 a4 a5 a6 a7 a8 a9 b0 b1 b2 b3
  rw [hs]
  clear hs
  generalize counted op = c at HB ⊢
  cases c
  all_goals
    go_enter Tryz.func142, Tryz.ntmps142
    go_wp2_with (go_at_call 144; refine (HB _).mono ?_; rintro e w1 ⟨rfl, hw⟩; obtain rfl := hw.symm)
    go_ret
    exact ⟨rfl, rfl⟩

theorem operandOf_eq (op : Int) (w : World) :
    Calls Tryz.prog 142 #[.int .i64 op] w fun e w' => e = .returned (opv (shp op)) ∧ w' = w := by
  by_cases h : op ∈ named
  · exact operandOf_named op h w
  · exact operandOf_other op h w

theorem specShape (op : Int) (w : World) :
    Calls Tryz.prog 143 #[.int .i64 op] w fun e w' => e = .returned (.int .i64 (shp op)) ∧ w' = w := by
  by_cases h : op ∈ named
  · exact specShape_named op h w
  · exact specShape_other op h w

theorem shp_one (op : Int) : shp op = 0 ∨ shp op = 1 ∨ shp op = 2 ∨ shp op = 3 ∨ shp op = 4 ∨ shp op = 5 ∨ shp op = 6 ∨ shp op = -1 := by
  unfold shp; repeat' split
  all_goals simp

end Go.Proofs.YtdcfflmfimepfaaGreat

namespace Go.Proofs.YtdcfflmfimepfaaGreat
open Go.ChangeShapes Go.WideShapes Go.ChangeAt Go.RowKit

/-- Whether A fits its kind. -/
def mayK (k a : Int) : Bool :=
  if k = 0 then a == 0
  else if k = 1 then (decide (125 ≤ a) && decide (a ≤ 127)) || a == 64
  else if k = 2 then decide (0 ≤ a) && decide (a ≤ 1000)
  else if k = 3 then decide (0 ≤ a) && decide (a ≤ 10000)
  else if k = 4 then decide (-2147483648 ≤ a) && decide (a ≤ 2147483647)
  else if k = 5 then true
  else if k = 6 then decide (0 ≤ a) && decide (a ≤ 4294967295)
  else false
def gi (op a : Int) : Bool := mayK (shp op) a

set_option maxRecDepth 100000 in
set_option maxHeartbeats 400000 in
theorem isType_eq (a : Int) (w : World) : Calls Tryz.prog 86 #[.int .i64 a] w fun e w' => e = .returned (.bool (decide (125 ≤ a) && decide (a ≤ 127))) ∧ w' = w := by
  by_cases h1 : a = 127
  · subst h1
    go_enter Tryz.func86, Tryz.ntmps86
    go_wp2
    go_ret
    exact ⟨rfl, rfl⟩
  · by_cases h2 : a = 126
    · subst h2
      go_enter Tryz.func86, Tryz.ntmps86
      go_wp2
      go_ret
      exact ⟨rfl, rfl⟩
    · by_cases h3 : a = 125
      · subst h3
        go_enter Tryz.func86, Tryz.ntmps86
        go_wp2
        go_ret
        exact ⟨rfl, rfl⟩
      · have e : (decide (125 ≤ a) && decide (a ≤ 127)) = false := by
          simp only [Bool.and_eq_false_iff, decide_eq_false_iff_not]; omega
        rw [e]
        have e1 : (a == 127) = false := by simpa using h1
        have e2 : (a == 126) = false := by simpa using h2
        have e3 : (a == 125) = false := by simpa using h3
        clear h1 h2 h3 e
        go_enter Tryz.func86, Tryz.ntmps86
        go_wp2
        go_ret
        exact ⟨rfl, rfl⟩

set_option maxRecDepth 100000 in
set_option maxHeartbeats 400000 in
theorem may0 (a : Int) (w : World) : Calls Tryz.prog 167 #[.agg #[], .int .i64 a] w fun e w' => e = .returned (.bool (mayK 0 a)) ∧ Below w.heap.size w w' := by
  go_enter Tryz.func167, Tryz.ntmps167
  go_wp2
  go_ret
  refine ⟨rfl, ?_⟩
  (repeat (first | refine Below.alloc ?_ (by first | (simp; done) | (simp; omega)) _ | refine Below.setCell ?_ (by first | (simp; done) | (simp; omega)) _ | refine bel_dN ?_ _ | refine Below.drew ?_ | exact Below.refl _ _))

set_option maxRecDepth 100000 in
set_option maxHeartbeats 400000 in
theorem may1 (a : Int) (w : World) : Calls Tryz.prog 89 #[.agg #[], .int .i64 a] w fun e w' => e = .returned (.bool (mayK 1 a)) ∧ Below w.heap.size w w' := by
  have T := isType_eq a
  have e : mayK 1 a = ((decide (125 ≤ a) && decide (a ≤ 127)) || a == 64) := rfl
  rw [e]
  clear e
  generalize (decide (125 ≤ a) && decide (a ≤ 127)) = x at T ⊢
  obtain ⟨y, hy⟩ : ∃ y, (a == 64) = y := ⟨_, rfl⟩
  rw [hy]
  cases x
  all_goals
    go_enter Tryz.func89, Tryz.ntmps89
    go_wp2_with (go_at_call 86; refine (T _).mono ?_; rintro e w1 ⟨rfl, hw⟩; obtain rfl := hw.symm)
    go_ret
    refine ⟨rfl, ?_⟩
    (repeat (first | refine Below.alloc ?_ (by first | (simp; done) | (simp; omega)) _ | refine Below.setCell ?_ (by first | (simp; done) | (simp; omega)) _ | refine bel_dN ?_ _ | refine Below.drew ?_ | exact Below.refl _ _))

set_option maxRecDepth 100000 in
set_option maxHeartbeats 400000 in
theorem mayUp (m a : Int) (w : World) : Calls Tryz.prog 163 #[.int .i64 m, .int .i64 a] w fun e w' => e = .returned (.bool (decide (0 ≤ a) && decide (a ≤ m))) ∧ w' = w := by
  by_cases h1 : 0 ≤ a
  · rw [decide_eq_true h1, Bool.true_and]
    obtain ⟨y, hy⟩ : ∃ y, decide (a ≤ m) = y := ⟨_, rfl⟩
    rw [hy]
    go_enter Tryz.func163, Tryz.ntmps163
    go_wp2
    go_ret
    exact ⟨rfl, rfl⟩
  · rw [decide_eq_false h1, Bool.false_and]
    go_enter Tryz.func163, Tryz.ntmps163
    go_wp2
    go_ret
    exact ⟨rfl, rfl⟩

set_option maxRecDepth 100000 in
set_option maxHeartbeats 400000 in
theorem may4 (a : Int) (h0 : -9223372036854775808 ≤ a) (h1 : a ≤ 9223372036854775807) (w : World) : Calls Tryz.prog 164 #[.int .i64 32, .int .i64 a] w fun e w' => e = .returned (.bool (mayK 4 a)) ∧ w' = w := by
  have e : mayK 4 a = (s32 (IntKind.u64.wrap a) == a) := by
    have e : mayK 4 a = (decide (-2147483648 ≤ a) && decide (a ≤ 2147483647)) := rfl
    rw [e, Bool.eq_iff_iff]
    simp only [Bool.and_eq_true, decide_eq_true_eq, beq_iff_eq]
    unfold s32; rw [IntKind.wrap_u64]; omega
  rw [e]
  have T := signed32 (IntKind.u64.wrap a)
  clear e
  generalize s32 (IntKind.u64.wrap a) = x at T ⊢
  obtain ⟨y, hy⟩ : ∃ y, (x == a) = y := ⟨_, rfl⟩
  rw [hy]
  clear h0 h1
  go_enter Tryz.func164, Tryz.ntmps164
  go_wp2_with (go_at_call 165; refine (T _).mono ?_; rintro e w1 ⟨rfl, hw⟩; obtain rfl := hw.symm)
  go_ret
  exact ⟨rfl, rfl⟩

set_option maxRecDepth 100000 in
set_option maxHeartbeats 400000 in
theorem may5 (a : Int) (h0 : -9223372036854775808 ≤ a) (h1 : a ≤ 9223372036854775807) (w : World) : Calls Tryz.prog 164 #[.int .i64 64, .int .i64 a] w fun e w' => e = .returned (.bool (mayK 5 a)) ∧ w' = w := by
  have T := signed64 (IntKind.u64.wrap a) (by rw [IntKind.wrap_u64]; omega) (by rw [IntKind.wrap_u64]; omega)
  have e : s64 (IntKind.u64.wrap a) = a := by unfold s64; rw [IntKind.wrap_u64]; omega
  rw [e] at T
  clear e h0 h1
  go_enter Tryz.func164, Tryz.ntmps164
  go_wp2_with (go_at_call 165; refine (T _).mono ?_; rintro e w1 ⟨rfl, hw⟩; obtain rfl := hw.symm)
  go_ret
  exact ⟨by simp [mayK], rfl⟩

set_option maxRecDepth 100000 in
set_option maxHeartbeats 400000 in
theorem may6 (a : Int) (h0 : -9223372036854775808 ≤ a) (h1 : a ≤ 9223372036854775807) (w : World) : Calls Tryz.prog 166 #[.agg #[], .int .i64 a] w fun e w' => e = .returned (.bool (mayK 6 a)) ∧ Below w.heap.size w w' := by
  have e : mayK 6 a = (IntKind.u64.wrap a % 4294967296 == IntKind.u64.wrap a) := by
    have e : mayK 6 a = (decide (0 ≤ a) && decide (a ≤ 4294967295)) := rfl
    rw [e, Bool.eq_iff_iff]
    simp only [Bool.and_eq_true, decide_eq_true_eq, beq_iff_eq]
    rw [IntKind.wrap_u64]; omega
  rw [e]
  have T := cut32 (IntKind.u64.wrap a)
  clear e
  generalize IntKind.u64.wrap a % 4294967296 = x at T ⊢
  obtain ⟨y, hy⟩ : ∃ y, (x == IntKind.u64.wrap a) = y := ⟨_, rfl⟩
  rw [hy]
  clear h0 h1
  go_enter Tryz.func166, Tryz.ntmps166
  go_wp2_with (go_at_call 87; refine (T _).mono ?_; rintro e w1 ⟨rfl, hw⟩; obtain rfl := hw.symm)
  go_ret
  refine ⟨rfl, ?_⟩
  (repeat (first | refine Below.alloc ?_ (by first | (simp; done) | (simp; omega)) _ | refine Below.setCell ?_ (by first | (simp; done) | (simp; omega)) _ | refine bel_dN ?_ _ | refine Below.drew ?_ | exact Below.refl _ _))

/-- A call of 'may' by its kind. -/
theorem below_same {w w' : World} (h : w' = w) : Below w.heap.size w w' := by subst h; exact Below.refl _ _

set_option maxRecDepth 100000 in
set_option maxHeartbeats 1600000 in
theorem implGoodIns (op a : Int) (h0 : -9223372036854775808 ≤ a) (h1 : a ≤ 9223372036854775807) (w : World) :
    Calls Tryz.prog 133 #[.agg #[.int .i64 op, .int .i64 a]] w fun e w' => e = .returned (.bool (gi op a)) ∧ Below w.heap.size w w' := by
  have O := operandOf_eq op
  have hg : gi op a = mayK (shp op) a := rfl
  rw [hg]
  rcases shp_one op with h | h | h | h | h | h | h | h
  all_goals
    rw [h] at O ⊢
  · have e : opv 0 = .iface 195 (.agg #[]) := rfl
    rw [e] at O
    have hm : ∀ w : World, (method 315 195 (.agg #[]) "loop.example/g00209/impl.may").run Tryz.prog w = .ok (167, .agg #[]) w := fun _ => by kernel_rfl
    have M : ∀ w : World, Calls Tryz.prog 167 #[.agg #[], .int .i64 a] w fun e w' => e = .returned (.bool (mayK 0 a)) ∧ Below w.heap.size w w' := fun w => may0 a w
    generalize mayK 0 a = r at M ⊢
    clear h hg e h0 h1
    go_enter Tryz.func133, Tryz.ntmps133
    go_wp2_with (first | (go_at_call 142; refine (O _).mono ?_; rintro e w1 ⟨rfl, hw⟩; obtain rfl := hw.symm) | (go_at_call 167; refine (M _).mono ?_; rintro e w2 ⟨rfl, hb⟩))
    go_ret
    refine ⟨rfl, ?_⟩
    ((repeat (first | refine bel_alloc ?_ _ | refine bel_dN ?_ _ | refine Below.drew ?_ | refine Below.setCell ?_ (by first | (simp; done) | (simp; omega)) _)); refine bel_step ?_ hb; (repeat (first | refine bel_alloc ?_ _ | refine bel_dN ?_ _ | refine Below.drew ?_ | refine Below.setCell ?_ (by first | (simp; done) | (simp; omega)) _)); exact Below.refl _ _)
  · have e : opv 1 = .iface 144 (.agg #[]) := rfl
    rw [e] at O
    have hm : ∀ w : World, (method 315 144 (.agg #[]) "loop.example/g00209/impl.may").run Tryz.prog w = .ok (89, .agg #[]) w := fun _ => by kernel_rfl
    have M : ∀ w : World, Calls Tryz.prog 89 #[.agg #[], .int .i64 a] w fun e w' => e = .returned (.bool (mayK 1 a)) ∧ Below w.heap.size w w' := fun w => may1 a w
    generalize mayK 1 a = r at M ⊢
    clear h hg e h0 h1
    go_enter Tryz.func133, Tryz.ntmps133
    go_wp2_with (first | (go_at_call 142; refine (O _).mono ?_; rintro e w1 ⟨rfl, hw⟩; obtain rfl := hw.symm) | (go_at_call 89; refine (M _).mono ?_; rintro e w2 ⟨rfl, hb⟩))
    go_ret
    refine ⟨rfl, ?_⟩
    ((repeat (first | refine bel_alloc ?_ _ | refine bel_dN ?_ _ | refine Below.drew ?_ | refine Below.setCell ?_ (by first | (simp; done) | (simp; omega)) _)); refine bel_step ?_ hb; (repeat (first | refine bel_alloc ?_ _ | refine bel_dN ?_ _ | refine Below.drew ?_ | refine Below.setCell ?_ (by first | (simp; done) | (simp; omega)) _)); exact Below.refl _ _)
  · have e : opv 2 = .iface 192 (.int .i64 1000) := rfl
    rw [e] at O
    have hm : ∀ w : World, (method 315 192 (.int .i64 1000) "loop.example/g00209/impl.may").run Tryz.prog w = .ok (163, .int .i64 1000) w := fun _ => by kernel_rfl
    have M : ∀ w : World, Calls Tryz.prog 163 #[.int .i64 1000, .int .i64 a] w fun e w' => e = .returned (.bool (mayK 2 a)) ∧ Below w.heap.size w w' := fun w => (mayUp 1000 a w).mono fun e w1 h => ⟨h.1, below_same h.2⟩
    generalize mayK 2 a = r at M ⊢
    clear h hg e h0 h1
    go_enter Tryz.func133, Tryz.ntmps133
    go_wp2_with (first | (go_at_call 142; refine (O _).mono ?_; rintro e w1 ⟨rfl, hw⟩; obtain rfl := hw.symm) | (go_at_call 163; refine (M _).mono ?_; rintro e w2 ⟨rfl, hb⟩))
    go_ret
    refine ⟨rfl, ?_⟩
    ((repeat (first | refine bel_alloc ?_ _ | refine bel_dN ?_ _ | refine Below.drew ?_ | refine Below.setCell ?_ (by first | (simp; done) | (simp; omega)) _)); refine bel_step ?_ hb; (repeat (first | refine bel_alloc ?_ _ | refine bel_dN ?_ _ | refine Below.drew ?_ | refine Below.setCell ?_ (by first | (simp; done) | (simp; omega)) _)); exact Below.refl _ _)
  · have e : opv 3 = .iface 192 (.int .i64 10000) := rfl
    rw [e] at O
    have hm : ∀ w : World, (method 315 192 (.int .i64 10000) "loop.example/g00209/impl.may").run Tryz.prog w = .ok (163, .int .i64 10000) w := fun _ => by kernel_rfl
    have M : ∀ w : World, Calls Tryz.prog 163 #[.int .i64 10000, .int .i64 a] w fun e w' => e = .returned (.bool (mayK 3 a)) ∧ Below w.heap.size w w' := fun w => (mayUp 10000 a w).mono fun e w1 h => ⟨h.1, below_same h.2⟩
    generalize mayK 3 a = r at M ⊢
    clear h hg e h0 h1
    go_enter Tryz.func133, Tryz.ntmps133
    go_wp2_with (first | (go_at_call 142; refine (O _).mono ?_; rintro e w1 ⟨rfl, hw⟩; obtain rfl := hw.symm) | (go_at_call 163; refine (M _).mono ?_; rintro e w2 ⟨rfl, hb⟩))
    go_ret
    refine ⟨rfl, ?_⟩
    ((repeat (first | refine bel_alloc ?_ _ | refine bel_dN ?_ _ | refine Below.drew ?_ | refine Below.setCell ?_ (by first | (simp; done) | (simp; omega)) _)); refine bel_step ?_ hb; (repeat (first | refine bel_alloc ?_ _ | refine bel_dN ?_ _ | refine Below.drew ?_ | refine Below.setCell ?_ (by first | (simp; done) | (simp; omega)) _)); exact Below.refl _ _)
  · have e : opv 4 = .iface 193 (.int .i64 32) := rfl
    rw [e] at O
    have hm : ∀ w : World, (method 315 193 (.int .i64 32) "loop.example/g00209/impl.may").run Tryz.prog w = .ok (164, .int .i64 32) w := fun _ => by kernel_rfl
    have M : ∀ w : World, Calls Tryz.prog 164 #[.int .i64 32, .int .i64 a] w fun e w' => e = .returned (.bool (mayK 4 a)) ∧ Below w.heap.size w w' := fun w => (may4 a h0 h1 w).mono fun e w1 h => ⟨h.1, below_same h.2⟩
    generalize mayK 4 a = r at M ⊢
    clear h hg e h0 h1
    go_enter Tryz.func133, Tryz.ntmps133
    go_wp2_with (first | (go_at_call 142; refine (O _).mono ?_; rintro e w1 ⟨rfl, hw⟩; obtain rfl := hw.symm) | (go_at_call 164; refine (M _).mono ?_; rintro e w2 ⟨rfl, hb⟩))
    go_ret
    refine ⟨rfl, ?_⟩
    ((repeat (first | refine bel_alloc ?_ _ | refine bel_dN ?_ _ | refine Below.drew ?_ | refine Below.setCell ?_ (by first | (simp; done) | (simp; omega)) _)); refine bel_step ?_ hb; (repeat (first | refine bel_alloc ?_ _ | refine bel_dN ?_ _ | refine Below.drew ?_ | refine Below.setCell ?_ (by first | (simp; done) | (simp; omega)) _)); exact Below.refl _ _)
  · have e : opv 5 = .iface 193 (.int .i64 64) := rfl
    rw [e] at O
    have hm : ∀ w : World, (method 315 193 (.int .i64 64) "loop.example/g00209/impl.may").run Tryz.prog w = .ok (164, .int .i64 64) w := fun _ => by kernel_rfl
    have M : ∀ w : World, Calls Tryz.prog 164 #[.int .i64 64, .int .i64 a] w fun e w' => e = .returned (.bool (mayK 5 a)) ∧ Below w.heap.size w w' := fun w => (may5 a h0 h1 w).mono fun e w1 h => ⟨h.1, below_same h.2⟩
    generalize mayK 5 a = r at M ⊢
    clear h hg e h0 h1
    go_enter Tryz.func133, Tryz.ntmps133
    go_wp2_with (first | (go_at_call 142; refine (O _).mono ?_; rintro e w1 ⟨rfl, hw⟩; obtain rfl := hw.symm) | (go_at_call 164; refine (M _).mono ?_; rintro e w2 ⟨rfl, hb⟩))
    go_ret
    refine ⟨rfl, ?_⟩
    ((repeat (first | refine bel_alloc ?_ _ | refine bel_dN ?_ _ | refine Below.drew ?_ | refine Below.setCell ?_ (by first | (simp; done) | (simp; omega)) _)); refine bel_step ?_ hb; (repeat (first | refine bel_alloc ?_ _ | refine bel_dN ?_ _ | refine Below.drew ?_ | refine Below.setCell ?_ (by first | (simp; done) | (simp; omega)) _)); exact Below.refl _ _)
  · have e : opv 6 = .iface 194 (.agg #[]) := rfl
    rw [e] at O
    have hm : ∀ w : World, (method 315 194 (.agg #[]) "loop.example/g00209/impl.may").run Tryz.prog w = .ok (166, .agg #[]) w := fun _ => by kernel_rfl
    have M : ∀ w : World, Calls Tryz.prog 166 #[.agg #[], .int .i64 a] w fun e w' => e = .returned (.bool (mayK 6 a)) ∧ Below w.heap.size w w' := fun w => may6 a h0 h1 w
    generalize mayK 6 a = r at M ⊢
    clear h hg e h0 h1
    go_enter Tryz.func133, Tryz.ntmps133
    go_wp2_with (first | (go_at_call 142; refine (O _).mono ?_; rintro e w1 ⟨rfl, hw⟩; obtain rfl := hw.symm) | (go_at_call 166; refine (M _).mono ?_; rintro e w2 ⟨rfl, hb⟩))
    go_ret
    refine ⟨rfl, ?_⟩
    ((repeat (first | refine bel_alloc ?_ _ | refine bel_dN ?_ _ | refine Below.drew ?_ | refine Below.setCell ?_ (by first | (simp; done) | (simp; omega)) _)); refine bel_step ?_ hb; (repeat (first | refine bel_alloc ?_ _ | refine bel_dN ?_ _ | refine Below.drew ?_ | refine Below.setCell ?_ (by first | (simp; done) | (simp; omega)) _)); exact Below.refl _ _)
  · have e : opv (-1) = .nilIface := rfl
    rw [e] at O
    have hr : mayK (-1) a = false := rfl
    rw [hr]
    clear h hg e h0 h1 hr
    go_enter Tryz.func133, Tryz.ntmps133
    go_wp2_with (go_at_call 142; refine (O _).mono ?_; rintro e w1 ⟨rfl, hw⟩; obtain rfl := hw.symm)
    go_ret
    refine ⟨rfl, ?_⟩
    (repeat (first | refine Below.alloc ?_ (by first | (simp; done) | (simp; omega)) _ | refine Below.setCell ?_ (by first | (simp; done) | (simp; omega)) _ | refine bel_dN ?_ _ | refine Below.drew ?_ | exact Below.refl _ _))

end Go.Proofs.YtdcfflmfimepfaaGreat
