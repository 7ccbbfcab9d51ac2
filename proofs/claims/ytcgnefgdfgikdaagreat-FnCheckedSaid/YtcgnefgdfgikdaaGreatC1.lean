/-
  Numbers of 32 and of 64 bits: the small functions of both sides.
-/
import Derived.Test.YtcgnefgdfgikdaaGreatRows
import Derived.Test.YtcgnefgdfgikdaaGreatA1
import Derived.WalkKit
import Derived.Below
import Derived.Laws.Bits64b
import Derived.Deep.QuietTactic
import Derived.BigQuiet
import Derived.WalkLawsBesides
import Derived.ProofKit
import Derived.OpenShut
import Derived.Deep.RegionWith
import Derived.Test.YtcgnefgdfgikdaaGreatU4
namespace Go.Proofs.YtcgnefgdfgikdaaGreat
open Go.RowKit

/-- What is read of 32 bits with a sign, and of 64. -/
def s32 (a : Int) : Int := (a + 2147483648) % 4294967296 - 2147483648
def s64 (a : Int) : Int := (a + 9223372036854775808) % 18446744073709551616 - 9223372036854775808


theorem mask32 (a : Int) (h0 : 0 ≤ a) (h1 : a ≤ 18446744073709551615) : bits .and .u64 a 4294967295 = a % 4294967296 := by
  obtain ⟨n, rfl⟩ := Int.eq_ofNat_of_zero_le h0
  have h := bits_and_u64_nat n 4294967295 (by omega) (by omega)
  have e : n &&& 4294967295 = n % 4294967296 := Nat.and_two_pow_sub_one_eq_mod n 32
  rw [e] at h
  exact h

theorem cut32 (a : Int) (w : World) :
    Calls Tryz.prog 39 #[.int .i64 32, .int .u64 a] w fun e w' => e = .returned (.int .u64 (a % 4294967296)) ∧ w' = w := by
  go_enter Tryz.func39, Tryz.ntmps39
  go_wp2
  go_ret
  refine ⟨ret_int ?_, rfl⟩
  rw [IntKind.wrap_u64]; omega

theorem cut64 (a : Int) (h0 : 0 ≤ a) (h1 : a ≤ 18446744073709551615) (w : World) :
    Calls Tryz.prog 39 #[.int .i64 64, .int .u64 a] w fun e w' => e = .returned (.int .u64 a) ∧ w' = w := by
  go_enter Tryz.func39, Tryz.ntmps39
  go_wp2
  go_ret
  refine ⟨ret_int ?_, rfl⟩
  rfl

theorem signed32 (a : Int) (w : World) :
    Calls Tryz.prog 121 #[.int .i64 32, .int .u64 a] w fun e w' => e = .returned (.int .i64 (s32 a)) ∧ w' = w := by
  go_enter Tryz.func121, Tryz.ntmps121
  go_wp2
  go_ret
  refine ⟨ret_int ?_, rfl⟩
  unfold s32 wrap64; rw [IntKind.wrap_u64]; omega

theorem signed64 (a : Int) (h0 : 0 ≤ a) (h1 : a ≤ 18446744073709551615) (w : World) :
    Calls Tryz.prog 121 #[.int .i64 64, .int .u64 a] w fun e w' => e = .returned (.int .i64 (s64 a)) ∧ w' = w := by
  go_enter Tryz.func121, Tryz.ntmps121
  go_wp2
  go_ret
  refine ⟨ret_int ?_, rfl⟩
  unfold s64 wrap64; omega

end Go.Proofs.YtcgnefgdfgikdaaGreat

namespace Go.Proofs.YtcgnefgdfgikdaaGreat
open Go.ChangeShapes Go.WideShapes Go.ChangeAt Go.RowKit

/-- The op's kind: 0 without A, 1 a block's type, 2 an index, 3 an offset, 4 and 5 numbers, 6 a float, -1 none. -/
def counted (op : Int) : Bool := (decide (97 ≤ op) && decide (op ≤ 123)) || (decide (129 ≤ op) && decide (op ≤ 155)) || (decide (161 ≤ op) && decide (op ≤ 169))
def bares : List Int := [0, 1, 5, 11, 15, 26, 27, 63, 64, 176, 177, 178, 179, 180]
def shp (op : Int) : Int :=
  if op ∈ bares then 0
  else if op ∈ [2, 3, 4] then 1
  else if op ∈ [12, 13, 16, 32, 33, 34, 35, 36] then 2
  else if op ∈ [40, 41, 54, 55] then 3
  else if op = 65 then 4
  else if op = 66 then 5
  else if op = 67 then 6
  else if counted op then 0 else -1
def named : List Int := [0, 1, 5, 11, 15, 26, 27, 63, 64, 176, 177, 178, 179, 180, 2, 3, 4, 12, 13, 16, 32, 33, 34, 35, 36, 40, 41, 54, 55, 65, 66, 67]
theorem shp_other (op : Int) (h : ¬ op ∈ named) : shp op = if counted op then 0 else -1 := by
  simp only [named, List.mem_cons, List.not_mem_nil, or_false, not_or] at h
  unfold shp bares
  simp only [List.mem_cons, List.not_mem_nil, or_false]
  simp only [h, or_false, if_false]

set_option maxRecDepth 100000 in
set_option maxHeartbeats 1600000 in
theorem specShape_named (op : Int) (h : op ∈ named) (w : World) :
    Calls Tryz.prog 92 #[.int .i64 op] w fun e w' => e = .returned (.int .i64 (shp op)) ∧ w' = w := by
  simp only [named, List.mem_cons, List.not_mem_nil, or_false] at h
  rcases h with rfl | rfl | rfl | rfl | rfl | rfl | rfl | rfl | rfl | rfl | rfl | rfl | rfl | rfl | rfl | rfl | rfl | rfl | rfl | rfl | rfl | rfl | rfl | rfl | rfl | rfl | rfl | rfl | rfl | rfl | rfl | rfl
  all_goals
    go_enter Tryz.func92, Tryz.ntmps92
    go_wp2
    go_ret
    exact ⟨rfl, rfl⟩

set_option maxRecDepth 100000 in
set_option maxHeartbeats 1600000 in
theorem specShape_other (op : Int) (h : ¬ op ∈ named) (w : World) :
    Calls Tryz.prog 92 #[.int .i64 op] w fun e w' => e = .returned (.int .i64 (shp op)) ∧ w' = w := by
  have hs := shp_other op h
  simp only [named, List.mem_cons, List.not_mem_nil, or_false, not_or] at h
  obtain ⟨a0, a1, a2, a3, a4, a5, a6, a7, a8, a9, b0, b1, b2, b3, b4, b5, b6, b7, b8, b9, c0, c1, c2, c3, c4, c5, c6, c7, c8, c9, d0, d1⟩ := h
  obtain ⟨x, hx⟩ : ∃ x, Hid ((decide (97 ≤ op) && decide (op ≤ 123)) = x) := ⟨_, rfl⟩
  obtain ⟨y, hy⟩ : ∃ y, Hid ((decide (129 ≤ op) && decide (op ≤ 155)) = y) := ⟨_, rfl⟩
  obtain ⟨z, hz⟩ : ∃ z, Hid ((decide (161 ≤ op) && decide (op ≤ 169)) = z) := ⟨_, rfl⟩
  have HS : Hid (shp op = if (x || y || z) then 0 else -1) := by rw [← hx.out, ← hy.out, ← hz.out]; exact hs
  clear hs
  cases x <;> cases y <;> cases z
  all_goals
    go_enter Tryz.func92, Tryz.ntmps92
    go_wp2_with (go_at_call 16; refine (in_eq _ _ _ _ (by assumption) _).mono ?_; rintro e w1 ⟨rfl, hw⟩; obtain rfl := hw.symm)
    go_ret
    exact ⟨by rw [HS.out]; rfl, rfl⟩

end Go.Proofs.YtcgnefgdfgikdaaGreat

namespace Go.Proofs.YtcgnefgdfgikdaaGreat
open Go.ChangeShapes Go.WideShapes Go.ChangeAt Go.RowKit

set_option maxRecDepth 100000 in
set_option maxHeartbeats 400000 in
theorem isCounted_eq (n f l : Int) (r : Bool) (h : Hid ((decide (f + 1 ≤ n) && decide (n ≤ f + l)) = r)) (hb : Hid (0 ≤ f ∧ f ≤ 1000 ∧ 0 ≤ l ∧ l ≤ 1000)) (w : World) : Calls Tryz.prog 89 #[.int .i64 n, .int .i64 f, .int .i64 l] w fun e w' => e = .returned (.bool r) ∧ w' = w := by
  obtain ⟨h1, h2, h3, h4⟩ := hb.out
  have hw : wrap64 (f + l) = f + l := by unfold wrap64; omega
  have hr := h.out
  clear h1 h2 h3 h4 h
  by_cases g1 : f < n
  · by_cases g2 : n ≤ f + l
    · have e2 : decide (n ≤ f + l) = true := by simpa using g2
      rw [decide_eq_true (by omega), e2] at hr
      subst hr
      clear g2
      go_enter Tryz.func89, Tryz.ntmps89
      go_wp2
      go_ret
      exact ⟨rfl, rfl⟩
    · have e2 : decide (n ≤ f + l) = false := by simpa using g2
      rw [e2, Bool.and_false] at hr
      subst hr
      clear g2
      go_enter Tryz.func89, Tryz.ntmps89
      go_wp2
      go_ret
      exact ⟨rfl, rfl⟩
  · rw [decide_eq_false (by omega), Bool.false_and] at hr
    subst hr
    go_enter Tryz.func89, Tryz.ntmps89
    go_wp2
    go_ret
    exact ⟨rfl, rfl⟩

set_option maxRecDepth 100000 in
set_option maxHeartbeats 1600000 in
theorem isBare_yes (op : Int) (h : op ∈ bares) (w : World) :
    Calls Tryz.prog 95 #[.int .i64 op] w fun e w' => e = .returned (.bool true) ∧ w' = w := by
  simp only [bares, List.mem_cons, List.not_mem_nil, or_false] at h
  rcases h with rfl | rfl | rfl | rfl | rfl | rfl | rfl | rfl | rfl | rfl | rfl | rfl | rfl | rfl
  all_goals
    go_enter Tryz.func95, Tryz.ntmps95
    go_wp2
    go_ret
    exact ⟨rfl, rfl⟩

set_option maxRecDepth 100000 in
set_option maxHeartbeats 1600000 in
theorem isBare_other (op : Int) (h : ¬ op ∈ bares) (w : World) :
    Calls Tryz.prog 95 #[.int .i64 op] w fun e w' => e = .returned (.bool (counted op)) ∧ w' = w := by
  simp only [bares, List.mem_cons, List.not_mem_nil, or_false, not_or] at h
  obtain ⟨a0, a1, a2, a3, a4, a5, a6, a7, a8, a9, b0, b1, b2, b3⟩ := h
  obtain ⟨x, hx⟩ : ∃ x, Hid ((decide ((96 : Int) + 1 ≤ op) && decide (op ≤ 96 + 27)) = x) := ⟨_, rfl⟩
  obtain ⟨y, hy⟩ : ∃ y, Hid ((decide ((128 : Int) + 1 ≤ op) && decide (op ≤ 128 + 27)) = y) := ⟨_, rfl⟩
  obtain ⟨z, hz⟩ : ∃ z, Hid ((decide ((160 : Int) + 1 ≤ op) && decide (op ≤ 160 + 9)) = z) := ⟨_, rfl⟩
  have HS : Hid (counted op = (x || y || z)) := by rw [← hx.out, ← hy.out, ← hz.out]; exact rfl
  cases x <;> cases y <;> cases z
  all_goals
    go_enter Tryz.func95, Tryz.ntmps95
    go_wp2_with (go_at_call 89; refine (isCounted_eq _ _ _ _ (by assumption) (by unfold Hid; omega) _).mono ?_; rintro e w1 ⟨rfl, hw⟩; obtain rfl := hw.symm)
    go_ret
    exact ⟨by rw [HS.out]; rfl, rfl⟩

/-- The value that tells of what make A is. -/
def opv (k : Int) : Value :=
  if k = 0 then .iface 136 (.agg #[])
  else if k = 1 then .iface 85 (.agg #[])
  else if k = 2 then .iface 133 (.int .i64 1000)
  else if k = 3 then .iface 133 (.int .i64 10000)
  else if k = 4 then .iface 134 (.int .i64 32)
  else if k = 5 then .iface 134 (.int .i64 64)
  else if k = 6 then .iface 135 (.agg #[])
  else .nilIface

set_option maxRecDepth 100000 in
set_option maxHeartbeats 1600000 in
theorem operandOf_named (op : Int) (h : op ∈ named) (w : World) :
    Calls Tryz.prog 93 #[.int .i64 op] w fun e w' => e = .returned (opv (shp op)) ∧ w' = w := by
  simp only [named, List.mem_cons, List.not_mem_nil, or_false] at h
  rcases h with rfl | rfl | rfl | rfl | rfl | rfl | rfl | rfl | rfl | rfl | rfl | rfl | rfl | rfl | rfl | rfl | rfl | rfl | rfl | rfl | rfl | rfl | rfl | rfl | rfl | rfl | rfl | rfl | rfl | rfl | rfl | rfl
  all_goals
    go_enter Tryz.func93, Tryz.ntmps93
    go_wp2_with (go_at_call 95; refine (isBare_yes _ (by decide) _).mono ?_; rintro e w1 ⟨rfl, hw⟩; obtain rfl := hw.symm)
    go_ret
    exact ⟨rfl, rfl⟩

set_option maxRecDepth 100000 in
set_option maxHeartbeats 1600000 in
theorem operandOf_other (op : Int) (h : ¬ op ∈ named) (w : World) :
    Calls Tryz.prog 93 #[.int .i64 op] w fun e w' => e = .returned (opv (shp op)) ∧ w' = w := by
  have hs := shp_other op h
  have HB := isBare_other op (fun hb => h (by simp only [named, bares, List.mem_cons, List.not_mem_nil, or_false] at hb ⊢; omega))
  simp only [named, List.mem_cons, List.not_mem_nil, or_false, not_or] at h
  obtain ⟨a0, a1, a2, a3, a4, a5, a6, a7, a8, a9, b0, b1, b2, b3, b4, b5, b6, b7, b8, b9, c0, c1, c2, c3, c4, c5, c6, c7, c8, c9, d0, d1⟩ := h
  clear a0 a1 a2 a3 a4 a5 a6 a7 a8 a9 b0 b1 b2 b3
  rw [hs]
  clear hs
  generalize counted op = c at HB ⊢
  cases c
  all_goals
    go_enter Tryz.func93, Tryz.ntmps93
    go_wp2_with (go_at_call 95; refine (HB _).mono ?_; rintro e w1 ⟨rfl, hw⟩; obtain rfl := hw.symm)
    go_ret
    exact ⟨rfl, rfl⟩

theorem operandOf_eq (op : Int) (w : World) :
    Calls Tryz.prog 93 #[.int .i64 op] w fun e w' => e = .returned (opv (shp op)) ∧ w' = w := by
  by_cases h : op ∈ named
  · exact operandOf_named op h w
  · exact operandOf_other op h w

theorem specShape (op : Int) (w : World) :
    Calls Tryz.prog 92 #[.int .i64 op] w fun e w' => e = .returned (.int .i64 (shp op)) ∧ w' = w := by
  by_cases h : op ∈ named
  · exact specShape_named op h w
  · exact specShape_other op h w

theorem shp_one (op : Int) : shp op = 0 ∨ shp op = 1 ∨ shp op = 2 ∨ shp op = 3 ∨ shp op = 4 ∨ shp op = 5 ∨ shp op = 6 ∨ shp op = -1 := by
  unfold shp; repeat' split
  all_goals simp

end Go.Proofs.YtcgnefgdfgikdaaGreat

namespace Go.Proofs.YtcgnefgdfgikdaaGreat
open Go.RowKit

theorem cell_of_block {w : World} {g : Nat} {arr : Array Value} {t : TypeId} (h : w.heap[g]? = some (.cells arr t (0, 0))) (i : Nat) : w.cell? ⟨g, i, none⟩ = arr[i]? := by
  simp [World.cell?, h]
theorem free_of_block {w : World} {g : Nat} {arr : Array Value} {t : TypeId} (h : w.heap[g]? = some (.cells arr t (0, 0))) (i : Nat) : w.frozen? ⟨g, i, none⟩ = false := by
  simp [World.frozen?, h]

end Go.Proofs.YtcgnefgdfgikdaaGreat

namespace Go.Proofs.YtcgnefgdfgikdaaGreat
open Go.ChangeShapes Go.WideShapes Go.ChangeAt Go.RowKit

/-- The instructions L lie from cell 'off' of block b on. -/
def insAt (w : World) (b off : Nat) (L : List (Int × Int)) : Prop :=
  ∀ i (h : i < L.length), w.cell? ⟨b, off + i * 2, none⟩ = some (.int .i64 L[i].1) ∧ w.cell? ⟨b, off + i * 2 + 1, none⟩ = some (.int .i64 L[i].2)

theorem ins_put (L : List (Int × Int)) (arr : Array Value) (k : Nat) (id : Int) (s : Int) (hk : k < L.length) (hs : arr.size = L.length * 2) (hx : (id, s) = L[k])
    (hA : ∀ j (h : j < L.length), j < k → arr[j * 2]? = some (.int .i64 L[j].1) ∧ arr[j * 2 + 1]? = some (.int .i64 L[j].2)) :
    ((arr.setIfInBounds (k * 2) (.int .i64 id)).setIfInBounds (k * 2 + 1) (.int .i64 s)).size = L.length * 2 ∧
    ∀ j (h : j < L.length), j < k + 1 → ((arr.setIfInBounds (k * 2) (.int .i64 id)).setIfInBounds (k * 2 + 1) (.int .i64 s))[j * 2]? = some (.int .i64 L[j].1) ∧ ((arr.setIfInBounds (k * 2) (.int .i64 id)).setIfInBounds (k * 2 + 1) (.int .i64 s))[j * 2 + 1]? = some (.int .i64 L[j].2) := by
  refine ⟨by simpa using hs, fun j hj hjk => ?_⟩
  by_cases e : j = k
  · subst e
    rw [← hx]
    constructor
    · rw [Array.getElem?_setIfInBounds_ne (by omega), Array.getElem?_setIfInBounds_self_of_lt (by omega)]
    · rw [Array.getElem?_setIfInBounds_self_of_lt (by simp; omega)]
  · have h := hA j hj (by omega)
    constructor
    · rw [Array.getElem?_setIfInBounds_ne (by omega), Array.getElem?_setIfInBounds_ne (by omega)]; exact h.1
    · rw [Array.getElem?_setIfInBounds_ne (by omega), Array.getElem?_setIfInBounds_ne (by omega)]; exact h.2

theorem Tryz.info41 : (Tryz.prog.info? 41).map (fun i => (i.zero, i.size, i.bytes)) = some (some (.agg #[.int .i64 0, .int .i64 0]), 2, 16) := by kernel_rfl

end Go.Proofs.YtcgnefgdfgikdaaGreat

namespace Go.Proofs.YtcgnefgdfgikdaaGreat
open Go.ChangeShapes Go.WideShapes Go.ChangeAt Go.RowKit

/-- Whether A fits its kind. -/
def mayK (k a : Int) : Bool :=
  if k = 0 then a == 0
  else if k = 1 then (decide (125 ≤ a) && decide (a ≤ 127)) || a == 64
  else if k = 2 then decide (0 ≤ a) && decide (a ≤ 1000)
  else if k = 3 then decide (0 ≤ a) && decide (a ≤ 10000)
  else if k = 4 then decide (-2147483648 ≤ a) && decide (a ≤ 2147483647)
  else if k = 5 then true
  else if k = 6 then decide (0 ≤ a) && decide (a ≤ 4294967295)
  else false
def gi (op a : Int) : Bool := mayK (shp op) a

set_option maxRecDepth 100000 in
set_option maxHeartbeats 400000 in
theorem isType_eq (a : Int) (w : World) : Calls Tryz.prog 38 #[.int .i64 a] w fun e w' => e = .returned (.bool (decide (125 ≤ a) && decide (a ≤ 127))) ∧ w' = w := by
  by_cases h1 : a = 127
  · subst h1
    go_enter Tryz.func38, Tryz.ntmps38
    go_wp2
    go_ret
    exact ⟨rfl, rfl⟩
  · by_cases h2 : a = 126
    · subst h2
      go_enter Tryz.func38, Tryz.ntmps38
      go_wp2
      go_ret
      exact ⟨rfl, rfl⟩
    · by_cases h3 : a = 125
      · subst h3
        go_enter Tryz.func38, Tryz.ntmps38
        go_wp2
        go_ret
        exact ⟨rfl, rfl⟩
      · have e : (decide (125 ≤ a) && decide (a ≤ 127)) = false := by
          simp only [Bool.and_eq_false_iff, decide_eq_false_iff_not]; omega
        rw [e]
        have e1 : (a == 127) = false := by simpa using h1
        have e2 : (a == 126) = false := by simpa using h2
        have e3 : (a == 125) = false := by simpa using h3
        clear h1 h2 h3 e
        go_enter Tryz.func38, Tryz.ntmps38
        go_wp2
        go_ret
        exact ⟨rfl, rfl⟩

set_option maxRecDepth 100000 in
set_option maxHeartbeats 400000 in
theorem may0 (a : Int) (w : World) : Calls Tryz.prog 123 #[.agg #[], .int .i64 a] w fun e w' => e = .returned (.bool (mayK 0 a)) ∧ Below w.heap.size w w' := by
  go_enter Tryz.func123, Tryz.ntmps123
  go_wp2
  go_ret
  refine ⟨rfl, ?_⟩
  (repeat (first | refine Below.alloc ?_ (by first | (simp; done) | (simp; omega)) _ | refine Below.setCell ?_ (by first | (simp; done) | (simp; omega)) _ | refine bel_dN ?_ _ | refine Below.drew ?_ | exact Below.refl _ _))

set_option maxRecDepth 100000 in
set_option maxHeartbeats 400000 in
theorem may1 (a : Int) (w : World) : Calls Tryz.prog 41 #[.agg #[], .int .i64 a] w fun e w' => e = .returned (.bool (mayK 1 a)) ∧ Below w.heap.size w w' := by
  have T := isType_eq a
  have e : mayK 1 a = ((decide (125 ≤ a) && decide (a ≤ 127)) || a == 64) := rfl
  rw [e]
  clear e
  generalize (decide (125 ≤ a) && decide (a ≤ 127)) = x at T ⊢
  obtain ⟨y, hy⟩ : ∃ y, (a == 64) = y := ⟨_, rfl⟩
  rw [hy]
  cases x
  all_goals
    go_enter Tryz.func41, Tryz.ntmps41
    go_wp2_with (go_at_call 38; refine (T _).mono ?_; rintro e w1 ⟨rfl, hw⟩; obtain rfl := hw.symm)
    go_ret
    refine ⟨rfl, ?_⟩
    (repeat (first | refine Below.alloc ?_ (by first | (simp; done) | (simp; omega)) _ | refine Below.setCell ?_ (by first | (simp; done) | (simp; omega)) _ | refine bel_dN ?_ _ | refine Below.drew ?_ | exact Below.refl _ _))

set_option maxRecDepth 100000 in
set_option maxHeartbeats 400000 in
theorem mayUp (m a : Int) (w : World) : Calls Tryz.prog 119 #[.int .i64 m, .int .i64 a] w fun e w' => e = .returned (.bool (decide (0 ≤ a) && decide (a ≤ m))) ∧ w' = w := by
  by_cases h1 : 0 ≤ a
  · rw [decide_eq_true h1, Bool.true_and]
    obtain ⟨y, hy⟩ : ∃ y, decide (a ≤ m) = y := ⟨_, rfl⟩
    rw [hy]
    go_enter Tryz.func119, Tryz.ntmps119
    go_wp2
    go_ret
    exact ⟨rfl, rfl⟩
  · rw [decide_eq_false h1, Bool.false_and]
    go_enter Tryz.func119, Tryz.ntmps119
    go_wp2
    go_ret
    exact ⟨rfl, rfl⟩

set_option maxRecDepth 100000 in
set_option maxHeartbeats 400000 in
theorem may4 (a : Int) (h0 : -9223372036854775808 ≤ a) (h1 : a ≤ 9223372036854775807) (w : World) : Calls Tryz.prog 120 #[.int .i64 32, .int .i64 a] w fun e w' => e = .returned (.bool (mayK 4 a)) ∧ w' = w := by
  have e : mayK 4 a = (s32 (IntKind.u64.wrap a) == a) := by
    have e : mayK 4 a = (decide (-2147483648 ≤ a) && decide (a ≤ 2147483647)) := rfl
    rw [e, Bool.eq_iff_iff]
    simp only [Bool.and_eq_true, decide_eq_true_eq, beq_iff_eq]
    unfold s32; rw [IntKind.wrap_u64]; omega
  rw [e]
  have T := signed32 (IntKind.u64.wrap a)
  clear e
  generalize s32 (IntKind.u64.wrap a) = x at T ⊢
  obtain ⟨y, hy⟩ : ∃ y, (x == a) = y := ⟨_, rfl⟩
  rw [hy]
  clear h0 h1
  go_enter Tryz.func120, Tryz.ntmps120
  go_wp2_with (go_at_call 121; refine (T _).mono ?_; rintro e w1 ⟨rfl, hw⟩; obtain rfl := hw.symm)
  go_ret
  exact ⟨rfl, rfl⟩

set_option maxRecDepth 100000 in
set_option maxHeartbeats 400000 in
theorem may5 (a : Int) (h0 : -9223372036854775808 ≤ a) (h1 : a ≤ 9223372036854775807) (w : World) : Calls Tryz.prog 120 #[.int .i64 64, .int .i64 a] w fun e w' => e = .returned (.bool (mayK 5 a)) ∧ w' = w := by
  have T := signed64 (IntKind.u64.wrap a) (by rw [IntKind.wrap_u64]; omega) (by rw [IntKind.wrap_u64]; omega)
  have e : s64 (IntKind.u64.wrap a) = a := by unfold s64; rw [IntKind.wrap_u64]; omega
  rw [e] at T
  clear e h0 h1
  go_enter Tryz.func120, Tryz.ntmps120
  go_wp2_with (go_at_call 121; refine (T _).mono ?_; rintro e w1 ⟨rfl, hw⟩; obtain rfl := hw.symm)
  go_ret
  exact ⟨by simp [mayK], rfl⟩

set_option maxRecDepth 100000 in
set_option maxHeartbeats 400000 in
theorem may6 (a : Int) (h0 : -9223372036854775808 ≤ a) (h1 : a ≤ 9223372036854775807) (w : World) : Calls Tryz.prog 122 #[.agg #[], .int .i64 a] w fun e w' => e = .returned (.bool (mayK 6 a)) ∧ Below w.heap.size w w' := by
  have e : mayK 6 a = (IntKind.u64.wrap a % 4294967296 == IntKind.u64.wrap a) := by
    have e : mayK 6 a = (decide (0 ≤ a) && decide (a ≤ 4294967295)) := rfl
    rw [e, Bool.eq_iff_iff]
    simp only [Bool.and_eq_true, decide_eq_true_eq, beq_iff_eq]
    rw [IntKind.wrap_u64]; omega
  rw [e]
  have T := cut32 (IntKind.u64.wrap a)
  clear e
  generalize IntKind.u64.wrap a % 4294967296 = x at T ⊢
  obtain ⟨y, hy⟩ : ∃ y, (x == IntKind.u64.wrap a) = y := ⟨_, rfl⟩
  rw [hy]
  clear h0 h1
  go_enter Tryz.func122, Tryz.ntmps122
  go_wp2_with (go_at_call 39; refine (T _).mono ?_; rintro e w1 ⟨rfl, hw⟩; obtain rfl := hw.symm)
  go_ret
  refine ⟨rfl, ?_⟩
  (repeat (first | refine Below.alloc ?_ (by first | (simp; done) | (simp; omega)) _ | refine Below.setCell ?_ (by first | (simp; done) | (simp; omega)) _ | refine bel_dN ?_ _ | refine Below.drew ?_ | exact Below.refl _ _))

/-- A call of 'may' by its kind. -/
theorem below_same {w w' : World} (h : w' = w) : Below w.heap.size w w' := by subst h; exact Below.refl _ _

set_option maxRecDepth 100000 in
set_option maxHeartbeats 1600000 in
theorem implGoodIns (op a : Int) (h0 : -9223372036854775808 ≤ a) (h1 : a ≤ 9223372036854775807) (w : World) :
    Calls Tryz.prog 82 #[.agg #[.int .i64 op, .int .i64 a]] w fun e w' => e = .returned (.bool (gi op a)) ∧ Below w.heap.size w w' := by
  have O := operandOf_eq op
  have hg : gi op a = mayK (shp op) a := rfl
  rw [hg]
  rcases shp_one op with h | h | h | h | h | h | h | h
  all_goals
    rw [h] at O ⊢
  · have e : opv 0 = .iface 136 (.agg #[]) := rfl
    rw [e] at O
    have hm : ∀ w : World, (method 256 136 (.agg #[]) "loop.example/g00209/impl.may").run Tryz.prog w = .ok (123, .agg #[]) w := fun _ => by kernel_rfl
    have M : ∀ w : World, Calls Tryz.prog 123 #[.agg #[], .int .i64 a] w fun e w' => e = .returned (.bool (mayK 0 a)) ∧ Below w.heap.size w w' := fun w => may0 a w
    generalize mayK 0 a = r at M ⊢
    clear h hg e h0 h1
    go_enter Tryz.func82, Tryz.ntmps82
    go_wp2_with (first | (go_at_call 93; refine (O _).mono ?_; rintro e w1 ⟨rfl, hw⟩; obtain rfl := hw.symm) | (go_at_call 123; refine (M _).mono ?_; rintro e w2 ⟨rfl, hb⟩))
    go_ret
    refine ⟨rfl, ?_⟩
    ((repeat (first | refine bel_alloc ?_ _ | refine bel_dN ?_ _ | refine Below.drew ?_ | refine Below.setCell ?_ (by first | (simp; done) | (simp; omega)) _)); refine bel_step ?_ hb; (repeat (first | refine bel_alloc ?_ _ | refine bel_dN ?_ _ | refine Below.drew ?_ | refine Below.setCell ?_ (by first | (simp; done) | (simp; omega)) _)); exact Below.refl _ _)
  · have e : opv 1 = .iface 85 (.agg #[]) := rfl
    rw [e] at O
    have hm : ∀ w : World, (method 256 85 (.agg #[]) "loop.example/g00209/impl.may").run Tryz.prog w = .ok (41, .agg #[]) w := fun _ => by kernel_rfl
    have M : ∀ w : World, Calls Tryz.prog 41 #[.agg #[], .int .i64 a] w fun e w' => e = .returned (.bool (mayK 1 a)) ∧ Below w.heap.size w w' := fun w => may1 a w
    generalize mayK 1 a = r at M ⊢
    clear h hg e h0 h1
    go_enter Tryz.func82, Tryz.ntmps82
    go_wp2_with (first | (go_at_call 93; refine (O _).mono ?_; rintro e w1 ⟨rfl, hw⟩; obtain rfl := hw.symm) | (go_at_call 41; refine (M _).mono ?_; rintro e w2 ⟨rfl, hb⟩))
    go_ret
    refine ⟨rfl, ?_⟩
    ((repeat (first | refine bel_alloc ?_ _ | refine bel_dN ?_ _ | refine Below.drew ?_ | refine Below.setCell ?_ (by first | (simp; done) | (simp; omega)) _)); refine bel_step ?_ hb; (repeat (first | refine bel_alloc ?_ _ | refine bel_dN ?_ _ | refine Below.drew ?_ | refine Below.setCell ?_ (by first | (simp; done) | (simp; omega)) _)); exact Below.refl _ _)
  · have e : opv 2 = .iface 133 (.int .i64 1000) := rfl
    rw [e] at O
    have hm : ∀ w : World, (method 256 133 (.int .i64 1000) "loop.example/g00209/impl.may").run Tryz.prog w = .ok (119, .int .i64 1000) w := fun _ => by kernel_rfl
    have M : ∀ w : World, Calls Tryz.prog 119 #[.int .i64 1000, .int .i64 a] w fun e w' => e = .returned (.bool (mayK 2 a)) ∧ Below w.heap.size w w' := fun w => (mayUp 1000 a w).mono fun e w1 h => ⟨h.1, below_same h.2⟩
    generalize mayK 2 a = r at M ⊢
    clear h hg e h0 h1
    go_enter Tryz.func82, Tryz.ntmps82
    go_wp2_with (first | (go_at_call 93; refine (O _).mono ?_; rintro e w1 ⟨rfl, hw⟩; obtain rfl := hw.symm) | (go_at_call 119; refine (M _).mono ?_; rintro e w2 ⟨rfl, hb⟩))
    go_ret
    refine ⟨rfl, ?_⟩
    ((repeat (first | refine bel_alloc ?_ _ | refine bel_dN ?_ _ | refine Below.drew ?_ | refine Below.setCell ?_ (by first | (simp; done) | (simp; omega)) _)); refine bel_step ?_ hb; (repeat (first | refine bel_alloc ?_ _ | refine bel_dN ?_ _ | refine Below.drew ?_ | refine Below.setCell ?_ (by first | (simp; done) | (simp; omega)) _)); exact Below.refl _ _)
  · have e : opv 3 = .iface 133 (.int .i64 10000) := rfl
    rw [e] at O
    have hm : ∀ w : World, (method 256 133 (.int .i64 10000) "loop.example/g00209/impl.may").run Tryz.prog w = .ok (119, .int .i64 10000) w := fun _ => by kernel_rfl
    have M : ∀ w : World, Calls Tryz.prog 119 #[.int .i64 10000, .int .i64 a] w fun e w' => e = .returned (.bool (mayK 3 a)) ∧ Below w.heap.size w w' := fun w => (mayUp 10000 a w).mono fun e w1 h => ⟨h.1, below_same h.2⟩
    generalize mayK 3 a = r at M ⊢
    clear h hg e h0 h1
    go_enter Tryz.func82, Tryz.ntmps82
    go_wp2_with (first | (go_at_call 93; refine (O _).mono ?_; rintro e w1 ⟨rfl, hw⟩; obtain rfl := hw.symm) | (go_at_call 119; refine (M _).mono ?_; rintro e w2 ⟨rfl, hb⟩))
    go_ret
    refine ⟨rfl, ?_⟩
    ((repeat (first | refine bel_alloc ?_ _ | refine bel_dN ?_ _ | refine Below.drew ?_ | refine Below.setCell ?_ (by first | (simp; done) | (simp; omega)) _)); refine bel_step ?_ hb; (repeat (first | refine bel_alloc ?_ _ | refine bel_dN ?_ _ | refine Below.drew ?_ | refine Below.setCell ?_ (by first | (simp; done) | (simp; omega)) _)); exact Below.refl _ _)
  · have e : opv 4 = .iface 134 (.int .i64 32) := rfl
    rw [e] at O
    have hm : ∀ w : World, (method 256 134 (.int .i64 32) "loop.example/g00209/impl.may").run Tryz.prog w = .ok (120, .int .i64 32) w := fun _ => by kernel_rfl
    have M : ∀ w : World, Calls Tryz.prog 120 #[.int .i64 32, .int .i64 a] w fun e w' => e = .returned (.bool (mayK 4 a)) ∧ Below w.heap.size w w' := fun w => (may4 a h0 h1 w).mono fun e w1 h => ⟨h.1, below_same h.2⟩
    generalize mayK 4 a = r at M ⊢
    clear h hg e h0 h1
    go_enter Tryz.func82, Tryz.ntmps82
    go_wp2_with (first | (go_at_call 93; refine (O _).mono ?_; rintro e w1 ⟨rfl, hw⟩; obtain rfl := hw.symm) | (go_at_call 120; refine (M _).mono ?_; rintro e w2 ⟨rfl, hb⟩))
    go_ret
    refine ⟨rfl, ?_⟩
    ((repeat (first | refine bel_alloc ?_ _ | refine bel_dN ?_ _ | refine Below.drew ?_ | refine Below.setCell ?_ (by first | (simp; done) | (simp; omega)) _)); refine bel_step ?_ hb; (repeat (first | refine bel_alloc ?_ _ | refine bel_dN ?_ _ | refine Below.drew ?_ | refine Below.setCell ?_ (by first | (simp; done) | (simp; omega)) _)); exact Below.refl _ _)
  · have e : opv 5 = .iface 134 (.int .i64 64) := rfl
    rw [e] at O
    have hm : ∀ w : World, (method 256 134 (.int .i64 64) "loop.example/g00209/impl.may").run Tryz.prog w = .ok (120, .int .i64 64) w := fun _ => by kernel_rfl
    have M : ∀ w : World, Calls Tryz.prog 120 #[.int .i64 64, .int .i64 a] w fun e w' => e = .returned (.bool (mayK 5 a)) ∧ Below w.heap.size w w' := fun w => (may5 a h0 h1 w).mono fun e w1 h => ⟨h.1, below_same h.2⟩
    generalize mayK 5 a = r at M ⊢
    clear h hg e h0 h1
    go_enter Tryz.func82, Tryz.ntmps82
    go_wp2_with (first | (go_at_call 93; refine (O _).mono ?_; rintro e w1 ⟨rfl, hw⟩; obtain rfl := hw.symm) | (go_at_call 120; refine (M _).mono ?_; rintro e w2 ⟨rfl, hb⟩))
    go_ret
    refine ⟨rfl, ?_⟩
    ((repeat (first | refine bel_alloc ?_ _ | refine bel_dN ?_ _ | refine Below.drew ?_ | refine Below.setCell ?_ (by first | (simp; done) | (simp; omega)) _)); refine bel_step ?_ hb; (repeat (first | refine bel_alloc ?_ _ | refine bel_dN ?_ _ | refine Below.drew ?_ | refine Below.setCell ?_ (by first | (simp; done) | (simp; omega)) _)); exact Below.refl _ _)
  · have e : opv 6 = .iface 135 (.agg #[]) := rfl
    rw [e] at O
    have hm : ∀ w : World, (method 256 135 (.agg #[]) "loop.example/g00209/impl.may").run Tryz.prog w = .ok (122, .agg #[]) w := fun _ => by kernel_rfl
    have M : ∀ w : World, Calls Tryz.prog 122 #[.agg #[], .int .i64 a] w fun e w' => e = .returned (.bool (mayK 6 a)) ∧ Below w.heap.size w w' := fun w => may6 a h0 h1 w
    generalize mayK 6 a = r at M ⊢
    clear h hg e h0 h1
    go_enter Tryz.func82, Tryz.ntmps82
    go_wp2_with (first | (go_at_call 93; refine (O _).mono ?_; rintro e w1 ⟨rfl, hw⟩; obtain rfl := hw.symm) | (go_at_call 122; refine (M _).mono ?_; rintro e w2 ⟨rfl, hb⟩))
    go_ret
    refine ⟨rfl, ?_⟩
    ((repeat (first | refine bel_alloc ?_ _ | refine bel_dN ?_ _ | refine Below.drew ?_ | refine Below.setCell ?_ (by first | (simp; done) | (simp; omega)) _)); refine bel_step ?_ hb; (repeat (first | refine bel_alloc ?_ _ | refine bel_dN ?_ _ | refine Below.drew ?_ | refine Below.setCell ?_ (by first | (simp; done) | (simp; omega)) _)); exact Below.refl _ _)
  · have e : opv (-1) = .nilIface := rfl
    rw [e] at O
    have hr : mayK (-1) a = false := rfl
    rw [hr]
    clear h hg e h0 h1 hr
    go_enter Tryz.func82, Tryz.ntmps82
    go_wp2_with (go_at_call 93; refine (O _).mono ?_; rintro e w1 ⟨rfl, hw⟩; obtain rfl := hw.symm)
    go_ret
    refine ⟨rfl, ?_⟩
    (repeat (first | refine Below.alloc ?_ (by first | (simp; done) | (simp; omega)) _ | refine Below.setCell ?_ (by first | (simp; done) | (simp; omega)) _ | refine bel_dN ?_ _ | refine Below.drew ?_ | exact Below.refl _ _))

end Go.Proofs.YtcgnefgdfgikdaaGreat

namespace Go.Proofs.YtcgnefgdfgikdaaGreat
open Go.ChangeShapes Go.WideShapes Go.ChangeAt Go.RowKit

set_option maxRecDepth 100000 in
set_option maxHeartbeats 400000 in
theorem specType (a : Int) (r : Bool) (h : Hid ((decide (125 ≤ a) && decide (a ≤ 127)) = r)) (w : World) : Calls Tryz.prog 19 #[.int .i64 a] w fun e w' => e = .returned (.bool r) ∧ w' = w := by
  go_enter Tryz.func19, Tryz.ntmps19
  go_wp2_with (go_at_call 16; refine (in_eq _ _ _ _ (by assumption) _).mono ?_; rintro e w1 ⟨rfl, hw⟩; obtain rfl := hw.symm)
  go_ret
  exact ⟨rfl, rfl⟩

set_option maxRecDepth 100000 in
set_option maxHeartbeats 1600000 in
theorem specGoodIns (op a : Int) (w : World) :
    Calls Tryz.prog 81 #[.agg #[.int .i64 op, .int .i64 a]] w fun e w' => e = .returned (.bool (gi op a)) ∧ Below w.heap.size w w' := by
  have O := specShape op
  have hg : gi op a = mayK (shp op) a := rfl
  rw [hg]
  rcases shp_one op with h | h | h | h | h | h | h | h
  all_goals
    rw [h] at O ⊢
    clear hg h
  · have e : mayK 0 a = (a == 0) := rfl
    rw [e]
    clear e
    go_enter Tryz.func81, Tryz.ntmps81
    go_wp2_with (go_at_call 92; refine (O _).mono ?_; rintro e w1 ⟨rfl, hw⟩; obtain rfl := hw.symm)
    go_ret
    refine ⟨rfl, ?_⟩
    (repeat (first | refine Below.alloc ?_ (by first | (simp; done) | (simp; omega)) _ | refine Below.setCell ?_ (by first | (simp; done) | (simp; omega)) _ | refine bel_dN ?_ _ | refine Below.drew ?_ | exact Below.refl _ _))
  · have e : mayK 1 a = ((decide (125 ≤ a) && decide (a ≤ 127)) || a == 64) := rfl
    rw [e]
    clear e
    obtain ⟨x, hx⟩ : ∃ x, Hid ((decide (125 ≤ a) && decide (a ≤ 127)) = x) := ⟨_, rfl⟩
    obtain ⟨y, hy⟩ : ∃ y, (a == 64) = y := ⟨_, rfl⟩
    rw [hx.out, hy]
    cases x
    all_goals
      go_enter Tryz.func81, Tryz.ntmps81
      go_wp2_with (first | (go_at_call 92; refine (O _).mono ?_; rintro e w1 ⟨rfl, hw⟩; obtain rfl := hw.symm) | (go_at_call 19; refine (specType _ _ (by assumption) _).mono ?_; rintro e w1 ⟨rfl, hw⟩; obtain rfl := hw.symm))
      go_ret
      refine ⟨rfl, ?_⟩
      (repeat (first | refine Below.alloc ?_ (by first | (simp; done) | (simp; omega)) _ | refine Below.setCell ?_ (by first | (simp; done) | (simp; omega)) _ | refine bel_dN ?_ _ | refine Below.drew ?_ | exact Below.refl _ _))
  · have e : mayK 2 a = (decide (0 ≤ a) && decide (a ≤ 1000)) := rfl
    rw [e]
    clear e
    obtain ⟨x, hx⟩ : ∃ x, Hid ((decide (0 ≤ a) && decide (a ≤ 1000)) = x) := ⟨_, rfl⟩
    rw [hx.out]
    go_enter Tryz.func81, Tryz.ntmps81
    go_wp2_with (first | (go_at_call 92; refine (O _).mono ?_; rintro e w1 ⟨rfl, hw⟩; obtain rfl := hw.symm) | (go_at_call 16; refine (in_eq _ _ _ _ (by assumption) _).mono ?_; rintro e w1 ⟨rfl, hw⟩; obtain rfl := hw.symm))
    go_ret
    refine ⟨rfl, ?_⟩
    (repeat (first | refine Below.alloc ?_ (by first | (simp; done) | (simp; omega)) _ | refine Below.setCell ?_ (by first | (simp; done) | (simp; omega)) _ | refine bel_dN ?_ _ | refine Below.drew ?_ | exact Below.refl _ _))
  · have e : mayK 3 a = (decide (0 ≤ a) && decide (a ≤ 10000)) := rfl
    rw [e]
    clear e
    obtain ⟨x, hx⟩ : ∃ x, Hid ((decide (0 ≤ a) && decide (a ≤ 10000)) = x) := ⟨_, rfl⟩
    rw [hx.out]
    go_enter Tryz.func81, Tryz.ntmps81
    go_wp2_with (first | (go_at_call 92; refine (O _).mono ?_; rintro e w1 ⟨rfl, hw⟩; obtain rfl := hw.symm) | (go_at_call 16; refine (in_eq _ _ _ _ (by assumption) _).mono ?_; rintro e w1 ⟨rfl, hw⟩; obtain rfl := hw.symm))
    go_ret
    refine ⟨rfl, ?_⟩
    (repeat (first | refine Below.alloc ?_ (by first | (simp; done) | (simp; omega)) _ | refine Below.setCell ?_ (by first | (simp; done) | (simp; omega)) _ | refine bel_dN ?_ _ | refine Below.drew ?_ | exact Below.refl _ _))
  · have e : mayK 4 a = (decide (-2147483648 ≤ a) && decide (a ≤ 2147483647)) := rfl
    rw [e]
    clear e
    obtain ⟨x, hx⟩ : ∃ x, Hid ((decide (-2147483648 ≤ a) && decide (a ≤ 2147483647)) = x) := ⟨_, rfl⟩
    rw [hx.out]
    go_enter Tryz.func81, Tryz.ntmps81
    go_wp2_with (first | (go_at_call 92; refine (O _).mono ?_; rintro e w1 ⟨rfl, hw⟩; obtain rfl := hw.symm) | (go_at_call 16; refine (in_eq _ _ _ _ (by assumption) _).mono ?_; rintro e w1 ⟨rfl, hw⟩; obtain rfl := hw.symm))
    go_ret
    refine ⟨rfl, ?_⟩
    (repeat (first | refine Below.alloc ?_ (by first | (simp; done) | (simp; omega)) _ | refine Below.setCell ?_ (by first | (simp; done) | (simp; omega)) _ | refine bel_dN ?_ _ | refine Below.drew ?_ | exact Below.refl _ _))
  · have e : mayK 5 a = true := rfl
    rw [e]
    clear e
    go_enter Tryz.func81, Tryz.ntmps81
    go_wp2_with (go_at_call 92; refine (O _).mono ?_; rintro e w1 ⟨rfl, hw⟩; obtain rfl := hw.symm)
    go_ret
    refine ⟨rfl, ?_⟩
    (repeat (first | refine Below.alloc ?_ (by first | (simp; done) | (simp; omega)) _ | refine Below.setCell ?_ (by first | (simp; done) | (simp; omega)) _ | refine bel_dN ?_ _ | refine Below.drew ?_ | exact Below.refl _ _))
  · have e : mayK 6 a = (decide (0 ≤ a) && decide (a ≤ 4294967295)) := rfl
    rw [e]
    clear e
    obtain ⟨x, hx⟩ : ∃ x, Hid ((decide (0 ≤ a) && decide (a ≤ 4294967295)) = x) := ⟨_, rfl⟩
    rw [hx.out]
    go_enter Tryz.func81, Tryz.ntmps81
    go_wp2_with (first | (go_at_call 92; refine (O _).mono ?_; rintro e w1 ⟨rfl, hw⟩; obtain rfl := hw.symm) | (go_at_call 16; refine (in_eq _ _ _ _ (by assumption) _).mono ?_; rintro e w1 ⟨rfl, hw⟩; obtain rfl := hw.symm))
    go_ret
    refine ⟨rfl, ?_⟩
    (repeat (first | refine Below.alloc ?_ (by first | (simp; done) | (simp; omega)) _ | refine Below.setCell ?_ (by first | (simp; done) | (simp; omega)) _ | refine bel_dN ?_ _ | refine Below.drew ?_ | exact Below.refl _ _))
  · have e : mayK (-1) a = false := rfl
    rw [e]
    clear e
    go_enter Tryz.func81, Tryz.ntmps81
    go_wp2_with (go_at_call 92; refine (O _).mono ?_; rintro e w1 ⟨rfl, hw⟩; obtain rfl := hw.symm)
    go_ret
    refine ⟨rfl, ?_⟩
    (repeat (first | refine Below.alloc ?_ (by first | (simp; done) | (simp; omega)) _ | refine Below.setCell ?_ (by first | (simp; done) | (simp; omega)) _ | refine bel_dN ?_ _ | refine Below.drew ?_ | exact Below.refl _ _))

end Go.Proofs.YtcgnefgdfgikdaaGreat

namespace Go.Proofs.YtcgnefgdfgikdaaGreat
open Go.ChangeShapes Go.WideShapes Go.ChangeAt Go.RowKit

def allG (L : List (Int × Int)) : Bool := L.all fun x => gi x.1 x.2
theorem allG_take (L : List (Int × Int)) (k : Nat) (h : k < L.length) : allG (L.take (k + 1)) = (allG (L.take k) && gi L[k].1 L[k].2) := by
  unfold allG; rw [List.take_succ_eq_append_getElem h, List.all_append]; simp
theorem allG_no (L : List (Int × Int)) (k : Nat) (h : k < L.length) (hg : gi L[k].1 L[k].2 = false) : allG L = false := by
  unfold allG
  rw [List.all_eq_false]
  exact ⟨L[k], List.getElem_mem h, by simp [hg]⟩
theorem allG_at (L : List (Int × Int)) (k : Nat) (h : k < L.length) (hg : allG L = true) : gi L[k].1 L[k].2 = true := by
  unfold allG at hg
  rw [List.all_eq_true] at hg
  exact hg _ (List.getElem_mem h)

end Go.Proofs.YtcgnefgdfgikdaaGreat
