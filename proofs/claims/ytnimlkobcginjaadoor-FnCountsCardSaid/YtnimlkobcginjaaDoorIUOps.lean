/-
  The operations on one number, one by one, and Unary of the program's side at an operation that is told.
-/
import Derived.Test.YtnimlkobcginjaaDoorIWid
import Derived.Test.YtnimlkobcginjaaDoorIULib
import Derived.Test.YtnimlkobcginjaaDoorIPop
import Derived.Test.YtnimlkobcginjaaDoorIUWork
import Derived.Shelf.Abstract
namespace Go.Proofs.YtnimlkobcginjaaDoor
open Go.RowKit

theorem uop_clz (b x l r : Int) (x0 : 0 ≤ x) (x1 : x ≤ 18446744073709551615) (hl : (Lib.bitLen x.toNat : Int) = l) (hr : wrap64 (b - l) = r) (hr2 : IntKind.u64.wrap r = r) (w : World) :
    Calls Tryd.prog 29 #[.int .i64 b, .int .u64 x] w fun e w' => e = .returned (.int .u64 r) ∧ w' = w := by
  have HL : Hid (∀ w, Calls Tryd.prog 36 #[.int .u64 x] w fun e w' => e = .returned (.int .i64 l) ∧ w' = w) := by
    intro w
    have := libLen x x0 x1 w
    rwa [hl] at this
  clear hl
  go_enter Tryd.func29, Tryd.ntmps29
  go_wp2_with (go_at_call 36; refine (HL.out _).mono ?_; rintro e w' ⟨rfl, rfl⟩)
  go_ret
  exact ⟨rfl, rfl⟩

theorem uop_ctz (b : Int) (x : Nat) (hx : x < 18446744073709551616) (r : Int) (hr : min b (Lib.ctz 64 x : Int) = r) (hr2 : IntKind.u64.wrap r = r) (w : World) (hT : Tabs w) :
    Calls Tryd.prog 30 #[.int .i64 b, .int .u64 (x : Int)] w fun e w' => e = .returned (.int .u64 r) ∧ w' = w := by
  have HL := libTz x hx w hT
  generalize (Lib.ctz 64 x : Int) = l at *
  clear hx
  go_enter Tryd.func30, Tryd.ntmps30
  go_wp2_with (go_at_call 37; refine HL.mono ?_; rintro e w' ⟨rfl, hw⟩; obtain rfl := hw.symm)
  go_ret
  exact ⟨rfl, rfl⟩

theorem uop_popcnt (b : Int) (x : Nat) (hx : x < 18446744073709551616) (r : Int) (hr : ((pc 64 x : Nat) : Int) = r) (hr2 : IntKind.u64.wrap r = r) (w : World) :
    Calls Tryd.prog 31 #[.int .i64 b, .int .u64 (x : Int)] w fun e w' => e = .returned (.int .u64 r) ∧ w' = w := by
  have HL : Hid (∀ w, Calls Tryd.prog 38 #[.int .u64 (x : Int)] w fun e w' => e = .returned (.int .i64 r) ∧ w' = w) := by
    intro w
    have := libOnes x hx w
    rwa [hr] at this
  clear hx hr
  go_enter Tryd.func31, Tryd.ntmps31
  go_wp2_with (go_at_call 38; refine (HL.out _).mono ?_; rintro e w' ⟨rfl, rfl⟩)
  go_ret
  exact ⟨rfl, rfl⟩

theorem uop_eqz (b x : Int) (w : World) :
    Calls Tryd.prog 32 #[.int .i64 b, .int .u64 x] w fun e w' => e = .returned (.int .u64 (x == 0).toNat) ∧ w' = w := by
  go_enter Tryd.func32, Tryd.ntmps32
  go_wp2_with (go_at_call 39; refine (implOne _ _).mono ?_; rintro e w' ⟨rfl, rfl⟩)
  go_ret
  exact ⟨rfl, rfl⟩

theorem uop_extend8 (b x : Int) (w : World) :
    Calls Tryd.prog 33 #[.int .i64 b, .int .u64 x] w fun e w' => e = .returned (.int .u64 (IntKind.u64.wrap (IntKind.i8.wrap x))) ∧ w' = w := by
  go_enter Tryd.func33, Tryd.ntmps33
  go_wp2
  go_ret
  exact ⟨rfl, rfl⟩

theorem uop_extend16 (b x : Int) (w : World) :
    Calls Tryd.prog 34 #[.int .i64 b, .int .u64 x] w fun e w' => e = .returned (.int .u64 (IntKind.u64.wrap (IntKind.i16.wrap x))) ∧ w' = w := by
  go_enter Tryd.func34, Tryd.ntmps34
  go_wp2
  go_ret
  exact ⟨rfl, rfl⟩

theorem ufn_nil (f : Nat) (w : World) : (binOp .eql 46 (.func (.func f) #[] #[]) .nilFunc).run Tryd.prog w = .ok (.bool false) w := rfl
theorem unil_nil (w : World) : (binOp .eql 46 .nilFunc .nilFunc).run Tryd.prog w = .ok (.bool true) w := rfl
theorem widthC (b : Int) (hb : b = 32 ∨ b = 64) (w : World) :
    Calls Tryd.prog 17 #[.int .i64 b] w fun e w' => e = .returned (.tuple #[.int .i64 b, .bool true]) ∧ w' = w := by
  rcases hb with rfl | rfl
  · exact implWidth32 w
  · exact implWidth64 w

set_option maxHeartbeats 400000 in
theorem unSome (b op a r : Int) (f : Nat) (hb : b = 32 ∨ b = 64) (a0 : 0 ≤ a) (a1 : a ≤ 18446744073709551615) (w : World)
    (hwork : Hid (Calls Tryd.prog 18 #[.int .i64 op] w fun e w' => e = .returned (.func (.func f) #[] #[]) ∧ Below w.heap.size w w'))
    (ef : ∀ args w, (callFunc f args).run Tryd.prog w = .ok (.enter f args) w)
    (hf : Hid (∀ w1, Below w.heap.size w w1 → Calls Tryd.prog f #[.int .i64 b, .int .u64 (cutW b a)] w1 fun e w' => e = .returned (.int .u64 r) ∧ w' = w1))
    (r0 : 0 ≤ r) (r1 : r ≤ 18446744073709551615) :
    Calls Tryd.prog 5 #[.int .i64 b, .int .i64 op, .int .u64 a] w fun e w' => e = .returned (.tuple #[.int .u64 (cutW b r), .int .i64 0]) ∧ Below w.heap.size w w' := by
  have HW : Hid (∀ w, Calls Tryd.prog 17 #[.int .i64 b] w fun e w' => e = .returned (.tuple #[.int .i64 b, .bool true]) ∧ w' = w) := fun w => widthC b hb w
  have hnil := ufn_nil f
  go_enter Tryd.func5, Tryd.ntmps5
  go_wp2_with (first | (go_at_call 17; refine (HW.out _).mono ?_; rintro e w' ⟨rfl, hw⟩; obtain rfl := hw.symm) | (go_at_call 18; refine hwork.out.mono ?_; rintro e w1 ⟨rfl, hbel⟩) | (go_at_call 19; refine (cutC _ _ hb (by assumption) (by assumption) _).mono ?_; rintro e w' ⟨rfl, rfl⟩) | (go_at_fn f; refine (hf.out _ (by assumption)).mono ?_; rintro e w2 ⟨rfl, rfl⟩))
  go_ret2
  exact ⟨rfl, by assumption⟩

set_option maxHeartbeats 400000 in
theorem unNoOp (b op a : Int) (hb : b = 32 ∨ b = 64) (w : World)
    (hwork : Hid (Calls Tryd.prog 18 #[.int .i64 op] w fun e w' => e = .returned .nilFunc ∧ Below w.heap.size w w')) :
    Calls Tryd.prog 5 #[.int .i64 b, .int .i64 op, .int .u64 a] w fun e w' => e = .returned (.tuple #[.int .u64 0, .int .i64 3]) ∧ Below w.heap.size w w' := by
  have HW : Hid (∀ w, Calls Tryd.prog 17 #[.int .i64 b] w fun e w' => e = .returned (.tuple #[.int .i64 b, .bool true]) ∧ w' = w) := fun w => widthC b hb w
  clear hb
  have hnil := unil_nil
  go_enter Tryd.func5, Tryd.ntmps5
  go_wp2_with (first | (go_at_call 17; refine (HW.out _).mono ?_; rintro e w' ⟨rfl, hw⟩; obtain rfl := hw.symm) | (go_at_call 18; refine hwork.out.mono ?_; rintro e w1 ⟨rfl, hbel⟩))
  go_ret2
  exact ⟨rfl, by assumption⟩

set_option maxHeartbeats 400000 in
theorem unNoBits (b op a : Int) (h1 : b ≠ 32) (h2 : b ≠ 64) (v : Value) (w : World)
    (hwork : Hid (Calls Tryd.prog 18 #[.int .i64 op] w fun e w' => e = .returned v ∧ Below w.heap.size w w')) :
    Calls Tryd.prog 5 #[.int .i64 b, .int .i64 op, .int .u64 a] w fun e w' => e = .returned (.tuple #[.int .u64 0, .int .i64 3]) ∧ Below w.heap.size w w' := by
  have HW : Hid (∀ w, Calls Tryd.prog 17 #[.int .i64 b] w fun e w' => e = .returned (.tuple #[.int .i64 0, .bool false]) ∧ w' = w) := fun w => implWidthNo b h1 h2 w
  clear h1 h2
  go_enter Tryd.func5, Tryd.ntmps5
  go_wp2_with (first | (go_at_call 17; refine (HW.out _).mono ?_; rintro e w' ⟨rfl, hw⟩; obtain rfl := hw.symm) | (go_at_call 18; refine hwork.out.mono ?_; rintro e w1 ⟨rfl, hbel⟩))
  go_ret2
  exact ⟨rfl, by assumption⟩

theorem tabs_lt {w : World} (h : Tabs w) : 0 < w.heap.size := by
  have h0 := h 0 (by decide)
  apply Nat.lt_of_not_le
  intro hle
  simp [World.cell?, Array.getElem?_eq_none hle] at h0
theorem tabs_keep {w w' : World} (h : Tabs w) (hb : Below w.heap.size w w') : Tabs w' := tabs_below h fun j => hb.cell (p := ⟨0, j, none⟩) (tabs_lt h)

end Go.Proofs.YtnimlkobcginjaaDoor
