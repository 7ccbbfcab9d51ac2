/-
  Binary of the program's side at an operation that is told.
-/
import Derived.Test.YtcnjllecobhalaaITrap
import Derived.Shelf.Abstract
namespace Go.Proofs.Ytcnjllecobhalaa
open Go.RowKit

set_option maxRecDepth 1000000 in
theorem fn_nil (f : Nat) (w : World) : (binOp .eql 68 (.func (.func f) #[] #[]) .nilFunc).run Try.prog w = .ok (.bool false) w := rfl

set_option maxHeartbeats 400000 in
theorem binTrap (b op a c t : Int) (f : Nat) (hb : b = 32 ∨ b = 64) (a0 : 0 ≤ a) (a1 : a ≤ 18446744073709551615) (c0 : 0 ≤ c) (c1 : c ≤ 18446744073709551615)
    (hwork : Hid (∀ w, Calls Try.prog 43 #[.int .i64 op] w fun e w' => e = .returned (.func (.func f) #[] #[]) ∧ Below w.heap.size w w'))
    (ht : trapV b op (cutW b a) (cutW b c) = t) (ht0 : (t != 0) = true) (w : World) :
    Calls Try.prog 10 #[.int .i64 b, .int .i64 op, .int .u64 a, .int .u64 c] w fun e w' => e = .returned (.tuple #[.int .u64 0, .int .i64 t]) ∧ Below w.heap.size w w' := by
  have cb := cutW_le b c c0
  have HT : Hid (∀ w, Calls Try.prog 45 #[.int .i64 b, .int .i64 op, .int .u64 (cutW b a), .int .u64 (cutW b c)] w fun e w' => e = .returned (.int .i64 t) ∧ w' = w) := by
    intro w
    have := trapC b op (cutW b a) (cutW b c) hb cb.1 (by omega) w
    rwa [ht] at this
  have HW : Hid (∀ w, Calls Try.prog 42 #[.int .i64 b] w fun e w' => e = .returned (.tuple #[.int .i64 b, .bool true]) ∧ w' = w) := fun w => widthC b hb w
  clear cb ht
  have hnil := fn_nil f
  go_enter Try.func10, Try.ntmps10
  go_wp2_with (first | (go_at_call 42; refine (HW.out _).mono ?_; rintro e w' ⟨rfl, hw⟩; obtain rfl := hw.symm) | (go_at_call 43; refine (hwork.out _).mono ?_; rintro e w1 ⟨rfl, hbel⟩) | (go_at_call 44; refine (cutC _ _ hb (by assumption) (by assumption) _).mono ?_; rintro e w' ⟨rfl, rfl⟩) | (go_at_call 45; refine (HT.out _).mono ?_; rintro e w' ⟨rfl, rfl⟩))
  go_ret2
  exact ⟨rfl, by assumption⟩

set_option maxHeartbeats 400000 in
theorem binNone (b op a c r : Int) (f : Nat) (hb : b = 32 ∨ b = 64) (a0 : 0 ≤ a) (a1 : a ≤ 18446744073709551615) (c0 : 0 ≤ c) (c1 : c ≤ 18446744073709551615)
    (hwork : Hid (∀ w, Calls Try.prog 43 #[.int .i64 op] w fun e w' => e = .returned (.func (.func f) #[] #[]) ∧ Below w.heap.size w w'))
    (ht : trapV b op (cutW b a) (cutW b c) = 0) (ef : ∀ args w, (callFunc f args).run Try.prog w = .ok (.enter f args) w)
    (hf : Hid (∀ w, Calls Try.prog f #[.int .i64 b, .int .u64 (cutW b a), .int .u64 (cutW b c)] w fun e w' => e = .returned (.int .u64 r) ∧ Below w.heap.size w w'))
    (r0 : 0 ≤ r) (r1 : r ≤ 18446744073709551615) (w : World) :
    Calls Try.prog 10 #[.int .i64 b, .int .i64 op, .int .u64 a, .int .u64 c] w fun e w' => e = .returned (.tuple #[.int .u64 (cutW b r), .int .i64 0]) ∧ Below w.heap.size w w' := by
  have cb := cutW_le b c c0
  have HT : Hid (∀ w, Calls Try.prog 45 #[.int .i64 b, .int .i64 op, .int .u64 (cutW b a), .int .u64 (cutW b c)] w fun e w' => e = .returned (.int .i64 0) ∧ w' = w) := by
    intro w
    have := trapC b op (cutW b a) (cutW b c) hb cb.1 (by omega) w
    rwa [ht] at this
  have HW : Hid (∀ w, Calls Try.prog 42 #[.int .i64 b] w fun e w' => e = .returned (.tuple #[.int .i64 b, .bool true]) ∧ w' = w) := fun w => widthC b hb w
  clear cb ht
  have hnil := fn_nil f
  go_enter Try.func10, Try.ntmps10
  go_wp2_with (first | (go_at_call 42; refine (HW.out _).mono ?_; rintro e w' ⟨rfl, hw⟩; obtain rfl := hw.symm) | (go_at_call 43; refine (hwork.out _).mono ?_; rintro e w1 ⟨rfl, hbel⟩) | (go_at_call 44; refine (cutC _ _ hb (by assumption) (by assumption) _).mono ?_; rintro e w' ⟨rfl, rfl⟩) | (go_at_call 45; refine (HT.out _).mono ?_; rintro e w' ⟨rfl, rfl⟩) | (go_at_fn f; refine (hf.out _).mono ?_; rintro e w2 ⟨rfl, hbel2⟩))
  go_ret2
  exact ⟨rfl, Below.trans (by assumption) (Below.mono (by assumption) (Below.size (by assumption)))⟩

set_option maxRecDepth 1000000 in
theorem nil_nil (w : World) : (binOp .eql 68 .nilFunc .nilFunc).run Try.prog w = .ok (.bool true) w := rfl

set_option maxHeartbeats 400000 in
theorem binNoOp (b op a c : Int) (hb : b = 32 ∨ b = 64)
    (hwork : Hid (∀ w, Calls Try.prog 43 #[.int .i64 op] w fun e w' => e = .returned .nilFunc ∧ Below w.heap.size w w')) (w : World) :
    Calls Try.prog 10 #[.int .i64 b, .int .i64 op, .int .u64 a, .int .u64 c] w fun e w' => e = .returned (.tuple #[.int .u64 0, .int .i64 3]) ∧ Below w.heap.size w w' := by
  have HW : Hid (∀ w, Calls Try.prog 42 #[.int .i64 b] w fun e w' => e = .returned (.tuple #[.int .i64 b, .bool true]) ∧ w' = w) := fun w => widthC b hb w
  clear hb
  have hnil := nil_nil
  go_enter Try.func10, Try.ntmps10
  go_wp2_with (first | (go_at_call 42; refine (HW.out _).mono ?_; rintro e w' ⟨rfl, hw⟩; obtain rfl := hw.symm) | (go_at_call 43; refine (hwork.out _).mono ?_; rintro e w1 ⟨rfl, hbel⟩))
  go_ret2
  exact ⟨rfl, by assumption⟩

set_option maxHeartbeats 400000 in
theorem binNoBits (b op a c : Int) (h1 : b ≠ 32) (h2 : b ≠ 64) (v : Value)
    (hwork : Hid (∀ w, Calls Try.prog 43 #[.int .i64 op] w fun e w' => e = .returned v ∧ Below w.heap.size w w')) (w : World) :
    Calls Try.prog 10 #[.int .i64 b, .int .i64 op, .int .u64 a, .int .u64 c] w fun e w' => e = .returned (.tuple #[.int .u64 0, .int .i64 3]) ∧ Below w.heap.size w w' := by
  have HW : Hid (∀ w, Calls Try.prog 42 #[.int .i64 b] w fun e w' => e = .returned (.tuple #[.int .i64 0, .bool false]) ∧ w' = w) := fun w => implWidthNo b h1 h2 w
  clear h1 h2
  go_enter Try.func10, Try.ntmps10
  go_wp2_with (first | (go_at_call 42; refine (HW.out _).mono ?_; rintro e w' ⟨rfl, hw⟩; obtain rfl := hw.symm) | (go_at_call 43; refine (hwork.out _).mono ?_; rintro e w1 ⟨rfl, hbel⟩))
  go_ret2
  exact ⟨rfl, by assumption⟩

end Go.Proofs.Ytcnjllecobhalaa
