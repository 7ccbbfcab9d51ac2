/-
  The bytes of instructions: the program's own side.
-/
import Derived.Test.YtokaljglaholnaaCBytes
import Derived.Test.YtokaljglaholnaaCAssert
namespace Go.Proofs.Ytokaljglaholnaa
open Go.ChangeShapes Go.WideShapes Go.ChangeAt Go.RowKit

set_option maxRecDepth 100000 in
set_option maxHeartbeats 1600000 in
theorem operandBytes_eq (k a : Int) (hk : k = 0 ∨ k = 1 ∨ k = 2 ∨ k = 3 ∨ k = 4 ∨ k = 5 ∨ k = 6) (hm : mayK k a = true) (h0 : -9223372036854775808 ≤ a) (h1 : a ≤ 9223372036854775807) (w : World) :
    Calls Try.prog 72 #[opv k, .int .i64 a] w fun e w' => e = .returned (.string ⟨(ob k a).toArray⟩) ∧ Below w.heap.size w w' := by
  rcases hk with rfl | rfl | rfl | rfl | rfl | rfl | rfl
  · have e : opv 0 = .iface 136 (.agg #[]) := rfl
    rw [e]
    clear e
    have t0 := ta_noOperand_blockType (.agg #[])
    have t1 := ta_noOperand_upTo (.agg #[])
    have t2 := ta_noOperand_signedBits (.agg #[])
    have t3 := ta_noOperand_floatBits (.agg #[])
    clear hm h0 h1
    go_enter Try.func72, Try.ntmps72
    go_wp2
    go_ret
    exact ⟨rfl, Below.refl _ _⟩
  · have e : opv 1 = .iface 105 (.agg #[]) := rfl
    rw [e]
    clear e
    have t0 := ta_blockType_blockType (.agg #[])
    obtain ⟨g0, g1⟩ := may_nat (by omega) hm
    obtain ⟨n, rfl⟩ : ∃ n : Nat, a = n := ⟨a.toNat, by omega⟩
    have hw : IntKind.u64.wrap (n : Int) = n := by rw [IntKind.wrap_u64]; omega
    have H : Hid (∀ w : World, Calls Try.prog 61 #[.int .u64 (n : Int), .int .i64 1] w fun e w' => e = .returned (.string ⟨(leB n 1).toArray⟩) ∧ Below w.heap.size w w') := fun w => numberBytes n 1 (by omega) w
    clear hm h0 h1
    clear g0 g1
    go_enter Try.func72, Try.ntmps72
    go_wp2_with (go_at_call 61; refine (H.out _).mono ?_; rintro e w1 ⟨rfl, hb⟩; clear H)
    go_ret
    exact ⟨rfl, by assumption⟩
  · have e : opv 2 = .iface 133 (.int .i64 1000) := rfl
    rw [e]
    clear e
    have t0 := ta_upTo_blockType (.int .i64 1000)
    have t1 := ta_upTo_upTo (.int .i64 1000)
    obtain ⟨g0, g1⟩ := may_nat (by omega) hm
    obtain ⟨n, rfl⟩ : ∃ n : Nat, a = n := ⟨a.toNat, by omega⟩
    have hw : IntKind.u64.wrap (n : Int) = n := by rw [IntKind.wrap_u64]; omega
    have H : Hid (∀ w : World, Calls Try.prog 59 #[.int .u64 (n : Int)] w fun e w' => e = .returned (.string ⟨(ul 10 n).toArray⟩) ∧ Below w.heap.size w w') := fun w => implUlebBytes n (by unfold Hid; omega) w
    clear hm h0 h1
    clear g0 g1
    go_enter Try.func72, Try.ntmps72
    go_wp2_with (go_at_call 59; refine (H.out _).mono ?_; rintro e w1 ⟨rfl, hb⟩; clear H)
    go_ret
    exact ⟨rfl, by assumption⟩
  · have e : opv 3 = .iface 133 (.int .i64 10000) := rfl
    rw [e]
    clear e
    have t0 := ta_upTo_blockType (.int .i64 10000)
    have t1 := ta_upTo_upTo (.int .i64 10000)
    obtain ⟨g0, g1⟩ := may_nat (by omega) hm
    obtain ⟨n, rfl⟩ : ∃ n : Nat, a = n := ⟨a.toNat, by omega⟩
    have hw : IntKind.u64.wrap (n : Int) = n := by rw [IntKind.wrap_u64]; omega
    have H : Hid (∀ w : World, Calls Try.prog 59 #[.int .u64 (n : Int)] w fun e w' => e = .returned (.string ⟨(ul 10 n).toArray⟩) ∧ Below w.heap.size w w') := fun w => implUlebBytes n (by unfold Hid; omega) w
    clear hm h0 h1
    clear g0 g1
    go_enter Try.func72, Try.ntmps72
    go_wp2_with (go_at_call 59; refine (H.out _).mono ?_; rintro e w1 ⟨rfl, hb⟩; clear H)
    go_ret
    exact ⟨rfl, by assumption⟩
  · have e : opv 4 = .iface 134 (.int .i64 32) := rfl
    rw [e]
    clear e
    have t0 := ta_signedBits_blockType (.int .i64 32)
    have t1 := ta_signedBits_upTo (.int .i64 32)
    have t2 := ta_signedBits_signedBits (.int .i64 32)
    have H : Hid (∀ w : World, Calls Try.prog 89 #[.int .i64 a] w fun e w' => e = .returned (.string ⟨(sl 10 a).toArray⟩) ∧ Below w.heap.size w w') := fun w => implSleb a (sfit_i64 a h0 h1) w
    clear hm h0 h1
    go_enter Try.func72, Try.ntmps72
    go_wp2_with (go_at_call 89; refine (H.out _).mono ?_; rintro e w1 ⟨rfl, hb⟩; clear H)
    go_ret
    exact ⟨rfl, by assumption⟩
  · have e : opv 5 = .iface 134 (.int .i64 64) := rfl
    rw [e]
    clear e
    have t0 := ta_signedBits_blockType (.int .i64 64)
    have t1 := ta_signedBits_upTo (.int .i64 64)
    have t2 := ta_signedBits_signedBits (.int .i64 64)
    have H : Hid (∀ w : World, Calls Try.prog 89 #[.int .i64 a] w fun e w' => e = .returned (.string ⟨(sl 10 a).toArray⟩) ∧ Below w.heap.size w w') := fun w => implSleb a (sfit_i64 a h0 h1) w
    clear hm h0 h1
    go_enter Try.func72, Try.ntmps72
    go_wp2_with (go_at_call 89; refine (H.out _).mono ?_; rintro e w1 ⟨rfl, hb⟩; clear H)
    go_ret
    exact ⟨rfl, by assumption⟩
  · have e : opv 6 = .iface 135 (.agg #[]) := rfl
    rw [e]
    clear e
    have t0 := ta_floatBits_blockType (.agg #[])
    have t1 := ta_floatBits_upTo (.agg #[])
    have t2 := ta_floatBits_signedBits (.agg #[])
    have t3 := ta_floatBits_floatBits (.agg #[])
    obtain ⟨g0, g1⟩ := may_nat (by omega) hm
    obtain ⟨n, rfl⟩ : ∃ n : Nat, a = n := ⟨a.toNat, by omega⟩
    have hw : IntKind.u64.wrap (n : Int) = n := by rw [IntKind.wrap_u64]; omega
    have H : Hid (∀ w : World, Calls Try.prog 61 #[.int .u64 (n : Int), .int .i64 4] w fun e w' => e = .returned (.string ⟨(leB n 4).toArray⟩) ∧ Below w.heap.size w w') := fun w => numberBytes n 4 (by omega) w
    clear hm h0 h1
    clear g0 g1
    go_enter Try.func72, Try.ntmps72
    go_wp2_with (go_at_call 61; refine (H.out _).mono ?_; rintro e w1 ⟨rfl, hb⟩; clear H)
    go_ret
    exact ⟨rfl, by assumption⟩

end Go.Proofs.Ytokaljglaholnaa
