/-
  Binary of the other side, operation by operation.
-/
import Derived.Test.YtcnjllecobhalaaIWid
namespace Go.Proofs.Ytcnjllecobhalaa
open Go.RowKit

set_option maxHeartbeats 400000 in
theorem spec_add (b a c : Int) (hb : b = 32 ∨ b = 64) (hb0 : ¬ b = 0) (hbw : IntKind.u64.wrap b = b) (a0 : 0 ≤ a) (a1 : a ≤ 18446744073709551615) (c0 : 0 ≤ c) (c1 : c ≤ 18446744073709551615) (r0 : 0 ≤ IntKind.u64.wrap ((cutW b a) + (cutW b c))) (r1 : IntKind.u64.wrap ((cutW b a) + (cutW b c)) ≤ 18446744073709551615) (w : World) :
    Calls Try.prog 47 #[.int .i64 b, .int .i64 1, .int .u64 a, .int .u64 c] w fun e w' => e = .returned (.tuple #[.int .u64 (cutW b (IntKind.u64.wrap ((cutW b a) + (cutW b c)))), .int .i64 0]) ∧ w' = w := by
  go_enter Try.func47, Try.ntmps47
  go_wp2_with (first | (go_at_call 109; refine (maskC _ _ hb (by assumption) (by assumption) _).mono ?_; rintro e w' ⟨rfl, rfl⟩) | (go_at_call 48; refine (specSignedC _ _ hb _).mono ?_; rintro e w' ⟨rfl, rfl⟩) | (go_at_call 111; refine (specYes _ _).mono ?_; rintro e w' ⟨rfl, rfl⟩))
  go_ret2
  exact ⟨rfl, rfl⟩

set_option maxHeartbeats 400000 in
theorem spec_sub (b a c : Int) (hb : b = 32 ∨ b = 64) (hb0 : ¬ b = 0) (hbw : IntKind.u64.wrap b = b) (a0 : 0 ≤ a) (a1 : a ≤ 18446744073709551615) (c0 : 0 ≤ c) (c1 : c ≤ 18446744073709551615) (r0 : 0 ≤ IntKind.u64.wrap ((cutW b a) - (cutW b c))) (r1 : IntKind.u64.wrap ((cutW b a) - (cutW b c)) ≤ 18446744073709551615) (w : World) :
    Calls Try.prog 47 #[.int .i64 b, .int .i64 2, .int .u64 a, .int .u64 c] w fun e w' => e = .returned (.tuple #[.int .u64 (cutW b (IntKind.u64.wrap ((cutW b a) - (cutW b c)))), .int .i64 0]) ∧ w' = w := by
  go_enter Try.func47, Try.ntmps47
  go_wp2_with (first | (go_at_call 109; refine (maskC _ _ hb (by assumption) (by assumption) _).mono ?_; rintro e w' ⟨rfl, rfl⟩) | (go_at_call 48; refine (specSignedC _ _ hb _).mono ?_; rintro e w' ⟨rfl, rfl⟩) | (go_at_call 111; refine (specYes _ _).mono ?_; rintro e w' ⟨rfl, rfl⟩))
  go_ret2
  exact ⟨rfl, rfl⟩

set_option maxHeartbeats 400000 in
theorem spec_mul (b a c : Int) (hb : b = 32 ∨ b = 64) (hb0 : ¬ b = 0) (hbw : IntKind.u64.wrap b = b) (a0 : 0 ≤ a) (a1 : a ≤ 18446744073709551615) (c0 : 0 ≤ c) (c1 : c ≤ 18446744073709551615) (r0 : 0 ≤ IntKind.u64.wrap ((cutW b a) * (cutW b c))) (r1 : IntKind.u64.wrap ((cutW b a) * (cutW b c)) ≤ 18446744073709551615) (w : World) :
    Calls Try.prog 47 #[.int .i64 b, .int .i64 3, .int .u64 a, .int .u64 c] w fun e w' => e = .returned (.tuple #[.int .u64 (cutW b (IntKind.u64.wrap ((cutW b a) * (cutW b c)))), .int .i64 0]) ∧ w' = w := by
  go_enter Try.func47, Try.ntmps47
  go_wp2_with (first | (go_at_call 109; refine (maskC _ _ hb (by assumption) (by assumption) _).mono ?_; rintro e w' ⟨rfl, rfl⟩) | (go_at_call 48; refine (specSignedC _ _ hb _).mono ?_; rintro e w' ⟨rfl, rfl⟩) | (go_at_call 111; refine (specYes _ _).mono ?_; rintro e w' ⟨rfl, rfl⟩))
  go_ret2
  exact ⟨rfl, rfl⟩

set_option maxHeartbeats 400000 in
theorem spec_and (b a c : Int) (hb : b = 32 ∨ b = 64) (hb0 : ¬ b = 0) (hbw : IntKind.u64.wrap b = b) (a0 : 0 ≤ a) (a1 : a ≤ 18446744073709551615) (c0 : 0 ≤ c) (c1 : c ≤ 18446744073709551615) (r0 : 0 ≤ bits .and .u64 (cutW b a) (cutW b c)) (r1 : bits .and .u64 (cutW b a) (cutW b c) ≤ 18446744073709551615) (w : World) :
    Calls Try.prog 47 #[.int .i64 b, .int .i64 8, .int .u64 a, .int .u64 c] w fun e w' => e = .returned (.tuple #[.int .u64 (cutW b (bits .and .u64 (cutW b a) (cutW b c))), .int .i64 0]) ∧ w' = w := by
  go_enter Try.func47, Try.ntmps47
  go_wp2_with (first | (go_at_call 109; refine (maskC _ _ hb (by assumption) (by assumption) _).mono ?_; rintro e w' ⟨rfl, rfl⟩) | (go_at_call 48; refine (specSignedC _ _ hb _).mono ?_; rintro e w' ⟨rfl, rfl⟩) | (go_at_call 111; refine (specYes _ _).mono ?_; rintro e w' ⟨rfl, rfl⟩))
  go_ret2
  exact ⟨rfl, rfl⟩

set_option maxHeartbeats 400000 in
theorem spec_or (b a c : Int) (hb : b = 32 ∨ b = 64) (hb0 : ¬ b = 0) (hbw : IntKind.u64.wrap b = b) (a0 : 0 ≤ a) (a1 : a ≤ 18446744073709551615) (c0 : 0 ≤ c) (c1 : c ≤ 18446744073709551615) (r0 : 0 ≤ bits .or .u64 (cutW b a) (cutW b c)) (r1 : bits .or .u64 (cutW b a) (cutW b c) ≤ 18446744073709551615) (w : World) :
    Calls Try.prog 47 #[.int .i64 b, .int .i64 9, .int .u64 a, .int .u64 c] w fun e w' => e = .returned (.tuple #[.int .u64 (cutW b (bits .or .u64 (cutW b a) (cutW b c))), .int .i64 0]) ∧ w' = w := by
  go_enter Try.func47, Try.ntmps47
  go_wp2_with (first | (go_at_call 109; refine (maskC _ _ hb (by assumption) (by assumption) _).mono ?_; rintro e w' ⟨rfl, rfl⟩) | (go_at_call 48; refine (specSignedC _ _ hb _).mono ?_; rintro e w' ⟨rfl, rfl⟩) | (go_at_call 111; refine (specYes _ _).mono ?_; rintro e w' ⟨rfl, rfl⟩))
  go_ret2
  exact ⟨rfl, rfl⟩

set_option maxHeartbeats 400000 in
theorem spec_xor (b a c : Int) (hb : b = 32 ∨ b = 64) (hb0 : ¬ b = 0) (hbw : IntKind.u64.wrap b = b) (a0 : 0 ≤ a) (a1 : a ≤ 18446744073709551615) (c0 : 0 ≤ c) (c1 : c ≤ 18446744073709551615) (r0 : 0 ≤ bits .xor .u64 (cutW b a) (cutW b c)) (r1 : bits .xor .u64 (cutW b a) (cutW b c) ≤ 18446744073709551615) (w : World) :
    Calls Try.prog 47 #[.int .i64 b, .int .i64 10, .int .u64 a, .int .u64 c] w fun e w' => e = .returned (.tuple #[.int .u64 (cutW b (bits .xor .u64 (cutW b a) (cutW b c))), .int .i64 0]) ∧ w' = w := by
  go_enter Try.func47, Try.ntmps47
  go_wp2_with (first | (go_at_call 109; refine (maskC _ _ hb (by assumption) (by assumption) _).mono ?_; rintro e w' ⟨rfl, rfl⟩) | (go_at_call 48; refine (specSignedC _ _ hb _).mono ?_; rintro e w' ⟨rfl, rfl⟩) | (go_at_call 111; refine (specYes _ _).mono ?_; rintro e w' ⟨rfl, rfl⟩))
  go_ret2
  exact ⟨rfl, rfl⟩

set_option maxHeartbeats 400000 in
theorem spec_shl (b a c : Int) (hb : b = 32 ∨ b = 64) (hb0 : ¬ b = 0) (hbw : IntKind.u64.wrap b = b) (a0 : 0 ≤ a) (a1 : a ≤ 18446744073709551615) (c0 : 0 ≤ c) (c1 : c ≤ 18446744073709551615) (n : Int) (y0 : 0 ≤ cutW b c) (hn : cutW b c % b = n) (n0 : 0 ≤ n) (n1 : n ≤ 64) (r0 : 0 ≤ IntKind.u64.wrap ((cutW b a) * 2 ^ n.toNat)) (r1 : IntKind.u64.wrap ((cutW b a) * 2 ^ n.toNat) ≤ 18446744073709551615) (w : World) :
    Calls Try.prog 47 #[.int .i64 b, .int .i64 11, .int .u64 a, .int .u64 c] w fun e w' => e = .returned (.tuple #[.int .u64 (cutW b (IntKind.u64.wrap ((cutW b a) * 2 ^ n.toNat))), .int .i64 0]) ∧ w' = w := by
  go_enter Try.func47, Try.ntmps47
  go_wp2_with (first | (go_at_call 109; refine (maskC _ _ hb (by assumption) (by assumption) _).mono ?_; rintro e w' ⟨rfl, rfl⟩) | (go_at_call 48; refine (specSignedC _ _ hb _).mono ?_; rintro e w' ⟨rfl, rfl⟩) | (go_at_call 111; refine (specYes _ _).mono ?_; rintro e w' ⟨rfl, rfl⟩))
  go_ret2
  exact ⟨rfl, rfl⟩

set_option maxHeartbeats 400000 in
theorem spec_shrU (b a c : Int) (hb : b = 32 ∨ b = 64) (hb0 : ¬ b = 0) (hbw : IntKind.u64.wrap b = b) (a0 : 0 ≤ a) (a1 : a ≤ 18446744073709551615) (c0 : 0 ≤ c) (c1 : c ≤ 18446744073709551615) (n : Int) (y0 : 0 ≤ cutW b c) (hn : cutW b c % b = n) (n0 : 0 ≤ n) (n1 : n ≤ 64) (r0 : 0 ≤ (cutW b a) / 2 ^ n.toNat) (r1 : (cutW b a) / 2 ^ n.toNat ≤ 18446744073709551615) (w : World) :
    Calls Try.prog 47 #[.int .i64 b, .int .i64 13, .int .u64 a, .int .u64 c] w fun e w' => e = .returned (.tuple #[.int .u64 (cutW b ((cutW b a) / 2 ^ n.toNat)), .int .i64 0]) ∧ w' = w := by
  go_enter Try.func47, Try.ntmps47
  go_wp2_with (first | (go_at_call 109; refine (maskC _ _ hb (by assumption) (by assumption) _).mono ?_; rintro e w' ⟨rfl, rfl⟩) | (go_at_call 48; refine (specSignedC _ _ hb _).mono ?_; rintro e w' ⟨rfl, rfl⟩) | (go_at_call 111; refine (specYes _ _).mono ?_; rintro e w' ⟨rfl, rfl⟩))
  go_ret2
  exact ⟨rfl, rfl⟩

end Go.Proofs.Ytcnjllecobhalaa
