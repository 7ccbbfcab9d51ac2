/-
  Binary of the other side, operation by operation.
-/
import Derived.Test.YtcnjllecobhalaaIWid
namespace Go.Proofs.Ytcnjllecobhalaa
open Go.RowKit

set_option maxHeartbeats 400000 in
theorem spec_shrS (b a c : Int) (hb : b = 32 ∨ b = 64) (hb0 : ¬ b = 0) (hbw : IntKind.u64.wrap b = b) (a0 : 0 ≤ a) (a1 : a ≤ 18446744073709551615) (c0 : 0 ≤ c) (c1 : c ≤ 18446744073709551615) (n : Int) (y0 : 0 ≤ cutW b c) (hn : cutW b c % b = n) (n0 : 0 ≤ n) (n1 : n ≤ 64) (r0 : 0 ≤ IntKind.u64.wrap (sgW b (cutW b a) / 2 ^ n.toNat)) (r1 : IntKind.u64.wrap (sgW b (cutW b a) / 2 ^ n.toNat) ≤ 18446744073709551615) (w : World) :
    Calls Try.prog 47 #[.int .i64 b, .int .i64 12, .int .u64 a, .int .u64 c] w fun e w' => e = .returned (.tuple #[.int .u64 (cutW b (IntKind.u64.wrap (sgW b (cutW b a) / 2 ^ n.toNat))), .int .i64 0]) ∧ w' = w := by
  go_enter Try.func47, Try.ntmps47
  go_wp2_with (first | (go_at_call 109; refine (maskC _ _ hb (by assumption) (by assumption) _).mono ?_; rintro e w' ⟨rfl, rfl⟩) | (go_at_call 48; refine (specSignedC _ _ hb _).mono ?_; rintro e w' ⟨rfl, rfl⟩) | (go_at_call 111; refine (specYes _ _).mono ?_; rintro e w' ⟨rfl, rfl⟩))
  go_ret2
  exact ⟨rfl, rfl⟩

set_option maxHeartbeats 400000 in
theorem spec_rotl (b a c : Int) (hb : b = 32 ∨ b = 64) (hb0 : ¬ b = 0) (hbw : IntKind.u64.wrap b = b) (a0 : 0 ≤ a) (a1 : a ≤ 18446744073709551615) (c0 : 0 ≤ c) (c1 : c ≤ 18446744073709551615) (n : Int) (y0 : 0 ≤ cutW b c) (hn : cutW b c % b = n) (n0 : 0 ≤ n) (n1 : n ≤ 64) (hbn : IntKind.u64.wrap (b - n) = b - n) (m0 : 0 ≤ b - n) (m1 : b - n ≤ 64) (r0 : 0 ≤ bits .or .u64 (IntKind.u64.wrap ((cutW b a) * 2 ^ n.toNat)) ((cutW b a) / 2 ^ (b - n).toNat)) (r1 : bits .or .u64 (IntKind.u64.wrap ((cutW b a) * 2 ^ n.toNat)) ((cutW b a) / 2 ^ (b - n).toNat) ≤ 18446744073709551615) (w : World) :
    Calls Try.prog 47 #[.int .i64 b, .int .i64 14, .int .u64 a, .int .u64 c] w fun e w' => e = .returned (.tuple #[.int .u64 (cutW b (bits .or .u64 (IntKind.u64.wrap ((cutW b a) * 2 ^ n.toNat)) ((cutW b a) / 2 ^ (b - n).toNat))), .int .i64 0]) ∧ w' = w := by
  go_enter Try.func47, Try.ntmps47
  go_wp2_with (first | (go_at_call 109; refine (maskC _ _ hb (by assumption) (by assumption) _).mono ?_; rintro e w' ⟨rfl, rfl⟩) | (go_at_call 48; refine (specSignedC _ _ hb _).mono ?_; rintro e w' ⟨rfl, rfl⟩) | (go_at_call 111; refine (specYes _ _).mono ?_; rintro e w' ⟨rfl, rfl⟩))
  go_ret2
  exact ⟨rfl, rfl⟩

set_option maxHeartbeats 400000 in
theorem spec_rotr (b a c : Int) (hb : b = 32 ∨ b = 64) (hb0 : ¬ b = 0) (hbw : IntKind.u64.wrap b = b) (a0 : 0 ≤ a) (a1 : a ≤ 18446744073709551615) (c0 : 0 ≤ c) (c1 : c ≤ 18446744073709551615) (n : Int) (y0 : 0 ≤ cutW b c) (hn : cutW b c % b = n) (n0 : 0 ≤ n) (n1 : n ≤ 64) (hbn : IntKind.u64.wrap (b - n) = b - n) (m0 : 0 ≤ b - n) (m1 : b - n ≤ 64) (r0 : 0 ≤ bits .or .u64 ((cutW b a) / 2 ^ n.toNat) (IntKind.u64.wrap ((cutW b a) * 2 ^ (b - n).toNat))) (r1 : bits .or .u64 ((cutW b a) / 2 ^ n.toNat) (IntKind.u64.wrap ((cutW b a) * 2 ^ (b - n).toNat)) ≤ 18446744073709551615) (w : World) :
    Calls Try.prog 47 #[.int .i64 b, .int .i64 15, .int .u64 a, .int .u64 c] w fun e w' => e = .returned (.tuple #[.int .u64 (cutW b (bits .or .u64 ((cutW b a) / 2 ^ n.toNat) (IntKind.u64.wrap ((cutW b a) * 2 ^ (b - n).toNat)))), .int .i64 0]) ∧ w' = w := by
  go_enter Try.func47, Try.ntmps47
  go_wp2_with (first | (go_at_call 109; refine (maskC _ _ hb (by assumption) (by assumption) _).mono ?_; rintro e w' ⟨rfl, rfl⟩) | (go_at_call 48; refine (specSignedC _ _ hb _).mono ?_; rintro e w' ⟨rfl, rfl⟩) | (go_at_call 111; refine (specYes _ _).mono ?_; rintro e w' ⟨rfl, rfl⟩))
  go_ret2
  exact ⟨rfl, rfl⟩

set_option maxHeartbeats 400000 in
theorem spec_eq (b a c : Int) (hb : b = 32 ∨ b = 64) (hb0 : ¬ b = 0) (hbw : IntKind.u64.wrap b = b) (a0 : 0 ≤ a) (a1 : a ≤ 18446744073709551615) (c0 : 0 ≤ c) (c1 : c ≤ 18446744073709551615) (r0 : 0 ≤ (((cutW b a) == (cutW b c)).toNat : Int)) (r1 : (((cutW b a) == (cutW b c)).toNat : Int) ≤ 18446744073709551615) (w : World) :
    Calls Try.prog 47 #[.int .i64 b, .int .i64 16, .int .u64 a, .int .u64 c] w fun e w' => e = .returned (.tuple #[.int .u64 (cutW b ((((cutW b a) == (cutW b c)).toNat : Int))), .int .i64 0]) ∧ w' = w := by
  go_enter Try.func47, Try.ntmps47
  go_wp2_with (first | (go_at_call 109; refine (maskC _ _ hb (by assumption) (by assumption) _).mono ?_; rintro e w' ⟨rfl, rfl⟩) | (go_at_call 48; refine (specSignedC _ _ hb _).mono ?_; rintro e w' ⟨rfl, rfl⟩) | (go_at_call 111; refine (specYes _ _).mono ?_; rintro e w' ⟨rfl, rfl⟩))
  go_ret2
  exact ⟨rfl, rfl⟩

set_option maxHeartbeats 400000 in
theorem spec_ne (b a c : Int) (hb : b = 32 ∨ b = 64) (hb0 : ¬ b = 0) (hbw : IntKind.u64.wrap b = b) (a0 : 0 ≤ a) (a1 : a ≤ 18446744073709551615) (c0 : 0 ≤ c) (c1 : c ≤ 18446744073709551615) (r0 : 0 ≤ (((cutW b a) != (cutW b c)).toNat : Int)) (r1 : (((cutW b a) != (cutW b c)).toNat : Int) ≤ 18446744073709551615) (w : World) :
    Calls Try.prog 47 #[.int .i64 b, .int .i64 17, .int .u64 a, .int .u64 c] w fun e w' => e = .returned (.tuple #[.int .u64 (cutW b ((((cutW b a) != (cutW b c)).toNat : Int))), .int .i64 0]) ∧ w' = w := by
  go_enter Try.func47, Try.ntmps47
  go_wp2_with (first | (go_at_call 109; refine (maskC _ _ hb (by assumption) (by assumption) _).mono ?_; rintro e w' ⟨rfl, rfl⟩) | (go_at_call 48; refine (specSignedC _ _ hb _).mono ?_; rintro e w' ⟨rfl, rfl⟩) | (go_at_call 111; refine (specYes _ _).mono ?_; rintro e w' ⟨rfl, rfl⟩))
  go_ret2
  exact ⟨rfl, rfl⟩

set_option maxHeartbeats 400000 in
theorem spec_ltS (b a c : Int) (hb : b = 32 ∨ b = 64) (hb0 : ¬ b = 0) (hbw : IntKind.u64.wrap b = b) (a0 : 0 ≤ a) (a1 : a ≤ 18446744073709551615) (c0 : 0 ≤ c) (c1 : c ≤ 18446744073709551615) (r0 : 0 ≤ ((decide (sgW b (cutW b a) < sgW b (cutW b c))).toNat : Int)) (r1 : ((decide (sgW b (cutW b a) < sgW b (cutW b c))).toNat : Int) ≤ 18446744073709551615) (w : World) :
    Calls Try.prog 47 #[.int .i64 b, .int .i64 18, .int .u64 a, .int .u64 c] w fun e w' => e = .returned (.tuple #[.int .u64 (cutW b (((decide (sgW b (cutW b a) < sgW b (cutW b c))).toNat : Int))), .int .i64 0]) ∧ w' = w := by
  go_enter Try.func47, Try.ntmps47
  go_wp2_with (first | (go_at_call 109; refine (maskC _ _ hb (by assumption) (by assumption) _).mono ?_; rintro e w' ⟨rfl, rfl⟩) | (go_at_call 48; refine (specSignedC _ _ hb _).mono ?_; rintro e w' ⟨rfl, rfl⟩) | (go_at_call 111; refine (specYes _ _).mono ?_; rintro e w' ⟨rfl, rfl⟩))
  go_ret2
  exact ⟨rfl, rfl⟩

set_option maxHeartbeats 400000 in
theorem spec_ltU (b a c : Int) (hb : b = 32 ∨ b = 64) (hb0 : ¬ b = 0) (hbw : IntKind.u64.wrap b = b) (a0 : 0 ≤ a) (a1 : a ≤ 18446744073709551615) (c0 : 0 ≤ c) (c1 : c ≤ 18446744073709551615) (r0 : 0 ≤ ((decide ((cutW b a) < (cutW b c))).toNat : Int)) (r1 : ((decide ((cutW b a) < (cutW b c))).toNat : Int) ≤ 18446744073709551615) (w : World) :
    Calls Try.prog 47 #[.int .i64 b, .int .i64 19, .int .u64 a, .int .u64 c] w fun e w' => e = .returned (.tuple #[.int .u64 (cutW b (((decide ((cutW b a) < (cutW b c))).toNat : Int))), .int .i64 0]) ∧ w' = w := by
  go_enter Try.func47, Try.ntmps47
  go_wp2_with (first | (go_at_call 109; refine (maskC _ _ hb (by assumption) (by assumption) _).mono ?_; rintro e w' ⟨rfl, rfl⟩) | (go_at_call 48; refine (specSignedC _ _ hb _).mono ?_; rintro e w' ⟨rfl, rfl⟩) | (go_at_call 111; refine (specYes _ _).mono ?_; rintro e w' ⟨rfl, rfl⟩))
  go_ret2
  exact ⟨rfl, rfl⟩

set_option maxHeartbeats 400000 in
theorem spec_gtS (b a c : Int) (hb : b = 32 ∨ b = 64) (hb0 : ¬ b = 0) (hbw : IntKind.u64.wrap b = b) (a0 : 0 ≤ a) (a1 : a ≤ 18446744073709551615) (c0 : 0 ≤ c) (c1 : c ≤ 18446744073709551615) (r0 : 0 ≤ ((decide (sgW b (cutW b c) < sgW b (cutW b a))).toNat : Int)) (r1 : ((decide (sgW b (cutW b c) < sgW b (cutW b a))).toNat : Int) ≤ 18446744073709551615) (w : World) :
    Calls Try.prog 47 #[.int .i64 b, .int .i64 20, .int .u64 a, .int .u64 c] w fun e w' => e = .returned (.tuple #[.int .u64 (cutW b (((decide (sgW b (cutW b c) < sgW b (cutW b a))).toNat : Int))), .int .i64 0]) ∧ w' = w := by
  go_enter Try.func47, Try.ntmps47
  go_wp2_with (first | (go_at_call 109; refine (maskC _ _ hb (by assumption) (by assumption) _).mono ?_; rintro e w' ⟨rfl, rfl⟩) | (go_at_call 48; refine (specSignedC _ _ hb _).mono ?_; rintro e w' ⟨rfl, rfl⟩) | (go_at_call 111; refine (specYes _ _).mono ?_; rintro e w' ⟨rfl, rfl⟩))
  go_ret2
  exact ⟨rfl, rfl⟩

set_option maxHeartbeats 400000 in
theorem spec_gtU (b a c : Int) (hb : b = 32 ∨ b = 64) (hb0 : ¬ b = 0) (hbw : IntKind.u64.wrap b = b) (a0 : 0 ≤ a) (a1 : a ≤ 18446744073709551615) (c0 : 0 ≤ c) (c1 : c ≤ 18446744073709551615) (r0 : 0 ≤ ((decide ((cutW b c) < (cutW b a))).toNat : Int)) (r1 : ((decide ((cutW b c) < (cutW b a))).toNat : Int) ≤ 18446744073709551615) (w : World) :
    Calls Try.prog 47 #[.int .i64 b, .int .i64 21, .int .u64 a, .int .u64 c] w fun e w' => e = .returned (.tuple #[.int .u64 (cutW b (((decide ((cutW b c) < (cutW b a))).toNat : Int))), .int .i64 0]) ∧ w' = w := by
  go_enter Try.func47, Try.ntmps47
  go_wp2_with (first | (go_at_call 109; refine (maskC _ _ hb (by assumption) (by assumption) _).mono ?_; rintro e w' ⟨rfl, rfl⟩) | (go_at_call 48; refine (specSignedC _ _ hb _).mono ?_; rintro e w' ⟨rfl, rfl⟩) | (go_at_call 111; refine (specYes _ _).mono ?_; rintro e w' ⟨rfl, rfl⟩))
  go_ret2
  exact ⟨rfl, rfl⟩

end Go.Proofs.Ytcnjllecobhalaa
