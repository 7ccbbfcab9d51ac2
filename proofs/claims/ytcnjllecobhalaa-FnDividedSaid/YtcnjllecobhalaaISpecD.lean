/-
  The divisions of the other side.
-/
import Derived.Test.YtcnjllecobhalaaIWid
namespace Go.Proofs.Ytcnjllecobhalaa
open Go.RowKit

theorem dv_zero (b op x : Int) (w : World) :
    Calls Try.prog 110 #[.int .i64 b, .int .i64 op, .int .u64 x, .int .u64 0] w fun e w' => e = .returned (.tuple #[.int .u64 (0), .int .i64 1]) ∧ w' = w := by
  go_enter Try.func110, Try.ntmps110
  go_wp2
  go_ret2
  exact ⟨rfl, rfl⟩

theorem dv_divU (b x y : Int) (x0 : 0 ≤ x) (x1 : x ≤ 18446744073709551615) (y0 : 0 ≤ y) (hy : y ≠ 0) (w : World) :
    Calls Try.prog 110 #[.int .i64 b, .int .i64 5, .int .u64 x, .int .u64 y] w fun e w' => e = .returned (.tuple #[.int .u64 (x / y), .int .i64 0]) ∧ w' = w := by
  have k : (y == 0) = false := by simp [hy]
  have k' : ¬ y = 0 := hy
  clear hy
  go_enter Try.func110, Try.ntmps110
  go_wp2
  go_ret2
  exact ⟨rfl, rfl⟩

theorem dv_remU (b x y : Int) (x0 : 0 ≤ x) (hy : y ≠ 0) (w : World) :
    Calls Try.prog 110 #[.int .i64 b, .int .i64 7, .int .u64 x, .int .u64 y] w fun e w' => e = .returned (.tuple #[.int .u64 (x % y), .int .i64 0]) ∧ w' = w := by
  have k : (y == 0) = false := by simp [hy]
  have k' : ¬ y = 0 := hy
  clear hy
  go_enter Try.func110, Try.ntmps110
  go_wp2
  go_ret2
  exact ⟨rfl, rfl⟩

theorem dv_remOne (b x y : Int) (hb : b = 32 ∨ b = 64) (hy : y ≠ 0) (hs : sgW b y = -1) (w : World) :
    Calls Try.prog 110 #[.int .i64 b, .int .i64 6, .int .u64 x, .int .u64 y] w fun e w' => e = .returned (.tuple #[.int .u64 (0), .int .i64 0]) ∧ w' = w := by
  have k : (y == 0) = false := by simp [hy]
  clear hy
  go_enter Try.func110, Try.ntmps110
  go_wp2_with (go_at_call 48; refine (specSignedC _ _ hb _).mono ?_; rintro e w' ⟨rfl, rfl⟩)
  go_ret2
  exact ⟨rfl, rfl⟩

theorem dv_rem (b x y : Int) (hb : b = 32 ∨ b = 64) (hy : y ≠ 0) (hs : ¬ sgW b y = -1) (hs0 : ¬ sgW b y = 0) (r0 : 0 ≤ IntKind.u64.wrap ((sgW b x).tmod (sgW b y))) (r1 : IntKind.u64.wrap ((sgW b x).tmod (sgW b y)) ≤ 18446744073709551615) (w : World) :
    Calls Try.prog 110 #[.int .i64 b, .int .i64 6, .int .u64 x, .int .u64 y] w fun e w' => e = .returned (.tuple #[.int .u64 (cutW b (IntKind.u64.wrap ((sgW b x).tmod (sgW b y)))), .int .i64 0]) ∧ w' = w := by
  have k : (y == 0) = false := by simp [hy]
  have k1 : (sgW b y == -1) = false := by simp [hs]
  clear hy
  go_enter Try.func110, Try.ntmps110
  go_wp2_with (first | (go_at_call 48; refine (specSignedC _ _ hb _).mono ?_; rintro e w' ⟨rfl, rfl⟩) | (go_at_call 109; refine (maskC _ _ hb (by assumption) (by assumption) _).mono ?_; rintro e w' ⟨rfl, rfl⟩))
  go_ret2
  exact ⟨rfl, rfl⟩

theorem dv_div (b x y : Int) (hb : b = 32 ∨ b = 64) (hy : y ≠ 0) (hs : ¬ sgW b y = -1) (hs0 : ¬ sgW b y = 0) (r0 : 0 ≤ IntKind.u64.wrap (wrap64 ((sgW b x).tdiv (sgW b y)))) (r1 : IntKind.u64.wrap (wrap64 ((sgW b x).tdiv (sgW b y))) ≤ 18446744073709551615) (w : World) :
    Calls Try.prog 110 #[.int .i64 b, .int .i64 4, .int .u64 x, .int .u64 y] w fun e w' => e = .returned (.tuple #[.int .u64 (cutW b (IntKind.u64.wrap (wrap64 ((sgW b x).tdiv (sgW b y))))), .int .i64 0]) ∧ w' = w := by
  have k : (y == 0) = false := by simp [hy]
  have k1 : (sgW b y == -1) = false := by simp [hs]
  clear hy
  go_enter Try.func110, Try.ntmps110
  go_wp2_with (first | (go_at_call 48; refine (specSignedC _ _ hb _).mono ?_; rintro e w' ⟨rfl, rfl⟩) | (go_at_call 109; refine (maskC _ _ hb (by assumption) (by assumption) _).mono ?_; rintro e w' ⟨rfl, rfl⟩))
  go_ret2
  exact ⟨rfl, rfl⟩

theorem dv_great (b x y : Int) (hb : b = 32 ∨ b = 64) (hy : y ≠ 0) (hs : sgW b y = -1) (hx : x = lst b) (w : World) :
    Calls Try.prog 110 #[.int .i64 b, .int .i64 4, .int .u64 x, .int .u64 y] w fun e w' => e = .returned (.tuple #[.int .u64 (0), .int .i64 2]) ∧ w' = w := by
  have k : (y == 0) = false := by simp [hy]
  clear hy
  have HS : Hid (∀ a w, Calls Try.prog 48 #[.int .i64 b, .int .u64 a] w fun e w' => e = .returned (.int .i64 (sgW b a)) ∧ w' = w) := fun a w => specSignedC b a hb w
  rcases hb with rfl | rfl
  · obtain rfl : x = 2147483648 := hx
    go_enter Try.func110, Try.ntmps110
    go_wp2_with (go_at_call 48; refine (HS.out _ _).mono ?_; rintro e w' ⟨rfl, rfl⟩)
    go_ret2
    exact ⟨rfl, rfl⟩
  · obtain rfl : x = 9223372036854775808 := hx
    go_enter Try.func110, Try.ntmps110
    go_wp2_with (go_at_call 48; refine (HS.out _ _).mono ?_; rintro e w' ⟨rfl, rfl⟩)
    go_ret2
    exact ⟨rfl, rfl⟩

theorem dv_neg (b x y : Int) (hb : b = 32 ∨ b = 64) (hy : y ≠ 0) (hs : sgW b y = -1) (hx : x ≠ lst b) (r0 : 0 ≤ IntKind.u64.wrap (-x)) (r1 : IntKind.u64.wrap (-x) ≤ 18446744073709551615) (w : World) :
    Calls Try.prog 110 #[.int .i64 b, .int .i64 4, .int .u64 x, .int .u64 y] w fun e w' => e = .returned (.tuple #[.int .u64 (cutW b (IntKind.u64.wrap (-x))), .int .i64 0]) ∧ w' = w := by
  have k : (y == 0) = false := by simp [hy]
  clear hy
  have HS : Hid (∀ a w, Calls Try.prog 48 #[.int .i64 b, .int .u64 a] w fun e w' => e = .returned (.int .i64 (sgW b a)) ∧ w' = w) := fun a w => specSignedC b a hb w
  have HM : Hid (∀ w, Calls Try.prog 109 #[.int .i64 b, .int .u64 (IntKind.u64.wrap (-x))] w fun e w' => e = .returned (.int .u64 (cutW b (IntKind.u64.wrap (-x)))) ∧ w' = w) := fun w => maskC b _ hb r0 r1 w
  rcases hb with rfl | rfl
  · have k2 : (x == 2147483648) = false := by simpa [lst] using hx
    clear hx
    go_enter Try.func110, Try.ntmps110
    go_wp2_with (first | (go_at_call 48; refine (HS.out _ _).mono ?_; rintro e w' ⟨rfl, rfl⟩) | (go_at_call 109; refine (HM.out _).mono ?_; rintro e w' ⟨rfl, rfl⟩))
    go_ret2
    exact ⟨rfl, rfl⟩
  · have k2 : (x == 9223372036854775808) = false := by simpa [lst] using hx
    clear hx
    go_enter Try.func110, Try.ntmps110
    go_wp2_with (first | (go_at_call 48; refine (HS.out _ _).mono ?_; rintro e w' ⟨rfl, rfl⟩) | (go_at_call 109; refine (HM.out _).mono ?_; rintro e w' ⟨rfl, rfl⟩))
    go_ret2
    exact ⟨rfl, rfl⟩

set_option maxHeartbeats 400000 in
theorem spec_dv4 (b a c : Int) (hb : b = 32 ∨ b = 64) (hb0 : ¬ b = 0) (hbw : IntKind.u64.wrap b = b) (a0 : 0 ≤ a) (a1 : a ≤ 18446744073709551615) (c0 : 0 ≤ c) (c1 : c ≤ 18446744073709551615) (y0 : 0 ≤ cutW b c) (r t : Int)
    (hd : Hid (∀ w, Calls Try.prog 110 #[.int .i64 b, .int .i64 4, .int .u64 (cutW b a), .int .u64 (cutW b c)] w fun e w' => e = .returned (.tuple #[.int .u64 r, .int .i64 t]) ∧ w' = w)) (w : World) :
    Calls Try.prog 47 #[.int .i64 b, .int .i64 4, .int .u64 a, .int .u64 c] w fun e w' => e = .returned (.tuple #[.int .u64 r, .int .i64 t]) ∧ w' = w := by
  go_enter Try.func47, Try.ntmps47
  go_wp2_with (first | (go_at_call 109; refine (maskC _ _ hb (by assumption) (by assumption) _).mono ?_; rintro e w' ⟨rfl, rfl⟩) | (go_at_call 48; refine (specSignedC _ _ hb _).mono ?_; rintro e w' ⟨rfl, rfl⟩) | (go_at_call 110; refine (hd.out _).mono ?_; rintro e w' ⟨rfl, rfl⟩))
  go_ret2
  exact ⟨rfl, rfl⟩

set_option maxHeartbeats 400000 in
theorem spec_dv5 (b a c : Int) (hb : b = 32 ∨ b = 64) (hb0 : ¬ b = 0) (hbw : IntKind.u64.wrap b = b) (a0 : 0 ≤ a) (a1 : a ≤ 18446744073709551615) (c0 : 0 ≤ c) (c1 : c ≤ 18446744073709551615) (y0 : 0 ≤ cutW b c) (r t : Int)
    (hd : Hid (∀ w, Calls Try.prog 110 #[.int .i64 b, .int .i64 5, .int .u64 (cutW b a), .int .u64 (cutW b c)] w fun e w' => e = .returned (.tuple #[.int .u64 r, .int .i64 t]) ∧ w' = w)) (w : World) :
    Calls Try.prog 47 #[.int .i64 b, .int .i64 5, .int .u64 a, .int .u64 c] w fun e w' => e = .returned (.tuple #[.int .u64 r, .int .i64 t]) ∧ w' = w := by
  go_enter Try.func47, Try.ntmps47
  go_wp2_with (first | (go_at_call 109; refine (maskC _ _ hb (by assumption) (by assumption) _).mono ?_; rintro e w' ⟨rfl, rfl⟩) | (go_at_call 48; refine (specSignedC _ _ hb _).mono ?_; rintro e w' ⟨rfl, rfl⟩) | (go_at_call 110; refine (hd.out _).mono ?_; rintro e w' ⟨rfl, rfl⟩))
  go_ret2
  exact ⟨rfl, rfl⟩

set_option maxHeartbeats 400000 in
theorem spec_dv6 (b a c : Int) (hb : b = 32 ∨ b = 64) (hb0 : ¬ b = 0) (hbw : IntKind.u64.wrap b = b) (a0 : 0 ≤ a) (a1 : a ≤ 18446744073709551615) (c0 : 0 ≤ c) (c1 : c ≤ 18446744073709551615) (y0 : 0 ≤ cutW b c) (r t : Int)
    (hd : Hid (∀ w, Calls Try.prog 110 #[.int .i64 b, .int .i64 6, .int .u64 (cutW b a), .int .u64 (cutW b c)] w fun e w' => e = .returned (.tuple #[.int .u64 r, .int .i64 t]) ∧ w' = w)) (w : World) :
    Calls Try.prog 47 #[.int .i64 b, .int .i64 6, .int .u64 a, .int .u64 c] w fun e w' => e = .returned (.tuple #[.int .u64 r, .int .i64 t]) ∧ w' = w := by
  go_enter Try.func47, Try.ntmps47
  go_wp2_with (first | (go_at_call 109; refine (maskC _ _ hb (by assumption) (by assumption) _).mono ?_; rintro e w' ⟨rfl, rfl⟩) | (go_at_call 48; refine (specSignedC _ _ hb _).mono ?_; rintro e w' ⟨rfl, rfl⟩) | (go_at_call 110; refine (hd.out _).mono ?_; rintro e w' ⟨rfl, rfl⟩))
  go_ret2
  exact ⟨rfl, rfl⟩

set_option maxHeartbeats 400000 in
theorem spec_dv7 (b a c : Int) (hb : b = 32 ∨ b = 64) (hb0 : ¬ b = 0) (hbw : IntKind.u64.wrap b = b) (a0 : 0 ≤ a) (a1 : a ≤ 18446744073709551615) (c0 : 0 ≤ c) (c1 : c ≤ 18446744073709551615) (y0 : 0 ≤ cutW b c) (r t : Int)
    (hd : Hid (∀ w, Calls Try.prog 110 #[.int .i64 b, .int .i64 7, .int .u64 (cutW b a), .int .u64 (cutW b c)] w fun e w' => e = .returned (.tuple #[.int .u64 r, .int .i64 t]) ∧ w' = w)) (w : World) :
    Calls Try.prog 47 #[.int .i64 b, .int .i64 7, .int .u64 a, .int .u64 c] w fun e w' => e = .returned (.tuple #[.int .u64 r, .int .i64 t]) ∧ w' = w := by
  go_enter Try.func47, Try.ntmps47
  go_wp2_with (first | (go_at_call 109; refine (maskC _ _ hb (by assumption) (by assumption) _).mono ?_; rintro e w' ⟨rfl, rfl⟩) | (go_at_call 48; refine (specSignedC _ _ hb _).mono ?_; rintro e w' ⟨rfl, rfl⟩) | (go_at_call 110; refine (hd.out _).mono ?_; rintro e w' ⟨rfl, rfl⟩))
  go_ret2
  exact ⟨rfl, rfl⟩

set_option maxHeartbeats 1000000 in
theorem spec_none (b a c : Int) (hb : b = 32 ∨ b = 64) (hb0 : ¬ b = 0) (hbw : IntKind.u64.wrap b = b) (a0 : 0 ≤ a) (a1 : a ≤ 18446744073709551615) (c0 : 0 ≤ c) (c1 : c ≤ 18446744073709551615) (y0 : 0 ≤ cutW b c) (op : Int) (h : op < 1 ∨ 22 ≤ op) (w : World) :
    Calls Try.prog 47 #[.int .i64 b, .int .i64 op, .int .u64 a, .int .u64 c] w fun e w' => e = .returned (.tuple #[.int .u64 0, .int .i64 3]) ∧ w' = w := by
  have k1 : (op == 1) = false := by simp; omega
  have k2 : (op == 2) = false := by simp; omega
  have k3 : (op == 3) = false := by simp; omega
  have k4 : (op == 4) = false := by simp; omega
  have k5 : (op == 5) = false := by simp; omega
  have k6 : (op == 6) = false := by simp; omega
  have k7 : (op == 7) = false := by simp; omega
  have k8 : (op == 8) = false := by simp; omega
  have k9 : (op == 9) = false := by simp; omega
  have k10 : (op == 10) = false := by simp; omega
  have k11 : (op == 11) = false := by simp; omega
  have k12 : (op == 12) = false := by simp; omega
  have k13 : (op == 13) = false := by simp; omega
  have k14 : (op == 14) = false := by simp; omega
  have k15 : (op == 15) = false := by simp; omega
  have k16 : (op == 16) = false := by simp; omega
  have k17 : (op == 17) = false := by simp; omega
  have k18 : (op == 18) = false := by simp; omega
  have k19 : (op == 19) = false := by simp; omega
  have k20 : (op == 20) = false := by simp; omega
  have k21 : (op == 21) = false := by simp; omega
  clear h
  go_enter Try.func47, Try.ntmps47
  go_wp2_with (first | (go_at_call 109; refine (maskC _ _ hb (by assumption) (by assumption) _).mono ?_; rintro e w' ⟨rfl, rfl⟩) | (go_at_call 48; refine (specSignedC _ _ hb _).mono ?_; rintro e w' ⟨rfl, rfl⟩))
  go_ret2
  exact ⟨rfl, rfl⟩

end Go.Proofs.Ytcnjllecobhalaa
