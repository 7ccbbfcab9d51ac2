/-
  The operations of the table, one by one.
-/
import Derived.Test.YtcnjllecobhalaaIWid
import Derived.Deep.QuietTactic
import Derived.BigQuiet
namespace Go.Proofs.Ytcnjllecobhalaa
open Go.RowKit

theorem below_dN (w : World) (n : Nat) : Below w.heap.size w (w.drewN n) := by
  induction n with
  | zero => exact Below.refl _ _
  | succ k ih => exact ih.trans ⟨rfl, rfl, rfl, Nat.le_refl _, fun _ _ => rfl⟩

theorem op_add (b x y : Int) (w : World) :
    Calls Try.prog 88 #[.int .i64 b, .int .u64 x, .int .u64 y] w fun e w' => e = .returned (.int .u64 (IntKind.u64.wrap (x + y))) ∧ w' = w := by
  go_enter Try.func88, Try.ntmps88
  go_wp2
  go_ret
  exact ⟨rfl, rfl⟩

theorem op_sub (b x y : Int) (w : World) :
    Calls Try.prog 89 #[.int .i64 b, .int .u64 x, .int .u64 y] w fun e w' => e = .returned (.int .u64 (IntKind.u64.wrap (x - y))) ∧ w' = w := by
  go_enter Try.func89, Try.ntmps89
  go_wp2
  go_ret
  exact ⟨rfl, rfl⟩

theorem op_mul (b x y : Int) (w : World) :
    Calls Try.prog 90 #[.int .i64 b, .int .u64 x, .int .u64 y] w fun e w' => e = .returned (.int .u64 (IntKind.u64.wrap (x * y))) ∧ w' = w := by
  go_enter Try.func90, Try.ntmps90
  go_wp2
  go_ret
  exact ⟨rfl, rfl⟩

theorem op_and (b x y : Int) (w : World) :
    Calls Try.prog 95 #[.int .i64 b, .int .u64 x, .int .u64 y] w fun e w' => e = .returned (.int .u64 (bits .and .u64 x y)) ∧ w' = w := by
  go_enter Try.func95, Try.ntmps95
  go_wp2
  go_ret
  exact ⟨rfl, rfl⟩

theorem op_or (b x y : Int) (w : World) :
    Calls Try.prog 96 #[.int .i64 b, .int .u64 x, .int .u64 y] w fun e w' => e = .returned (.int .u64 (bits .or .u64 x y)) ∧ w' = w := by
  go_enter Try.func96, Try.ntmps96
  go_wp2
  go_ret
  exact ⟨rfl, rfl⟩

theorem op_xor (b x y : Int) (w : World) :
    Calls Try.prog 97 #[.int .i64 b, .int .u64 x, .int .u64 y] w fun e w' => e = .returned (.int .u64 (bits .xor .u64 x y)) ∧ w' = w := by
  go_enter Try.func97, Try.ntmps97
  go_wp2
  go_ret
  exact ⟨rfl, rfl⟩

theorem op_eq (b x y : Int) (w : World) :
    Calls Try.prog 103 #[.int .i64 b, .int .u64 x, .int .u64 y] w fun e w' => e = .returned (.int .u64 ((x == y).toNat)) ∧ w' = w := by
  go_enter Try.func103, Try.ntmps103
  go_wp2_with (go_at_call 117; refine (implOne _ _).mono ?_; rintro e w' ⟨rfl, rfl⟩)
  go_ret
  exact ⟨rfl, rfl⟩

theorem op_ne (b x y : Int) (w : World) :
    Calls Try.prog 104 #[.int .i64 b, .int .u64 x, .int .u64 y] w fun e w' => e = .returned (.int .u64 ((x != y).toNat)) ∧ w' = w := by
  go_enter Try.func104, Try.ntmps104
  go_wp2_with (go_at_call 117; refine (implOne _ _).mono ?_; rintro e w' ⟨rfl, rfl⟩)
  go_ret
  exact ⟨rfl, rfl⟩

theorem op_ltU (b x y : Int) (w : World) :
    Calls Try.prog 106 #[.int .i64 b, .int .u64 x, .int .u64 y] w fun e w' => e = .returned (.int .u64 ((decide (x < y)).toNat)) ∧ w' = w := by
  go_enter Try.func106, Try.ntmps106
  go_wp2_with (go_at_call 117; refine (implOne _ _).mono ?_; rintro e w' ⟨rfl, rfl⟩)
  go_ret
  exact ⟨rfl, rfl⟩

theorem op_gtU (b x y : Int) (w : World) :
    Calls Try.prog 108 #[.int .i64 b, .int .u64 x, .int .u64 y] w fun e w' => e = .returned (.int .u64 ((decide (y < x)).toNat)) ∧ w' = w := by
  go_enter Try.func108, Try.ntmps108
  go_wp2_with (go_at_call 117; refine (implOne _ _).mono ?_; rintro e w' ⟨rfl, rfl⟩)
  go_ret
  exact ⟨rfl, rfl⟩

theorem op_ltS (b x y : Int) (hb : b = 32 ∨ b = 64) (x0 : 0 ≤ x) (x1 : x ≤ 18446744073709551615) (y0 : 0 ≤ y) (y1 : y ≤ 18446744073709551615) (w : World) :
    Calls Try.prog 105 #[.int .i64 b, .int .u64 x, .int .u64 y] w fun e w' => e = .returned (.int .u64 ((decide (sgW b x < sgW b y)).toNat)) ∧ w' = w := by
  go_enter Try.func105, Try.ntmps105
  go_wp2_with (first | (go_at_call 85; refine (signedC _ _ hb (by assumption) (by assumption) _).mono ?_; rintro e w' ⟨rfl, rfl⟩) | (go_at_call 117; refine (implOne _ _).mono ?_; rintro e w' ⟨rfl, rfl⟩))
  go_ret
  exact ⟨rfl, rfl⟩

theorem op_gtS (b x y : Int) (hb : b = 32 ∨ b = 64) (x0 : 0 ≤ x) (x1 : x ≤ 18446744073709551615) (y0 : 0 ≤ y) (y1 : y ≤ 18446744073709551615) (w : World) :
    Calls Try.prog 107 #[.int .i64 b, .int .u64 x, .int .u64 y] w fun e w' => e = .returned (.int .u64 ((decide (sgW b y < sgW b x)).toNat)) ∧ w' = w := by
  go_enter Try.func107, Try.ntmps107
  go_wp2_with (first | (go_at_call 85; refine (signedC _ _ hb (by assumption) (by assumption) _).mono ?_; rintro e w' ⟨rfl, rfl⟩) | (go_at_call 117; refine (implOne _ _).mono ?_; rintro e w' ⟨rfl, rfl⟩))
  go_ret
  exact ⟨rfl, rfl⟩

theorem op_divU (b x y : Int) (x0 : 0 ≤ x) (x1 : x ≤ 18446744073709551615) (y0 : 0 ≤ y) (hy : ¬ y = 0) (w : World) :
    Calls Try.prog 92 #[.int .i64 b, .int .u64 x, .int .u64 y] w fun e w' => e = .returned (.int .u64 (x / y)) ∧ w' = w := by
  go_enter Try.func92, Try.ntmps92
  go_wp2
  go_ret
  exact ⟨rfl, rfl⟩

theorem op_remU (b x y : Int) (x0 : 0 ≤ x) (hy : ¬ y = 0) (w : World) :
    Calls Try.prog 94 #[.int .i64 b, .int .u64 x, .int .u64 y] w fun e w' => e = .returned (.int .u64 (x % y)) ∧ w' = w := by
  go_enter Try.func94, Try.ntmps94
  go_wp2
  go_ret
  exact ⟨rfl, rfl⟩

theorem op_divS (b x y : Int) (hb : b = 32 ∨ b = 64) (x0 : 0 ≤ x) (x1 : x ≤ 18446744073709551615) (y0 : 0 ≤ y) (y1 : y ≤ 18446744073709551615) (hy : ¬ sgW b y = 0) (w : World) :
    Calls Try.prog 91 #[.int .i64 b, .int .u64 x, .int .u64 y] w fun e w' => e = .returned (.int .u64 (IntKind.u64.wrap (wrap64 ((sgW b x).tdiv (sgW b y))))) ∧ w' = w := by
  go_enter Try.func91, Try.ntmps91
  go_wp2_with (go_at_call 85; refine (signedC _ _ hb (by assumption) (by assumption) _).mono ?_; rintro e w' ⟨rfl, rfl⟩)
  go_ret
  exact ⟨rfl, rfl⟩

theorem op_remS (b x y : Int) (hb : b = 32 ∨ b = 64) (x0 : 0 ≤ x) (x1 : x ≤ 18446744073709551615) (y0 : 0 ≤ y) (y1 : y ≤ 18446744073709551615) (hy : ¬ sgW b y = 0) (w : World) :
    Calls Try.prog 93 #[.int .i64 b, .int .u64 x, .int .u64 y] w fun e w' => e = .returned (.int .u64 (IntKind.u64.wrap ((sgW b x).tmod (sgW b y)))) ∧ w' = w := by
  go_enter Try.func93, Try.ntmps93
  go_wp2_with (go_at_call 85; refine (signedC _ _ hb (by assumption) (by assumption) _).mono ?_; rintro e w' ⟨rfl, rfl⟩)
  go_ret
  exact ⟨rfl, rfl⟩

theorem op_shl (b x y n : Int) (hb0 : ¬ b = 0) (hbw : IntKind.u64.wrap b = b) (y0 : 0 ≤ y) (hn : y % b = n) (n0 : 0 ≤ n) (n1 : n ≤ 64) (w : World) :
    Calls Try.prog 98 #[.int .i64 b, .int .u64 x, .int .u64 y] w fun e w' => e = .returned (.int .u64 (IntKind.u64.wrap (x * 2 ^ n.toNat))) ∧ w' = w := by
  go_enter Try.func98, Try.ntmps98
  go_wp2
  go_ret
  exact ⟨rfl, rfl⟩

theorem op_shrU (b x y n : Int) (hb0 : ¬ b = 0) (hbw : IntKind.u64.wrap b = b) (y0 : 0 ≤ y) (hn : y % b = n) (n0 : 0 ≤ n) (n1 : n ≤ 64) (w : World) :
    Calls Try.prog 100 #[.int .i64 b, .int .u64 x, .int .u64 y] w fun e w' => e = .returned (.int .u64 (x / 2 ^ n.toNat)) ∧ w' = w := by
  go_enter Try.func100, Try.ntmps100
  go_wp2
  go_ret
  exact ⟨rfl, rfl⟩

theorem op_rotl (b x y n : Int) (hb0 : ¬ b = 0) (hbw : IntKind.u64.wrap b = b) (y0 : 0 ≤ y) (hn : y % b = n) (n0 : 0 ≤ n) (n1 : n ≤ 64) (hbn : IntKind.u64.wrap (b - n) = b - n) (m0 : 0 ≤ b - n) (m1 : b - n ≤ 64) (w : World) :
    Calls Try.prog 101 #[.int .i64 b, .int .u64 x, .int .u64 y] w fun e w' => e = .returned (.int .u64 (bits .or .u64 (IntKind.u64.wrap (x * 2 ^ n.toNat)) (x / 2 ^ (b - n).toNat))) ∧ w' = w := by
  go_enter Try.func101, Try.ntmps101
  go_wp2
  go_ret
  exact ⟨rfl, rfl⟩

theorem op_shrS (b x y n : Int) (hb : b = 32 ∨ b = 64) (hb0 : ¬ b = 0) (hbw : IntKind.u64.wrap b = b) (x0 : 0 ≤ x) (x1 : x ≤ 18446744073709551615) (y0 : 0 ≤ y) (hn : y % b = n) (n0 : 0 ≤ n) (n1 : n ≤ 64) (w : World) :
    Calls Try.prog 99 #[.int .i64 b, .int .u64 x, .int .u64 y] w fun e w' => e = .returned (.int .u64 (IntKind.u64.wrap (sgW b x / 2 ^ n.toNat))) ∧ Below w.heap.size w w' := by
  have HI : Hid (∀ w, Calls Try.prog 85 #[.int .i64 b, .int .u64 x] w fun e w' => e = .returned (.int .i64 (sgW b x)) ∧ w' = w) := fun w => signedC b x hb x0 x1 w
  clear hb x0 x1
  go_enter Try.func99, Try.ntmps99
  go_wp2
  go_quiet ((go_at_call 85; exact Calls.quiet_of_same (HI.out _)))
  go_wp2
  go_ret
  exact ⟨rfl, below_dN _ _⟩

theorem op_rotr (b x y n m : Int) (hb0 : ¬ b = 0) (hbw : IntKind.u64.wrap b = b) (hn : y % b = n) (hbn : IntKind.u64.wrap (b - n) = b - n) (b0 : 0 ≤ b - n) (hm : (b - n) % b = m) (m0 : 0 ≤ m) (m1 : m ≤ 64) (hbm : IntKind.u64.wrap (b - m) = b - m) (k0 : 0 ≤ b - m) (k1 : b - m ≤ 64) (y0 : 0 ≤ y) (w : World) :
    Calls Try.prog 102 #[.int .i64 b, .int .u64 x, .int .u64 y] w fun e w' => e = .returned (.int .u64 (bits .or .u64 (IntKind.u64.wrap (x * 2 ^ m.toNat)) (x / 2 ^ (b - m).toNat))) ∧ w' = w := by
  have HR := fun w => op_rotl b x (b - n) m hb0 hbw b0 hm m0 m1 hbm k0 k1 w
  go_enter Try.func102, Try.ntmps102
  go_wp2_with (go_at_call 101; refine (HR _).mono ?_; rintro e w' ⟨rfl, rfl⟩)
  go_ret
  exact ⟨rfl, rfl⟩

end Go.Proofs.Ytcnjllecobhalaa
