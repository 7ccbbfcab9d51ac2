/-
  Binary of both sides, operation by operation: they answer alike.
-/
import Derived.Test.YtcnjllecobhalaaIBin
import Derived.Test.YtcnjllecobhalaaISpecA
import Derived.Test.YtcnjllecobhalaaISpecB
import Derived.Test.YtcnjllecobhalaaISpecD
namespace Go.Proofs.Ytcnjllecobhalaa
open Go.RowKit

theorem workH (k f : Nat) (hk : k < 22) (i : Int) (hi : (k : Int) = i) (hf : workV k = .func (.func f) #[] #[]) :
    Hid (∀ w, Calls Try.prog 43 #[.int .i64 i] w fun e w' => e = .returned (.func (.func f) #[] #[]) ∧ Below w.heap.size w w') := by
  subst hi
  intro w
  have := work_in k hk w
  rwa [hf] at this
theorem below_same {P : Program} {f : Nat} {args : Array Value} {w : World} {v : Value} (h : Calls P f args w fun e w' => e = .returned v ∧ w' = w) :
    Calls P f args w fun e w' => e = .returned v ∧ Below w.heap.size w w' := h.mono fun _ _ ⟨h1, h2⟩ => ⟨h1, by rw [h2]; exact Below.refl _ _⟩
theorem wrap_lo (n : Int) : 0 ≤ IntKind.u64.wrap n := by rw [IntKind.wrap_u64]; omega
theorem wrap_hi (n : Int) : IntKind.u64.wrap n ≤ 18446744073709551615 := by rw [IntKind.wrap_u64]; omega
theorem and_lo (x y : Int) : 0 ≤ bits .and .u64 x y := wrap_lo _
theorem and_hi (x y : Int) : bits .and .u64 x y ≤ 18446744073709551615 := wrap_hi _
theorem or_lo (x y : Int) : 0 ≤ bits .or .u64 x y := wrap_lo _
theorem or_hi (x y : Int) : bits .or .u64 x y ≤ 18446744073709551615 := wrap_hi _
theorem xor_lo (x y : Int) : 0 ≤ bits .xor .u64 x y := wrap_lo _
theorem xor_hi (x y : Int) : bits .xor .u64 x y ≤ 18446744073709551615 := wrap_hi _
theorem div_lo (x : Int) (k : Nat) (h : 0 ≤ x) : 0 ≤ x / 2 ^ k := Int.ediv_nonneg h (Int.le_of_lt (Int.pow_pos (by omega)))
theorem div_hi (x : Int) (k : Nat) (h : 0 ≤ x) : x / 2 ^ k ≤ x := Int.ediv_le_self _ h
theorem yes_lo (b : Bool) : (0 : Int) ≤ b.toNat := by omega
theorem yes_hi (b : Bool) : (b.toNat : Int) ≤ 18446744073709551615 := by cases b <;> simp
theorem trap0 (b op x y : Int) (h4 : op ≠ 4) (h5 : op ≠ 5) (h6 : op ≠ 6) (h7 : op ≠ 7) : trapV b op x y = 0 := by
  unfold trapV
  rw [if_neg (by omega), if_neg (by omega)]
theorem b_not0 {b : Int} (hb : b = 32 ∨ b = 64) : ¬ b = 0 := by omega
theorem b_wrap {b : Int} (hb : b = 32 ∨ b = 64) : IntKind.u64.wrap b = b := by rw [IntKind.wrap_u64]; omega
theorem n_lo {b : Int} (hb : b = 32 ∨ b = 64) (y : Int) : 0 ≤ y % b := Int.emod_nonneg _ (by omega)
theorem n_hi {b : Int} (hb : b = 32 ∨ b = 64) (y : Int) : y % b ≤ 64 := by have := Int.emod_lt_of_pos y (show 0 < b by omega); omega
theorem n_lt {b : Int} (hb : b = 32 ∨ b = 64) (y : Int) : y % b < b := Int.emod_lt_of_pos y (show 0 < b by omega)
theorem m_wrap {b : Int} (hb : b = 32 ∨ b = 64) (y : Int) : IntKind.u64.wrap (b - y % b) = b - y % b := by
  have := n_lt hb y; have := n_lo hb y
  rw [IntKind.wrap_u64]; omega

/-- What both sides are asked for. -/
def BothB (b op a c r t : Int) : Prop :=
  (∀ w, Calls Try.prog 47 #[.int .i64 b, .int .i64 op, .int .u64 a, .int .u64 c] w fun e w' => e = .returned (.tuple #[.int .u64 r, .int .i64 t]) ∧ w' = w) ∧
  (∀ w, Calls Try.prog 10 #[.int .i64 b, .int .i64 op, .int .u64 a, .int .u64 c] w fun e w' => e = .returned (.tuple #[.int .u64 r, .int .i64 t]) ∧ Below w.heap.size w w')

theorem both_add (b a c : Int) (hb : b = 32 ∨ b = 64) (a0 : 0 ≤ a) (a1 : a ≤ 18446744073709551615) (c0 : 0 ≤ c) (c1 : c ≤ 18446744073709551615) : BothB b 1 a c (cutW b (IntKind.u64.wrap ((cutW b a) + (cutW b c)))) 0 := by
  have cx := cutW_le b a a0
  have cy := cutW_le b c c0
  have x1 : cutW b a ≤ 18446744073709551615 := by omega
  have y1 : cutW b c ≤ 18446744073709551615 := by omega
  exact ⟨fun w => spec_add b a c hb (b_not0 hb) (b_wrap hb) a0 a1 c0 c1 (wrap_lo _) (wrap_hi _) w,
    fun w => binNone b 1 a c _ 88 hb a0 a1 c0 c1 (workH 1 88 (by omega) 1 rfl work_add) (trap0 _ _ _ _ (by omega) (by omega) (by omega) (by omega)) (enters_of Try.func88 (by kernel_rfl) rfl) (fun w => below_same (op_add b (cutW b a) (cutW b c) w)) (wrap_lo _) (wrap_hi _) w⟩

theorem both_sub (b a c : Int) (hb : b = 32 ∨ b = 64) (a0 : 0 ≤ a) (a1 : a ≤ 18446744073709551615) (c0 : 0 ≤ c) (c1 : c ≤ 18446744073709551615) : BothB b 2 a c (cutW b (IntKind.u64.wrap ((cutW b a) - (cutW b c)))) 0 := by
  have cx := cutW_le b a a0
  have cy := cutW_le b c c0
  have x1 : cutW b a ≤ 18446744073709551615 := by omega
  have y1 : cutW b c ≤ 18446744073709551615 := by omega
  exact ⟨fun w => spec_sub b a c hb (b_not0 hb) (b_wrap hb) a0 a1 c0 c1 (wrap_lo _) (wrap_hi _) w,
    fun w => binNone b 2 a c _ 89 hb a0 a1 c0 c1 (workH 2 89 (by omega) 2 rfl work_sub) (trap0 _ _ _ _ (by omega) (by omega) (by omega) (by omega)) (enters_of Try.func89 (by kernel_rfl) rfl) (fun w => below_same (op_sub b (cutW b a) (cutW b c) w)) (wrap_lo _) (wrap_hi _) w⟩

theorem both_mul (b a c : Int) (hb : b = 32 ∨ b = 64) (a0 : 0 ≤ a) (a1 : a ≤ 18446744073709551615) (c0 : 0 ≤ c) (c1 : c ≤ 18446744073709551615) : BothB b 3 a c (cutW b (IntKind.u64.wrap ((cutW b a) * (cutW b c)))) 0 := by
  have cx := cutW_le b a a0
  have cy := cutW_le b c c0
  have x1 : cutW b a ≤ 18446744073709551615 := by omega
  have y1 : cutW b c ≤ 18446744073709551615 := by omega
  exact ⟨fun w => spec_mul b a c hb (b_not0 hb) (b_wrap hb) a0 a1 c0 c1 (wrap_lo _) (wrap_hi _) w,
    fun w => binNone b 3 a c _ 90 hb a0 a1 c0 c1 (workH 3 90 (by omega) 3 rfl work_mul) (trap0 _ _ _ _ (by omega) (by omega) (by omega) (by omega)) (enters_of Try.func90 (by kernel_rfl) rfl) (fun w => below_same (op_mul b (cutW b a) (cutW b c) w)) (wrap_lo _) (wrap_hi _) w⟩

theorem both_and (b a c : Int) (hb : b = 32 ∨ b = 64) (a0 : 0 ≤ a) (a1 : a ≤ 18446744073709551615) (c0 : 0 ≤ c) (c1 : c ≤ 18446744073709551615) : BothB b 8 a c (cutW b (bits .and .u64 (cutW b a) (cutW b c))) 0 := by
  have cx := cutW_le b a a0
  have cy := cutW_le b c c0
  have x1 : cutW b a ≤ 18446744073709551615 := by omega
  have y1 : cutW b c ≤ 18446744073709551615 := by omega
  exact ⟨fun w => spec_and b a c hb (b_not0 hb) (b_wrap hb) a0 a1 c0 c1 (and_lo _ _) (and_hi _ _) w,
    fun w => binNone b 8 a c _ 95 hb a0 a1 c0 c1 (workH 8 95 (by omega) 8 rfl work_and) (trap0 _ _ _ _ (by omega) (by omega) (by omega) (by omega)) (enters_of Try.func95 (by kernel_rfl) rfl) (fun w => below_same (op_and b (cutW b a) (cutW b c) w)) (and_lo _ _) (and_hi _ _) w⟩

theorem both_or (b a c : Int) (hb : b = 32 ∨ b = 64) (a0 : 0 ≤ a) (a1 : a ≤ 18446744073709551615) (c0 : 0 ≤ c) (c1 : c ≤ 18446744073709551615) : BothB b 9 a c (cutW b (bits .or .u64 (cutW b a) (cutW b c))) 0 := by
  have cx := cutW_le b a a0
  have cy := cutW_le b c c0
  have x1 : cutW b a ≤ 18446744073709551615 := by omega
  have y1 : cutW b c ≤ 18446744073709551615 := by omega
  exact ⟨fun w => spec_or b a c hb (b_not0 hb) (b_wrap hb) a0 a1 c0 c1 (or_lo _ _) (or_hi _ _) w,
    fun w => binNone b 9 a c _ 96 hb a0 a1 c0 c1 (workH 9 96 (by omega) 9 rfl work_or) (trap0 _ _ _ _ (by omega) (by omega) (by omega) (by omega)) (enters_of Try.func96 (by kernel_rfl) rfl) (fun w => below_same (op_or b (cutW b a) (cutW b c) w)) (or_lo _ _) (or_hi _ _) w⟩

theorem both_xor (b a c : Int) (hb : b = 32 ∨ b = 64) (a0 : 0 ≤ a) (a1 : a ≤ 18446744073709551615) (c0 : 0 ≤ c) (c1 : c ≤ 18446744073709551615) : BothB b 10 a c (cutW b (bits .xor .u64 (cutW b a) (cutW b c))) 0 := by
  have cx := cutW_le b a a0
  have cy := cutW_le b c c0
  have x1 : cutW b a ≤ 18446744073709551615 := by omega
  have y1 : cutW b c ≤ 18446744073709551615 := by omega
  exact ⟨fun w => spec_xor b a c hb (b_not0 hb) (b_wrap hb) a0 a1 c0 c1 (xor_lo _ _) (xor_hi _ _) w,
    fun w => binNone b 10 a c _ 97 hb a0 a1 c0 c1 (workH 10 97 (by omega) 10 rfl work_xor) (trap0 _ _ _ _ (by omega) (by omega) (by omega) (by omega)) (enters_of Try.func97 (by kernel_rfl) rfl) (fun w => below_same (op_xor b (cutW b a) (cutW b c) w)) (xor_lo _ _) (xor_hi _ _) w⟩

theorem both_shl (b a c : Int) (hb : b = 32 ∨ b = 64) (a0 : 0 ≤ a) (a1 : a ≤ 18446744073709551615) (c0 : 0 ≤ c) (c1 : c ≤ 18446744073709551615) : BothB b 11 a c (cutW b (IntKind.u64.wrap ((cutW b a) * 2 ^ ((cutW b c) % b).toNat))) 0 := by
  have cx := cutW_le b a a0
  have cy := cutW_le b c c0
  have x1 : cutW b a ≤ 18446744073709551615 := by omega
  have y1 : cutW b c ≤ 18446744073709551615 := by omega
  exact ⟨fun w => spec_shl b a c hb (b_not0 hb) (b_wrap hb) a0 a1 c0 c1 _ cy.1 rfl (n_lo hb _) (n_hi hb _) (wrap_lo _) (wrap_hi _) w,
    fun w => binNone b 11 a c _ 98 hb a0 a1 c0 c1 (workH 11 98 (by omega) 11 rfl work_shl) (trap0 _ _ _ _ (by omega) (by omega) (by omega) (by omega)) (enters_of Try.func98 (by kernel_rfl) rfl) (fun w => below_same (op_shl b (cutW b a) (cutW b c) _ (b_not0 hb) (b_wrap hb) cy.1 rfl (n_lo hb _) (n_hi hb _) w)) (wrap_lo _) (wrap_hi _) w⟩

theorem both_shrU (b a c : Int) (hb : b = 32 ∨ b = 64) (a0 : 0 ≤ a) (a1 : a ≤ 18446744073709551615) (c0 : 0 ≤ c) (c1 : c ≤ 18446744073709551615) : BothB b 13 a c (cutW b ((cutW b a) / 2 ^ ((cutW b c) % b).toNat)) 0 := by
  have cx := cutW_le b a a0
  have cy := cutW_le b c c0
  have x1 : cutW b a ≤ 18446744073709551615 := by omega
  have y1 : cutW b c ≤ 18446744073709551615 := by omega
  exact ⟨fun w => spec_shrU b a c hb (b_not0 hb) (b_wrap hb) a0 a1 c0 c1 _ cy.1 rfl (n_lo hb _) (n_hi hb _) (div_lo _ _ cx.1) (Int.le_trans (div_hi _ _ cx.1) x1) w,
    fun w => binNone b 13 a c _ 100 hb a0 a1 c0 c1 (workH 13 100 (by omega) 13 rfl work_shrU) (trap0 _ _ _ _ (by omega) (by omega) (by omega) (by omega)) (enters_of Try.func100 (by kernel_rfl) rfl) (fun w => below_same (op_shrU b (cutW b a) (cutW b c) _ (b_not0 hb) (b_wrap hb) cy.1 rfl (n_lo hb _) (n_hi hb _) w)) (div_lo _ _ cx.1) (Int.le_trans (div_hi _ _ cx.1) x1) w⟩

theorem both_shrS (b a c : Int) (hb : b = 32 ∨ b = 64) (a0 : 0 ≤ a) (a1 : a ≤ 18446744073709551615) (c0 : 0 ≤ c) (c1 : c ≤ 18446744073709551615) : BothB b 12 a c (cutW b (IntKind.u64.wrap (sgW b (cutW b a) / 2 ^ ((cutW b c) % b).toNat))) 0 := by
  have cx := cutW_le b a a0
  have cy := cutW_le b c c0
  have x1 : cutW b a ≤ 18446744073709551615 := by omega
  have y1 : cutW b c ≤ 18446744073709551615 := by omega
  exact ⟨fun w => spec_shrS b a c hb (b_not0 hb) (b_wrap hb) a0 a1 c0 c1 _ cy.1 rfl (n_lo hb _) (n_hi hb _) (wrap_lo _) (wrap_hi _) w,
    fun w => binNone b 12 a c _ 99 hb a0 a1 c0 c1 (workH 12 99 (by omega) 12 rfl work_shrS) (trap0 _ _ _ _ (by omega) (by omega) (by omega) (by omega)) (enters_of Try.func99 (by kernel_rfl) rfl) (fun w => op_shrS b (cutW b a) (cutW b c) _ hb (b_not0 hb) (b_wrap hb) cx.1 x1 cy.1 rfl (n_lo hb _) (n_hi hb _) w) (wrap_lo _) (wrap_hi _) w⟩

theorem both_rotl (b a c : Int) (hb : b = 32 ∨ b = 64) (a0 : 0 ≤ a) (a1 : a ≤ 18446744073709551615) (c0 : 0 ≤ c) (c1 : c ≤ 18446744073709551615) : BothB b 14 a c (cutW b (bits .or .u64 (IntKind.u64.wrap ((cutW b a) * 2 ^ ((cutW b c) % b).toNat)) ((cutW b a) / 2 ^ (b - (cutW b c) % b).toNat))) 0 := by
  have cx := cutW_le b a a0
  have cy := cutW_le b c c0
  have x1 : cutW b a ≤ 18446744073709551615 := by omega
  have y1 : cutW b c ≤ 18446744073709551615 := by omega
  exact ⟨fun w => spec_rotl b a c hb (b_not0 hb) (b_wrap hb) a0 a1 c0 c1 _ cy.1 rfl (n_lo hb _) (n_hi hb _) (m_wrap hb _) (by have := n_lt hb (cutW b c); omega) (by have := n_lo hb (cutW b c); have := n_lt hb (cutW b c); omega) (or_lo _ _) (or_hi _ _) w,
    fun w => binNone b 14 a c _ 101 hb a0 a1 c0 c1 (workH 14 101 (by omega) 14 rfl work_rotl) (trap0 _ _ _ _ (by omega) (by omega) (by omega) (by omega)) (enters_of Try.func101 (by kernel_rfl) rfl) (fun w => below_same (op_rotl b (cutW b a) (cutW b c) _ (b_not0 hb) (b_wrap hb) cy.1 rfl (n_lo hb _) (n_hi hb _) (m_wrap hb _) (by have := n_lt hb (cutW b c); omega) (by have := n_lo hb (cutW b c); have := n_lt hb (cutW b c); omega) w)) (or_lo _ _) (or_hi _ _) w⟩

theorem both_eq (b a c : Int) (hb : b = 32 ∨ b = 64) (a0 : 0 ≤ a) (a1 : a ≤ 18446744073709551615) (c0 : 0 ≤ c) (c1 : c ≤ 18446744073709551615) : BothB b 16 a c (cutW b ((((cutW b a) == (cutW b c)).toNat : Int))) 0 := by
  have cx := cutW_le b a a0
  have cy := cutW_le b c c0
  have x1 : cutW b a ≤ 18446744073709551615 := by omega
  have y1 : cutW b c ≤ 18446744073709551615 := by omega
  exact ⟨fun w => spec_eq b a c hb (b_not0 hb) (b_wrap hb) a0 a1 c0 c1 (yes_lo _) (yes_hi _) w,
    fun w => binNone b 16 a c _ 103 hb a0 a1 c0 c1 (workH 16 103 (by omega) 16 rfl work_eq) (trap0 _ _ _ _ (by omega) (by omega) (by omega) (by omega)) (enters_of Try.func103 (by kernel_rfl) rfl) (fun w => below_same (op_eq b (cutW b a) (cutW b c) w)) (yes_lo _) (yes_hi _) w⟩

theorem both_ne (b a c : Int) (hb : b = 32 ∨ b = 64) (a0 : 0 ≤ a) (a1 : a ≤ 18446744073709551615) (c0 : 0 ≤ c) (c1 : c ≤ 18446744073709551615) : BothB b 17 a c (cutW b ((((cutW b a) != (cutW b c)).toNat : Int))) 0 := by
  have cx := cutW_le b a a0
  have cy := cutW_le b c c0
  have x1 : cutW b a ≤ 18446744073709551615 := by omega
  have y1 : cutW b c ≤ 18446744073709551615 := by omega
  exact ⟨fun w => spec_ne b a c hb (b_not0 hb) (b_wrap hb) a0 a1 c0 c1 (yes_lo _) (yes_hi _) w,
    fun w => binNone b 17 a c _ 104 hb a0 a1 c0 c1 (workH 17 104 (by omega) 17 rfl work_ne) (trap0 _ _ _ _ (by omega) (by omega) (by omega) (by omega)) (enters_of Try.func104 (by kernel_rfl) rfl) (fun w => below_same (op_ne b (cutW b a) (cutW b c) w)) (yes_lo _) (yes_hi _) w⟩

theorem both_ltS (b a c : Int) (hb : b = 32 ∨ b = 64) (a0 : 0 ≤ a) (a1 : a ≤ 18446744073709551615) (c0 : 0 ≤ c) (c1 : c ≤ 18446744073709551615) : BothB b 18 a c (cutW b (((decide (sgW b (cutW b a) < sgW b (cutW b c))).toNat : Int))) 0 := by
  have cx := cutW_le b a a0
  have cy := cutW_le b c c0
  have x1 : cutW b a ≤ 18446744073709551615 := by omega
  have y1 : cutW b c ≤ 18446744073709551615 := by omega
  exact ⟨fun w => spec_ltS b a c hb (b_not0 hb) (b_wrap hb) a0 a1 c0 c1 (yes_lo _) (yes_hi _) w,
    fun w => binNone b 18 a c _ 105 hb a0 a1 c0 c1 (workH 18 105 (by omega) 18 rfl work_ltS) (trap0 _ _ _ _ (by omega) (by omega) (by omega) (by omega)) (enters_of Try.func105 (by kernel_rfl) rfl) (fun w => below_same (op_ltS b (cutW b a) (cutW b c) hb cx.1 x1 cy.1 y1 w)) (yes_lo _) (yes_hi _) w⟩

theorem both_ltU (b a c : Int) (hb : b = 32 ∨ b = 64) (a0 : 0 ≤ a) (a1 : a ≤ 18446744073709551615) (c0 : 0 ≤ c) (c1 : c ≤ 18446744073709551615) : BothB b 19 a c (cutW b (((decide ((cutW b a) < (cutW b c))).toNat : Int))) 0 := by
  have cx := cutW_le b a a0
  have cy := cutW_le b c c0
  have x1 : cutW b a ≤ 18446744073709551615 := by omega
  have y1 : cutW b c ≤ 18446744073709551615 := by omega
  exact ⟨fun w => spec_ltU b a c hb (b_not0 hb) (b_wrap hb) a0 a1 c0 c1 (yes_lo _) (yes_hi _) w,
    fun w => binNone b 19 a c _ 106 hb a0 a1 c0 c1 (workH 19 106 (by omega) 19 rfl work_ltU) (trap0 _ _ _ _ (by omega) (by omega) (by omega) (by omega)) (enters_of Try.func106 (by kernel_rfl) rfl) (fun w => below_same (op_ltU b (cutW b a) (cutW b c) w)) (yes_lo _) (yes_hi _) w⟩

theorem both_gtS (b a c : Int) (hb : b = 32 ∨ b = 64) (a0 : 0 ≤ a) (a1 : a ≤ 18446744073709551615) (c0 : 0 ≤ c) (c1 : c ≤ 18446744073709551615) : BothB b 20 a c (cutW b (((decide (sgW b (cutW b c) < sgW b (cutW b a))).toNat : Int))) 0 := by
  have cx := cutW_le b a a0
  have cy := cutW_le b c c0
  have x1 : cutW b a ≤ 18446744073709551615 := by omega
  have y1 : cutW b c ≤ 18446744073709551615 := by omega
  exact ⟨fun w => spec_gtS b a c hb (b_not0 hb) (b_wrap hb) a0 a1 c0 c1 (yes_lo _) (yes_hi _) w,
    fun w => binNone b 20 a c _ 107 hb a0 a1 c0 c1 (workH 20 107 (by omega) 20 rfl work_gtS) (trap0 _ _ _ _ (by omega) (by omega) (by omega) (by omega)) (enters_of Try.func107 (by kernel_rfl) rfl) (fun w => below_same (op_gtS b (cutW b a) (cutW b c) hb cx.1 x1 cy.1 y1 w)) (yes_lo _) (yes_hi _) w⟩

theorem both_gtU (b a c : Int) (hb : b = 32 ∨ b = 64) (a0 : 0 ≤ a) (a1 : a ≤ 18446744073709551615) (c0 : 0 ≤ c) (c1 : c ≤ 18446744073709551615) : BothB b 21 a c (cutW b (((decide ((cutW b c) < (cutW b a))).toNat : Int))) 0 := by
  have cx := cutW_le b a a0
  have cy := cutW_le b c c0
  have x1 : cutW b a ≤ 18446744073709551615 := by omega
  have y1 : cutW b c ≤ 18446744073709551615 := by omega
  exact ⟨fun w => spec_gtU b a c hb (b_not0 hb) (b_wrap hb) a0 a1 c0 c1 (yes_lo _) (yes_hi _) w,
    fun w => binNone b 21 a c _ 108 hb a0 a1 c0 c1 (workH 21 108 (by omega) 21 rfl work_gtU) (trap0 _ _ _ _ (by omega) (by omega) (by omega) (by omega)) (enters_of Try.func108 (by kernel_rfl) rfl) (fun w => below_same (op_gtU b (cutW b a) (cutW b c) w)) (yes_lo _) (yes_hi _) w⟩

end Go.Proofs.Ytcnjllecobhalaa
