/-
  Unary of both sides, operation by operation; the law of Unary.
-/
import Derived.Test.YtnimlkobcginjaaDoorIUOps
import Derived.Test.YtnimlkobcginjaaDoorIUSpecB
import Derived.Test.YtnimlkobcginjaaDoorIUSpecC
import Derived.Test.YtnimlkobcginjaaDoorIUSpecD
import Derived.ProofKit
import Derived.OpenShut
namespace Go.Proofs.YtnimlkobcginjaaDoor
open Go.ChangeShapes Go.WideShapes Go.ChangeAt Go.RowKit

theorem cut_nat (b a : Int) (hb : b = 32 ∨ b = 64) (a0 : 0 ≤ a) (a1 : a ≤ 18446744073709551615) : ∃ x : Nat, cutW b a = x ∧ x < 2 ^ b.toNat ∧ x < 18446744073709551616 := by
  have h := cutW_le b a a0
  refine ⟨(cutW b a).toNat, by omega, ?_, by omega⟩
  rcases hb with rfl | rfl
  · have e : cutW 32 a = a % 4294967296 := rfl
    rw [e]
    show _ < 2 ^ 32
    omega
  · show _ < 2 ^ 64
    omega
theorem uworkH (k f : Nat) (hk : k < 28) (i : Int) (hi : (k : Int) = i) (hf : uworkV k = .func (.func f) #[] #[]) (w : World) :
    Hid (Calls Tryd.prog 18 #[.int .i64 i] w fun e w' => e = .returned (.func (.func f) #[] #[]) ∧ Below w.heap.size w w') := by
  subst hi
  have := uwork_in k hk w
  rwa [hf] at this
theorem bl_le (x : Nat) (b : Nat) (hb : b ≤ 64) (h : x < 2 ^ b) : Lib.bitLen x ≤ b := by
  by_cases h0 : x = 0
  · rw [h0, bl_zero]; omega
  · have h64 : x < 2 ^ 64 := Nat.lt_of_lt_of_le h (Nat.pow_le_pow_right (by omega) hb)
    obtain ⟨b1, b2, b3, b4⟩ := bl_bounds 64 x h64 h0
    have e : Lib.bitLen x = Lib.bitLenAux 64 x := rfl
    rw [e]
    generalize Lib.bitLenAux 64 x = n at *
    have c := (Nat.pow_lt_pow_iff_right (a := 2) (by omega)).1 (Nat.lt_of_le_of_lt b3 h)
    omega
theorem pc_more (a b x : Nat) (h : x < 2 ^ a) : pc (a + b) x = pc a x := by rw [pc_add, Nat.div_eq_of_lt h, pc_zero, Nat.add_zero]
theorem pc_cut (x : Nat) (b : Int) (hb : b = 32 ∨ b = 64) (h : x < 2 ^ b.toNat) : pc 64 x = pc b.toNat x := by
  obtain ⟨n, hn⟩ : ∃ n, b.toNat = n := ⟨_, rfl⟩
  rw [hn] at h ⊢
  obtain ⟨m, hm⟩ : ∃ m, 64 = n + m := ⟨64 - n, by omega⟩
  rw [hm]
  exact pc_more n m x h

/-- What both sides are asked for. -/
def BothU (b op a r t : Int) : Prop :=
  (∀ w, Calls Tryd.prog 21 #[.int .i64 b, .int .i64 op, .int .u64 a] w fun e w' => e = .returned (.tuple #[.int .u64 r, .int .i64 t]) ∧ w' = w) ∧
  (∀ w, Tabs w → Calls Tryd.prog 5 #[.int .i64 b, .int .i64 op, .int .u64 a] w fun e w' => e = .returned (.tuple #[.int .u64 r, .int .i64 t]) ∧ Below w.heap.size w w')

theorem un_clz (b a : Int) (hb : b = 32 ∨ b = 64) (a0 : 0 ≤ a) (a1 : a ≤ 18446744073709551615) : ∃ r, BothU b 22 a r 0 := by
  obtain ⟨x, hx, hl, hs⟩ := cut_nat b a hb a0 a1
  have h1 := bl_le x b.toNat (by omega) hl
  refine ⟨_, fun w => us_clz b a _ hb a0 a1 x hx ⟨hl, hs⟩ rfl w, fun w _ => unSome b 22 a _ 29 hb a0 a1 w (uworkH 22 29 (by omega) 22 rfl uwork_clz w) (enters_of Tryd.func29 (by kernel_rfl) rfl) (fun w1 _ => ?_) (by omega) (by omega)⟩
  rw [hx]
  exact uop_clz b x _ _ (by omega) (by omega) rfl (near64 _ (by simp; omega) (by simp; omega)) (nearU _ (by simp; omega) (by simp; omega)) w1

theorem un_ctz (b a : Int) (hb : b = 32 ∨ b = 64) (a0 : 0 ≤ a) (a1 : a ≤ 18446744073709551615) : ∃ r, BothU b 23 a r 0 := by
  obtain ⟨x, hx, hl, hs⟩ := cut_nat b a hb a0 a1
  refine ⟨_, fun w => us_ctz b a _ hb a0 a1 x hx ⟨hl, hs⟩ rfl w, fun w hT => unSome b 23 a _ 30 hb a0 a1 w (uworkH 23 30 (by omega) 23 rfl uwork_ctz w) (enters_of Tryd.func30 (by kernel_rfl) rfl) (fun w1 hb1 => ?_) (by omega) (by omega)⟩
  rw [hx]
  exact uop_ctz b x hs _ rfl (nearU _ (by omega) (by omega)) w1 (tabs_keep hT hb1)

theorem un_popcnt (b a : Int) (hb : b = 32 ∨ b = 64) (a0 : 0 ≤ a) (a1 : a ≤ 18446744073709551615) : ∃ r, BothU b 24 a r 0 := by
  obtain ⟨x, hx, hl, hs⟩ := cut_nat b a hb a0 a1
  have e := pc_cut x b hb hl
  have h1 := (tb_sum x _ _ _ rfl rfl rfl).2.2.2.2.2
  refine ⟨_, fun w => us_popcnt b a _ hb a0 a1 x hx hs rfl w, fun w _ => unSome b 24 a _ 31 hb a0 a1 w (uworkH 24 31 (by omega) 24 rfl uwork_popcnt w) (enters_of Tryd.func31 (by kernel_rfl) rfl) (fun w1 _ => ?_) (by omega) (by omega)⟩
  rw [hx]
  exact uop_popcnt b x hs _ (by rw [e]) (nearU _ (by omega) (by omega)) w1

theorem yes_lo (b : Bool) : (0 : Int) ≤ b.toNat := by omega
theorem yes_hi (b : Bool) : (b.toNat : Int) ≤ 18446744073709551615 := by cases b <;> simp

theorem un_eqz (b a : Int) (hb : b = 32 ∨ b = 64) (a0 : 0 ≤ a) (a1 : a ≤ 18446744073709551615) : ∃ r, BothU b 25 a r 0 :=
  ⟨_, fun w => us_eqz b a hb a0 a1 (yes_lo _) (yes_hi _) w, fun w _ => unSome b 25 a _ 32 hb a0 a1 w (uworkH 25 32 (by omega) 25 rfl uwork_eqz w) (enters_of Tryd.func32 (by kernel_rfl) rfl) (fun w1 _ => uop_eqz b _ w1) (yes_lo _) (yes_hi _)⟩

theorem un_extend8 (b a : Int) (hb : b = 32 ∨ b = 64) (a0 : 0 ≤ a) (a1 : a ≤ 18446744073709551615) : ∃ r, BothU b 26 a r 0 :=
  ⟨_, fun w => us_extend8 b a hb a0 a1 w, fun w _ => unSome b 26 a _ 33 hb a0 a1 w (uworkH 26 33 (by omega) 26 rfl uwork_extend8 w) (enters_of Tryd.func33 (by kernel_rfl) rfl) (fun w1 _ => uop_extend8 b _ w1) (uwrap_lo _) (uwrap_hi _)⟩

theorem un_extend16 (b a : Int) (hb : b = 32 ∨ b = 64) (a0 : 0 ≤ a) (a1 : a ≤ 18446744073709551615) : ∃ r, BothU b 27 a r 0 :=
  ⟨_, fun w => us_extend16 b a hb a0 a1 w, fun w _ => unSome b 27 a _ 34 hb a0 a1 w (uworkH 27 34 (by omega) 27 rfl uwork_extend16 w) (enters_of Tryd.func34 (by kernel_rfl) rfl) (fun w1 _ => uop_extend16 b _ w1) (uwrap_lo _) (uwrap_hi _)⟩

theorem uwork_nil (op : Int) (h : op < 22 ∨ 28 ≤ op) (w : World) : Hid (Calls Tryd.prog 18 #[.int .i64 op] w fun e w' => e = .returned .nilFunc ∧ Below w.heap.size w w') := by
  by_cases h0 : 0 ≤ op ∧ op < 22
  · obtain ⟨k, rfl⟩ : ∃ k : Nat, op = k := ⟨op.toNat, by omega⟩
    have := uwork_in k (by omega) w
    have e : uworkV k = .nilFunc := uwork_none ⟨k, by omega⟩
    rwa [e] at this
  · exact uwork_out op (by omega) w
theorem uwork_any (op : Int) (w : World) : ∃ v, Hid (Calls Tryd.prog 18 #[.int .i64 op] w fun e w' => e = .returned v ∧ Below w.heap.size w w') := by
  by_cases h : op < 22 ∨ 28 ≤ op
  · exact ⟨_, uwork_nil op h w⟩
  · obtain ⟨k, rfl⟩ : ∃ k : Nat, op = k := ⟨op.toNat, by omega⟩
    exact ⟨_, uwork_in k (by omega) w⟩

theorem un_any (b a op : Int) (hb : b = 32 ∨ b = 64) (a0 : 0 ≤ a) (a1 : a ≤ 18446744073709551615) : ∃ r t, BothU b op a r t := by
  by_cases h : op < 22 ∨ 28 ≤ op
  · exact ⟨_, _, fun w => us_none b a hb a0 a1 op h w, fun w _ => unNoOp b op a hb w (uwork_nil op h w)⟩
  · have hc : op = 22 ∨ op = 23 ∨ op = 24 ∨ op = 25 ∨ op = 26 ∨ op = 27 := by omega
    rcases hc with rfl | rfl | rfl | rfl | rfl | rfl
    · obtain ⟨r, h⟩ := un_clz b a hb a0 a1; exact ⟨r, 0, h⟩
    · obtain ⟨r, h⟩ := un_ctz b a hb a0 a1; exact ⟨r, 0, h⟩
    · obtain ⟨r, h⟩ := un_popcnt b a hb a0 a1; exact ⟨r, 0, h⟩
    · obtain ⟨r, h⟩ := un_eqz b a hb a0 a1; exact ⟨r, 0, h⟩
    · obtain ⟨r, h⟩ := un_extend8 b a hb a0 a1; exact ⟨r, 0, h⟩
    · obtain ⟨r, h⟩ := un_extend16 b a hb a0 a1; exact ⟨r, 0, h⟩

theorem specUnary (b op a r t : Int) (hb : b = 32 ∨ b = 64) (H : Hid (∀ w, Calls Tryd.prog 21 #[.int .i64 b, .int .i64 op, .int .u64 a] w fun e w' => e = .returned (.tuple #[.int .u64 r, .int .i64 t]) ∧ w' = w)) (w : World) :
    Calls Tryd.prog 6 #[.int .i64 b, .int .i64 op, .int .u64 a] w fun e w' => e = .returned (.tuple #[.int .u64 r, .int .i64 t]) ∧ w' = w := by
  have k : (b == 32 || b == 64) = true := by simpa using hb
  go_enter Tryd.func6, Tryd.ntmps6
  go_wp2_with (first | (go_at_call 20; refine (specBits b _).mono ?_; rw [k]; rintro e w' ⟨rfl, rfl⟩) | (go_at_call 21; refine (H.out _).mono ?_; rintro e w' ⟨rfl, rfl⟩))
  go_ret2
  exact ⟨rfl, rfl⟩

theorem specUnaryNo (b op a : Int) (h1 : b ≠ 32) (h2 : b ≠ 64) (w : World) :
    Calls Tryd.prog 6 #[.int .i64 b, .int .i64 op, .int .u64 a] w fun e w' => e = .returned (.tuple #[.int .u64 0, .int .i64 3]) ∧ w' = w := by
  have k : (b == 32 || b == 64) = false := by simp [h1, h2]
  go_enter Tryd.func6, Tryd.ntmps6
  go_wp2_with (go_at_call 20; refine (specBits b _).mono ?_; rw [k]; rintro e w' ⟨rfl, rfl⟩)
  go_ret2
  exact ⟨rfl, rfl⟩

theorem un_both (b op a : Int) (a0 : 0 ≤ a) (a1 : a ≤ 18446744073709551615) (w : World) (hT : Tabs w) : ∃ r t,
    Hid (∀ w, Calls Tryd.prog 6 #[.int .i64 b, .int .i64 op, .int .u64 a] w fun e w' => e = .returned (.tuple #[.int .u64 r, .int .i64 t]) ∧ w' = w) ∧
    Hid (Calls Tryd.prog 5 #[.int .i64 b, .int .i64 op, .int .u64 a] w fun e w' => e = .returned (.tuple #[.int .u64 r, .int .i64 t]) ∧ Below w.heap.size w w') := by
  by_cases hb : b = 32 ∨ b = 64
  · obtain ⟨r, t, h1, h2⟩ := un_any b a op hb a0 a1
    exact ⟨r, t, fun w => specUnary b op a r t hb h1 w, h2 w hT⟩
  · obtain ⟨v, hv⟩ := uwork_any op w
    exact ⟨0, 3, fun w => specUnaryNo b op a (by omega) (by omega) w, unNoBits b op a (by omega) (by omega) v w hv⟩

end Go.Proofs.YtnimlkobcginjaaDoor
