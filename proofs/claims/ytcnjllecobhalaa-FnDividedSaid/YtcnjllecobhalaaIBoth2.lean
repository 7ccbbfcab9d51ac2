/-
  Turning to the right, the divisions, and what is no operation: both sides alike.
-/
import Derived.Test.YtcnjllecobhalaaIBoth
import Derived.Test.YtcnjllecobhalaaIOrs
import Derived.ProofKit
import Derived.OpenShut
namespace Go.Proofs.Ytcnjllecobhalaa
open Go.ChangeShapes Go.WideShapes Go.ChangeAt Go.RowKit

theorem cut_lt (b a : Int) (hb : b = 32 ∨ b = 64) (_h0 : 0 ≤ a) (h1 : a ≤ 18446744073709551615) : b = 32 ∧ cutW b a ≤ 4294967295 ∨ b = 64 ∧ cutW b a ≤ 18446744073709551615 := by
  rcases hb with rfl | rfl
  · left; unfold cutW; simp; omega
  · right; unfold cutW; simp; omega

theorem rot_eq (b x n : Int) (hx : b = 32 ∧ x ≤ 4294967295 ∨ b = 64 ∧ x ≤ 18446744073709551615) (h0 : 0 ≤ x) (n0 : 0 ≤ n) (n1 : n < b) :
    cutW b (bits .or .u64 (IntKind.u64.wrap (x * 2 ^ ((b - n) % b).toNat)) (x / 2 ^ (b - (b - n) % b).toNat)) = cutW b (bits .or .u64 (x / 2 ^ n.toNat) (IntKind.u64.wrap (x * 2 ^ (b - n).toNat))) := by
  by_cases hn : n = 0
  · subst hn
    rcases hx with ⟨rfl, h1⟩ | ⟨rfl, h1⟩
    · have e1 : ((32 - 0 : Int) % 32).toNat = 0 := by decide
      have e2 : (32 - (32 - 0 : Int) % 32).toNat = 32 := by decide
      have e3 : (0 : Int).toNat = 0 := by decide
      have e4 : (32 - 0 : Int).toNat = 32 := by decide
      rw [e1, e2, e3, e4]
      have p : (2 : Int) ^ 32 = 4294967296 := by decide
      have q : (2 : Int) ^ 0 = 1 := by decide
      rw [p, q, show x / 4294967296 = 0 by omega, show x / 1 = x by omega, IntKind.wrap_u64, IntKind.wrap_u64, show x * 1 % 18446744073709551616 = x by omega, show x * 4294967296 % 18446744073709551616 = x * 4294967296 by omega, or_zero x h0 (by omega), or_high x h0 h1]
      unfold cutW
      simp
    · have e1 : ((64 - 0 : Int) % 64).toNat = 0 := by decide
      have e2 : (64 - (64 - 0 : Int) % 64).toNat = 64 := by decide
      have e3 : (0 : Int).toNat = 0 := by decide
      have e4 : (64 - 0 : Int).toNat = 64 := by decide
      rw [e1, e2, e3, e4]
      have p : (2 : Int) ^ 64 = 18446744073709551616 := by decide
      have q : (2 : Int) ^ 0 = 1 := by decide
      rw [p, q, show x / 18446744073709551616 = 0 by omega, show x / 1 = x by omega, IntKind.wrap_u64, IntKind.wrap_u64, show x * 1 % 18446744073709551616 = x by omega, show x * 18446744073709551616 % 18446744073709551616 = 0 by omega]
  · have e1 : (b - n) % b = b - n := Int.emod_eq_of_lt (by omega) (by omega)
    rw [e1, show b - (b - n) = n by omega, or_comm']

theorem both_rotr (b a c : Int) (hb : b = 32 ∨ b = 64) (a0 : 0 ≤ a) (a1 : a ≤ 18446744073709551615) (c0 : 0 ≤ c) (c1 : c ≤ 18446744073709551615) : BothB b 15 a c (cutW b (bits .or .u64 (cutW b a / 2 ^ (cutW b c % b).toNat) (IntKind.u64.wrap (cutW b a * 2 ^ (b - cutW b c % b).toNat)))) 0 := by
  have cx := cutW_le b a a0
  have cy := cutW_le b c c0
  have x1 : cutW b a ≤ 18446744073709551615 := by omega
  have y1 : cutW b c ≤ 18446744073709551615 := by omega
  have k1 := n_lo hb (cutW b c)
  have k2 := n_lt hb (cutW b c)
  have j1 := n_lo hb (b - cutW b c % b)
  have j2 := n_lt hb (b - cutW b c % b)
  refine ⟨fun w => spec_rotr b a c hb (b_not0 hb) (b_wrap hb) a0 a1 c0 c1 _ cy.1 rfl k1 (n_hi hb _) (m_wrap hb _) (by omega) (by omega) (or_lo _ _) (or_hi _ _) w, ?_⟩
  have h := fun w => binNone b 15 a c _ 102 hb a0 a1 c0 c1 (workH 15 102 (by omega) 15 rfl work_rotr) (trap0 _ _ _ _ (by omega) (by omega) (by omega) (by omega)) (enters_of Try.func102 (by kernel_rfl) rfl) (fun w => below_same (op_rotr b (cutW b a) (cutW b c) _ _ (b_not0 hb) (b_wrap hb) rfl (m_wrap hb _) (by omega) rfl j1 (n_hi hb _) (m_wrap hb _) (by omega) (by omega) cy.1 w)) (or_lo _ _) (or_hi _ _) w
  rw [rot_eq b (cutW b a) (cutW b c % b) (cut_lt b a hb a0 a1) cx.1 k1 k2] at h
  exact h

theorem sg_not0 (b y : Int) (hy : b = 32 ∧ y ≤ 4294967295 ∨ b = 64 ∧ y ≤ 18446744073709551615) (h0 : 0 ≤ y) (hn : y ≠ 0) : ¬ sgW b y = 0 := by
  rcases hy with ⟨rfl, h⟩ | ⟨rfl, h⟩
  · unfold sgW s32; simp; omega
  · unfold sgW s64; simp; omega
theorem neg_eq (b x : Int) (hx : b = 32 ∧ x ≤ 4294967295 ∨ b = 64 ∧ x ≤ 18446744073709551615) : cutW b (IntKind.u64.wrap (wrap64 ((sgW b x).tdiv (-1)))) = cutW b (IntKind.u64.wrap (-x)) := by
  rw [Int.tdiv_neg, Int.tdiv_one, IntKind.wrap_u64, IntKind.wrap_u64]
  rcases hx with ⟨rfl, h⟩ | ⟨rfl, h⟩
  · unfold sgW s32 cutW wrap64; simp; omega
  · unfold sgW s64 cutW wrap64; simp; omega
theorem rem_eq (b x : Int) : cutW b (IntKind.u64.wrap ((sgW b x).tmod (-1))) = 0 := by
  rw [Int.tmod_neg, Int.tmod_one, IntKind.wrap_u64]
  unfold cutW
  split <;> rfl
theorem cut_id (b x r : Int) (hx : b = 32 ∧ x ≤ 4294967295 ∨ b = 64 ∧ x ≤ 18446744073709551615) (r0 : 0 ≤ r) (r1 : r ≤ x) : cutW b r = r := by
  rcases hx with ⟨rfl, h⟩ | ⟨rfl, h⟩
  · unfold cutW; simp; omega
  · unfold cutW; simp

theorem both_zero (k : Nat) (f : Nat) (hk : k = 4 ∨ k = 5 ∨ k = 6 ∨ k = 7) (hf : workV k = .func (.func f) #[] #[]) (b a c : Int) (hb : b = 32 ∨ b = 64) (a0 : 0 ≤ a) (a1 : a ≤ 18446744073709551615) (c0 : 0 ≤ c) (c1 : c ≤ 18446744073709551615) (hy : cutW b c = 0) : BothB b k a c 0 1 := by
  have cx := cutW_le b a a0
  have cy := cutW_le b c c0
  have x1 : cutW b a ≤ 18446744073709551615 := by omega
  have y1 : cutW b c ≤ 18446744073709551615 := by omega
  have HD : Hid (∀ w, Calls Try.prog 110 #[.int .i64 b, .int .i64 k, .int .u64 (cutW b a), .int .u64 (cutW b c)] w fun e w' => e = .returned (.tuple #[.int .u64 0, .int .i64 1]) ∧ w' = w) := by
    intro w
    rw [hy]
    exact dv_zero b k (cutW b a) w
  refine ⟨?_, fun w => binTrap b k a c 1 f hb a0 a1 c0 c1 (workH k f (by omega) k rfl hf) ?_ (by decide) w⟩
  · rcases hk with rfl | rfl | rfl | rfl
    · exact fun w => spec_dv4 b a c hb (b_not0 hb) (b_wrap hb) a0 a1 c0 c1 cy.1 0 1 HD w
    · exact fun w => spec_dv5 b a c hb (b_not0 hb) (b_wrap hb) a0 a1 c0 c1 cy.1 0 1 HD w
    · exact fun w => spec_dv6 b a c hb (b_not0 hb) (b_wrap hb) a0 a1 c0 c1 cy.1 0 1 HD w
    · exact fun w => spec_dv7 b a c hb (b_not0 hb) (b_wrap hb) a0 a1 c0 c1 cy.1 0 1 HD w
  · unfold trapV
    rw [if_pos ⟨by omega, hy⟩]

theorem both_divU (b a c : Int) (hb : b = 32 ∨ b = 64) (a0 : 0 ≤ a) (a1 : a ≤ 18446744073709551615) (c0 : 0 ≤ c) (c1 : c ≤ 18446744073709551615) (hy : cutW b c ≠ 0) : BothB b 5 a c (cutW b a / cutW b c) 0 := by
  have cx := cutW_le b a a0
  have cy := cutW_le b c c0
  have x1 : cutW b a ≤ 18446744073709551615 := by omega
  have y1 : cutW b c ≤ 18446744073709551615 := by omega
  have q0 : 0 ≤ cutW b a / cutW b c := Int.ediv_nonneg cx.1 cy.1
  have q1 : cutW b a / cutW b c ≤ cutW b a := Int.ediv_le_self _ cx.1
  refine ⟨fun w => spec_dv5 b a c hb (b_not0 hb) (b_wrap hb) a0 a1 c0 c1 cy.1 _ 0 (fun w => dv_divU b _ _ cx.1 x1 cy.1 hy w) w, ?_⟩
  have h := fun w => binNone b 5 a c _ 92 hb a0 a1 c0 c1 (workH 5 92 (by omega) 5 rfl work_divU) (by unfold trapV; rw [if_neg (by omega), if_neg (by omega)]) (enters_of Try.func92 (by kernel_rfl) rfl) (fun w => below_same (op_divU b _ _ cx.1 x1 cy.1 hy w)) q0 (by omega) w
  rw [cut_id b (cutW b a) _ (cut_lt b a hb a0 a1) q0 q1] at h
  exact h

theorem both_remU (b a c : Int) (hb : b = 32 ∨ b = 64) (a0 : 0 ≤ a) (a1 : a ≤ 18446744073709551615) (c0 : 0 ≤ c) (c1 : c ≤ 18446744073709551615) (hy : cutW b c ≠ 0) : BothB b 7 a c (cutW b a % cutW b c) 0 := by
  have cx := cutW_le b a a0
  have cy := cutW_le b c c0
  have x1 : cutW b a ≤ 18446744073709551615 := by omega
  have y1 : cutW b c ≤ 18446744073709551615 := by omega
  have q0 : 0 ≤ cutW b a % cutW b c := Int.emod_nonneg _ hy
  have q1 : cutW b a % cutW b c ≤ cutW b a := by
    have h1 := Int.emod_add_mul_ediv (cutW b a) (cutW b c)
    have h2 : 0 ≤ cutW b c * (cutW b a / cutW b c) := Int.mul_nonneg cy.1 (Int.ediv_nonneg cx.1 cy.1)
    omega
  refine ⟨fun w => spec_dv7 b a c hb (b_not0 hb) (b_wrap hb) a0 a1 c0 c1 cy.1 _ 0 (fun w => dv_remU b _ _ cx.1 hy w) w, ?_⟩
  have h := fun w => binNone b 7 a c _ 94 hb a0 a1 c0 c1 (workH 7 94 (by omega) 7 rfl work_remU) (by unfold trapV; rw [if_neg (by omega), if_neg (by omega)]) (enters_of Try.func94 (by kernel_rfl) rfl) (fun w => below_same (op_remU b _ _ cx.1 hy w)) q0 (by omega) w
  rw [cut_id b (cutW b a) _ (cut_lt b a hb a0 a1) q0 q1] at h
  exact h

theorem both_remS (b a c : Int) (hb : b = 32 ∨ b = 64) (a0 : 0 ≤ a) (a1 : a ≤ 18446744073709551615) (c0 : 0 ≤ c) (c1 : c ≤ 18446744073709551615) (hy : cutW b c ≠ 0) : BothB b 6 a c (cutW b (IntKind.u64.wrap ((sgW b (cutW b a)).tmod (sgW b (cutW b c))))) 0 := by
  have cx := cutW_le b a a0
  have cy := cutW_le b c c0
  have x1 : cutW b a ≤ 18446744073709551615 := by omega
  have y1 : cutW b c ≤ 18446744073709551615 := by omega
  have hs0 := sg_not0 b _ (cut_lt b c hb c0 c1) cy.1 hy
  have h := fun w => binNone b 6 a c _ 93 hb a0 a1 c0 c1 (workH 6 93 (by omega) 6 rfl work_remS) (by unfold trapV; rw [if_neg (by omega), if_neg (by omega)]) (enters_of Try.func93 (by kernel_rfl) rfl) (fun w => below_same (op_remS b _ _ hb cx.1 x1 cy.1 y1 hs0 w)) (wrap_lo _) (wrap_hi _) w
  by_cases hs : sgW b (cutW b c) = -1
  · refine ⟨?_, h⟩
    rw [hs, rem_eq]
    exact fun w => spec_dv6 b a c hb (b_not0 hb) (b_wrap hb) a0 a1 c0 c1 cy.1 _ 0 (fun w => dv_remOne b _ _ hb hy hs w) w
  · exact ⟨fun w => spec_dv6 b a c hb (b_not0 hb) (b_wrap hb) a0 a1 c0 c1 cy.1 _ 0 (fun w => dv_rem b _ _ hb hy hs hs0 (wrap_lo _) (wrap_hi _) w) w, h⟩

theorem both_great (b a c : Int) (hb : b = 32 ∨ b = 64) (a0 : 0 ≤ a) (a1 : a ≤ 18446744073709551615) (c0 : 0 ≤ c) (c1 : c ≤ 18446744073709551615) (hy : cutW b c ≠ 0) (hs : sgW b (cutW b c) = -1) (hx : cutW b a = lst b) : BothB b 4 a c 0 2 := by
  have cx := cutW_le b a a0
  have cy := cutW_le b c c0
  have x1 : cutW b a ≤ 18446744073709551615 := by omega
  have y1 : cutW b c ≤ 18446744073709551615 := by omega
  refine ⟨fun w => spec_dv4 b a c hb (b_not0 hb) (b_wrap hb) a0 a1 c0 c1 cy.1 _ 2 (fun w => dv_great b _ _ hb hy hs hx w) w, fun w => binTrap b 4 a c 2 91 hb a0 a1 c0 c1 (workH 4 91 (by omega) 4 rfl work_divS) ?_ (by decide) w⟩
  unfold trapV
  rw [if_neg (by omega), if_pos ⟨rfl, hx, hs⟩]

theorem both_divS (b a c : Int) (hb : b = 32 ∨ b = 64) (a0 : 0 ≤ a) (a1 : a ≤ 18446744073709551615) (c0 : 0 ≤ c) (c1 : c ≤ 18446744073709551615) (hy : cutW b c ≠ 0) (hg : ¬ (cutW b a = lst b ∧ sgW b (cutW b c) = -1)) : BothB b 4 a c (cutW b (IntKind.u64.wrap (wrap64 ((sgW b (cutW b a)).tdiv (sgW b (cutW b c)))))) 0 := by
  have cx := cutW_le b a a0
  have cy := cutW_le b c c0
  have x1 : cutW b a ≤ 18446744073709551615 := by omega
  have y1 : cutW b c ≤ 18446744073709551615 := by omega
  have hs0 := sg_not0 b _ (cut_lt b c hb c0 c1) cy.1 hy
  have h := fun w => binNone b 4 a c _ 91 hb a0 a1 c0 c1 (workH 4 91 (by omega) 4 rfl work_divS) (by unfold trapV; rw [if_neg (by omega), if_neg (fun k => hg ⟨k.2.1, k.2.2⟩)]) (enters_of Try.func91 (by kernel_rfl) rfl) (fun w => below_same (op_divS b _ _ hb cx.1 x1 cy.1 y1 hs0 w)) (wrap_lo _) (wrap_hi _) w
  by_cases hs : sgW b (cutW b c) = -1
  · refine ⟨?_, h⟩
    rw [hs, neg_eq b _ (cut_lt b a hb a0 a1)]
    exact fun w => spec_dv4 b a c hb (b_not0 hb) (b_wrap hb) a0 a1 c0 c1 cy.1 _ 0 (fun w => dv_neg b _ _ hb hy hs (fun e => hg ⟨e, hs⟩) (wrap_lo _) (wrap_hi _) w) w
  · exact ⟨fun w => spec_dv4 b a c hb (b_not0 hb) (b_wrap hb) a0 a1 c0 c1 cy.1 _ 0 (fun w => dv_div b _ _ hb hy hs hs0 (wrap_lo _) (wrap_hi _) w) w, h⟩

theorem work_nil (op : Int) (h : op < 1 ∨ 22 ≤ op) : Hid (∀ w, Calls Try.prog 43 #[.int .i64 op] w fun e w' => e = .returned .nilFunc ∧ Below w.heap.size w w') := by
  intro w
  by_cases h0 : op = 0
  · subst h0
    exact work_in 0 (by omega) w
  · exact work_out op (by omega) w
theorem both_none (b a c : Int) (hb : b = 32 ∨ b = 64) (a0 : 0 ≤ a) (a1 : a ≤ 18446744073709551615) (c0 : 0 ≤ c) (c1 : c ≤ 18446744073709551615) (op : Int) (h : op < 1 ∨ 22 ≤ op) : BothB b op a c 0 3 := by
  have cx := cutW_le b a a0
  have cy := cutW_le b c c0
  have x1 : cutW b a ≤ 18446744073709551615 := by omega
  have y1 : cutW b c ≤ 18446744073709551615 := by omega
  exact ⟨fun w => spec_none b a c hb (b_not0 hb) (b_wrap hb) a0 a1 c0 c1 cy.1 op h w, fun w => binNoOp b op a c hb (work_nil op h) w⟩

theorem both_any (b a c : Int) (hb : b = 32 ∨ b = 64) (a0 : 0 ≤ a) (a1 : a ≤ 18446744073709551615) (c0 : 0 ≤ c) (c1 : c ≤ 18446744073709551615) (op : Int) : ∃ r t, BothB b op a c r t := by
  by_cases h : op < 1 ∨ 22 ≤ op
  · exact ⟨_, _, both_none b a c hb a0 a1 c0 c1 op h⟩
  · obtain ⟨k, rfl⟩ : ∃ k : Nat, op = k := ⟨op.toNat, by omega⟩
    by_cases h1 : k = 1
    · subst h1
      exact ⟨_, _, both_add b a c hb a0 a1 c0 c1⟩
    by_cases h2 : k = 2
    · subst h2
      exact ⟨_, _, both_sub b a c hb a0 a1 c0 c1⟩
    by_cases h3 : k = 3
    · subst h3
      exact ⟨_, _, both_mul b a c hb a0 a1 c0 c1⟩
    by_cases h4 : k = 4
    · subst h4
      by_cases hy : cutW b c = 0
      · exact ⟨_, _, both_zero 4 _ (by omega) work_divS b a c hb a0 a1 c0 c1 hy⟩
      · by_cases hg : cutW b a = lst b ∧ sgW b (cutW b c) = -1
        · exact ⟨_, _, both_great b a c hb a0 a1 c0 c1 hy hg.2 hg.1⟩
        · exact ⟨_, _, both_divS b a c hb a0 a1 c0 c1 hy hg⟩
    by_cases h5 : k = 5
    · subst h5
      by_cases hy : cutW b c = 0
      · exact ⟨_, _, both_zero 5 _ (by omega) work_divU b a c hb a0 a1 c0 c1 hy⟩
      · exact ⟨_, _, both_divU b a c hb a0 a1 c0 c1 hy⟩
    by_cases h6 : k = 6
    · subst h6
      by_cases hy : cutW b c = 0
      · exact ⟨_, _, both_zero 6 _ (by omega) work_remS b a c hb a0 a1 c0 c1 hy⟩
      · exact ⟨_, _, both_remS b a c hb a0 a1 c0 c1 hy⟩
    by_cases h7 : k = 7
    · subst h7
      by_cases hy : cutW b c = 0
      · exact ⟨_, _, both_zero 7 _ (by omega) work_remU b a c hb a0 a1 c0 c1 hy⟩
      · exact ⟨_, _, both_remU b a c hb a0 a1 c0 c1 hy⟩
    by_cases h8 : k = 8
    · subst h8
      exact ⟨_, _, both_and b a c hb a0 a1 c0 c1⟩
    by_cases h9 : k = 9
    · subst h9
      exact ⟨_, _, both_or b a c hb a0 a1 c0 c1⟩
    by_cases h10 : k = 10
    · subst h10
      exact ⟨_, _, both_xor b a c hb a0 a1 c0 c1⟩
    by_cases h11 : k = 11
    · subst h11
      exact ⟨_, _, both_shl b a c hb a0 a1 c0 c1⟩
    by_cases h12 : k = 12
    · subst h12
      exact ⟨_, _, both_shrS b a c hb a0 a1 c0 c1⟩
    by_cases h13 : k = 13
    · subst h13
      exact ⟨_, _, both_shrU b a c hb a0 a1 c0 c1⟩
    by_cases h14 : k = 14
    · subst h14
      exact ⟨_, _, both_rotl b a c hb a0 a1 c0 c1⟩
    by_cases h15 : k = 15
    · subst h15
      exact ⟨_, _, both_rotr b a c hb a0 a1 c0 c1⟩
    by_cases h16 : k = 16
    · subst h16
      exact ⟨_, _, both_eq b a c hb a0 a1 c0 c1⟩
    by_cases h17 : k = 17
    · subst h17
      exact ⟨_, _, both_ne b a c hb a0 a1 c0 c1⟩
    by_cases h18 : k = 18
    · subst h18
      exact ⟨_, _, both_ltS b a c hb a0 a1 c0 c1⟩
    by_cases h19 : k = 19
    · subst h19
      exact ⟨_, _, both_ltU b a c hb a0 a1 c0 c1⟩
    by_cases h20 : k = 20
    · subst h20
      exact ⟨_, _, both_gtS b a c hb a0 a1 c0 c1⟩
    by_cases h21 : k = 21
    · subst h21
      exact ⟨_, _, both_gtU b a c hb a0 a1 c0 c1⟩
    exfalso
    omega

theorem work_any (op : Int) : ∃ v, Hid (∀ w, Calls Try.prog 43 #[.int .i64 op] w fun e w' => e = .returned v ∧ Below w.heap.size w w') := by
  by_cases h : op < 1 ∨ 22 ≤ op
  · exact ⟨_, work_nil op h⟩
  · obtain ⟨k, rfl⟩ : ∃ k : Nat, op = k := ⟨op.toNat, by omega⟩
    exact ⟨_, fun w => work_in k (by omega) w⟩

theorem specBinary (b op a c r t : Int) (hb : b = 32 ∨ b = 64) (H : Hid (∀ w, Calls Try.prog 47 #[.int .i64 b, .int .i64 op, .int .u64 a, .int .u64 c] w fun e w' => e = .returned (.tuple #[.int .u64 r, .int .i64 t]) ∧ w' = w)) (w : World) :
    Calls Try.prog 11 #[.int .i64 b, .int .i64 op, .int .u64 a, .int .u64 c] w fun e w' => e = .returned (.tuple #[.int .u64 r, .int .i64 t]) ∧ w' = w := by
  have k : (b == 32 || b == 64) = true := by simpa using hb
  go_enter Try.func11, Try.ntmps11
  go_wp2_with (first | (go_at_call 46; refine (specBits b _).mono ?_; rw [k]; rintro e w' ⟨rfl, rfl⟩) | (go_at_call 47; refine (H.out _).mono ?_; rintro e w' ⟨rfl, rfl⟩))
  go_ret2
  exact ⟨rfl, rfl⟩
theorem specBinaryNo (b op a c : Int) (h1 : b ≠ 32) (h2 : b ≠ 64) (w : World) :
    Calls Try.prog 11 #[.int .i64 b, .int .i64 op, .int .u64 a, .int .u64 c] w fun e w' => e = .returned (.tuple #[.int .u64 0, .int .i64 3]) ∧ w' = w := by
  have k : (b == 32 || b == 64) = false := by simp [h1, h2]
  go_enter Try.func11, Try.ntmps11
  go_wp2_with (go_at_call 46; refine (specBits b _).mono ?_; rw [k]; rintro e w' ⟨rfl, rfl⟩)
  go_ret2
  exact ⟨rfl, rfl⟩

/-- At whatever bits and operation both sides answer alike. -/
theorem bin_both (b op a c : Int) (a0 : 0 ≤ a) (a1 : a ≤ 18446744073709551615) (c0 : 0 ≤ c) (c1 : c ≤ 18446744073709551615) : ∃ r t,
    Hid (∀ w, Calls Try.prog 11 #[.int .i64 b, .int .i64 op, .int .u64 a, .int .u64 c] w fun e w' => e = .returned (.tuple #[.int .u64 r, .int .i64 t]) ∧ w' = w) ∧
    Hid (∀ w, Calls Try.prog 10 #[.int .i64 b, .int .i64 op, .int .u64 a, .int .u64 c] w fun e w' => e = .returned (.tuple #[.int .u64 r, .int .i64 t]) ∧ Below w.heap.size w w') := by
  by_cases hb : b = 32 ∨ b = 64
  · obtain ⟨r, t, h1, h2⟩ := both_any b a c hb a0 a1 c0 c1 op
    exact ⟨r, t, fun w => specBinary b op a c r t hb h1 w, h2⟩
  · obtain ⟨v, hv⟩ := work_any op
    exact ⟨0, 3, fun w => specBinaryNo b op a c (by omega) (by omega) w, fun w => binNoBits b op a c (by omega) (by omega) v hv w⟩

end Go.Proofs.Ytcnjllecobhalaa
