/-
  Noughts ahead of a number and behind it, and its ones: plain facts.
-/
import Derived.Test.YtnimlkobcginjaaDoorIUBoth
namespace Go.Proofs.YtnimlkobcginjaaDoor
open Go.RowKit

theorem pc_le : ∀ (f k y : Nat), y < 2 ^ k → pc f y ≤ k
  | 0, k, y, _ => Nat.zero_le _
  | f + 1, 0, y, h => by
    obtain rfl : y = 0 := by simpa using h
    rw [pc_zero]; omega
  | f + 1, k + 1, y, h => by
    have h2 : y / 2 < 2 ^ k := by rw [Nat.pow_succ] at h; omega
    have := pc_le f k (y / 2) h2
    rw [pc]; omega

theorem and_dec (x : Nat) : (x &&& (x - 1)) % 2 = 0 := by
  have h := Nat.and_mod_two_eq_one (a := x) (b := x - 1)
  omega

theorem pc_dec : ∀ (f x : Nat), x ≠ 0 → x < 2 ^ f → pc f (x &&& (x - 1)) + 1 = pc f x
  | 0, x, h0, h => by simp at h; omega
  | f + 1, x, h0, h => by
    have e0 := and_dec x
    have e1 : (x &&& (x - 1)) / 2 = x / 2 &&& (x - 1) / 2 := Nat.and_div_two
    rw [pc, pc, e0, e1]
    by_cases hx : x % 2 = 1
    · have e2 : (x - 1) / 2 = x / 2 := by omega
      rw [e2, Nat.and_self]; omega
    · have e2 : (x - 1) / 2 = x / 2 - 1 := by omega
      have := pc_dec f (x / 2) (by omega) (by rw [Nat.pow_succ] at h; omega)
      rw [e2]; omega

/-- What the counts of a number that is not nought tell. -/
theorem cnt_facts (x n : Nat) (h0 : x ≠ 0) (hn : n ≤ 64) (h : x < 2 ^ n) : ∃ L c : Nat, Lib.bitLen x = L ∧ Lib.ctz 64 x = c ∧ 1 ≤ L ∧ L ≤ n ∧ c < L ∧ x / 2 ^ (L - 1) = 1 ∧ x / 2 ^ c % 2 = 1 ∧ x % 2 ^ c = 0 ∧ pc 64 x + c ≤ L ∧ 1 ≤ pc 64 x := by
  have h64 : x < 2 ^ 64 := Nat.lt_of_lt_of_le h (Nat.pow_le_pow_right (by omega) hn)
  obtain ⟨b1, b2, b3, b4⟩ := bl_bounds 64 x h64 h0
  have hL := bl_le x n hn h
  have e : Lib.bitLen x = Lib.bitLenAux 64 x := rfl
  rw [← e] at b1 b2 b3 b4
  generalize Lib.bitLen x = L at *
  obtain ⟨m, hm, hc⟩ := Lib.ctzFrom_spec 64 x (by omega) h64
  have ec : Lib.ctz 64 x = Lib.ctzFrom 64 x := by unfold Lib.ctz; rw [if_neg h0]
  generalize Lib.ctzFrom 64 x = c at *
  have hp := Nat.two_pow_pos c
  have d1 : x / 2 ^ c = 2 * m + 1 := by rw [hm, Nat.mul_div_cancel_left _ hp]
  have d2 : x % 2 ^ c = 0 := by rw [hm, Nat.mul_mod_right]
  have hcL : c < L := by
    have : 2 ^ c ≤ x := by rw [hm]; exact Nat.le_mul_of_pos_right _ (by omega)
    exact (Nat.pow_lt_pow_iff_right (a := 2) (by omega)).1 (Nat.lt_of_le_of_lt this b4)
  have d3 : x / 2 ^ (L - 1) = 1 := by
    have p := Nat.two_pow_pos (L - 1)
    have e2 : 2 ^ L = 2 * 2 ^ (L - 1) := by rw [← Nat.pow_succ']; congr 1; omega
    rw [e2] at b4
    exact Nat.div_eq_of_lt_le (by omega) (by omega)
  have hy : x / 2 ^ c < 2 ^ (L - c) := by
    rw [Nat.div_lt_iff_lt_mul hp, ← Nat.pow_add]
    rw [show L - c + c = L by omega]; exact b4
  have p1 : pc 64 x = pc c x + pc (64 - c) (x / 2 ^ c) := by rw [← pc_add, show c + (64 - c) = 64 by omega]
  have p2 : pc c x = 0 := by rw [pc_mod, d2, pc_zero]
  have p3 := pc_le (64 - c) (L - c) _ hy
  have p4 : 1 ≤ pc (64 - c) (x / 2 ^ c) := by
    obtain ⟨k, hk⟩ : ∃ k, 64 - c = k + 1 := ⟨63 - c, by omega⟩
    rw [hk, d1, pc]; omega
  exact ⟨L, c, rfl, ec, b1, hL, hcL, d3, by rw [d1]; omega, d2, by omega, by omega⟩

theorem clzI (b a : Int) (hb : b = 32 ∨ b = 64) (a0 : 0 ≤ a) (a1 : a ≤ 18446744073709551615) (x : Nat) (hx : cutW b a = x) (hl : x < 2 ^ b.toNat) (hs : x < 18446744073709551616) (w : World) :
    Calls Tryd.prog 5 #[.int .i64 b, .int .i64 22, .int .u64 a] w fun e w' => e = .returned (.tuple #[.int .u64 (cutW b (b - (Lib.bitLen x : Int))), .int .i64 0]) ∧ Below w.heap.size w w' := by
  have h1 := bl_le x b.toNat (by omega) hl
  refine unSome b 22 a _ 29 hb a0 a1 w (uworkH 22 29 (by omega) 22 rfl uwork_clz w) (enters_of Tryd.func29 (by kernel_rfl) rfl) (fun w1 _ => ?_) (by omega) (by omega)
  rw [hx]
  exact uop_clz b x _ _ (by omega) (by omega) rfl (near64 _ (by simp; omega) (by simp; omega)) (nearU _ (by simp; omega) (by simp; omega)) w1

theorem ctzI (b a : Int) (hb : b = 32 ∨ b = 64) (a0 : 0 ≤ a) (a1 : a ≤ 18446744073709551615) (x : Nat) (hx : cutW b a = x) (hs : x < 18446744073709551616) (w : World) (hT : Tabs w) :
    Calls Tryd.prog 5 #[.int .i64 b, .int .i64 23, .int .u64 a] w fun e w' => e = .returned (.tuple #[.int .u64 (cutW b (min b (Lib.ctz 64 x : Int))), .int .i64 0]) ∧ Below w.heap.size w w' := by
  refine unSome b 23 a _ 30 hb a0 a1 w (uworkH 23 30 (by omega) 23 rfl uwork_ctz w) (enters_of Tryd.func30 (by kernel_rfl) rfl) (fun w1 hb1 => ?_) (by omega) (by omega)
  rw [hx]
  exact uop_ctz b x hs _ rfl (nearU _ (by omega) (by omega)) w1 (tabs_keep hT hb1)

theorem pcI (b a : Int) (hb : b = 32 ∨ b = 64) (a0 : 0 ≤ a) (a1 : a ≤ 18446744073709551615) (x : Nat) (hx : cutW b a = x) (hs : x < 18446744073709551616) (w : World) :
    Calls Tryd.prog 5 #[.int .i64 b, .int .i64 24, .int .u64 a] w fun e w' => e = .returned (.tuple #[.int .u64 (cutW b ((pc 64 x : Nat) : Int)), .int .i64 0]) ∧ Below w.heap.size w w' := by
  have h1 := (tb_sum x _ _ _ rfl rfl rfl).2.2.2.2.2
  refine unSome b 24 a _ 31 hb a0 a1 w (uworkH 24 31 (by omega) 24 rfl uwork_popcnt w) (enters_of Tryd.func31 (by kernel_rfl) rfl) (fun w1 _ => ?_) (by omega) (by omega)
  rw [hx]
  exact uop_popcnt b x hs _ rfl (nearU _ (by omega) (by omega)) w1

end Go.Proofs.YtnimlkobcginjaaDoor
