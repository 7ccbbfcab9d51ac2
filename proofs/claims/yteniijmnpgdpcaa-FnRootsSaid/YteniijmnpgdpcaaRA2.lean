/-
  FSqrt: the law's side.
-/
import Derived.Test.YteniijmnpgdpcaaFSqR
import Derived.Test.YteniijmnpgdpcaaFSqJ
import Derived.Test.YteniijmnpgdpcaaFFull
import Derived.OpenShut
namespace Go.Proofs.Yteniijmnpgdpcaa
open Go.RowKit

/-- The world of root: k and a. -/
structure RAt (x p : Int) (g : Nat) (M1 E1 : Int) (w : World) : Prop where
  c0 : w.cell? ⟨g, 0, none⟩ = some (.int .u64 x)
  c1 : w.cell? ⟨g, 1, none⟩ = some (.int .u64 p)
  a0 : w.cell? ⟨g + 1, 0, none⟩ = some (.bool false)
  a1 : w.cell? ⟨g + 1, 1, none⟩ = some (.bool false)
  a2 : w.cell? ⟨g + 1, 2, none⟩ = some (.bool false)
  a3 : w.cell? ⟨g + 1, 3, none⟩ = some (.int .u64 M1)
  a4 : w.cell? ⟨g + 1, 4, none⟩ = some (.int .i64 E1)
  za : ∀ j, w.frozen? ⟨g + 1, j, none⟩ = false
  hz : g + 2 ≤ w.heap.size

theorem RAt.below {x p : Int} {g : Nat} {M1 E1 : Int} {w w' : World} (h : RAt x p g M1 E1 w) (B : Below w.heap.size w w') : RAt x p g M1 E1 w' := by
  obtain ⟨c0, c1, a0, a1, a2, a3, a4, za, hz⟩ := h
  have k : Keeps w w' := ⟨B⟩
  exact ⟨k.cell (by omega) c0, k.cell (by omega) c1, k.cell (by omega) a0, k.cell (by omega) a1, k.cell (by omega) a2, k.cell (by omega) a3, k.cell (by omega) a4, fun j => k.frozen (by omega) (za j), by have := B.size; omega⟩

theorem RAt.setA {x p : Int} {g : Nat} {M1 E1 : Int} {w : World} (h : RAt x p g M1 E1 w) (M E : Int) :
    RAt x p g M E (((((w.setCell ⟨g + 1, 0, none⟩ (.bool false)).setCell ⟨g + 1, 1, none⟩ (.bool false)).setCell ⟨g + 1, 2, none⟩ (.bool false)).setCell ⟨g + 1, 3, none⟩ (.int .u64 M)).setCell ⟨g + 1, 4, none⟩ (.int .i64 E)) := by
  obtain ⟨c0, c1, a0, a1, a2, a3, a4, za, hz⟩ := h
  refine ⟨?_, ?_, ?_, ?_, ?_, ?_, ?_, fun j => ?_, ?_⟩
  all_goals simp [go_sem, *]

theorem rAtStart (x p : Int) (M1 E1 : Int) (t t2 : TypeId) (w : World) :
    RAt x p w.heap.size M1 E1 ((w.alloc (.cells #[.int .u64 x, .int .u64 p] t)).alloc (.cells #[.bool false, .bool false, .bool false, .int .u64 M1, .int .i64 E1] t2)) := by
  refine ⟨?_, ?_, ?_, ?_, ?_, ?_, ?_, fun j => ?_, ?_⟩
  all_goals simp [go_sem]

set_option maxHeartbeats 1000000 in
theorem sqQ_nan16 (m1 e1 : Int) (s1 : Bool) (w : World) :
    Calls Try.prog 44 #[(.agg #[.int .u64 5, .int .u64 10]), .agg #[.bool s1, .bool false, .bool true, .int .u64 m1, .int .i64 e1]] w fun e w' => e = .returned (.int .u32 (31744 + 512)) ∧ Below w.heap.size w w' := by
  go_enter Try.func44, Try.ntmps44
  go_wp2_with fail
  refine (l4Nan16 _).mono ?_
  rintro e' w3 ⟨rfl, B3⟩
  go_wp2
  go_ret
  refine ⟨rfl, ?_⟩
  ((repeat (first | refine bel_alloc ?_ _ | refine bel_dN ?_ _ | refine Below.drew ?_ | refine Below.setCell ?_ (by first | (simp; done) | (simp; omega)) _)); refine bel_step ?_ B3; (repeat (first | refine bel_alloc ?_ _ | refine bel_dN ?_ _ | refine Below.drew ?_ | refine Below.setCell ?_ (by first | (simp; done) | (simp; omega)) _)); exact Below.refl _ _)

set_option maxHeartbeats 1000000 in
theorem sqQ_nan32 (m1 e1 : Int) (s1 : Bool) (w : World) :
    Calls Try.prog 44 #[(.agg #[.int .u64 8, .int .u64 23]), .agg #[.bool s1, .bool false, .bool true, .int .u64 m1, .int .i64 e1]] w fun e w' => e = .returned (.int .u32 (2139095040 + 4194304)) ∧ Below w.heap.size w w' := by
  go_enter Try.func44, Try.ntmps44
  go_wp2_with fail
  refine (l4Nan32 _).mono ?_
  rintro e' w3 ⟨rfl, B3⟩
  go_wp2
  go_ret
  refine ⟨rfl, ?_⟩
  ((repeat (first | refine bel_alloc ?_ _ | refine bel_dN ?_ _ | refine Below.drew ?_ | refine Below.setCell ?_ (by first | (simp; done) | (simp; omega)) _)); refine bel_step ?_ B3; (repeat (first | refine bel_alloc ?_ _ | refine bel_dN ?_ _ | refine Below.drew ?_ | refine Below.setCell ?_ (by first | (simp; done) | (simp; omega)) _)); exact Below.refl _ _)

set_option maxHeartbeats 1000000 in
theorem sqQ_neginf16 (m1 e1 : Int) (w : World) :
    Calls Try.prog 44 #[(.agg #[.int .u64 5, .int .u64 10]), .agg #[.bool true, .bool true, .bool false, .int .u64 m1, .int .i64 e1]] w fun e w' => e = .returned (.int .u32 (31744 + 512)) ∧ Below w.heap.size w w' := by
  go_enter Try.func44, Try.ntmps44
  go_wp2_with fail
  refine (l4Nan16 _).mono ?_
  rintro e' w3 ⟨rfl, B3⟩
  go_wp2
  go_ret
  refine ⟨rfl, ?_⟩
  ((repeat (first | refine bel_alloc ?_ _ | refine bel_dN ?_ _ | refine Below.drew ?_ | refine Below.setCell ?_ (by first | (simp; done) | (simp; omega)) _)); refine bel_step ?_ B3; (repeat (first | refine bel_alloc ?_ _ | refine bel_dN ?_ _ | refine Below.drew ?_ | refine Below.setCell ?_ (by first | (simp; done) | (simp; omega)) _)); exact Below.refl _ _)

set_option maxHeartbeats 1000000 in
theorem sqQ_neginf32 (m1 e1 : Int) (w : World) :
    Calls Try.prog 44 #[(.agg #[.int .u64 8, .int .u64 23]), .agg #[.bool true, .bool true, .bool false, .int .u64 m1, .int .i64 e1]] w fun e w' => e = .returned (.int .u32 (2139095040 + 4194304)) ∧ Below w.heap.size w w' := by
  go_enter Try.func44, Try.ntmps44
  go_wp2_with fail
  refine (l4Nan32 _).mono ?_
  rintro e' w3 ⟨rfl, B3⟩
  go_wp2
  go_ret
  refine ⟨rfl, ?_⟩
  ((repeat (first | refine bel_alloc ?_ _ | refine bel_dN ?_ _ | refine Below.drew ?_ | refine Below.setCell ?_ (by first | (simp; done) | (simp; omega)) _)); refine bel_step ?_ B3; (repeat (first | refine bel_alloc ?_ _ | refine bel_dN ?_ _ | refine Below.drew ?_ | refine Below.setCell ?_ (by first | (simp; done) | (simp; omega)) _)); exact Below.refl _ _)

set_option maxHeartbeats 1000000 in
theorem sqQ_inf16 (m1 e1 : Int) (w : World) :
    Calls Try.prog 44 #[(.agg #[.int .u64 5, .int .u64 10]), .agg #[.bool false, .bool true, .bool false, .int .u64 m1, .int .i64 e1]] w fun e w' => e = .returned (.int .u32 (false.toNat * 32768 + 31744)) ∧ Below w.heap.size w w' := by
  go_enter Try.func44, Try.ntmps44
  go_wp2_with fail
  refine (l4Inf16 false _).mono ?_
  rintro e' w3 ⟨rfl, B3⟩
  go_wp2
  go_ret
  refine ⟨rfl, ?_⟩
  ((repeat (first | refine bel_alloc ?_ _ | refine bel_dN ?_ _ | refine Below.drew ?_ | refine Below.setCell ?_ (by first | (simp; done) | (simp; omega)) _)); refine bel_step ?_ B3; (repeat (first | refine bel_alloc ?_ _ | refine bel_dN ?_ _ | refine Below.drew ?_ | refine Below.setCell ?_ (by first | (simp; done) | (simp; omega)) _)); exact Below.refl _ _)

set_option maxHeartbeats 1000000 in
theorem sqQ_inf32 (m1 e1 : Int) (w : World) :
    Calls Try.prog 44 #[(.agg #[.int .u64 8, .int .u64 23]), .agg #[.bool false, .bool true, .bool false, .int .u64 m1, .int .i64 e1]] w fun e w' => e = .returned (.int .u32 (false.toNat * 2147483648 + 2139095040)) ∧ Below w.heap.size w w' := by
  go_enter Try.func44, Try.ntmps44
  go_wp2_with fail
  refine (l4Inf32 false _).mono ?_
  rintro e' w3 ⟨rfl, B3⟩
  go_wp2
  go_ret
  refine ⟨rfl, ?_⟩
  ((repeat (first | refine bel_alloc ?_ _ | refine bel_dN ?_ _ | refine Below.drew ?_ | refine Below.setCell ?_ (by first | (simp; done) | (simp; omega)) _)); refine bel_step ?_ B3; (repeat (first | refine bel_alloc ?_ _ | refine bel_dN ?_ _ | refine Below.drew ?_ | refine Below.setCell ?_ (by first | (simp; done) | (simp; omega)) _)); exact Below.refl _ _)

set_option maxHeartbeats 1000000 in
theorem sqQ_neg16 (m1 e1 : Int) (hm2 : (m1 != 0) = true) (w : World) :
    Calls Try.prog 44 #[(.agg #[.int .u64 5, .int .u64 10]), .agg #[.bool true, .bool false, .bool false, .int .u64 m1, .int .i64 e1]] w fun e w' => e = .returned (.int .u32 (31744 + 512)) ∧ Below w.heap.size w w' := by
  go_enter Try.func44, Try.ntmps44
  go_wp2_with fail
  refine (l4Nan16 _).mono ?_
  rintro e' w3 ⟨rfl, B3⟩
  go_wp2
  go_ret
  refine ⟨rfl, ?_⟩
  ((repeat (first | refine bel_alloc ?_ _ | refine bel_dN ?_ _ | refine Below.drew ?_ | refine Below.setCell ?_ (by first | (simp; done) | (simp; omega)) _)); refine bel_step ?_ B3; (repeat (first | refine bel_alloc ?_ _ | refine bel_dN ?_ _ | refine Below.drew ?_ | refine Below.setCell ?_ (by first | (simp; done) | (simp; omega)) _)); exact Below.refl _ _)

set_option maxHeartbeats 1000000 in
theorem sqQ_neg32 (m1 e1 : Int) (hm2 : (m1 != 0) = true) (w : World) :
    Calls Try.prog 44 #[(.agg #[.int .u64 8, .int .u64 23]), .agg #[.bool true, .bool false, .bool false, .int .u64 m1, .int .i64 e1]] w fun e w' => e = .returned (.int .u32 (2139095040 + 4194304)) ∧ Below w.heap.size w w' := by
  go_enter Try.func44, Try.ntmps44
  go_wp2_with fail
  refine (l4Nan32 _).mono ?_
  rintro e' w3 ⟨rfl, B3⟩
  go_wp2
  go_ret
  refine ⟨rfl, ?_⟩
  ((repeat (first | refine bel_alloc ?_ _ | refine bel_dN ?_ _ | refine Below.drew ?_ | refine Below.setCell ?_ (by first | (simp; done) | (simp; omega)) _)); refine bel_step ?_ B3; (repeat (first | refine bel_alloc ?_ _ | refine bel_dN ?_ _ | refine Below.drew ?_ | refine Below.setCell ?_ (by first | (simp; done) | (simp; omega)) _)); exact Below.refl _ _)

set_option maxHeartbeats 1000000 in
theorem sqQ_zp16 (m1 e1 : Int) (hm : (m1 == 0) = true) (w : World) :
    Calls Try.prog 44 #[(.agg #[.int .u64 5, .int .u64 10]), .agg #[.bool false, .bool false, .bool false, .int .u64 m1, .int .i64 e1]] w fun e w' => e = .returned (.int .u32 (false.toNat * 32768)) ∧ Below w.heap.size w w' := by
  go_enter Try.func44, Try.ntmps44
  go_wp2_with fail
  refine (l4Sign16 false _).mono ?_
  rintro e' w3 ⟨rfl, B3⟩
  go_wp2
  go_ret
  refine ⟨rfl, ?_⟩
  ((repeat (first | refine bel_alloc ?_ _ | refine bel_dN ?_ _ | refine Below.drew ?_ | refine Below.setCell ?_ (by first | (simp; done) | (simp; omega)) _)); refine bel_step ?_ B3; (repeat (first | refine bel_alloc ?_ _ | refine bel_dN ?_ _ | refine Below.drew ?_ | refine Below.setCell ?_ (by first | (simp; done) | (simp; omega)) _)); exact Below.refl _ _)

set_option maxHeartbeats 1000000 in
theorem sqQ_zp32 (m1 e1 : Int) (hm : (m1 == 0) = true) (w : World) :
    Calls Try.prog 44 #[(.agg #[.int .u64 8, .int .u64 23]), .agg #[.bool false, .bool false, .bool false, .int .u64 m1, .int .i64 e1]] w fun e w' => e = .returned (.int .u32 (false.toNat * 2147483648)) ∧ Below w.heap.size w w' := by
  go_enter Try.func44, Try.ntmps44
  go_wp2_with fail
  refine (l4Sign32 false _).mono ?_
  rintro e' w3 ⟨rfl, B3⟩
  go_wp2
  go_ret
  refine ⟨rfl, ?_⟩
  ((repeat (first | refine bel_alloc ?_ _ | refine bel_dN ?_ _ | refine Below.drew ?_ | refine Below.setCell ?_ (by first | (simp; done) | (simp; omega)) _)); refine bel_step ?_ B3; (repeat (first | refine bel_alloc ?_ _ | refine bel_dN ?_ _ | refine Below.drew ?_ | refine Below.setCell ?_ (by first | (simp; done) | (simp; omega)) _)); exact Below.refl _ _)

set_option maxHeartbeats 1000000 in
theorem sqQ_zn16 (m1 e1 : Int) (hm : (m1 == 0) = true) (hm2 : (m1 != 0) = false) (w : World) :
    Calls Try.prog 44 #[(.agg #[.int .u64 5, .int .u64 10]), .agg #[.bool true, .bool false, .bool false, .int .u64 m1, .int .i64 e1]] w fun e w' => e = .returned (.int .u32 (true.toNat * 32768)) ∧ Below w.heap.size w w' := by
  go_enter Try.func44, Try.ntmps44
  go_wp2_with fail
  refine (l4Sign16 true _).mono ?_
  rintro e' w3 ⟨rfl, B3⟩
  go_wp2
  go_ret
  refine ⟨rfl, ?_⟩
  ((repeat (first | refine bel_alloc ?_ _ | refine bel_dN ?_ _ | refine Below.drew ?_ | refine Below.setCell ?_ (by first | (simp; done) | (simp; omega)) _)); refine bel_step ?_ B3; (repeat (first | refine bel_alloc ?_ _ | refine bel_dN ?_ _ | refine Below.drew ?_ | refine Below.setCell ?_ (by first | (simp; done) | (simp; omega)) _)); exact Below.refl _ _)

set_option maxHeartbeats 1000000 in
theorem sqQ_zn32 (m1 e1 : Int) (hm : (m1 == 0) = true) (hm2 : (m1 != 0) = false) (w : World) :
    Calls Try.prog 44 #[(.agg #[.int .u64 8, .int .u64 23]), .agg #[.bool true, .bool false, .bool false, .int .u64 m1, .int .i64 e1]] w fun e w' => e = .returned (.int .u32 (true.toNat * 2147483648)) ∧ Below w.heap.size w w' := by
  go_enter Try.func44, Try.ntmps44
  go_wp2_with fail
  refine (l4Sign32 true _).mono ?_
  rintro e' w3 ⟨rfl, B3⟩
  go_wp2
  go_ret
  refine ⟨rfl, ?_⟩
  ((repeat (first | refine bel_alloc ?_ _ | refine bel_dN ?_ _ | refine Below.drew ?_ | refine Below.setCell ?_ (by first | (simp; done) | (simp; omega)) _)); refine bel_step ?_ B3; (repeat (first | refine bel_alloc ?_ _ | refine bel_dN ?_ _ | refine Below.drew ?_ | refine Below.setCell ?_ (by first | (simp; done) | (simp; omega)) _)); exact Below.refl _ _)

set_option maxHeartbeats 2000000 in
theorem sqQ_nn16 (n : Nat) (e1 r : Int) (hn : n ≠ 0) (hb : n < 2 * 1024) (he : -500 ≤ e1) (he' : e1 ≤ 500)
    (RA : Hid (∀ (j sh : Nat), 1024 ≤ n * 2 ^ j → n * 2 ^ j < 2 * 1024 → (sh = 57 - 10 ∨ sh = 56 - 10) → (e1 - j - sh) % 2 = 0 → ∀ s : Nat, s * s ≤ n * 2 ^ j * 2 ^ sh → n * 2 ^ j * 2 ^ sh < (s + 1) * (s + 1) → ∀ w, Calls Try.prog 58 #[(.agg #[.int .u64 5, .int .u64 10]), .bool false, .int .u64 (s : Int), .int .i64 ((e1 - j - sh) / 2), .bool (decide (s * s ≠ n * 2 ^ j * 2 ^ sh))] w fun e w' => e = .returned (.int .u32 r) ∧ Below w.heap.size w w')) (w : World) :
    Calls Try.prog 44 #[(.agg #[.int .u64 5, .int .u64 10]), .agg #[.bool false, .bool false, .bool false, .int .u64 (n : Int), .int .i64 e1]] w fun e w' => e = .returned (.int .u32 r) ∧ Below w.heap.size w w' := by
  have km1 : ((n : Int) == 0) = false := by simp; omega
  obtain ⟨W, hW⟩ : ∃ W, (w.alloc (.cells #[.int .u64 5, .int .u64 10] 58)).alloc (.cells #[.bool false, .bool false, .bool false, .int .u64 (n : Int), .int .i64 e1] 63) = W := ⟨_, rfl⟩
  have QW := rAtStart 5 10 (n : Int) e1 58 63 w
  have BW : Hid (Below w.heap.size w W) := by unfold Hid; rw [← hW]; (repeat (first | refine Below.alloc ?_ (by first | (simp; done) | (simp; omega)) _ | refine Below.setCell ?_ (by first | (simp; done) | (simp; omega)) _ | refine bel_dN ?_ _ | refine Below.drew ?_ | exact Below.refl _ _))
  rw [hW] at QW
  obtain ⟨g, hg⟩ : ∃ g, w.heap.size = g := ⟨_, rfl⟩
  have hgw' : w.heap.size ≤ g := by omega
  rw [hg] at QW
  have HQ : Hid (RAt 5 10 g (n : Int) e1 W) := QW
  obtain ⟨c0, c1, a0, a1, a2, a3, a4, za, hz⟩ := QW
  have FA : Hid (∀ w, Calls Try.prog 62 #[(.agg #[.int .u64 5, .int .u64 10]), .agg #[.bool false, .bool false, .bool false, .int .u64 (n : Int), .int .i64 e1]] w fun x w' => (∃ j : Nat, 1024 ≤ n * 2 ^ j ∧ n * 2 ^ j < 2 * 1024 ∧ x = .returned (.agg #[.bool false, .bool false, .bool false, .int .u64 ((n * 2 ^ j : Nat) : Int), .int .i64 (e1 - j)])) ∧ Below w.heap.size w w') := fun w => full16 n e1 false false false hn hb (by omega) (by omega) w
  go_enter Try.func44, Try.ntmps44
  go_wp2_with fail
  clear hW
  refine (FA.out _).mono ?_
  rintro e' w1 ⟨⟨j1, i1, i2, rfl⟩, B1⟩
  have HW1 : Hid (Below w.heap.size w w1) := bel_step BW.out B1
  have Q1 := HQ.out.below B1
  have HQ1 : Hid (RAt 5 10 g ((n * 2 ^ j1 : Nat) : Int) (e1 - j1) _) := Q1.setA ((n * 2 ^ j1 : Nat) : Int) (e1 - j1)
  obtain ⟨W2, hW2⟩ : ∃ W2, ((((w1.setCell ⟨g + 1, 0, none⟩ (.bool false)).setCell ⟨g + 1, 1, none⟩ (.bool false)).setCell ⟨g + 1, 2, none⟩ (.bool false)).setCell ⟨g + 1, 3, none⟩ (.int .u64 ((n * 2 ^ j1 : Nat) : Int))).setCell ⟨g + 1, 4, none⟩ (.int .i64 (e1 - j1)) = W2 := ⟨_, rfl⟩
  have BW2 : Hid (Below w.heap.size w W2) := by unfold Hid; rw [← hW2]; exact ((((HW1.out.setCell (p := ⟨g + 1, 0, none⟩) (by simp; omega) _).setCell (p := ⟨g + 1, 1, none⟩) (by simp; omega) _).setCell (p := ⟨g + 1, 2, none⟩) (by simp; omega) _).setCell (p := ⟨g + 1, 3, none⟩) (by simp; omega) _).setCell (p := ⟨g + 1, 4, none⟩) (by simp; omega) _
  rw [hW2] at HQ1
  have hj1 : j1 < 25 := by
    have hjp : 2 ^ j1 ≤ n * 2 ^ j1 := Nat.le_mul_of_pos_left _ (by omega)
    have h2j : 2 ^ j1 < 2 ^ 25 := Nat.lt_of_le_of_lt (Nat.le_trans hjp (Nat.le_of_lt i2)) (by decide)
    exact (Nat.pow_lt_pow_iff_right (by omega)).1 h2j
  have RB := RA.out j1
  obtain ⟨A, hA⟩ : ∃ A : Nat, n * 2 ^ j1 = A := ⟨_, rfl⟩
  obtain ⟨E1, hE1⟩ : ∃ E1, e1 - (j1 : Int) = E1 := ⟨_, rfl⟩
  rw [hA] at i1 i2 hW2 HQ1 RB
  rw [hE1] at hW2 HQ1 RB
  rw [hA, hE1]
  clear c0 c1 a0 a1 a2 a3 a4 za hz HQ BW B1 HW1 FA RA
  obtain ⟨c0, c1, a0, a1, a2, a3, a4, za, hz⟩ := Q1
  have ya0 := za 0
  have ya1 := za 1
  have ya2 := za 2
  have ya3 := za 3
  have ya4 := za 4
  have hlen : Lib.bitLen A = 10 + 1 := bl_eq A (10 + 1) (by omega) (by omega) (by rw [show (2 : Nat) ^ (10 + 1 - 1) = 1024 by decide]; exact i1) (by rw [show (2 : Nat) ^ (10 + 1) = 2 * 1024 by decide]; exact i2)
  obtain ⟨Lq, hLq⟩ : ∃ Lq : Int, (Lib.bitLen A : Int) = Lq := ⟨_, rfl⟩
  have LN : Hid (∀ w, Calls Try.prog 65 #[.int .u64 (A : Int)] w fun e w' => e = .returned (.int .i64 Lq) ∧ w' = w) := by
    rw [← hLq]; exact fun w => l4LenB A (by omega) w
  obtain ⟨s0, hs0⟩ : ∃ s0 : Nat, 57 - 10 = s0 := ⟨_, rfl⟩
  have h1 : wrap64 (58 - Lq) = (s0 : Int) := by unfold wrap64; omega
  have h2 : wrap64 (E1 - (s0 : Int)) = E1 - (s0 : Int) := by unfold wrap64; omega
  obtain ⟨t, ht⟩ : ∃ t, (E1 - (s0 : Int)).tmod 2 = t := ⟨_, rfl⟩
  by_cases hpar : (E1 - (s0 : Int)) % 2 = 0
  · have h4 : (t != 0) = false := by
      have h0 : t = 0 := by rw [← ht]; exact Int.tmod_eq_zero_of_dvd (Int.dvd_of_emod_eq_zero hpar)
      rw [h0]; rfl
    have R0 := RB s0 i1 i2 (Or.inl hs0.symm) hpar
    have hX : A * 2 ^ s0 < 1152921504606846976 := by rw [← hs0]; exact Nat.lt_of_lt_of_le (Nat.mul_lt_mul_of_pos_right i2 (Nat.two_pow_pos _)) (by decide)
    obtain ⟨X, hXe⟩ : ∃ X, A * 2 ^ s0 = X := ⟨_, rfl⟩
    obtain ⟨D, hD⟩ : ∃ D, (E1 - (s0 : Int)) / 2 = D := ⟨_, rfl⟩
    rw [hXe] at R0 hX
    rw [hD] at R0
    have RR : Hid (∀ s : Nat, s * s ≤ X → X < (s + 1) * (s + 1) → ∀ w, Calls Try.prog 58 #[(.agg #[.int .u64 5, .int .u64 10]), .bool false, .int .u64 (s : Int), .int .i64 D, .bool (decide (s * s ≠ X))] w fun e w' => e = .returned (.int .u32 r) ∧ Below w.heap.size w w') := R0
    have WR : Hid (∀ w, Calls Try.prog 66 #[.int .u64 (X : Int)] w fun e w' => (∃ s : Nat, s * s ≤ X ∧ X < (s + 1) * (s + 1) ∧ e = .returned (.int .u64 (s : Int))) ∧ w' = w) := fun w => l4RootS X hX w
    have HX : Hid (X < 1152921504606846976) := hX
    have h7 : min s0 64 = s0 := by omega
    have h8 : IntKind.u64.wrap ((A : Int) * 2 ^ s0) = (X : Int) := by
      rw [show (A : Int) * 2 ^ s0 = ((A * 2 ^ s0 : Nat) : Int) by simp, hXe, IntKind.wrap_u64]; omega
    have h10 : (E1 - (s0 : Int)).tdiv 2 = D := by rw [← hD]; exact Int.tdiv_eq_ediv_of_dvd (Int.dvd_of_emod_eq_zero hpar)
    have h11 : wrap64 D = D := by unfold wrap64; omega
    have h12 : IntKind.u64.wrap (s0 : Int) = (s0 : Int) := by rw [IntKind.wrap_u64]; omega
    clear hpar RB R0 hX hXe hD hlen hLq hs0 hA hE1 i1 i2 hj1 hn hb he he' km1
    obtain ⟨d0, d1, f0, f1, f2, f3, f4, xa, hx⟩ := HQ1.out
    go_wp2_with (first | (go_at_call 65; refine (LN.out _).mono ?_; rintro e' w5 ⟨rfl, hw5⟩; obtain rfl := hw5))
    refine (WR.out _).mono ?_
    rintro e' w6 ⟨⟨s, i3, i4, rfl⟩, hw6⟩
    obtain rfl := hw6
    have R := RR.out s i3 i4
    have rr := sqRoom s X HX.out i3
    have ne := sqNe s X
    generalize decide (s * s ≠ X) = more at *
    generalize s * s = Z at *
    clear i3 i4
    go_wp2_with fail
    refine (R _).mono ?_
    rintro e' w7 ⟨rfl, B7⟩
    go_wp2
    go_ret
    refine ⟨rfl, ?_⟩
    first | exact bel_step BW2.out B7 | exact bel_step (by rw [HW2.out]; exact BW2.out) B7
  · have h4 : (t != 0) = true := by
      have h0 : t ≠ 0 := by rw [← ht]; exact fun h => hpar (Int.emod_eq_zero_of_dvd (Int.dvd_of_tmod_eq_zero h))
      simp [h0]
    obtain ⟨sh, hsh⟩ : ∃ sh : Nat, s0 - 1 = sh := ⟨_, rfl⟩
    have hpar2 : (E1 - (sh : Int)) % 2 = 0 := by omega
    have R0 := RB sh i1 i2 (Or.inr (by omega)) hpar2
    have h5 : wrap64 ((s0 : Int) - 1) = (sh : Int) := by unfold wrap64; omega
    have h9 : wrap64 (E1 - (sh : Int)) = E1 - (sh : Int) := by unfold wrap64; omega
    have hshl : sh = 56 - 10 := by omega
    have hX : A * 2 ^ sh < 1152921504606846976 := by rw [hshl]; exact Nat.lt_of_lt_of_le (Nat.mul_lt_mul_of_pos_right i2 (Nat.two_pow_pos _)) (by decide)
    obtain ⟨X, hXe⟩ : ∃ X, A * 2 ^ sh = X := ⟨_, rfl⟩
    obtain ⟨D, hD⟩ : ∃ D, (E1 - (sh : Int)) / 2 = D := ⟨_, rfl⟩
    rw [hXe] at R0 hX
    rw [hD] at R0
    have RR : Hid (∀ s : Nat, s * s ≤ X → X < (s + 1) * (s + 1) → ∀ w, Calls Try.prog 58 #[(.agg #[.int .u64 5, .int .u64 10]), .bool false, .int .u64 (s : Int), .int .i64 D, .bool (decide (s * s ≠ X))] w fun e w' => e = .returned (.int .u32 r) ∧ Below w.heap.size w w') := R0
    have WR : Hid (∀ w, Calls Try.prog 66 #[.int .u64 (X : Int)] w fun e w' => (∃ s : Nat, s * s ≤ X ∧ X < (s + 1) * (s + 1) ∧ e = .returned (.int .u64 (s : Int))) ∧ w' = w) := fun w => l4RootS X hX w
    have HX : Hid (X < 1152921504606846976) := hX
    have h7 : min sh 64 = sh := by omega
    have h8 : IntKind.u64.wrap ((A : Int) * 2 ^ sh) = (X : Int) := by
      rw [show (A : Int) * 2 ^ sh = ((A * 2 ^ sh : Nat) : Int) by simp, hXe, IntKind.wrap_u64]; omega
    have h10 : (E1 - (sh : Int)).tdiv 2 = D := by rw [← hD]; exact Int.tdiv_eq_ediv_of_dvd (Int.dvd_of_emod_eq_zero hpar2)
    have h11 : wrap64 D = D := by unfold wrap64; omega
    have h12 : IntKind.u64.wrap (sh : Int) = (sh : Int) := by rw [IntKind.wrap_u64]; omega
    clear hpar hpar2 RB R0 hX hXe hD hlen hLq hs0 hA hE1 i1 i2 hj1 hn hb he he' km1 hshl hsh
    obtain ⟨d0, d1, f0, f1, f2, f3, f4, xa, hx⟩ := HQ1.out
    go_wp2_with (first | (go_at_call 65; refine (LN.out _).mono ?_; rintro e' w5 ⟨rfl, hw5⟩; obtain rfl := hw5))
    refine (WR.out _).mono ?_
    rintro e' w6 ⟨⟨s, i3, i4, rfl⟩, hw6⟩
    obtain rfl := hw6
    have R := RR.out s i3 i4
    have rr := sqRoom s X HX.out i3
    have ne := sqNe s X
    generalize decide (s * s ≠ X) = more at *
    generalize s * s = Z at *
    clear i3 i4
    go_wp2_with fail
    refine (R _).mono ?_
    rintro e' w7 ⟨rfl, B7⟩
    go_wp2
    go_ret
    refine ⟨rfl, ?_⟩
    first | exact bel_step BW2.out B7 | exact bel_step (by rw [HW2.out]; exact BW2.out) B7

set_option maxHeartbeats 2000000 in
theorem sqQ_nn32 (n : Nat) (e1 r : Int) (hn : n ≠ 0) (hb : n < 2 * 8388608) (he : -500 ≤ e1) (he' : e1 ≤ 500)
    (RA : Hid (∀ (j sh : Nat), 8388608 ≤ n * 2 ^ j → n * 2 ^ j < 2 * 8388608 → (sh = 57 - 23 ∨ sh = 56 - 23) → (e1 - j - sh) % 2 = 0 → ∀ s : Nat, s * s ≤ n * 2 ^ j * 2 ^ sh → n * 2 ^ j * 2 ^ sh < (s + 1) * (s + 1) → ∀ w, Calls Try.prog 58 #[(.agg #[.int .u64 8, .int .u64 23]), .bool false, .int .u64 (s : Int), .int .i64 ((e1 - j - sh) / 2), .bool (decide (s * s ≠ n * 2 ^ j * 2 ^ sh))] w fun e w' => e = .returned (.int .u32 r) ∧ Below w.heap.size w w')) (w : World) :
    Calls Try.prog 44 #[(.agg #[.int .u64 8, .int .u64 23]), .agg #[.bool false, .bool false, .bool false, .int .u64 (n : Int), .int .i64 e1]] w fun e w' => e = .returned (.int .u32 r) ∧ Below w.heap.size w w' := by
  have km1 : ((n : Int) == 0) = false := by simp; omega
  obtain ⟨W, hW⟩ : ∃ W, (w.alloc (.cells #[.int .u64 8, .int .u64 23] 58)).alloc (.cells #[.bool false, .bool false, .bool false, .int .u64 (n : Int), .int .i64 e1] 63) = W := ⟨_, rfl⟩
  have QW := rAtStart 8 23 (n : Int) e1 58 63 w
  have BW : Hid (Below w.heap.size w W) := by unfold Hid; rw [← hW]; (repeat (first | refine Below.alloc ?_ (by first | (simp; done) | (simp; omega)) _ | refine Below.setCell ?_ (by first | (simp; done) | (simp; omega)) _ | refine bel_dN ?_ _ | refine Below.drew ?_ | exact Below.refl _ _))
  rw [hW] at QW
  obtain ⟨g, hg⟩ : ∃ g, w.heap.size = g := ⟨_, rfl⟩
  have hgw' : w.heap.size ≤ g := by omega
  rw [hg] at QW
  have HQ : Hid (RAt 8 23 g (n : Int) e1 W) := QW
  obtain ⟨c0, c1, a0, a1, a2, a3, a4, za, hz⟩ := QW
  have FA : Hid (∀ w, Calls Try.prog 62 #[(.agg #[.int .u64 8, .int .u64 23]), .agg #[.bool false, .bool false, .bool false, .int .u64 (n : Int), .int .i64 e1]] w fun x w' => (∃ j : Nat, 8388608 ≤ n * 2 ^ j ∧ n * 2 ^ j < 2 * 8388608 ∧ x = .returned (.agg #[.bool false, .bool false, .bool false, .int .u64 ((n * 2 ^ j : Nat) : Int), .int .i64 (e1 - j)])) ∧ Below w.heap.size w w') := fun w => full32 n e1 false false false hn hb (by omega) (by omega) w
  go_enter Try.func44, Try.ntmps44
  go_wp2_with fail
  clear hW
  refine (FA.out _).mono ?_
  rintro e' w1 ⟨⟨j1, i1, i2, rfl⟩, B1⟩
  have HW1 : Hid (Below w.heap.size w w1) := bel_step BW.out B1
  have Q1 := HQ.out.below B1
  have HQ1 : Hid (RAt 8 23 g ((n * 2 ^ j1 : Nat) : Int) (e1 - j1) _) := Q1.setA ((n * 2 ^ j1 : Nat) : Int) (e1 - j1)
  obtain ⟨W2, hW2⟩ : ∃ W2, ((((w1.setCell ⟨g + 1, 0, none⟩ (.bool false)).setCell ⟨g + 1, 1, none⟩ (.bool false)).setCell ⟨g + 1, 2, none⟩ (.bool false)).setCell ⟨g + 1, 3, none⟩ (.int .u64 ((n * 2 ^ j1 : Nat) : Int))).setCell ⟨g + 1, 4, none⟩ (.int .i64 (e1 - j1)) = W2 := ⟨_, rfl⟩
  have BW2 : Hid (Below w.heap.size w W2) := by unfold Hid; rw [← hW2]; exact ((((HW1.out.setCell (p := ⟨g + 1, 0, none⟩) (by simp; omega) _).setCell (p := ⟨g + 1, 1, none⟩) (by simp; omega) _).setCell (p := ⟨g + 1, 2, none⟩) (by simp; omega) _).setCell (p := ⟨g + 1, 3, none⟩) (by simp; omega) _).setCell (p := ⟨g + 1, 4, none⟩) (by simp; omega) _
  rw [hW2] at HQ1
  have hj1 : j1 < 25 := by
    have hjp : 2 ^ j1 ≤ n * 2 ^ j1 := Nat.le_mul_of_pos_left _ (by omega)
    have h2j : 2 ^ j1 < 2 ^ 25 := Nat.lt_of_le_of_lt (Nat.le_trans hjp (Nat.le_of_lt i2)) (by decide)
    exact (Nat.pow_lt_pow_iff_right (by omega)).1 h2j
  have RB := RA.out j1
  obtain ⟨A, hA⟩ : ∃ A : Nat, n * 2 ^ j1 = A := ⟨_, rfl⟩
  obtain ⟨E1, hE1⟩ : ∃ E1, e1 - (j1 : Int) = E1 := ⟨_, rfl⟩
  rw [hA] at i1 i2 hW2 HQ1 RB
  rw [hE1] at hW2 HQ1 RB
  rw [hA, hE1]
  clear c0 c1 a0 a1 a2 a3 a4 za hz HQ BW B1 HW1 FA RA
  obtain ⟨c0, c1, a0, a1, a2, a3, a4, za, hz⟩ := Q1
  have ya0 := za 0
  have ya1 := za 1
  have ya2 := za 2
  have ya3 := za 3
  have ya4 := za 4
  have hlen : Lib.bitLen A = 23 + 1 := bl_eq A (23 + 1) (by omega) (by omega) (by rw [show (2 : Nat) ^ (23 + 1 - 1) = 8388608 by decide]; exact i1) (by rw [show (2 : Nat) ^ (23 + 1) = 2 * 8388608 by decide]; exact i2)
  obtain ⟨Lq, hLq⟩ : ∃ Lq : Int, (Lib.bitLen A : Int) = Lq := ⟨_, rfl⟩
  have LN : Hid (∀ w, Calls Try.prog 65 #[.int .u64 (A : Int)] w fun e w' => e = .returned (.int .i64 Lq) ∧ w' = w) := by
    rw [← hLq]; exact fun w => l4LenB A (by omega) w
  obtain ⟨s0, hs0⟩ : ∃ s0 : Nat, 57 - 23 = s0 := ⟨_, rfl⟩
  have h1 : wrap64 (58 - Lq) = (s0 : Int) := by unfold wrap64; omega
  have h2 : wrap64 (E1 - (s0 : Int)) = E1 - (s0 : Int) := by unfold wrap64; omega
  obtain ⟨t, ht⟩ : ∃ t, (E1 - (s0 : Int)).tmod 2 = t := ⟨_, rfl⟩
  by_cases hpar : (E1 - (s0 : Int)) % 2 = 0
  · have h4 : (t != 0) = false := by
      have h0 : t = 0 := by rw [← ht]; exact Int.tmod_eq_zero_of_dvd (Int.dvd_of_emod_eq_zero hpar)
      rw [h0]; rfl
    have R0 := RB s0 i1 i2 (Or.inl hs0.symm) hpar
    have hX : A * 2 ^ s0 < 1152921504606846976 := by rw [← hs0]; exact Nat.lt_of_lt_of_le (Nat.mul_lt_mul_of_pos_right i2 (Nat.two_pow_pos _)) (by decide)
    obtain ⟨X, hXe⟩ : ∃ X, A * 2 ^ s0 = X := ⟨_, rfl⟩
    obtain ⟨D, hD⟩ : ∃ D, (E1 - (s0 : Int)) / 2 = D := ⟨_, rfl⟩
    rw [hXe] at R0 hX
    rw [hD] at R0
    have RR : Hid (∀ s : Nat, s * s ≤ X → X < (s + 1) * (s + 1) → ∀ w, Calls Try.prog 58 #[(.agg #[.int .u64 8, .int .u64 23]), .bool false, .int .u64 (s : Int), .int .i64 D, .bool (decide (s * s ≠ X))] w fun e w' => e = .returned (.int .u32 r) ∧ Below w.heap.size w w') := R0
    have WR : Hid (∀ w, Calls Try.prog 66 #[.int .u64 (X : Int)] w fun e w' => (∃ s : Nat, s * s ≤ X ∧ X < (s + 1) * (s + 1) ∧ e = .returned (.int .u64 (s : Int))) ∧ w' = w) := fun w => l4RootS X hX w
    have HX : Hid (X < 1152921504606846976) := hX
    have h7 : min s0 64 = s0 := by omega
    have h8 : IntKind.u64.wrap ((A : Int) * 2 ^ s0) = (X : Int) := by
      rw [show (A : Int) * 2 ^ s0 = ((A * 2 ^ s0 : Nat) : Int) by simp, hXe, IntKind.wrap_u64]; omega
    have h10 : (E1 - (s0 : Int)).tdiv 2 = D := by rw [← hD]; exact Int.tdiv_eq_ediv_of_dvd (Int.dvd_of_emod_eq_zero hpar)
    have h11 : wrap64 D = D := by unfold wrap64; omega
    have h12 : IntKind.u64.wrap (s0 : Int) = (s0 : Int) := by rw [IntKind.wrap_u64]; omega
    clear hpar RB R0 hX hXe hD hlen hLq hs0 hA hE1 i1 i2 hj1 hn hb he he' km1
    obtain ⟨d0, d1, f0, f1, f2, f3, f4, xa, hx⟩ := HQ1.out
    go_wp2_with (first | (go_at_call 65; refine (LN.out _).mono ?_; rintro e' w5 ⟨rfl, hw5⟩; obtain rfl := hw5))
    refine (WR.out _).mono ?_
    rintro e' w6 ⟨⟨s, i3, i4, rfl⟩, hw6⟩
    obtain rfl := hw6
    have R := RR.out s i3 i4
    have rr := sqRoom s X HX.out i3
    have ne := sqNe s X
    generalize decide (s * s ≠ X) = more at *
    generalize s * s = Z at *
    clear i3 i4
    go_wp2_with fail
    refine (R _).mono ?_
    rintro e' w7 ⟨rfl, B7⟩
    go_wp2
    go_ret
    refine ⟨rfl, ?_⟩
    first | exact bel_step BW2.out B7 | exact bel_step (by rw [HW2.out]; exact BW2.out) B7
  · have h4 : (t != 0) = true := by
      have h0 : t ≠ 0 := by rw [← ht]; exact fun h => hpar (Int.emod_eq_zero_of_dvd (Int.dvd_of_tmod_eq_zero h))
      simp [h0]
    obtain ⟨sh, hsh⟩ : ∃ sh : Nat, s0 - 1 = sh := ⟨_, rfl⟩
    have hpar2 : (E1 - (sh : Int)) % 2 = 0 := by omega
    have R0 := RB sh i1 i2 (Or.inr (by omega)) hpar2
    have h5 : wrap64 ((s0 : Int) - 1) = (sh : Int) := by unfold wrap64; omega
    have h9 : wrap64 (E1 - (sh : Int)) = E1 - (sh : Int) := by unfold wrap64; omega
    have hshl : sh = 56 - 23 := by omega
    have hX : A * 2 ^ sh < 1152921504606846976 := by rw [hshl]; exact Nat.lt_of_lt_of_le (Nat.mul_lt_mul_of_pos_right i2 (Nat.two_pow_pos _)) (by decide)
    obtain ⟨X, hXe⟩ : ∃ X, A * 2 ^ sh = X := ⟨_, rfl⟩
    obtain ⟨D, hD⟩ : ∃ D, (E1 - (sh : Int)) / 2 = D := ⟨_, rfl⟩
    rw [hXe] at R0 hX
    rw [hD] at R0
    have RR : Hid (∀ s : Nat, s * s ≤ X → X < (s + 1) * (s + 1) → ∀ w, Calls Try.prog 58 #[(.agg #[.int .u64 8, .int .u64 23]), .bool false, .int .u64 (s : Int), .int .i64 D, .bool (decide (s * s ≠ X))] w fun e w' => e = .returned (.int .u32 r) ∧ Below w.heap.size w w') := R0
    have WR : Hid (∀ w, Calls Try.prog 66 #[.int .u64 (X : Int)] w fun e w' => (∃ s : Nat, s * s ≤ X ∧ X < (s + 1) * (s + 1) ∧ e = .returned (.int .u64 (s : Int))) ∧ w' = w) := fun w => l4RootS X hX w
    have HX : Hid (X < 1152921504606846976) := hX
    have h7 : min sh 64 = sh := by omega
    have h8 : IntKind.u64.wrap ((A : Int) * 2 ^ sh) = (X : Int) := by
      rw [show (A : Int) * 2 ^ sh = ((A * 2 ^ sh : Nat) : Int) by simp, hXe, IntKind.wrap_u64]; omega
    have h10 : (E1 - (sh : Int)).tdiv 2 = D := by rw [← hD]; exact Int.tdiv_eq_ediv_of_dvd (Int.dvd_of_emod_eq_zero hpar2)
    have h11 : wrap64 D = D := by unfold wrap64; omega
    have h12 : IntKind.u64.wrap (sh : Int) = (sh : Int) := by rw [IntKind.wrap_u64]; omega
    clear hpar hpar2 RB R0 hX hXe hD hlen hLq hs0 hA hE1 i1 i2 hj1 hn hb he he' km1 hshl hsh
    obtain ⟨d0, d1, f0, f1, f2, f3, f4, xa, hx⟩ := HQ1.out
    go_wp2_with (first | (go_at_call 65; refine (LN.out _).mono ?_; rintro e' w5 ⟨rfl, hw5⟩; obtain rfl := hw5))
    refine (WR.out _).mono ?_
    rintro e' w6 ⟨⟨s, i3, i4, rfl⟩, hw6⟩
    obtain rfl := hw6
    have R := RR.out s i3 i4
    have rr := sqRoom s X HX.out i3
    have ne := sqNe s X
    generalize decide (s * s ≠ X) = more at *
    generalize s * s = Z at *
    clear i3 i4
    go_wp2_with fail
    refine (R _).mono ?_
    rintro e' w7 ⟨rfl, B7⟩
    go_wp2
    go_ret
    refine ⟨rfl, ?_⟩
    first | exact bel_step BW2.out B7 | exact bel_step (by rw [HW2.out]; exact BW2.out) B7

theorem sqSpecF16 (a r : Int) (v1 : Value) (O1 : Hid (∀ w, Calls Try.prog 38 #[(.agg #[.int .u64 5, .int .u64 10]), .int .u32 a] w fun x w' => x = .returned v1 ∧ Below w.heap.size w w'))
    (PP : Hid (∀ w, Calls Try.prog 44 #[(.agg #[.int .u64 5, .int .u64 10]), v1] w fun x w' => x = .returned (.int .u32 r) ∧ Below w.heap.size w w')) (w : World) :
    Calls Try.prog 22 #[.int .i64 16, .int .u32 a] w fun x w' => x = .returned (.int .u32 r) ∧ Below w.heap.size w w' := by
  go_enter Try.func22, Try.ntmps22
  go_wp2_with fail
  refine (l4Kind16 _).mono ?_
  rintro x w1 ⟨rfl, B1⟩
  go_wp2_with fail
  have k0 : ∀ w, Keeps (w1.alloc (.cells #[.int .u64 5, .int .u64 10] 58)) w → w.cell? ⟨w1.heap.size, 0, none⟩ = some (.int .u64 5) := fun w h => h.cell (by simp) (by simp)
  have k1 : ∀ w, Keeps (w1.alloc (.cells #[.int .u64 5, .int .u64 10] 58)) w → w.cell? ⟨w1.heap.size, 1, none⟩ = some (.int .u64 10) := fun w h => h.cell (by simp) (by simp)
  refine region_q (C := Keeps (w1.alloc (.cells #[.int .u64 5, .int .u64 10] 58))) (by kernel_rfl) (by kernel_rfl) (Keeps.drew _) ?_
  (iterate 6
    (apply wpQuiet_go _ (by rfl)
     · intro wq hq
       go_simp
       first
         | (go_at_call 38; exact qcall hq (O1.out _))
         | (go_at_call 44; exact qcall hq (PP.out _))
         | exact rfl
     simp only [Act.put, List.setIfInBounds_toArray, List.set_cons_succ, List.set_cons_zero]))
  refine wpQuiet_nil ?_
  intro w3 hk
  have hb := hk.below
  clear k0 k1 hk
  go_wp2
  go_ret
  refine ⟨rfl, ?_⟩
  ((repeat (first | refine bel_alloc ?_ _ | refine bel_dN ?_ _ | refine Below.drew ?_ | refine Below.setCell ?_ (by first | (simp; done) | (simp; omega)) _)); refine bel_step ?_ hb; (repeat (first | refine bel_alloc ?_ _ | refine bel_dN ?_ _ | refine Below.drew ?_ | refine Below.setCell ?_ (by first | (simp; done) | (simp; omega)) _)); refine bel_step ?_ B1; (repeat (first | refine bel_alloc ?_ _ | refine bel_dN ?_ _ | refine Below.drew ?_ | refine Below.setCell ?_ (by first | (simp; done) | (simp; omega)) _)); exact Below.refl _ _)

theorem sqSpecF32 (a r : Int) (v1 : Value) (O1 : Hid (∀ w, Calls Try.prog 38 #[(.agg #[.int .u64 8, .int .u64 23]), .int .u32 a] w fun x w' => x = .returned v1 ∧ Below w.heap.size w w'))
    (PP : Hid (∀ w, Calls Try.prog 44 #[(.agg #[.int .u64 8, .int .u64 23]), v1] w fun x w' => x = .returned (.int .u32 r) ∧ Below w.heap.size w w')) (w : World) :
    Calls Try.prog 22 #[.int .i64 32, .int .u32 a] w fun x w' => x = .returned (.int .u32 r) ∧ Below w.heap.size w w' := by
  go_enter Try.func22, Try.ntmps22
  go_wp2_with fail
  refine (l4Kind32 _).mono ?_
  rintro x w1 ⟨rfl, B1⟩
  go_wp2_with fail
  have k0 : ∀ w, Keeps (w1.alloc (.cells #[.int .u64 8, .int .u64 23] 58)) w → w.cell? ⟨w1.heap.size, 0, none⟩ = some (.int .u64 8) := fun w h => h.cell (by simp) (by simp)
  have k1 : ∀ w, Keeps (w1.alloc (.cells #[.int .u64 8, .int .u64 23] 58)) w → w.cell? ⟨w1.heap.size, 1, none⟩ = some (.int .u64 23) := fun w h => h.cell (by simp) (by simp)
  refine region_q (C := Keeps (w1.alloc (.cells #[.int .u64 8, .int .u64 23] 58))) (by kernel_rfl) (by kernel_rfl) (Keeps.drew _) ?_
  (iterate 6
    (apply wpQuiet_go _ (by rfl)
     · intro wq hq
       go_simp
       first
         | (go_at_call 38; exact qcall hq (O1.out _))
         | (go_at_call 44; exact qcall hq (PP.out _))
         | exact rfl
     simp only [Act.put, List.setIfInBounds_toArray, List.set_cons_succ, List.set_cons_zero]))
  refine wpQuiet_nil ?_
  intro w3 hk
  have hb := hk.below
  clear k0 k1 hk
  go_wp2
  go_ret
  refine ⟨rfl, ?_⟩
  ((repeat (first | refine bel_alloc ?_ _ | refine bel_dN ?_ _ | refine Below.drew ?_ | refine Below.setCell ?_ (by first | (simp; done) | (simp; omega)) _)); refine bel_step ?_ hb; (repeat (first | refine bel_alloc ?_ _ | refine bel_dN ?_ _ | refine Below.drew ?_ | refine Below.setCell ?_ (by first | (simp; done) | (simp; omega)) _)); refine bel_step ?_ B1; (repeat (first | refine bel_alloc ?_ _ | refine bel_dN ?_ _ | refine Below.drew ?_ | refine Below.setCell ?_ (by first | (simp; done) | (simp; omega)) _)); exact Below.refl _ _)

end Go.Proofs.Yteniijmnpgdpcaa

namespace Go.Proofs.Yteniijmnpgdpcaa
open Go.RowKit

theorem len_full (n j p : Nat) (hn : n ≠ 0) (h64 : n < 18446744073709551616) (a1 : 2 ^ p ≤ n * 2 ^ j) (a2 : n * 2 ^ j < 2 ^ (p + 1)) : Lib.bitLen n + j = p + 1 := by
  obtain ⟨l1, _, l3, l4⟩ := bl_is n h64 hn
  have u1 : Lib.bitLen n - 1 + j < p + 1 := by
    refine (Nat.pow_lt_pow_iff_right (a := 2) (by omega)).1 ?_
    rw [Nat.pow_add]
    exact Nat.lt_of_le_of_lt (Nat.mul_le_mul_right _ l3) a2
  have u2 : p < Lib.bitLen n + j := by
    refine (Nat.pow_lt_pow_iff_right (a := 2) (by omega)).1 ?_
    rw [Nat.pow_add]
    exact Nat.lt_of_le_of_lt a1 (Nat.mul_lt_mul_of_pos_right l4 (Nat.two_pow_pos _))
  omega

theorem root_one (X s t : Nat) (h1 : s * s ≤ X) (h2 : X < (s + 1) * (s + 1)) (h3 : t * t ≤ X) (h4 : X < (t + 1) * (t + 1)) : s = t := by
  have := root_up X s t h3 h2
  have := root_up X t s h1 h4
  omega

/-- Both roots are rounded alike. -/
theorem sqTold16 (n j sh U s r : Nat) (e1 : Int) (hn : n ≠ 0) (hb : n < 2 * 1024) (a1 : 1024 ≤ n * 2 ^ j) (a2 : n * 2 ^ j < 2 * 1024) (hsh : sh = 57 - 10 ∨ sh = 56 - 10) (p1 : (e1 - j - sh) % 2 = 0) (hU : U + Lib.bitLen n = 60 ∨ U + Lib.bitLen n = 59) (p2 : (e1 - U) % 2 = 0)
    (s1 : s * s ≤ n * 2 ^ j * 2 ^ sh) (s2 : n * 2 ^ j * 2 ^ sh < (s + 1) * (s + 1)) (r1 : r * r ≤ n * 2 ^ U) (r2 : n * 2 ^ U < (r + 1) * (r + 1)) :
    toldOf 10 (-24) s ((e1 - j - sh) / 2) (decide (s * s ≠ n * 2 ^ j * 2 ^ sh)) = toldOf 10 (-24) r ((e1 - U) / 2) (decide (r * r ≠ n * 2 ^ U)) ∧ s < 1152921504606846976 := by
  have hl := len_full n j 10 hn (by omega) (by rw [show (2 : Nat) ^ 10 = 1024 by decide]; exact a1) (by rw [show (2 : Nat) ^ (10 + 1) = 2 * 1024 by decide]; exact a2)
  have hUe : U = j + sh + 2 := by omega
  have hX : n * 2 ^ U = 4 * (n * 2 ^ j * 2 ^ sh) := by
    rw [hUe, Nat.pow_add, Nat.pow_add, Nat.mul_comm 4, Nat.mul_assoc, Nat.mul_assoc, Nat.mul_assoc]
  have b1 : 72057594037927936 ≤ n * 2 ^ j * 2 ^ sh := by
    rcases hsh with rfl | rfl
    · exact Nat.le_trans (by decide) (Nat.mul_le_mul_right _ a1)
    · exact Nat.le_trans (by decide) (Nat.mul_le_mul_right _ a1)
  have b2 : n * 2 ^ j * 2 ^ sh < 288230376151711744 := by
    rcases hsh with rfl | rfl
    · exact Nat.lt_of_lt_of_le (Nat.mul_lt_mul_of_pos_right a2 (Nat.two_pow_pos _)) (by decide)
    · exact Nat.lt_of_lt_of_le (Nat.mul_lt_mul_of_pos_right a2 (Nat.two_pow_pos _)) (by decide)
  rw [hX] at r1 r2 ⊢
  generalize n * 2 ^ j * 2 ^ sh = M at *
  refine ⟨?_, ?_⟩
  · rw [root_told 10 (-24) M r s ((e1 - j - sh) / 2) (by omega) b1 b2 r1 r2 s1 s2, show (e1 - (j : Int) - sh) / 2 - 1 = (e1 - (U : Int)) / 2 by omega]
  · have := root_down M s 1073741824 (by omega) s1
    omega

/-- Both roots are rounded alike. -/
theorem sqTold32 (n j sh U s r : Nat) (e1 : Int) (hn : n ≠ 0) (hb : n < 2 * 8388608) (a1 : 8388608 ≤ n * 2 ^ j) (a2 : n * 2 ^ j < 2 * 8388608) (hsh : sh = 57 - 23 ∨ sh = 56 - 23) (p1 : (e1 - j - sh) % 2 = 0) (hU : U + Lib.bitLen n = 60 ∨ U + Lib.bitLen n = 59) (p2 : (e1 - U) % 2 = 0)
    (s1 : s * s ≤ n * 2 ^ j * 2 ^ sh) (s2 : n * 2 ^ j * 2 ^ sh < (s + 1) * (s + 1)) (r1 : r * r ≤ n * 2 ^ U) (r2 : n * 2 ^ U < (r + 1) * (r + 1)) :
    toldOf 23 (-149) s ((e1 - j - sh) / 2) (decide (s * s ≠ n * 2 ^ j * 2 ^ sh)) = toldOf 23 (-149) r ((e1 - U) / 2) (decide (r * r ≠ n * 2 ^ U)) ∧ s < 1152921504606846976 := by
  have hl := len_full n j 23 hn (by omega) (by rw [show (2 : Nat) ^ 23 = 8388608 by decide]; exact a1) (by rw [show (2 : Nat) ^ (23 + 1) = 2 * 8388608 by decide]; exact a2)
  have hUe : U = j + sh + 2 := by omega
  have hX : n * 2 ^ U = 4 * (n * 2 ^ j * 2 ^ sh) := by
    rw [hUe, Nat.pow_add, Nat.pow_add, Nat.mul_comm 4, Nat.mul_assoc, Nat.mul_assoc, Nat.mul_assoc]
  have b1 : 72057594037927936 ≤ n * 2 ^ j * 2 ^ sh := by
    rcases hsh with rfl | rfl
    · exact Nat.le_trans (by decide) (Nat.mul_le_mul_right _ a1)
    · exact Nat.le_trans (by decide) (Nat.mul_le_mul_right _ a1)
  have b2 : n * 2 ^ j * 2 ^ sh < 288230376151711744 := by
    rcases hsh with rfl | rfl
    · exact Nat.lt_of_lt_of_le (Nat.mul_lt_mul_of_pos_right a2 (Nat.two_pow_pos _)) (by decide)
    · exact Nat.lt_of_lt_of_le (Nat.mul_lt_mul_of_pos_right a2 (Nat.two_pow_pos _)) (by decide)
  rw [hX] at r1 r2 ⊢
  generalize n * 2 ^ j * 2 ^ sh = M at *
  refine ⟨?_, ?_⟩
  · rw [root_told 23 (-149) M r s ((e1 - j - sh) / 2) (by omega) b1 b2 r1 r2 s1 s2, show (e1 - (j : Int) - sh) / 2 - 1 = (e1 - (U : Int)) / 2 by omega]
  · have := root_down M s 1073741824 (by omega) s1
    omega

set_option maxHeartbeats 1000000 in
theorem sqBoth16 (a : Int) (a0 : 0 ≤ a) (a1 : a ≤ 4294967295) : ∃ r : Int,
    (∀ w, Calls Try.prog 22 #[.int .i64 16, .int .u32 a] w fun x w' => x = .returned (.int .u32 r) ∧ Below w.heap.size w w') ∧
    (∀ w, Calls Try.prog 21 #[.int .i64 16, .int .u32 a] w fun x w' => x = .returned (.int .u32 r) ∧ Below w.heap.size w w') := by
  obtain ⟨c1, m1, m1', e1, e1', _, _⟩ := fv16 a
  have V1 := value16 a a0 a1
  have O1 := open16 a a0 a1
  generalize cl16 a = x1 at *
  generalize vm16 a = y1 at *
  generalize ve16 a = z1 at *
  generalize (a / 32768 % 2 == 1) = s1 at *
  obtain ⟨n, rfl⟩ := Int.eq_ofNat_of_zero_le m1
  rcases c1 with rfl | rfl | rfl
  · by_cases hz : n = 0
    · have hz' : ((n : Int) == 0) = true := by simp; omega
      have hz2 : ((n : Int) != 0) = false := by simp; omega
      cases s1
      · exact ⟨_, sqSpecF16 a _ _ O1 (sqQ_zp16 n z1 hz'), sqImpl_zero16 a z1 n false V1 hz'⟩
      · exact ⟨_, sqSpecF16 a _ _ O1 (sqQ_zn16 n z1 hz' hz2), sqImpl_zero16 a z1 n true V1 hz'⟩
    · have hz' : ((n : Int) == 0) = false := by simp; omega
      have hz2 : ((n : Int) != 0) = true := by simp; omega
      cases s1
      · obtain ⟨l1, _, l3, l4⟩ := bl_is n (by omega) hz
        have hL25 : Lib.bitLen n ≤ 25 := bl_le n 25 (by omega) (by omega)
        have LN : Hid (∀ w, Calls Try.prog 35 #[.int .u64 (n : Int)] w fun e w' => e = .returned (.int .i64 (Lib.bitLen n : Int)) ∧ w' = w) := fun w => len64F n (by omega) w
        obtain ⟨U0, hU0⟩ : ∃ U0, 60 - Lib.bitLen n = U0 := ⟨_, rfl⟩
        obtain ⟨odd, hodd⟩ : ∃ odd : Bool, ((z1 - (U0 : Int)).tmod 2 != 0) = odd := ⟨_, rfl⟩
        have hpar : odd = false → (z1 - (U0 : Int)) % 2 = 0 := by
          rintro rfl
          have h0 : (z1 - (U0 : Int)).tmod 2 = 0 := by simpa using hodd
          exact Int.emod_eq_zero_of_dvd (Int.dvd_of_tmod_eq_zero h0)
        have hpar2 : odd = true → (z1 - (U0 : Int)) % 2 ≠ 0 := by
          rintro rfl h
          have h0 : (z1 - (U0 : Int)).tmod 2 = 0 := Int.tmod_eq_zero_of_dvd (Int.dvd_of_emod_eq_zero h)
          rw [h0] at hodd
          exact absurd hodd (by decide)
        obtain ⟨U, hU⟩ : ∃ U : Nat, (if odd then U0 - 1 else U0) = U := ⟨_, rfl⟩
        have hUo : (odd = true → U = U0 - 1) ∧ (odd = false → U = U0) := by
          cases odd <;> simp at hU <;> simp [hU]
        have hUL : U + Lib.bitLen n = 60 ∨ U + Lib.bitLen n = 59 := by
          cases odd
          · have := hUo.2 rfl; omega
          · have := hUo.1 rfl; omega
        have hUp : (z1 - (U : Int)) % 2 = 0 := by
          cases odd
          · have := hUo.2 rfl; have := hpar rfl; omega
          · have := hUo.1 rfl; have := hpar2 rfl; omega
        have hX : n * 2 ^ U < 1152921504606846976 := by
          have h := Nat.mul_lt_mul_of_pos_right l4 (Nat.two_pow_pos U)
          rw [← Nat.pow_add] at h
          exact Nat.lt_of_lt_of_le h (Nat.pow_le_pow_right (by omega) (show Lib.bitLen n + U ≤ 60 by omega))
        have hX0 : n * 2 ^ U ≠ 0 := Nat.mul_ne_zero hz (by have := Nat.two_pow_pos U; omega)
        obtain ⟨s0, t1, t2⟩ := root_ex (n * 2 ^ U)
        have hs0 : s0 < 1073741824 := root_down (n * 2 ^ U) s0 1073741824 (by omega) t1
        have RI := implRound16 false s0 (by omega) ((z1 - U) / 2) (by omega) (by omega) (decide (s0 * s0 ≠ n * 2 ^ U))
        refine ⟨(false.toNat : Int) * 32768 + ((min (toldOf 10 (-24) s0 ((z1 - U) / 2) (decide (s0 * s0 ≠ n * 2 ^ U))) 31744 : Nat) : Int), sqSpecF16 a _ _ O1 (sqQ_nn16 n z1 _ hz (by omega) (by omega) (by omega) ?_), sqImpl_nn16 a z1 _ ((z1 - U) / 2) _ n (Lib.bitLen n) U0 U (n * 2 ^ U) odd V1 hz' LN ?_ ?_ rfl hodd ?_ ?_ ?_ ?_ ?_ ?_ ?_ hX0 hX ?_⟩
        · intro j sh i1 i2 hsh p1 s g1 g2 w
          have hj : j < 25 := by
            have hjp : 2 ^ j ≤ n * 2 ^ j := Nat.le_mul_of_pos_left _ (by omega)
            have h2j : 2 ^ j < 2 ^ 25 := Nat.lt_of_le_of_lt (Nat.le_trans hjp (Nat.le_of_lt i2)) (by decide)
            exact (Nat.pow_lt_pow_iff_right (by omega)).1 h2j
          obtain ⟨tt, hs⟩ := sqTold16 n j sh U s s0 z1 hz (by omega) i1 i2 hsh p1 hUL hUp g1 g2 t1 t2
          rw [← tt]
          exact specRound16 false s hs _ (by omega) (by omega) _ w
        · unfold wrap64; omega
        · unfold wrap64; omega
        · intro h; have := hUo.1 h; unfold wrap64; omega
        · intro h; exact (hUo.2 h).symm
        · omega
        · rw [show (n : Int) * 2 ^ U = ((n * 2 ^ U : Nat) : Int) by simp, IntKind.wrap_u64]; omega
        · unfold wrap64; omega
        · exact Int.tdiv_eq_ediv_of_dvd (Int.dvd_of_emod_eq_zero hUp)
        · unfold wrap64; omega
        · intro s g1 g2
          obtain rfl := root_one _ s s0 g1 g2 t1 t2
          exact RI
      · exact ⟨_, sqSpecF16 a _ _ O1 (sqQ_neg16 n z1 hz2), sqImpl_neg16 a z1 n V1 hz'⟩
  · cases s1
    · exact ⟨_, sqSpecF16 a _ _ O1 (sqQ_inf16 n z1), sqImpl_inf16 a z1 n V1⟩
    · exact ⟨_, sqSpecF16 a _ _ O1 (sqQ_neginf16 n z1), sqImpl_neginf16 a z1 n V1⟩
  · exact ⟨_, sqSpecF16 a _ _ O1 (sqQ_nan16 n z1 s1), sqImpl_nan16 a z1 n s1 V1⟩

set_option maxHeartbeats 1000000 in
theorem sqBoth32 (a : Int) (a0 : 0 ≤ a) (a1 : a ≤ 4294967295) : ∃ r : Int,
    (∀ w, Calls Try.prog 22 #[.int .i64 32, .int .u32 a] w fun x w' => x = .returned (.int .u32 r) ∧ Below w.heap.size w w') ∧
    (∀ w, Calls Try.prog 21 #[.int .i64 32, .int .u32 a] w fun x w' => x = .returned (.int .u32 r) ∧ Below w.heap.size w w') := by
  obtain ⟨c1, m1, m1', e1, e1', _, _⟩ := fv32 a
  have V1 := value32 a a0 a1
  have O1 := open32 a a0 a1
  generalize cl32 a = x1 at *
  generalize vm32 a = y1 at *
  generalize ve32 a = z1 at *
  generalize (a / 2147483648 % 2 == 1) = s1 at *
  obtain ⟨n, rfl⟩ := Int.eq_ofNat_of_zero_le m1
  rcases c1 with rfl | rfl | rfl
  · by_cases hz : n = 0
    · have hz' : ((n : Int) == 0) = true := by simp; omega
      have hz2 : ((n : Int) != 0) = false := by simp; omega
      cases s1
      · exact ⟨_, sqSpecF32 a _ _ O1 (sqQ_zp32 n z1 hz'), sqImpl_zero32 a z1 n false V1 hz'⟩
      · exact ⟨_, sqSpecF32 a _ _ O1 (sqQ_zn32 n z1 hz' hz2), sqImpl_zero32 a z1 n true V1 hz'⟩
    · have hz' : ((n : Int) == 0) = false := by simp; omega
      have hz2 : ((n : Int) != 0) = true := by simp; omega
      cases s1
      · obtain ⟨l1, _, l3, l4⟩ := bl_is n (by omega) hz
        have hL25 : Lib.bitLen n ≤ 25 := bl_le n 25 (by omega) (by omega)
        have LN : Hid (∀ w, Calls Try.prog 35 #[.int .u64 (n : Int)] w fun e w' => e = .returned (.int .i64 (Lib.bitLen n : Int)) ∧ w' = w) := fun w => len64F n (by omega) w
        obtain ⟨U0, hU0⟩ : ∃ U0, 60 - Lib.bitLen n = U0 := ⟨_, rfl⟩
        obtain ⟨odd, hodd⟩ : ∃ odd : Bool, ((z1 - (U0 : Int)).tmod 2 != 0) = odd := ⟨_, rfl⟩
        have hpar : odd = false → (z1 - (U0 : Int)) % 2 = 0 := by
          rintro rfl
          have h0 : (z1 - (U0 : Int)).tmod 2 = 0 := by simpa using hodd
          exact Int.emod_eq_zero_of_dvd (Int.dvd_of_tmod_eq_zero h0)
        have hpar2 : odd = true → (z1 - (U0 : Int)) % 2 ≠ 0 := by
          rintro rfl h
          have h0 : (z1 - (U0 : Int)).tmod 2 = 0 := Int.tmod_eq_zero_of_dvd (Int.dvd_of_emod_eq_zero h)
          rw [h0] at hodd
          exact absurd hodd (by decide)
        obtain ⟨U, hU⟩ : ∃ U : Nat, (if odd then U0 - 1 else U0) = U := ⟨_, rfl⟩
        have hUo : (odd = true → U = U0 - 1) ∧ (odd = false → U = U0) := by
          cases odd <;> simp at hU <;> simp [hU]
        have hUL : U + Lib.bitLen n = 60 ∨ U + Lib.bitLen n = 59 := by
          cases odd
          · have := hUo.2 rfl; omega
          · have := hUo.1 rfl; omega
        have hUp : (z1 - (U : Int)) % 2 = 0 := by
          cases odd
          · have := hUo.2 rfl; have := hpar rfl; omega
          · have := hUo.1 rfl; have := hpar2 rfl; omega
        have hX : n * 2 ^ U < 1152921504606846976 := by
          have h := Nat.mul_lt_mul_of_pos_right l4 (Nat.two_pow_pos U)
          rw [← Nat.pow_add] at h
          exact Nat.lt_of_lt_of_le h (Nat.pow_le_pow_right (by omega) (show Lib.bitLen n + U ≤ 60 by omega))
        have hX0 : n * 2 ^ U ≠ 0 := Nat.mul_ne_zero hz (by have := Nat.two_pow_pos U; omega)
        obtain ⟨s0, t1, t2⟩ := root_ex (n * 2 ^ U)
        have hs0 : s0 < 1073741824 := root_down (n * 2 ^ U) s0 1073741824 (by omega) t1
        have RI := implRound32 false s0 (by omega) ((z1 - U) / 2) (by omega) (by omega) (decide (s0 * s0 ≠ n * 2 ^ U))
        refine ⟨(false.toNat : Int) * 2147483648 + ((min (toldOf 23 (-149) s0 ((z1 - U) / 2) (decide (s0 * s0 ≠ n * 2 ^ U))) 2139095040 : Nat) : Int), sqSpecF32 a _ _ O1 (sqQ_nn32 n z1 _ hz (by omega) (by omega) (by omega) ?_), sqImpl_nn32 a z1 _ ((z1 - U) / 2) _ n (Lib.bitLen n) U0 U (n * 2 ^ U) odd V1 hz' LN ?_ ?_ rfl hodd ?_ ?_ ?_ ?_ ?_ ?_ ?_ hX0 hX ?_⟩
        · intro j sh i1 i2 hsh p1 s g1 g2 w
          have hj : j < 25 := by
            have hjp : 2 ^ j ≤ n * 2 ^ j := Nat.le_mul_of_pos_left _ (by omega)
            have h2j : 2 ^ j < 2 ^ 25 := Nat.lt_of_le_of_lt (Nat.le_trans hjp (Nat.le_of_lt i2)) (by decide)
            exact (Nat.pow_lt_pow_iff_right (by omega)).1 h2j
          obtain ⟨tt, hs⟩ := sqTold32 n j sh U s s0 z1 hz (by omega) i1 i2 hsh p1 hUL hUp g1 g2 t1 t2
          rw [← tt]
          exact specRound32 false s hs _ (by omega) (by omega) _ w
        · unfold wrap64; omega
        · unfold wrap64; omega
        · intro h; have := hUo.1 h; unfold wrap64; omega
        · intro h; exact (hUo.2 h).symm
        · omega
        · rw [show (n : Int) * 2 ^ U = ((n * 2 ^ U : Nat) : Int) by simp, IntKind.wrap_u64]; omega
        · unfold wrap64; omega
        · exact Int.tdiv_eq_ediv_of_dvd (Int.dvd_of_emod_eq_zero hUp)
        · unfold wrap64; omega
        · intro s g1 g2
          obtain rfl := root_one _ s s0 g1 g2 t1 t2
          exact RI
      · exact ⟨_, sqSpecF32 a _ _ O1 (sqQ_neg32 n z1 hz2), sqImpl_neg32 a z1 n V1 hz'⟩
  · cases s1
    · exact ⟨_, sqSpecF32 a _ _ O1 (sqQ_inf32 n z1), sqImpl_inf32 a z1 n V1⟩
    · exact ⟨_, sqSpecF32 a _ _ O1 (sqQ_neginf32 n z1), sqImpl_neginf32 a z1 n V1⟩
  · exact ⟨_, sqSpecF32 a _ _ O1 (sqQ_nan32 n z1 s1), sqImpl_nan32 a z1 n s1 V1⟩

theorem sqNo (kind a : Int) (h1 : kind ≠ 16) (h2 : kind ≠ 32) :
    (∀ w, Calls Try.prog 22 #[.int .i64 kind, .int .u32 a] w fun x w' => x = .returned (.int .u32 0) ∧ Below w.heap.size w w') ∧
    (∀ w, Calls Try.prog 21 #[.int .i64 kind, .int .u32 a] w fun x w' => x = .returned (.int .u32 0) ∧ Below w.heap.size w w') := by
  refine ⟨fun w => ?_, fun w => ?_⟩
  · go_enter Try.func22, Try.ntmps22
    go_wp2_with fail
    refine (l4KindNo kind h1 h2 _).mono ?_
    rintro x w1 ⟨rfl, B1⟩
    go_wp2
    go_ret
    refine ⟨rfl, ?_⟩
    ((repeat (first | refine bel_alloc ?_ _ | refine bel_dN ?_ _ | refine Below.drew ?_ | refine Below.setCell ?_ (by first | (simp; done) | (simp; omega)) _)); refine bel_step ?_ B1; (repeat (first | refine bel_alloc ?_ _ | refine bel_dN ?_ _ | refine Below.drew ?_ | refine Below.setCell ?_ (by first | (simp; done) | (simp; omega)) _)); exact Below.refl _ _)
  · go_enter Try.func21, Try.ntmps21
    go_wp2_with fail
    refine (formNo kind h1 h2 _).mono ?_
    rintro x w1 ⟨rfl, B1⟩
    go_wp2
    go_ret
    refine ⟨rfl, ?_⟩
    ((repeat (first | refine bel_alloc ?_ _ | refine bel_dN ?_ _ | refine Below.drew ?_ | refine Below.setCell ?_ (by first | (simp; done) | (simp; omega)) _)); refine bel_step ?_ B1; (repeat (first | refine bel_alloc ?_ _ | refine bel_dN ?_ _ | refine Below.drew ?_ | refine Below.setCell ?_ (by first | (simp; done) | (simp; omega)) _)); exact Below.refl _ _)

end Go.Proofs.Yteniijmnpgdpcaa

namespace Go.Proofs.Yteniijmnpgdpcaa
open Go.RowKit

set_option maxHeartbeats 1000000 in
theorem sqHalf (a : Int) (a0 : 0 ≤ a) (a1 : a ≤ 4294967295) : ∃ r : Int,
    (∀ w, Calls Try.prog 22 #[.int .i64 16, .int .u32 a] w fun x w' => x = .returned (.int .u32 r) ∧ Below w.heap.size w w') ∧
    (∀ w, Calls Try.prog 21 #[.int .i64 16, .int .u32 a] w fun x w' => x = .returned (.int .u32 r) ∧ Below w.heap.size w w') ∧
    (cl16 a = 0 → (a / 32768 % 2 == 1) = false → ∀ n : Nat, vm16 a = n → n ≠ 0 → ∃ U s0 : Nat, (U + Lib.bitLen n = 60 ∨ U + Lib.bitLen n = 59) ∧ (ve16 a - U) % 2 = 0 ∧ s0 * s0 ≤ n * 2 ^ U ∧ n * 2 ^ U < (s0 + 1) * (s0 + 1) ∧ r = ((min (toldOf 10 (-24) s0 ((ve16 a - U) / 2) (decide (s0 * s0 ≠ n * 2 ^ U))) 31744 : Nat) : Int)) := by
  obtain ⟨c1, m1, m1', e1, e1', _, _⟩ := fv16 a
  have V1 := value16 a a0 a1
  have O1 := open16 a a0 a1
  generalize cl16 a = x1 at *
  generalize vm16 a = y1 at *
  generalize ve16 a = z1 at *
  generalize (a / 32768 % 2 == 1) = s1 at *
  obtain ⟨n, rfl⟩ := Int.eq_ofNat_of_zero_le m1
  rcases c1 with rfl | rfl | rfl
  · by_cases hz : n = 0
    · have hz' : ((n : Int) == 0) = true := by simp; omega
      have hz2 : ((n : Int) != 0) = false := by simp; omega
      cases s1
      · exact ⟨_, sqSpecF16 a _ _ O1 (sqQ_zp16 n z1 hz'), sqImpl_zero16 a z1 n false V1 hz', fun _ _ m hm h0 => absurd (by omega) h0⟩
      · exact ⟨_, sqSpecF16 a _ _ O1 (sqQ_zn16 n z1 hz' hz2), sqImpl_zero16 a z1 n true V1 hz', fun _ h => absurd h (by decide)⟩
    · have hz' : ((n : Int) == 0) = false := by simp; omega
      have hz2 : ((n : Int) != 0) = true := by simp; omega
      cases s1
      · obtain ⟨l1, _, l3, l4⟩ := bl_is n (by omega) hz
        have hL25 : Lib.bitLen n ≤ 25 := bl_le n 25 (by omega) (by omega)
        have LN : Hid (∀ w, Calls Try.prog 35 #[.int .u64 (n : Int)] w fun e w' => e = .returned (.int .i64 (Lib.bitLen n : Int)) ∧ w' = w) := fun w => len64F n (by omega) w
        obtain ⟨U0, hU0⟩ : ∃ U0, 60 - Lib.bitLen n = U0 := ⟨_, rfl⟩
        obtain ⟨odd, hodd⟩ : ∃ odd : Bool, ((z1 - (U0 : Int)).tmod 2 != 0) = odd := ⟨_, rfl⟩
        have hpar : odd = false → (z1 - (U0 : Int)) % 2 = 0 := by
          rintro rfl
          have h0 : (z1 - (U0 : Int)).tmod 2 = 0 := by simpa using hodd
          exact Int.emod_eq_zero_of_dvd (Int.dvd_of_tmod_eq_zero h0)
        have hpar2 : odd = true → (z1 - (U0 : Int)) % 2 ≠ 0 := by
          rintro rfl h
          have h0 : (z1 - (U0 : Int)).tmod 2 = 0 := Int.tmod_eq_zero_of_dvd (Int.dvd_of_emod_eq_zero h)
          rw [h0] at hodd
          exact absurd hodd (by decide)
        obtain ⟨U, hU⟩ : ∃ U : Nat, (if odd then U0 - 1 else U0) = U := ⟨_, rfl⟩
        have hUo : (odd = true → U = U0 - 1) ∧ (odd = false → U = U0) := by
          cases odd <;> simp at hU <;> simp [hU]
        have hUL : U + Lib.bitLen n = 60 ∨ U + Lib.bitLen n = 59 := by
          cases odd
          · have := hUo.2 rfl; omega
          · have := hUo.1 rfl; omega
        have hUp : (z1 - (U : Int)) % 2 = 0 := by
          cases odd
          · have := hUo.2 rfl; have := hpar rfl; omega
          · have := hUo.1 rfl; have := hpar2 rfl; omega
        have hX : n * 2 ^ U < 1152921504606846976 := by
          have h := Nat.mul_lt_mul_of_pos_right l4 (Nat.two_pow_pos U)
          rw [← Nat.pow_add] at h
          exact Nat.lt_of_lt_of_le h (Nat.pow_le_pow_right (by omega) (show Lib.bitLen n + U ≤ 60 by omega))
        have hX0 : n * 2 ^ U ≠ 0 := Nat.mul_ne_zero hz (by have := Nat.two_pow_pos U; omega)
        obtain ⟨s0, t1, t2⟩ := root_ex (n * 2 ^ U)
        have hs0 : s0 < 1073741824 := root_down (n * 2 ^ U) s0 1073741824 (by omega) t1
        have RI := implRound16 false s0 (by omega) ((z1 - U) / 2) (by omega) (by omega) (decide (s0 * s0 ≠ n * 2 ^ U))
        refine ⟨(false.toNat : Int) * 32768 + ((min (toldOf 10 (-24) s0 ((z1 - U) / 2) (decide (s0 * s0 ≠ n * 2 ^ U))) 31744 : Nat) : Int), sqSpecF16 a _ _ O1 (sqQ_nn16 n z1 _ hz (by omega) (by omega) (by omega) ?_), sqImpl_nn16 a z1 _ ((z1 - U) / 2) _ n (Lib.bitLen n) U0 U (n * 2 ^ U) odd V1 hz' LN ?_ ?_ rfl hodd ?_ ?_ ?_ ?_ ?_ ?_ ?_ hX0 hX ?_, ?_⟩
        · intro j sh i1 i2 hsh p1 s g1 g2 w
          have hj : j < 25 := by
            have hjp : 2 ^ j ≤ n * 2 ^ j := Nat.le_mul_of_pos_left _ (by omega)
            have h2j : 2 ^ j < 2 ^ 25 := Nat.lt_of_le_of_lt (Nat.le_trans hjp (Nat.le_of_lt i2)) (by decide)
            exact (Nat.pow_lt_pow_iff_right (by omega)).1 h2j
          obtain ⟨tt, hs⟩ := sqTold16 n j sh U s s0 z1 hz (by omega) i1 i2 hsh p1 hUL hUp g1 g2 t1 t2
          rw [← tt]
          exact specRound16 false s hs _ (by omega) (by omega) _ w
        · unfold wrap64; omega
        · unfold wrap64; omega
        · intro h; have := hUo.1 h; unfold wrap64; omega
        · intro h; exact (hUo.2 h).symm
        · omega
        · rw [show (n : Int) * 2 ^ U = ((n * 2 ^ U : Nat) : Int) by simp, IntKind.wrap_u64]; omega
        · unfold wrap64; omega
        · exact Int.tdiv_eq_ediv_of_dvd (Int.dvd_of_emod_eq_zero hUp)
        · unfold wrap64; omega
        · intro s g1 g2
          obtain rfl := root_one _ s s0 g1 g2 t1 t2
          exact RI
        · intro _ _ m hm _
          obtain rfl : n = m := by omega
          exact ⟨U, s0, hUL, hUp, t1, t2, by simp⟩
      · exact ⟨_, sqSpecF16 a _ _ O1 (sqQ_neg16 n z1 hz2), sqImpl_neg16 a z1 n V1 hz', fun _ h => absurd h (by decide)⟩
  · cases s1
    · exact ⟨_, sqSpecF16 a _ _ O1 (sqQ_inf16 n z1), sqImpl_inf16 a z1 n V1, fun h => absurd h (by decide)⟩
    · exact ⟨_, sqSpecF16 a _ _ O1 (sqQ_neginf16 n z1), sqImpl_neginf16 a z1 n V1, fun h => absurd h (by decide)⟩
  · exact ⟨_, sqSpecF16 a _ _ O1 (sqQ_nan16 n z1 s1), sqImpl_nan16 a z1 n s1 V1, fun h => absurd h (by decide)⟩

end Go.Proofs.Yteniijmnpgdpcaa
