/-
  FDiv: the law's side.
-/
import Derived.Test.YteniijmnpgdpcaaFDivA
import Derived.Test.YteniijmnpgdpcaaFFull
namespace Go.Proofs.Yteniijmnpgdpcaa
open Go.RowKit

/-- The world of quotient: k, a and b. -/
structure QAt (x p : Int) (g : Nat) (s1 : Bool) (M1 E1 : Int) (s2 : Bool) (M2 E2 : Int) (w : World) : Prop where
  c0 : w.cell? ⟨g, 0, none⟩ = some (.int .u64 x)
  c1 : w.cell? ⟨g, 1, none⟩ = some (.int .u64 p)
  a0 : w.cell? ⟨g + 1, 0, none⟩ = some (.bool s1)
  a1 : w.cell? ⟨g + 1, 1, none⟩ = some (.bool false)
  a2 : w.cell? ⟨g + 1, 2, none⟩ = some (.bool false)
  a3 : w.cell? ⟨g + 1, 3, none⟩ = some (.int .u64 M1)
  a4 : w.cell? ⟨g + 1, 4, none⟩ = some (.int .i64 E1)
  b0 : w.cell? ⟨g + 2, 0, none⟩ = some (.bool s2)
  b1 : w.cell? ⟨g + 2, 1, none⟩ = some (.bool false)
  b2 : w.cell? ⟨g + 2, 2, none⟩ = some (.bool false)
  b3 : w.cell? ⟨g + 2, 3, none⟩ = some (.int .u64 M2)
  b4 : w.cell? ⟨g + 2, 4, none⟩ = some (.int .i64 E2)
  za : ∀ j, w.frozen? ⟨g + 1, j, none⟩ = false
  zb : ∀ j, w.frozen? ⟨g + 2, j, none⟩ = false
  hz : g + 3 ≤ w.heap.size

theorem QAt.below {x p : Int} {g : Nat} {s1 s2 : Bool} {M1 E1 M2 E2 : Int} {w w' : World} (h : QAt x p g s1 M1 E1 s2 M2 E2 w) (B : Below w.heap.size w w') : QAt x p g s1 M1 E1 s2 M2 E2 w' := by
  obtain ⟨c0, c1, a0, a1, a2, a3, a4, b0, b1, b2, b3, b4, za, zb, hz⟩ := h
  have k : Keeps w w' := ⟨B⟩
  exact ⟨k.cell (by omega) c0, k.cell (by omega) c1, k.cell (by omega) a0, k.cell (by omega) a1, k.cell (by omega) a2, k.cell (by omega) a3, k.cell (by omega) a4, k.cell (by omega) b0, k.cell (by omega) b1, k.cell (by omega) b2, k.cell (by omega) b3, k.cell (by omega) b4, fun j => k.frozen (by omega) (za j), fun j => k.frozen (by omega) (zb j), by have := B.size; omega⟩

theorem QAt.setA {x p : Int} {g : Nat} {s1 s2 : Bool} {M1 E1 M2 E2 : Int} {w : World} (h : QAt x p g s1 M1 E1 s2 M2 E2 w) (M E : Int) :
    QAt x p g s1 M E s2 M2 E2 (((((w.setCell ⟨g + 1, 0, none⟩ (.bool s1)).setCell ⟨g + 1, 1, none⟩ (.bool false)).setCell ⟨g + 1, 2, none⟩ (.bool false)).setCell ⟨g + 1, 3, none⟩ (.int .u64 M)).setCell ⟨g + 1, 4, none⟩ (.int .i64 E)) := by
  obtain ⟨c0, c1, a0, a1, a2, a3, a4, b0, b1, b2, b3, b4, za, zb, hz⟩ := h
  refine ⟨?_, ?_, ?_, ?_, ?_, ?_, ?_, ?_, ?_, ?_, ?_, ?_, fun j => ?_, fun j => ?_, ?_⟩
  all_goals simp [go_sem, *]

theorem QAt.setB {x p : Int} {g : Nat} {s1 s2 : Bool} {M1 E1 M2 E2 : Int} {w : World} (h : QAt x p g s1 M1 E1 s2 M2 E2 w) (M E : Int) :
    QAt x p g s1 M1 E1 s2 M E (((((w.setCell ⟨g + 2, 0, none⟩ (.bool s2)).setCell ⟨g + 2, 1, none⟩ (.bool false)).setCell ⟨g + 2, 2, none⟩ (.bool false)).setCell ⟨g + 2, 3, none⟩ (.int .u64 M)).setCell ⟨g + 2, 4, none⟩ (.int .i64 E)) := by
  obtain ⟨c0, c1, a0, a1, a2, a3, a4, b0, b1, b2, b3, b4, za, zb, hz⟩ := h
  refine ⟨?_, ?_, ?_, ?_, ?_, ?_, ?_, ?_, ?_, ?_, ?_, ?_, fun j => ?_, fun j => ?_, ?_⟩
  all_goals simp [go_sem, *]

theorem qAtStart (x p : Int) (s1 s2 : Bool) (M1 E1 M2 E2 : Int) (t t2 : TypeId) (w : World) :
    QAt x p w.heap.size s1 M1 E1 s2 M2 E2 (((w.alloc (.cells #[.int .u64 x, .int .u64 p] t)).alloc (.cells #[.bool s1, .bool false, .bool false, .int .u64 M1, .int .i64 E1] t2)).alloc (.cells #[.bool s2, .bool false, .bool false, .int .u64 M2, .int .i64 E2] t2)) := by
  refine ⟨?_, ?_, ?_, ?_, ?_, ?_, ?_, ?_, ?_, ?_, ?_, ?_, fun j => ?_, fun j => ?_, ?_⟩
  all_goals simp [go_sem]

theorem pow_le16 (n j : Nat) (hn : n ≠ 0) (h : n * 2 ^ j < 2 * 1024) : j < 25 := by
  have hjp : 2 ^ j ≤ n * 2 ^ j := Nat.le_mul_of_pos_left _ (by omega)
  have h2j : 2 ^ j < 2 ^ 25 := Nat.lt_of_le_of_lt (Nat.le_trans hjp (Nat.le_of_lt h)) (by decide)
  exact (Nat.pow_lt_pow_iff_right (by omega)).1 h2j

theorem pow_le32 (n j : Nat) (hn : n ≠ 0) (h : n * 2 ^ j < 2 * 8388608) : j < 25 := by
  have hjp : 2 ^ j ≤ n * 2 ^ j := Nat.le_mul_of_pos_left _ (by omega)
  have h2j : 2 ^ j < 2 ^ 25 := Nat.lt_of_le_of_lt (Nat.le_trans hjp (Nat.le_of_lt h)) (by decide)
  exact (Nat.pow_lt_pow_iff_right (by omega)).1 h2j

set_option maxHeartbeats 1000000 in
theorem divQ_a216 (m1 e1 m2 e2 : Int) (s1 s2 sg : Bool) (i2 n2 : Bool) (hsg : (!(s1 == s2)) = sg) (w : World) :
    Calls Try.prog 40 #[(.agg #[.int .u64 5, .int .u64 10]), .agg #[.bool s1, .bool false, .bool true, .int .u64 m1, .int .i64 e1], .agg #[.bool s2, .bool i2, .bool n2, .int .u64 m2, .int .i64 e2]] w fun e w' => e = .returned (.int .u32 (31744 + 512)) ∧ Below w.heap.size w w' := by
  go_enter Try.func40, Try.ntmps40
  go_wp2_with fail
  refine (l4Nan16 _).mono ?_
  rintro e' w3 ⟨rfl, B3⟩
  go_wp2
  go_ret
  refine ⟨rfl, ?_⟩
  ((repeat (first | refine bel_alloc ?_ _ | refine bel_dN ?_ _ | refine Below.drew ?_ | refine Below.setCell ?_ (by first | (simp; done) | (simp; omega)) _)); refine bel_step ?_ B3; (repeat (first | refine bel_alloc ?_ _ | refine bel_dN ?_ _ | refine Below.drew ?_ | refine Below.setCell ?_ (by first | (simp; done) | (simp; omega)) _)); exact Below.refl _ _)

set_option maxHeartbeats 1000000 in
theorem divQ_a232 (m1 e1 m2 e2 : Int) (s1 s2 sg : Bool) (i2 n2 : Bool) (hsg : (!(s1 == s2)) = sg) (w : World) :
    Calls Try.prog 40 #[(.agg #[.int .u64 8, .int .u64 23]), .agg #[.bool s1, .bool false, .bool true, .int .u64 m1, .int .i64 e1], .agg #[.bool s2, .bool i2, .bool n2, .int .u64 m2, .int .i64 e2]] w fun e w' => e = .returned (.int .u32 (2139095040 + 4194304)) ∧ Below w.heap.size w w' := by
  go_enter Try.func40, Try.ntmps40
  go_wp2_with fail
  refine (l4Nan32 _).mono ?_
  rintro e' w3 ⟨rfl, B3⟩
  go_wp2
  go_ret
  refine ⟨rfl, ?_⟩
  ((repeat (first | refine bel_alloc ?_ _ | refine bel_dN ?_ _ | refine Below.drew ?_ | refine Below.setCell ?_ (by first | (simp; done) | (simp; omega)) _)); refine bel_step ?_ B3; (repeat (first | refine bel_alloc ?_ _ | refine bel_dN ?_ _ | refine Below.drew ?_ | refine Below.setCell ?_ (by first | (simp; done) | (simp; omega)) _)); exact Below.refl _ _)

set_option maxHeartbeats 1000000 in
theorem divQ_b016 (m1 e1 m2 e2 : Int) (s1 s2 sg : Bool) (hsg : (!(s1 == s2)) = sg) (w : World) :
    Calls Try.prog 40 #[(.agg #[.int .u64 5, .int .u64 10]), .agg #[.bool s1, .bool false, .bool false, .int .u64 m1, .int .i64 e1], .agg #[.bool s2, .bool false, .bool true, .int .u64 m2, .int .i64 e2]] w fun e w' => e = .returned (.int .u32 (31744 + 512)) ∧ Below w.heap.size w w' := by
  go_enter Try.func40, Try.ntmps40
  go_wp2_with fail
  refine (l4Nan16 _).mono ?_
  rintro e' w3 ⟨rfl, B3⟩
  go_wp2
  go_ret
  refine ⟨rfl, ?_⟩
  ((repeat (first | refine bel_alloc ?_ _ | refine bel_dN ?_ _ | refine Below.drew ?_ | refine Below.setCell ?_ (by first | (simp; done) | (simp; omega)) _)); refine bel_step ?_ B3; (repeat (first | refine bel_alloc ?_ _ | refine bel_dN ?_ _ | refine Below.drew ?_ | refine Below.setCell ?_ (by first | (simp; done) | (simp; omega)) _)); exact Below.refl _ _)

set_option maxHeartbeats 1000000 in
theorem divQ_b032 (m1 e1 m2 e2 : Int) (s1 s2 sg : Bool) (hsg : (!(s1 == s2)) = sg) (w : World) :
    Calls Try.prog 40 #[(.agg #[.int .u64 8, .int .u64 23]), .agg #[.bool s1, .bool false, .bool false, .int .u64 m1, .int .i64 e1], .agg #[.bool s2, .bool false, .bool true, .int .u64 m2, .int .i64 e2]] w fun e w' => e = .returned (.int .u32 (2139095040 + 4194304)) ∧ Below w.heap.size w w' := by
  go_enter Try.func40, Try.ntmps40
  go_wp2_with fail
  refine (l4Nan32 _).mono ?_
  rintro e' w3 ⟨rfl, B3⟩
  go_wp2
  go_ret
  refine ⟨rfl, ?_⟩
  ((repeat (first | refine bel_alloc ?_ _ | refine bel_dN ?_ _ | refine Below.drew ?_ | refine Below.setCell ?_ (by first | (simp; done) | (simp; omega)) _)); refine bel_step ?_ B3; (repeat (first | refine bel_alloc ?_ _ | refine bel_dN ?_ _ | refine Below.drew ?_ | refine Below.setCell ?_ (by first | (simp; done) | (simp; omega)) _)); exact Below.refl _ _)

set_option maxHeartbeats 1000000 in
theorem divQ_b116 (m1 e1 m2 e2 : Int) (s1 s2 sg : Bool) (hsg : (!(s1 == s2)) = sg) (w : World) :
    Calls Try.prog 40 #[(.agg #[.int .u64 5, .int .u64 10]), .agg #[.bool s1, .bool true, .bool false, .int .u64 m1, .int .i64 e1], .agg #[.bool s2, .bool false, .bool true, .int .u64 m2, .int .i64 e2]] w fun e w' => e = .returned (.int .u32 (31744 + 512)) ∧ Below w.heap.size w w' := by
  go_enter Try.func40, Try.ntmps40
  go_wp2_with fail
  refine (l4Nan16 _).mono ?_
  rintro e' w3 ⟨rfl, B3⟩
  go_wp2
  go_ret
  refine ⟨rfl, ?_⟩
  ((repeat (first | refine bel_alloc ?_ _ | refine bel_dN ?_ _ | refine Below.drew ?_ | refine Below.setCell ?_ (by first | (simp; done) | (simp; omega)) _)); refine bel_step ?_ B3; (repeat (first | refine bel_alloc ?_ _ | refine bel_dN ?_ _ | refine Below.drew ?_ | refine Below.setCell ?_ (by first | (simp; done) | (simp; omega)) _)); exact Below.refl _ _)

set_option maxHeartbeats 1000000 in
theorem divQ_b132 (m1 e1 m2 e2 : Int) (s1 s2 sg : Bool) (hsg : (!(s1 == s2)) = sg) (w : World) :
    Calls Try.prog 40 #[(.agg #[.int .u64 8, .int .u64 23]), .agg #[.bool s1, .bool true, .bool false, .int .u64 m1, .int .i64 e1], .agg #[.bool s2, .bool false, .bool true, .int .u64 m2, .int .i64 e2]] w fun e w' => e = .returned (.int .u32 (2139095040 + 4194304)) ∧ Below w.heap.size w w' := by
  go_enter Try.func40, Try.ntmps40
  go_wp2_with fail
  refine (l4Nan32 _).mono ?_
  rintro e' w3 ⟨rfl, B3⟩
  go_wp2
  go_ret
  refine ⟨rfl, ?_⟩
  ((repeat (first | refine bel_alloc ?_ _ | refine bel_dN ?_ _ | refine Below.drew ?_ | refine Below.setCell ?_ (by first | (simp; done) | (simp; omega)) _)); refine bel_step ?_ B3; (repeat (first | refine bel_alloc ?_ _ | refine bel_dN ?_ _ | refine Below.drew ?_ | refine Below.setCell ?_ (by first | (simp; done) | (simp; omega)) _)); exact Below.refl _ _)

set_option maxHeartbeats 1000000 in
theorem divQ_ii16 (m1 e1 m2 e2 : Int) (s1 s2 sg : Bool) (hsg : (!(s1 == s2)) = sg) (w : World) :
    Calls Try.prog 40 #[(.agg #[.int .u64 5, .int .u64 10]), .agg #[.bool s1, .bool true, .bool false, .int .u64 m1, .int .i64 e1], .agg #[.bool s2, .bool true, .bool false, .int .u64 m2, .int .i64 e2]] w fun e w' => e = .returned (.int .u32 (31744 + 512)) ∧ Below w.heap.size w w' := by
  go_enter Try.func40, Try.ntmps40
  go_wp2_with fail
  refine (l4Nan16 _).mono ?_
  rintro e' w3 ⟨rfl, B3⟩
  go_wp2
  go_ret
  refine ⟨rfl, ?_⟩
  ((repeat (first | refine bel_alloc ?_ _ | refine bel_dN ?_ _ | refine Below.drew ?_ | refine Below.setCell ?_ (by first | (simp; done) | (simp; omega)) _)); refine bel_step ?_ B3; (repeat (first | refine bel_alloc ?_ _ | refine bel_dN ?_ _ | refine Below.drew ?_ | refine Below.setCell ?_ (by first | (simp; done) | (simp; omega)) _)); exact Below.refl _ _)

set_option maxHeartbeats 1000000 in
theorem divQ_ii32 (m1 e1 m2 e2 : Int) (s1 s2 sg : Bool) (hsg : (!(s1 == s2)) = sg) (w : World) :
    Calls Try.prog 40 #[(.agg #[.int .u64 8, .int .u64 23]), .agg #[.bool s1, .bool true, .bool false, .int .u64 m1, .int .i64 e1], .agg #[.bool s2, .bool true, .bool false, .int .u64 m2, .int .i64 e2]] w fun e w' => e = .returned (.int .u32 (2139095040 + 4194304)) ∧ Below w.heap.size w w' := by
  go_enter Try.func40, Try.ntmps40
  go_wp2_with fail
  refine (l4Nan32 _).mono ?_
  rintro e' w3 ⟨rfl, B3⟩
  go_wp2
  go_ret
  refine ⟨rfl, ?_⟩
  ((repeat (first | refine bel_alloc ?_ _ | refine bel_dN ?_ _ | refine Below.drew ?_ | refine Below.setCell ?_ (by first | (simp; done) | (simp; omega)) _)); refine bel_step ?_ B3; (repeat (first | refine bel_alloc ?_ _ | refine bel_dN ?_ _ | refine Below.drew ?_ | refine Below.setCell ?_ (by first | (simp; done) | (simp; omega)) _)); exact Below.refl _ _)

set_option maxHeartbeats 1000000 in
theorem divQ_if16 (m1 e1 m2 e2 : Int) (s1 s2 sg : Bool) (hsg : (!(s1 == s2)) = sg) (w : World) :
    Calls Try.prog 40 #[(.agg #[.int .u64 5, .int .u64 10]), .agg #[.bool s1, .bool true, .bool false, .int .u64 m1, .int .i64 e1], .agg #[.bool s2, .bool false, .bool false, .int .u64 m2, .int .i64 e2]] w fun e w' => e = .returned (.int .u32 (sg.toNat * 32768 + 31744)) ∧ Below w.heap.size w w' := by
  go_enter Try.func40, Try.ntmps40
  go_wp2_with fail
  refine (l4Inf16 sg _).mono ?_
  rintro e' w3 ⟨rfl, B3⟩
  go_wp2
  go_ret
  refine ⟨rfl, ?_⟩
  ((repeat (first | refine bel_alloc ?_ _ | refine bel_dN ?_ _ | refine Below.drew ?_ | refine Below.setCell ?_ (by first | (simp; done) | (simp; omega)) _)); refine bel_step ?_ B3; (repeat (first | refine bel_alloc ?_ _ | refine bel_dN ?_ _ | refine Below.drew ?_ | refine Below.setCell ?_ (by first | (simp; done) | (simp; omega)) _)); exact Below.refl _ _)

set_option maxHeartbeats 1000000 in
theorem divQ_if32 (m1 e1 m2 e2 : Int) (s1 s2 sg : Bool) (hsg : (!(s1 == s2)) = sg) (w : World) :
    Calls Try.prog 40 #[(.agg #[.int .u64 8, .int .u64 23]), .agg #[.bool s1, .bool true, .bool false, .int .u64 m1, .int .i64 e1], .agg #[.bool s2, .bool false, .bool false, .int .u64 m2, .int .i64 e2]] w fun e w' => e = .returned (.int .u32 (sg.toNat * 2147483648 + 2139095040)) ∧ Below w.heap.size w w' := by
  go_enter Try.func40, Try.ntmps40
  go_wp2_with fail
  refine (l4Inf32 sg _).mono ?_
  rintro e' w3 ⟨rfl, B3⟩
  go_wp2
  go_ret
  refine ⟨rfl, ?_⟩
  ((repeat (first | refine bel_alloc ?_ _ | refine bel_dN ?_ _ | refine Below.drew ?_ | refine Below.setCell ?_ (by first | (simp; done) | (simp; omega)) _)); refine bel_step ?_ B3; (repeat (first | refine bel_alloc ?_ _ | refine bel_dN ?_ _ | refine Below.drew ?_ | refine Below.setCell ?_ (by first | (simp; done) | (simp; omega)) _)); exact Below.refl _ _)

set_option maxHeartbeats 1000000 in
theorem divQ_zz16 (m1 e1 m2 e2 : Int) (s1 s2 sg : Bool) (hsg : (!(s1 == s2)) = sg) (hm1 : (m1 == 0) = true) (hm2 : (m2 == 0) = true) (w : World) :
    Calls Try.prog 40 #[(.agg #[.int .u64 5, .int .u64 10]), .agg #[.bool s1, .bool false, .bool false, .int .u64 m1, .int .i64 e1], .agg #[.bool s2, .bool false, .bool false, .int .u64 m2, .int .i64 e2]] w fun e w' => e = .returned (.int .u32 (31744 + 512)) ∧ Below w.heap.size w w' := by
  go_enter Try.func40, Try.ntmps40
  go_wp2_with fail
  refine (l4Nan16 _).mono ?_
  rintro e' w3 ⟨rfl, B3⟩
  go_wp2
  go_ret
  refine ⟨rfl, ?_⟩
  ((repeat (first | refine bel_alloc ?_ _ | refine bel_dN ?_ _ | refine Below.drew ?_ | refine Below.setCell ?_ (by first | (simp; done) | (simp; omega)) _)); refine bel_step ?_ B3; (repeat (first | refine bel_alloc ?_ _ | refine bel_dN ?_ _ | refine Below.drew ?_ | refine Below.setCell ?_ (by first | (simp; done) | (simp; omega)) _)); exact Below.refl _ _)

set_option maxHeartbeats 1000000 in
theorem divQ_zz32 (m1 e1 m2 e2 : Int) (s1 s2 sg : Bool) (hsg : (!(s1 == s2)) = sg) (hm1 : (m1 == 0) = true) (hm2 : (m2 == 0) = true) (w : World) :
    Calls Try.prog 40 #[(.agg #[.int .u64 8, .int .u64 23]), .agg #[.bool s1, .bool false, .bool false, .int .u64 m1, .int .i64 e1], .agg #[.bool s2, .bool false, .bool false, .int .u64 m2, .int .i64 e2]] w fun e w' => e = .returned (.int .u32 (2139095040 + 4194304)) ∧ Below w.heap.size w w' := by
  go_enter Try.func40, Try.ntmps40
  go_wp2_with fail
  refine (l4Nan32 _).mono ?_
  rintro e' w3 ⟨rfl, B3⟩
  go_wp2
  go_ret
  refine ⟨rfl, ?_⟩
  ((repeat (first | refine bel_alloc ?_ _ | refine bel_dN ?_ _ | refine Below.drew ?_ | refine Below.setCell ?_ (by first | (simp; done) | (simp; omega)) _)); refine bel_step ?_ B3; (repeat (first | refine bel_alloc ?_ _ | refine bel_dN ?_ _ | refine Below.drew ?_ | refine Below.setCell ?_ (by first | (simp; done) | (simp; omega)) _)); exact Below.refl _ _)

set_option maxHeartbeats 1000000 in
theorem divQ_nz16 (m1 e1 m2 e2 : Int) (s1 s2 sg : Bool) (hsg : (!(s1 == s2)) = sg) (hm1 : (m1 == 0) = false) (hm2 : (m2 == 0) = true) (w : World) :
    Calls Try.prog 40 #[(.agg #[.int .u64 5, .int .u64 10]), .agg #[.bool s1, .bool false, .bool false, .int .u64 m1, .int .i64 e1], .agg #[.bool s2, .bool false, .bool false, .int .u64 m2, .int .i64 e2]] w fun e w' => e = .returned (.int .u32 (sg.toNat * 32768 + 31744)) ∧ Below w.heap.size w w' := by
  go_enter Try.func40, Try.ntmps40
  go_wp2_with fail
  refine (l4Inf16 sg _).mono ?_
  rintro e' w3 ⟨rfl, B3⟩
  go_wp2
  go_ret
  refine ⟨rfl, ?_⟩
  ((repeat (first | refine bel_alloc ?_ _ | refine bel_dN ?_ _ | refine Below.drew ?_ | refine Below.setCell ?_ (by first | (simp; done) | (simp; omega)) _)); refine bel_step ?_ B3; (repeat (first | refine bel_alloc ?_ _ | refine bel_dN ?_ _ | refine Below.drew ?_ | refine Below.setCell ?_ (by first | (simp; done) | (simp; omega)) _)); exact Below.refl _ _)

set_option maxHeartbeats 1000000 in
theorem divQ_nz32 (m1 e1 m2 e2 : Int) (s1 s2 sg : Bool) (hsg : (!(s1 == s2)) = sg) (hm1 : (m1 == 0) = false) (hm2 : (m2 == 0) = true) (w : World) :
    Calls Try.prog 40 #[(.agg #[.int .u64 8, .int .u64 23]), .agg #[.bool s1, .bool false, .bool false, .int .u64 m1, .int .i64 e1], .agg #[.bool s2, .bool false, .bool false, .int .u64 m2, .int .i64 e2]] w fun e w' => e = .returned (.int .u32 (sg.toNat * 2147483648 + 2139095040)) ∧ Below w.heap.size w w' := by
  go_enter Try.func40, Try.ntmps40
  go_wp2_with fail
  refine (l4Inf32 sg _).mono ?_
  rintro e' w3 ⟨rfl, B3⟩
  go_wp2
  go_ret
  refine ⟨rfl, ?_⟩
  ((repeat (first | refine bel_alloc ?_ _ | refine bel_dN ?_ _ | refine Below.drew ?_ | refine Below.setCell ?_ (by first | (simp; done) | (simp; omega)) _)); refine bel_step ?_ B3; (repeat (first | refine bel_alloc ?_ _ | refine bel_dN ?_ _ | refine Below.drew ?_ | refine Below.setCell ?_ (by first | (simp; done) | (simp; omega)) _)); exact Below.refl _ _)

set_option maxHeartbeats 1000000 in
theorem divQ_fi16 (m1 e1 m2 e2 : Int) (s1 s2 sg : Bool) (hsg : (!(s1 == s2)) = sg) (w : World) :
    Calls Try.prog 40 #[(.agg #[.int .u64 5, .int .u64 10]), .agg #[.bool s1, .bool false, .bool false, .int .u64 m1, .int .i64 e1], .agg #[.bool s2, .bool true, .bool false, .int .u64 m2, .int .i64 e2]] w fun e w' => e = .returned (.int .u32 (sg.toNat * 32768)) ∧ Below w.heap.size w w' := by
  go_enter Try.func40, Try.ntmps40
  go_wp2_with fail
  refine (l4Sign16 sg _).mono ?_
  rintro e' w3 ⟨rfl, B3⟩
  go_wp2
  go_ret
  refine ⟨rfl, ?_⟩
  ((repeat (first | refine bel_alloc ?_ _ | refine bel_dN ?_ _ | refine Below.drew ?_ | refine Below.setCell ?_ (by first | (simp; done) | (simp; omega)) _)); refine bel_step ?_ B3; (repeat (first | refine bel_alloc ?_ _ | refine bel_dN ?_ _ | refine Below.drew ?_ | refine Below.setCell ?_ (by first | (simp; done) | (simp; omega)) _)); exact Below.refl _ _)

set_option maxHeartbeats 1000000 in
theorem divQ_fi32 (m1 e1 m2 e2 : Int) (s1 s2 sg : Bool) (hsg : (!(s1 == s2)) = sg) (w : World) :
    Calls Try.prog 40 #[(.agg #[.int .u64 8, .int .u64 23]), .agg #[.bool s1, .bool false, .bool false, .int .u64 m1, .int .i64 e1], .agg #[.bool s2, .bool true, .bool false, .int .u64 m2, .int .i64 e2]] w fun e w' => e = .returned (.int .u32 (sg.toNat * 2147483648)) ∧ Below w.heap.size w w' := by
  go_enter Try.func40, Try.ntmps40
  go_wp2_with fail
  refine (l4Sign32 sg _).mono ?_
  rintro e' w3 ⟨rfl, B3⟩
  go_wp2
  go_ret
  refine ⟨rfl, ?_⟩
  ((repeat (first | refine bel_alloc ?_ _ | refine bel_dN ?_ _ | refine Below.drew ?_ | refine Below.setCell ?_ (by first | (simp; done) | (simp; omega)) _)); refine bel_step ?_ B3; (repeat (first | refine bel_alloc ?_ _ | refine bel_dN ?_ _ | refine Below.drew ?_ | refine Below.setCell ?_ (by first | (simp; done) | (simp; omega)) _)); exact Below.refl _ _)

set_option maxHeartbeats 1000000 in
theorem divQ_zn16 (m1 e1 m2 e2 : Int) (s1 s2 sg : Bool) (hsg : (!(s1 == s2)) = sg) (hm1 : (m1 == 0) = true) (hm2 : (m2 == 0) = false) (w : World) :
    Calls Try.prog 40 #[(.agg #[.int .u64 5, .int .u64 10]), .agg #[.bool s1, .bool false, .bool false, .int .u64 m1, .int .i64 e1], .agg #[.bool s2, .bool false, .bool false, .int .u64 m2, .int .i64 e2]] w fun e w' => e = .returned (.int .u32 (sg.toNat * 32768)) ∧ Below w.heap.size w w' := by
  go_enter Try.func40, Try.ntmps40
  go_wp2_with fail
  refine (l4Sign16 sg _).mono ?_
  rintro e' w3 ⟨rfl, B3⟩
  go_wp2
  go_ret
  refine ⟨rfl, ?_⟩
  ((repeat (first | refine bel_alloc ?_ _ | refine bel_dN ?_ _ | refine Below.drew ?_ | refine Below.setCell ?_ (by first | (simp; done) | (simp; omega)) _)); refine bel_step ?_ B3; (repeat (first | refine bel_alloc ?_ _ | refine bel_dN ?_ _ | refine Below.drew ?_ | refine Below.setCell ?_ (by first | (simp; done) | (simp; omega)) _)); exact Below.refl _ _)

set_option maxHeartbeats 1000000 in
theorem divQ_zn32 (m1 e1 m2 e2 : Int) (s1 s2 sg : Bool) (hsg : (!(s1 == s2)) = sg) (hm1 : (m1 == 0) = true) (hm2 : (m2 == 0) = false) (w : World) :
    Calls Try.prog 40 #[(.agg #[.int .u64 8, .int .u64 23]), .agg #[.bool s1, .bool false, .bool false, .int .u64 m1, .int .i64 e1], .agg #[.bool s2, .bool false, .bool false, .int .u64 m2, .int .i64 e2]] w fun e w' => e = .returned (.int .u32 (sg.toNat * 2147483648)) ∧ Below w.heap.size w w' := by
  go_enter Try.func40, Try.ntmps40
  go_wp2_with fail
  refine (l4Sign32 sg _).mono ?_
  rintro e' w3 ⟨rfl, B3⟩
  go_wp2
  go_ret
  refine ⟨rfl, ?_⟩
  ((repeat (first | refine bel_alloc ?_ _ | refine bel_dN ?_ _ | refine Below.drew ?_ | refine Below.setCell ?_ (by first | (simp; done) | (simp; omega)) _)); refine bel_step ?_ B3; (repeat (first | refine bel_alloc ?_ _ | refine bel_dN ?_ _ | refine Below.drew ?_ | refine Below.setCell ?_ (by first | (simp; done) | (simp; omega)) _)); exact Below.refl _ _)

set_option maxHeartbeats 2000000 in
theorem divQ_nn16 (n1 n2 : Nat) (e1 e2 r : Int) (s1 s2 sg : Bool) (hsg : (!(s1 == s2)) = sg) (hn1 : n1 ≠ 0) (hn2 : n2 ≠ 0) (hb1 : n1 < 2 * 1024) (hb2 : n2 < 2 * 1024) (he1 : -500 ≤ e1) (he1' : e1 ≤ 500) (he2 : -500 ≤ e2) (he2' : e2 ≤ 500)
    (RR : Hid (∀ (j1 j2 : Nat), 1024 ≤ n1 * 2 ^ j1 → n1 * 2 ^ j1 < 2 * 1024 → 1024 ≤ n2 * 2 ^ j2 → n2 * 2 ^ j2 < 2 * 1024 → ∀ w, Calls Try.prog 58 #[(.agg #[.int .u64 5, .int .u64 10]), .bool sg, .int .u64 ((n1 * 2 ^ j1 * 1073741824 / (n2 * 2 ^ j2) : Nat) : Int), .int .i64 (e1 - j1 - 30 - (e2 - j2)), .bool (decide (n1 * 2 ^ j1 * 1073741824 % (n2 * 2 ^ j2) ≠ 0))] w fun e w' => e = .returned (.int .u32 r) ∧ Below w.heap.size w w')) (w : World) :
    Calls Try.prog 40 #[(.agg #[.int .u64 5, .int .u64 10]), .agg #[.bool s1, .bool false, .bool false, .int .u64 (n1 : Int), .int .i64 e1], .agg #[.bool s2, .bool false, .bool false, .int .u64 (n2 : Int), .int .i64 e2]] w fun e w' => e = .returned (.int .u32 r) ∧ Below w.heap.size w w' := by
  have km1 : ((n1 : Int) == 0) = false := by simp; omega
  have km2 : ((n2 : Int) == 0) = false := by simp; omega
  obtain ⟨W, hW⟩ : ∃ W, ((w.alloc (.cells #[.int .u64 5, .int .u64 10] 58)).alloc (.cells #[.bool s1, .bool false, .bool false, .int .u64 (n1 : Int), .int .i64 e1] 63)).alloc (.cells #[.bool s2, .bool false, .bool false, .int .u64 (n2 : Int), .int .i64 e2] 63) = W := ⟨_, rfl⟩
  have QW := qAtStart 5 10 s1 s2 (n1 : Int) e1 (n2 : Int) e2 58 63 w
  have BW : Hid (Below w.heap.size w W) := by unfold Hid; rw [← hW]; (repeat (first | refine Below.alloc ?_ (by first | (simp; done) | (simp; omega)) _ | refine Below.setCell ?_ (by first | (simp; done) | (simp; omega)) _ | refine bel_dN ?_ _ | refine Below.drew ?_ | exact Below.refl _ _))
  rw [hW] at QW
  obtain ⟨g, hg⟩ : ∃ g, w.heap.size = g := ⟨_, rfl⟩
  have hgw : g ≤ w.heap.size := by omega
  have hgw' : w.heap.size ≤ g := by omega
  rw [hg] at QW
  have HQ : Hid (QAt 5 10 g s1 (n1 : Int) e1 s2 (n2 : Int) e2 W) := QW
  obtain ⟨c0, c1, a0, a1, a2, a3, a4, b0, b1, b2, b3, b4, za, zb, hz⟩ := QW
  have FA : Hid (∀ w, Calls Try.prog 62 #[(.agg #[.int .u64 5, .int .u64 10]), .agg #[.bool s1, .bool false, .bool false, .int .u64 (n1 : Int), .int .i64 e1]] w fun x w' => (∃ j : Nat, 1024 ≤ n1 * 2 ^ j ∧ n1 * 2 ^ j < 2 * 1024 ∧ x = .returned (.agg #[.bool s1, .bool false, .bool false, .int .u64 ((n1 * 2 ^ j : Nat) : Int), .int .i64 (e1 - j)])) ∧ Below w.heap.size w w') := fun w => full16 n1 e1 s1 false false hn1 hb1 (by omega) (by omega) w
  have FB : Hid (∀ w, Calls Try.prog 62 #[(.agg #[.int .u64 5, .int .u64 10]), .agg #[.bool s2, .bool false, .bool false, .int .u64 (n2 : Int), .int .i64 e2]] w fun x w' => (∃ j : Nat, 1024 ≤ n2 * 2 ^ j ∧ n2 * 2 ^ j < 2 * 1024 ∧ x = .returned (.agg #[.bool s2, .bool false, .bool false, .int .u64 ((n2 * 2 ^ j : Nat) : Int), .int .i64 (e2 - j)])) ∧ Below w.heap.size w w') := fun w => full16 n2 e2 s2 false false hn2 hb2 (by omega) (by omega) w
  go_enter Try.func40, Try.ntmps40
  go_wp2_with fail
  clear hW
  refine (FA.out _).mono ?_
  rintro e' w1 ⟨⟨j1, i1, i2, rfl⟩, B1⟩
  have HW1 : Hid (Below w.heap.size w w1) := bel_step BW.out B1
  have Q1 := HQ.out.below B1
  have HQ1 : Hid (QAt 5 10 g s1 ((n1 * 2 ^ j1 : Nat) : Int) (e1 - j1) s2 (n2 : Int) e2 _) := Q1.setA ((n1 * 2 ^ j1 : Nat) : Int) (e1 - j1)
  obtain ⟨W2, hW2⟩ : ∃ W2, ((((w1.setCell ⟨g + 1, 0, none⟩ (.bool s1)).setCell ⟨g + 1, 1, none⟩ (.bool false)).setCell ⟨g + 1, 2, none⟩ (.bool false)).setCell ⟨g + 1, 3, none⟩ (.int .u64 ((n1 * 2 ^ j1 : Nat) : Int))).setCell ⟨g + 1, 4, none⟩ (.int .i64 (e1 - j1)) = W2 := ⟨_, rfl⟩
  have BW2 : Hid (Below w.heap.size w W2) := by unfold Hid; rw [← hW2]; exact ((((HW1.out.setCell (p := ⟨g + 1, 0, none⟩) (by simp; omega) _).setCell (p := ⟨g + 1, 1, none⟩) (by simp; omega) _).setCell (p := ⟨g + 1, 2, none⟩) (by simp; omega) _).setCell (p := ⟨g + 1, 3, none⟩) (by simp; omega) _).setCell (p := ⟨g + 1, 4, none⟩) (by simp; omega) _
  rw [hW2] at HQ1
  have hj1 := pow_le16 n1 j1 hn1 i2
  obtain ⟨A, hA⟩ : ∃ A : Nat, n1 * 2 ^ j1 = A := ⟨_, rfl⟩
  obtain ⟨E1, hE1⟩ : ∃ E1, e1 - (j1 : Int) = E1 := ⟨_, rfl⟩
  have RA := RR.out j1
  rw [hA] at RA i1 i2 hW2 HQ1
  rw [hE1] at RA hW2 HQ1
  rw [hA, hE1]
  clear c0 c1 a0 a1 a2 a3 a4 b0 b1 b2 b3 b4 za zb hz HQ BW B1 RR HW1 FA
  obtain ⟨c0, c1, a0, a1, a2, a3, a4, b0, b1, b2, b3, b4, za, zb, hz⟩ := Q1
  have ya0 := za 0
  have ya1 := za 1
  have ya2 := za 2
  have ya3 := za 3
  have ya4 := za 4
  obtain ⟨d0, d1, f0, f1, f2, f3, f4, g0, g1, g2, g3, g4, xa, xb, hx⟩ := HQ1.out
  go_wp2_with fail
  clear hW2
  clear c0 c1 a0 a1 a2 a3 a4 b0 b1 b2 b3 b4 za zb hz ya0 ya1 ya2 ya3 ya4
  refine (FB.out _).mono ?_
  rintro e' w2 ⟨⟨j2, k1, k2, rfl⟩, B2⟩
  have HW2 : Hid (Below w.heap.size w w2) := bel_step BW2.out B2
  have Q2 := HQ1.out.below B2
  have HQ2 : Hid (QAt 5 10 g s1 (A : Int) E1 s2 ((n2 * 2 ^ j2 : Nat) : Int) (e2 - j2) _) := Q2.setB ((n2 * 2 ^ j2 : Nat) : Int) (e2 - j2)
  obtain ⟨W4, hW4⟩ : ∃ W4, ((((w2.setCell ⟨g + 2, 0, none⟩ (.bool s2)).setCell ⟨g + 2, 1, none⟩ (.bool false)).setCell ⟨g + 2, 2, none⟩ (.bool false)).setCell ⟨g + 2, 3, none⟩ (.int .u64 ((n2 * 2 ^ j2 : Nat) : Int))).setCell ⟨g + 2, 4, none⟩ (.int .i64 (e2 - j2)) = W4 := ⟨_, rfl⟩
  have BW4 : Hid (Below w.heap.size w W4) := by unfold Hid; rw [← hW4]; exact ((((HW2.out.setCell (p := ⟨g + 2, 0, none⟩) (by simp; omega) _).setCell (p := ⟨g + 2, 1, none⟩) (by simp; omega) _).setCell (p := ⟨g + 2, 2, none⟩) (by simp; omega) _).setCell (p := ⟨g + 2, 3, none⟩) (by simp; omega) _).setCell (p := ⟨g + 2, 4, none⟩) (by simp; omega) _
  rw [hW4] at HQ2
  have hj2 := pow_le16 n2 j2 hn2 k2
  obtain ⟨B, hB⟩ : ∃ B : Nat, n2 * 2 ^ j2 = B := ⟨_, rfl⟩
  obtain ⟨E2, hE2⟩ : ∃ E2, e2 - (j2 : Int) = E2 := ⟨_, rfl⟩
  have R := RA j2 i1 i2 k1 k2
  rw [hB] at R k1 k2 hW4 HQ2
  rw [hE2] at R hW4 HQ2
  rw [hB, hE2]
  have HR : Hid (∀ w, Calls Try.prog 58 #[(.agg #[.int .u64 5, .int .u64 10]), .bool sg, .int .u64 ((A * 1073741824 / B : Nat) : Int), .int .i64 (E1 - 30 - E2), .bool (decide (A * 1073741824 % B ≠ 0))] w fun e w' => e = .returned (.int .u32 r) ∧ Below w.heap.size w w') := R
  clear R RA FB HQ1 BW2 B2 HW2
  clear d0 d1 f0 f1 f2 f3 f4 g0 g1 g2 g3 g4 xa xb hx
  obtain ⟨c0, c1, a0, a1, a2, a3, a4, b0, b1, b2, b3, b4, za, zb, hz⟩ := Q2
  have yb0 := zb 0
  have yb1 := zb 1
  have yb2 := zb 2
  have yb3 := zb 3
  have yb4 := zb 4
  obtain ⟨d0, d1, f0, f1, f2, f3, f4, g0, g1, g2, g3, g4, xa, xb, hx⟩ := HQ2.out
  have hB0 : B ≠ 0 := by omega
  have v1 : IntKind.u64.wrap ((A : Int) * 1073741824) = ((A * 1073741824 : Nat) : Int) := by rw [IntKind.wrap_u64]; omega
  have v2 : wrap64 (E1 - 30) = E1 - 30 := by unfold wrap64; omega
  have hqle : A * 1073741824 / B ≤ A * 1073741824 := Nat.div_le_self _ _
  have v3 : ((A * 1073741824 : Nat) : Int) / (B : Int) = ((A * 1073741824 / B : Nat) : Int) := by simp
  have v5 : ((A * 1073741824 : Nat) : Int).tmod (B : Int) = ((A * 1073741824 % B : Nat) : Int) := by rw [Int.tmod_eq_emod_of_nonneg (by omega)]; simp
  obtain ⟨q, hq0⟩ : ∃ q : Nat, A * 1073741824 / B = q := ⟨_, rfl⟩
  obtain ⟨z, hz0⟩ : ∃ z : Nat, A * 1073741824 % B = z := ⟨_, rfl⟩
  obtain ⟨A', hA'⟩ : ∃ A' : Nat, A * 1073741824 = A' := ⟨_, rfl⟩
  rw [hq0] at v3 hqle HR
  rw [hz0] at v5 HR
  rw [hA'] at v1 v3 v5 hqle
  have v4 : IntKind.u64.wrap (q : Int) = (q : Int) := by rw [IntKind.wrap_u64]; omega
  have v6 : IntKind.i64.wrap (E1 - 30) = E1 - 30 := by rw [IntKind.wrap_i64]; omega
  have v7 : IntKind.i64.wrap (E1 - 30 - E2) = E1 - 30 - E2 := by rw [IntKind.wrap_i64]; omega
  have v8 : ((z : Int) != 0) = decide (z ≠ 0) := by by_cases h : z = 0 <;> simp [h]
  generalize decide (z ≠ 0) = more at *
  clear hq0 hz0 hA' hqle hA hB hE1 hE2 i1 i2 k1 k2 hj1 hj2 hn1 hn2 hb1 hb2 he1 he1' he2 he2' v2 km1 km2
  go_wp2_with fail
  clear hW4
  have k0 : ∀ w, Keeps W4 w → w.cell? ⟨g, 0, none⟩ = some (.int .u64 5) := fun w h => h.cell (by omega) d0
  have k1 : ∀ w, Keeps W4 w → w.cell? ⟨g, 1, none⟩ = some (.int .u64 10) := fun w h => h.cell (by omega) d1
  have k2 : ∀ w, Keeps W4 w → w.cell? ⟨g + 1, 3, none⟩ = some (.int .u64 (A : Int)) := fun w h => h.cell (by omega) f3
  have k3 : ∀ w, Keeps W4 w → w.cell? ⟨g + 1, 4, none⟩ = some (.int .i64 E1) := fun w h => h.cell (by omega) f4
  have k4 : ∀ w, Keeps W4 w → w.cell? ⟨g + 2, 3, none⟩ = some (.int .u64 (B : Int)) := fun w h => h.cell (by omega) g3
  have k5 : ∀ w, Keeps W4 w → w.cell? ⟨g + 2, 4, none⟩ = some (.int .i64 E2) := fun w h => h.cell (by omega) g4
  refine region_q (C := Keeps W4) (by kernel_rfl) (by kernel_rfl) (Keeps.drew W4) ?_
  (iterate 18
    (apply wpQuiet_go _ (by rfl)
     · intro wq hq
       go_simp
       first
         | (go_at_call 58; exact qcall hq (HR.out _))
         | exact rfl
     simp only [Act.put, List.setIfInBounds_toArray, List.set_cons_succ, List.set_cons_zero]))
  refine wpQuiet_nil ?_
  intro w7 hk7
  have hb7 := hk7.below
  clear k0 k1 k2 k3 k4 k5 hk7
  go_wp2
  go_ret
  exact ⟨rfl, bel_step BW4.out hb7⟩

set_option maxHeartbeats 2000000 in
theorem divQ_nn32 (n1 n2 : Nat) (e1 e2 r : Int) (s1 s2 sg : Bool) (hsg : (!(s1 == s2)) = sg) (hn1 : n1 ≠ 0) (hn2 : n2 ≠ 0) (hb1 : n1 < 2 * 8388608) (hb2 : n2 < 2 * 8388608) (he1 : -500 ≤ e1) (he1' : e1 ≤ 500) (he2 : -500 ≤ e2) (he2' : e2 ≤ 500)
    (RR : Hid (∀ (j1 j2 : Nat), 8388608 ≤ n1 * 2 ^ j1 → n1 * 2 ^ j1 < 2 * 8388608 → 8388608 ≤ n2 * 2 ^ j2 → n2 * 2 ^ j2 < 2 * 8388608 → ∀ w, Calls Try.prog 58 #[(.agg #[.int .u64 8, .int .u64 23]), .bool sg, .int .u64 ((n1 * 2 ^ j1 * 1073741824 / (n2 * 2 ^ j2) : Nat) : Int), .int .i64 (e1 - j1 - 30 - (e2 - j2)), .bool (decide (n1 * 2 ^ j1 * 1073741824 % (n2 * 2 ^ j2) ≠ 0))] w fun e w' => e = .returned (.int .u32 r) ∧ Below w.heap.size w w')) (w : World) :
    Calls Try.prog 40 #[(.agg #[.int .u64 8, .int .u64 23]), .agg #[.bool s1, .bool false, .bool false, .int .u64 (n1 : Int), .int .i64 e1], .agg #[.bool s2, .bool false, .bool false, .int .u64 (n2 : Int), .int .i64 e2]] w fun e w' => e = .returned (.int .u32 r) ∧ Below w.heap.size w w' := by
  have km1 : ((n1 : Int) == 0) = false := by simp; omega
  have km2 : ((n2 : Int) == 0) = false := by simp; omega
  obtain ⟨W, hW⟩ : ∃ W, ((w.alloc (.cells #[.int .u64 8, .int .u64 23] 58)).alloc (.cells #[.bool s1, .bool false, .bool false, .int .u64 (n1 : Int), .int .i64 e1] 63)).alloc (.cells #[.bool s2, .bool false, .bool false, .int .u64 (n2 : Int), .int .i64 e2] 63) = W := ⟨_, rfl⟩
  have QW := qAtStart 8 23 s1 s2 (n1 : Int) e1 (n2 : Int) e2 58 63 w
  have BW : Hid (Below w.heap.size w W) := by unfold Hid; rw [← hW]; (repeat (first | refine Below.alloc ?_ (by first | (simp; done) | (simp; omega)) _ | refine Below.setCell ?_ (by first | (simp; done) | (simp; omega)) _ | refine bel_dN ?_ _ | refine Below.drew ?_ | exact Below.refl _ _))
  rw [hW] at QW
  obtain ⟨g, hg⟩ : ∃ g, w.heap.size = g := ⟨_, rfl⟩
  have hgw : g ≤ w.heap.size := by omega
  have hgw' : w.heap.size ≤ g := by omega
  rw [hg] at QW
  have HQ : Hid (QAt 8 23 g s1 (n1 : Int) e1 s2 (n2 : Int) e2 W) := QW
  obtain ⟨c0, c1, a0, a1, a2, a3, a4, b0, b1, b2, b3, b4, za, zb, hz⟩ := QW
  have FA : Hid (∀ w, Calls Try.prog 62 #[(.agg #[.int .u64 8, .int .u64 23]), .agg #[.bool s1, .bool false, .bool false, .int .u64 (n1 : Int), .int .i64 e1]] w fun x w' => (∃ j : Nat, 8388608 ≤ n1 * 2 ^ j ∧ n1 * 2 ^ j < 2 * 8388608 ∧ x = .returned (.agg #[.bool s1, .bool false, .bool false, .int .u64 ((n1 * 2 ^ j : Nat) : Int), .int .i64 (e1 - j)])) ∧ Below w.heap.size w w') := fun w => full32 n1 e1 s1 false false hn1 hb1 (by omega) (by omega) w
  have FB : Hid (∀ w, Calls Try.prog 62 #[(.agg #[.int .u64 8, .int .u64 23]), .agg #[.bool s2, .bool false, .bool false, .int .u64 (n2 : Int), .int .i64 e2]] w fun x w' => (∃ j : Nat, 8388608 ≤ n2 * 2 ^ j ∧ n2 * 2 ^ j < 2 * 8388608 ∧ x = .returned (.agg #[.bool s2, .bool false, .bool false, .int .u64 ((n2 * 2 ^ j : Nat) : Int), .int .i64 (e2 - j)])) ∧ Below w.heap.size w w') := fun w => full32 n2 e2 s2 false false hn2 hb2 (by omega) (by omega) w
  go_enter Try.func40, Try.ntmps40
  go_wp2_with fail
  clear hW
  refine (FA.out _).mono ?_
  rintro e' w1 ⟨⟨j1, i1, i2, rfl⟩, B1⟩
  have HW1 : Hid (Below w.heap.size w w1) := bel_step BW.out B1
  have Q1 := HQ.out.below B1
  have HQ1 : Hid (QAt 8 23 g s1 ((n1 * 2 ^ j1 : Nat) : Int) (e1 - j1) s2 (n2 : Int) e2 _) := Q1.setA ((n1 * 2 ^ j1 : Nat) : Int) (e1 - j1)
  obtain ⟨W2, hW2⟩ : ∃ W2, ((((w1.setCell ⟨g + 1, 0, none⟩ (.bool s1)).setCell ⟨g + 1, 1, none⟩ (.bool false)).setCell ⟨g + 1, 2, none⟩ (.bool false)).setCell ⟨g + 1, 3, none⟩ (.int .u64 ((n1 * 2 ^ j1 : Nat) : Int))).setCell ⟨g + 1, 4, none⟩ (.int .i64 (e1 - j1)) = W2 := ⟨_, rfl⟩
  have BW2 : Hid (Below w.heap.size w W2) := by unfold Hid; rw [← hW2]; exact ((((HW1.out.setCell (p := ⟨g + 1, 0, none⟩) (by simp; omega) _).setCell (p := ⟨g + 1, 1, none⟩) (by simp; omega) _).setCell (p := ⟨g + 1, 2, none⟩) (by simp; omega) _).setCell (p := ⟨g + 1, 3, none⟩) (by simp; omega) _).setCell (p := ⟨g + 1, 4, none⟩) (by simp; omega) _
  rw [hW2] at HQ1
  have hj1 := pow_le32 n1 j1 hn1 i2
  obtain ⟨A, hA⟩ : ∃ A : Nat, n1 * 2 ^ j1 = A := ⟨_, rfl⟩
  obtain ⟨E1, hE1⟩ : ∃ E1, e1 - (j1 : Int) = E1 := ⟨_, rfl⟩
  have RA := RR.out j1
  rw [hA] at RA i1 i2 hW2 HQ1
  rw [hE1] at RA hW2 HQ1
  rw [hA, hE1]
  clear c0 c1 a0 a1 a2 a3 a4 b0 b1 b2 b3 b4 za zb hz HQ BW B1 RR HW1 FA
  obtain ⟨c0, c1, a0, a1, a2, a3, a4, b0, b1, b2, b3, b4, za, zb, hz⟩ := Q1
  have ya0 := za 0
  have ya1 := za 1
  have ya2 := za 2
  have ya3 := za 3
  have ya4 := za 4
  obtain ⟨d0, d1, f0, f1, f2, f3, f4, g0, g1, g2, g3, g4, xa, xb, hx⟩ := HQ1.out
  go_wp2_with fail
  clear hW2
  clear c0 c1 a0 a1 a2 a3 a4 b0 b1 b2 b3 b4 za zb hz ya0 ya1 ya2 ya3 ya4
  refine (FB.out _).mono ?_
  rintro e' w2 ⟨⟨j2, k1, k2, rfl⟩, B2⟩
  have HW2 : Hid (Below w.heap.size w w2) := bel_step BW2.out B2
  have Q2 := HQ1.out.below B2
  have HQ2 : Hid (QAt 8 23 g s1 (A : Int) E1 s2 ((n2 * 2 ^ j2 : Nat) : Int) (e2 - j2) _) := Q2.setB ((n2 * 2 ^ j2 : Nat) : Int) (e2 - j2)
  obtain ⟨W4, hW4⟩ : ∃ W4, ((((w2.setCell ⟨g + 2, 0, none⟩ (.bool s2)).setCell ⟨g + 2, 1, none⟩ (.bool false)).setCell ⟨g + 2, 2, none⟩ (.bool false)).setCell ⟨g + 2, 3, none⟩ (.int .u64 ((n2 * 2 ^ j2 : Nat) : Int))).setCell ⟨g + 2, 4, none⟩ (.int .i64 (e2 - j2)) = W4 := ⟨_, rfl⟩
  have BW4 : Hid (Below w.heap.size w W4) := by unfold Hid; rw [← hW4]; exact ((((HW2.out.setCell (p := ⟨g + 2, 0, none⟩) (by simp; omega) _).setCell (p := ⟨g + 2, 1, none⟩) (by simp; omega) _).setCell (p := ⟨g + 2, 2, none⟩) (by simp; omega) _).setCell (p := ⟨g + 2, 3, none⟩) (by simp; omega) _).setCell (p := ⟨g + 2, 4, none⟩) (by simp; omega) _
  rw [hW4] at HQ2
  have hj2 := pow_le32 n2 j2 hn2 k2
  obtain ⟨B, hB⟩ : ∃ B : Nat, n2 * 2 ^ j2 = B := ⟨_, rfl⟩
  obtain ⟨E2, hE2⟩ : ∃ E2, e2 - (j2 : Int) = E2 := ⟨_, rfl⟩
  have R := RA j2 i1 i2 k1 k2
  rw [hB] at R k1 k2 hW4 HQ2
  rw [hE2] at R hW4 HQ2
  rw [hB, hE2]
  have HR : Hid (∀ w, Calls Try.prog 58 #[(.agg #[.int .u64 8, .int .u64 23]), .bool sg, .int .u64 ((A * 1073741824 / B : Nat) : Int), .int .i64 (E1 - 30 - E2), .bool (decide (A * 1073741824 % B ≠ 0))] w fun e w' => e = .returned (.int .u32 r) ∧ Below w.heap.size w w') := R
  clear R RA FB HQ1 BW2 B2 HW2
  clear d0 d1 f0 f1 f2 f3 f4 g0 g1 g2 g3 g4 xa xb hx
  obtain ⟨c0, c1, a0, a1, a2, a3, a4, b0, b1, b2, b3, b4, za, zb, hz⟩ := Q2
  have yb0 := zb 0
  have yb1 := zb 1
  have yb2 := zb 2
  have yb3 := zb 3
  have yb4 := zb 4
  obtain ⟨d0, d1, f0, f1, f2, f3, f4, g0, g1, g2, g3, g4, xa, xb, hx⟩ := HQ2.out
  have hB0 : B ≠ 0 := by omega
  have v1 : IntKind.u64.wrap ((A : Int) * 1073741824) = ((A * 1073741824 : Nat) : Int) := by rw [IntKind.wrap_u64]; omega
  have v2 : wrap64 (E1 - 30) = E1 - 30 := by unfold wrap64; omega
  have hqle : A * 1073741824 / B ≤ A * 1073741824 := Nat.div_le_self _ _
  have v3 : ((A * 1073741824 : Nat) : Int) / (B : Int) = ((A * 1073741824 / B : Nat) : Int) := by simp
  have v5 : ((A * 1073741824 : Nat) : Int).tmod (B : Int) = ((A * 1073741824 % B : Nat) : Int) := by rw [Int.tmod_eq_emod_of_nonneg (by omega)]; simp
  obtain ⟨q, hq0⟩ : ∃ q : Nat, A * 1073741824 / B = q := ⟨_, rfl⟩
  obtain ⟨z, hz0⟩ : ∃ z : Nat, A * 1073741824 % B = z := ⟨_, rfl⟩
  obtain ⟨A', hA'⟩ : ∃ A' : Nat, A * 1073741824 = A' := ⟨_, rfl⟩
  rw [hq0] at v3 hqle HR
  rw [hz0] at v5 HR
  rw [hA'] at v1 v3 v5 hqle
  have v4 : IntKind.u64.wrap (q : Int) = (q : Int) := by rw [IntKind.wrap_u64]; omega
  have v6 : IntKind.i64.wrap (E1 - 30) = E1 - 30 := by rw [IntKind.wrap_i64]; omega
  have v7 : IntKind.i64.wrap (E1 - 30 - E2) = E1 - 30 - E2 := by rw [IntKind.wrap_i64]; omega
  have v8 : ((z : Int) != 0) = decide (z ≠ 0) := by by_cases h : z = 0 <;> simp [h]
  generalize decide (z ≠ 0) = more at *
  clear hq0 hz0 hA' hqle hA hB hE1 hE2 i1 i2 k1 k2 hj1 hj2 hn1 hn2 hb1 hb2 he1 he1' he2 he2' v2 km1 km2
  go_wp2_with fail
  clear hW4
  have k0 : ∀ w, Keeps W4 w → w.cell? ⟨g, 0, none⟩ = some (.int .u64 8) := fun w h => h.cell (by omega) d0
  have k1 : ∀ w, Keeps W4 w → w.cell? ⟨g, 1, none⟩ = some (.int .u64 23) := fun w h => h.cell (by omega) d1
  have k2 : ∀ w, Keeps W4 w → w.cell? ⟨g + 1, 3, none⟩ = some (.int .u64 (A : Int)) := fun w h => h.cell (by omega) f3
  have k3 : ∀ w, Keeps W4 w → w.cell? ⟨g + 1, 4, none⟩ = some (.int .i64 E1) := fun w h => h.cell (by omega) f4
  have k4 : ∀ w, Keeps W4 w → w.cell? ⟨g + 2, 3, none⟩ = some (.int .u64 (B : Int)) := fun w h => h.cell (by omega) g3
  have k5 : ∀ w, Keeps W4 w → w.cell? ⟨g + 2, 4, none⟩ = some (.int .i64 E2) := fun w h => h.cell (by omega) g4
  refine region_q (C := Keeps W4) (by kernel_rfl) (by kernel_rfl) (Keeps.drew W4) ?_
  (iterate 18
    (apply wpQuiet_go _ (by rfl)
     · intro wq hq
       go_simp
       first
         | (go_at_call 58; exact qcall hq (HR.out _))
         | exact rfl
     simp only [Act.put, List.setIfInBounds_toArray, List.set_cons_succ, List.set_cons_zero]))
  refine wpQuiet_nil ?_
  intro w7 hk7
  have hb7 := hk7.below
  clear k0 k1 k2 k3 k4 k5 hk7
  go_wp2
  go_ret
  exact ⟨rfl, bel_step BW4.out hb7⟩

end Go.Proofs.Yteniijmnpgdpcaa
