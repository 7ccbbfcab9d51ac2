/-
  FSqrt: the program's side, of a number above nought.
-/
import Derived.Test.YteniijmnpgdpcaaFSqI
namespace Go.Proofs.Yteniijmnpgdpcaa
open Go.RowKit

theorem sqRoom (s X : Nat) (hX : X < 1152921504606846976) (h : s * s ≤ X) : IntKind.u64.wrap ((s : Int) * (s : Int)) = ((s * s : Nat) : Int) := by
  rw [show (s : Int) * (s : Int) = ((s * s : Nat) : Int) by simp, IntKind.wrap_u64]; omega
theorem sqNe (s X : Nat) : (((s * s : Nat) : Int) != (X : Int)) = decide (s * s ≠ X) := by
  generalize s * s = Z
  by_cases h : Z = X
  · subst h; simp
  · have h2 : ¬ (Z : Int) = (X : Int) := by omega
    simp [h]
    omega

set_option maxHeartbeats 2000000 in
theorem sqImpl_nn16 (a e1 t E r : Int) (n L U0 U X : Nat) (odd : Bool) (V1 : Hid (∀ w, Calls Try.prog 29 #[(.agg #[.int .i64 10, .int .i64 15, .int .u32 31]), .int .u32 a] w fun e w' => e = .returned (.agg #[.int .i64 0, .bool false, .int .u64 (n : Int), .int .i64 e1]) ∧ Below w.heap.size w w'))
    (hm : ((n : Int) == 0) = false) (LN : Hid (∀ w, Calls Try.prog 35 #[.int .u64 (n : Int)] w fun e w' => e = .returned (.int .i64 (L : Int)) ∧ w' = w))
    (h1 : wrap64 (60 - (L : Int)) = (U0 : Int)) (h2 : wrap64 (e1 - (U0 : Int)) = e1 - (U0 : Int)) (h3 : (e1 - (U0 : Int)).tmod 2 = t) (h4 : (t != 0) = odd) (h5 : odd = true → wrap64 ((U0 : Int) - 1) = (U : Int)) (h6 : odd = false → U0 = U)
    (h7 : min U 64 = U) (h8 : IntKind.u64.wrap ((n : Int) * 2 ^ U) = (X : Int)) (h9 : wrap64 (e1 - (U : Int)) = e1 - (U : Int)) (h10 : (e1 - (U : Int)).tdiv 2 = E) (h11 : wrap64 E = E) (hX0 : X ≠ 0) (hX : X < 1152921504606846976)
    (RR : Hid (∀ s : Nat, s * s ≤ X → X < (s + 1) * (s + 1) → ∀ w, Calls Try.prog 33 #[(.agg #[.int .i64 10, .int .i64 15, .int .u32 31]), .bool false, .int .u64 (s : Int), .int .i64 E, .bool (decide (s * s ≠ X))] w fun e w' => e = .returned (.int .u32 r) ∧ Below w.heap.size w w')) (w : World) :
    Calls Try.prog 21 #[.int .i64 16, .int .u32 a] w fun e w' => e = .returned (.int .u32 r) ∧ Below w.heap.size w w' := by
  have WR : Hid (∀ w, Calls Try.prog 43 #[.int .u64 (X : Int)] w fun e w' => (∃ s : Nat, s * s ≤ X ∧ X < (s + 1) * (s + 1) ∧ e = .returned (.int .u64 (s : Int))) ∧ Below w.heap.size w w') := fun w => wholeRoot X hX0 hX w
  have HX : Hid (X < 1152921504606846976) := hX
  clear hX0 hX
  cases odd
  · obtain rfl := h6 rfl
    clear h5 h6 h9
    go_enter Try.func21, Try.ntmps21
    go_wp2_with fail
    refine (form16 _).mono ?_
    rintro e' w1 ⟨rfl, B1⟩
    go_wp2_with fail
    refine (V1.out _).mono ?_
    rintro e' w2 ⟨rfl, B2⟩
    have t0 : w2.cell? ⟨w1.heap.size, 0, none⟩ = some (.int .i64 10) := (B2.cell (p := ⟨w1.heap.size, 0, none⟩) (by simp)).trans (by simp)
    have t1 : w2.cell? ⟨w1.heap.size, 1, none⟩ = some (.int .i64 15) := (B2.cell (p := ⟨w1.heap.size, 1, none⟩) (by simp)).trans (by simp)
    have t2 : w2.cell? ⟨w1.heap.size, 2, none⟩ = some (.int .u32 31) := (B2.cell (p := ⟨w1.heap.size, 2, none⟩) (by simp)).trans (by simp)
    have l0 : w1.heap.size < w2.heap.size := by have := B2.size; simp at this; omega
    have l0b : w1.heap.size < w2.heap.size + 1 := by omega
    have l0c : w1.heap.size < w2.heap.size + 1 + 1 := by omega
    go_wp2_with (first | (go_at_call 31; go_in) | (go_at_call 35; refine (LN.out _).mono ?_; rintro e' w5 ⟨rfl, hw5⟩; obtain rfl := hw5))
    refine (WR.out _).mono ?_
    rintro e' w6 ⟨⟨s, i1, i2, rfl⟩, B6⟩
    have u0 : w6.cell? ⟨w1.heap.size, 0, none⟩ = some (.int .i64 10) := (B6.cell (p := ⟨w1.heap.size, 0, none⟩) (by simp; omega)).trans (by simp [go_sem, *])
    have u1 : w6.cell? ⟨w1.heap.size, 1, none⟩ = some (.int .i64 15) := (B6.cell (p := ⟨w1.heap.size, 1, none⟩) (by simp; omega)).trans (by simp [go_sem, *])
    have u2 : w6.cell? ⟨w1.heap.size, 2, none⟩ = some (.int .u32 31) := (B6.cell (p := ⟨w1.heap.size, 2, none⟩) (by simp; omega)).trans (by simp [go_sem, *])
    have u3 : w6.cell? ⟨w2.heap.size, 3, none⟩ = some (.int .i64 e1) := (B6.cell (p := ⟨w2.heap.size, 3, none⟩) (by simp; omega)).trans (by simp [go_sem])
    have R := RR.out s i1 i2
    have rr := sqRoom s X HX.out i1
    have ne := sqNe s X
    generalize decide (s * s ≠ X) = more at *
    generalize s * s = Z at *
    clear i1 i2
    go_wp2_with fail
    refine (R _).mono ?_
    rintro e' w7 ⟨rfl, B7⟩
    go_wp2
    go_ret
    refine ⟨rfl, ?_⟩
    ((repeat (first | refine bel_alloc ?_ _ | refine bel_dN ?_ _ | refine Below.drew ?_ | refine Below.setCell ?_ (by first | (simp; done) | (simp; omega)) _)); refine bel_step ?_ B7; (repeat (first | refine bel_alloc ?_ _ | refine bel_dN ?_ _ | refine Below.drew ?_ | refine Below.setCell ?_ (by first | (simp; done) | (simp; omega)) _)); refine bel_step ?_ B6; (repeat (first | refine bel_alloc ?_ _ | refine bel_dN ?_ _ | refine Below.drew ?_ | refine Below.setCell ?_ (by first | (simp; done) | (simp; omega)) _)); refine bel_step ?_ B2; (repeat (first | refine bel_alloc ?_ _ | refine bel_dN ?_ _ | refine Below.drew ?_ | refine Below.setCell ?_ (by first | (simp; done) | (simp; omega)) _)); refine bel_step ?_ B1; (repeat (first | refine bel_alloc ?_ _ | refine bel_dN ?_ _ | refine Below.drew ?_ | refine Below.setCell ?_ (by first | (simp; done) | (simp; omega)) _)); exact Below.refl _ _)
  · have h5' := h5 rfl
    clear h5 h6
    go_enter Try.func21, Try.ntmps21
    go_wp2_with fail
    refine (form16 _).mono ?_
    rintro e' w1 ⟨rfl, B1⟩
    go_wp2_with fail
    refine (V1.out _).mono ?_
    rintro e' w2 ⟨rfl, B2⟩
    have t0 : w2.cell? ⟨w1.heap.size, 0, none⟩ = some (.int .i64 10) := (B2.cell (p := ⟨w1.heap.size, 0, none⟩) (by simp)).trans (by simp)
    have t1 : w2.cell? ⟨w1.heap.size, 1, none⟩ = some (.int .i64 15) := (B2.cell (p := ⟨w1.heap.size, 1, none⟩) (by simp)).trans (by simp)
    have t2 : w2.cell? ⟨w1.heap.size, 2, none⟩ = some (.int .u32 31) := (B2.cell (p := ⟨w1.heap.size, 2, none⟩) (by simp)).trans (by simp)
    have l0 : w1.heap.size < w2.heap.size := by have := B2.size; simp at this; omega
    have l0b : w1.heap.size < w2.heap.size + 1 := by omega
    have l0c : w1.heap.size < w2.heap.size + 1 + 1 := by omega
    go_wp2_with (first | (go_at_call 31; go_in) | (go_at_call 35; refine (LN.out _).mono ?_; rintro e' w5 ⟨rfl, hw5⟩; obtain rfl := hw5))
    refine (WR.out _).mono ?_
    rintro e' w6 ⟨⟨s, i1, i2, rfl⟩, B6⟩
    have u0 : w6.cell? ⟨w1.heap.size, 0, none⟩ = some (.int .i64 10) := (B6.cell (p := ⟨w1.heap.size, 0, none⟩) (by simp; omega)).trans (by simp [go_sem, *])
    have u1 : w6.cell? ⟨w1.heap.size, 1, none⟩ = some (.int .i64 15) := (B6.cell (p := ⟨w1.heap.size, 1, none⟩) (by simp; omega)).trans (by simp [go_sem, *])
    have u2 : w6.cell? ⟨w1.heap.size, 2, none⟩ = some (.int .u32 31) := (B6.cell (p := ⟨w1.heap.size, 2, none⟩) (by simp; omega)).trans (by simp [go_sem, *])
    have u3 : w6.cell? ⟨w2.heap.size, 3, none⟩ = some (.int .i64 e1) := (B6.cell (p := ⟨w2.heap.size, 3, none⟩) (by simp; omega)).trans (by simp [go_sem])
    have R := RR.out s i1 i2
    have rr := sqRoom s X HX.out i1
    have ne := sqNe s X
    generalize decide (s * s ≠ X) = more at *
    generalize s * s = Z at *
    clear i1 i2
    go_wp2_with fail
    refine (R _).mono ?_
    rintro e' w7 ⟨rfl, B7⟩
    go_wp2
    go_ret
    refine ⟨rfl, ?_⟩
    ((repeat (first | refine bel_alloc ?_ _ | refine bel_dN ?_ _ | refine Below.drew ?_ | refine Below.setCell ?_ (by first | (simp; done) | (simp; omega)) _)); refine bel_step ?_ B7; (repeat (first | refine bel_alloc ?_ _ | refine bel_dN ?_ _ | refine Below.drew ?_ | refine Below.setCell ?_ (by first | (simp; done) | (simp; omega)) _)); refine bel_step ?_ B6; (repeat (first | refine bel_alloc ?_ _ | refine bel_dN ?_ _ | refine Below.drew ?_ | refine Below.setCell ?_ (by first | (simp; done) | (simp; omega)) _)); refine bel_step ?_ B2; (repeat (first | refine bel_alloc ?_ _ | refine bel_dN ?_ _ | refine Below.drew ?_ | refine Below.setCell ?_ (by first | (simp; done) | (simp; omega)) _)); refine bel_step ?_ B1; (repeat (first | refine bel_alloc ?_ _ | refine bel_dN ?_ _ | refine Below.drew ?_ | refine Below.setCell ?_ (by first | (simp; done) | (simp; omega)) _)); exact Below.refl _ _)

set_option maxHeartbeats 2000000 in
theorem sqImpl_nn32 (a e1 t E r : Int) (n L U0 U X : Nat) (odd : Bool) (V1 : Hid (∀ w, Calls Try.prog 29 #[(.agg #[.int .i64 23, .int .i64 127, .int .u32 255]), .int .u32 a] w fun e w' => e = .returned (.agg #[.int .i64 0, .bool false, .int .u64 (n : Int), .int .i64 e1]) ∧ Below w.heap.size w w'))
    (hm : ((n : Int) == 0) = false) (LN : Hid (∀ w, Calls Try.prog 35 #[.int .u64 (n : Int)] w fun e w' => e = .returned (.int .i64 (L : Int)) ∧ w' = w))
    (h1 : wrap64 (60 - (L : Int)) = (U0 : Int)) (h2 : wrap64 (e1 - (U0 : Int)) = e1 - (U0 : Int)) (h3 : (e1 - (U0 : Int)).tmod 2 = t) (h4 : (t != 0) = odd) (h5 : odd = true → wrap64 ((U0 : Int) - 1) = (U : Int)) (h6 : odd = false → U0 = U)
    (h7 : min U 64 = U) (h8 : IntKind.u64.wrap ((n : Int) * 2 ^ U) = (X : Int)) (h9 : wrap64 (e1 - (U : Int)) = e1 - (U : Int)) (h10 : (e1 - (U : Int)).tdiv 2 = E) (h11 : wrap64 E = E) (hX0 : X ≠ 0) (hX : X < 1152921504606846976)
    (RR : Hid (∀ s : Nat, s * s ≤ X → X < (s + 1) * (s + 1) → ∀ w, Calls Try.prog 33 #[(.agg #[.int .i64 23, .int .i64 127, .int .u32 255]), .bool false, .int .u64 (s : Int), .int .i64 E, .bool (decide (s * s ≠ X))] w fun e w' => e = .returned (.int .u32 r) ∧ Below w.heap.size w w')) (w : World) :
    Calls Try.prog 21 #[.int .i64 32, .int .u32 a] w fun e w' => e = .returned (.int .u32 r) ∧ Below w.heap.size w w' := by
  have WR : Hid (∀ w, Calls Try.prog 43 #[.int .u64 (X : Int)] w fun e w' => (∃ s : Nat, s * s ≤ X ∧ X < (s + 1) * (s + 1) ∧ e = .returned (.int .u64 (s : Int))) ∧ Below w.heap.size w w') := fun w => wholeRoot X hX0 hX w
  have HX : Hid (X < 1152921504606846976) := hX
  clear hX0 hX
  cases odd
  · obtain rfl := h6 rfl
    clear h5 h6 h9
    go_enter Try.func21, Try.ntmps21
    go_wp2_with fail
    refine (form32 _).mono ?_
    rintro e' w1 ⟨rfl, B1⟩
    go_wp2_with fail
    refine (V1.out _).mono ?_
    rintro e' w2 ⟨rfl, B2⟩
    have t0 : w2.cell? ⟨w1.heap.size, 0, none⟩ = some (.int .i64 23) := (B2.cell (p := ⟨w1.heap.size, 0, none⟩) (by simp)).trans (by simp)
    have t1 : w2.cell? ⟨w1.heap.size, 1, none⟩ = some (.int .i64 127) := (B2.cell (p := ⟨w1.heap.size, 1, none⟩) (by simp)).trans (by simp)
    have t2 : w2.cell? ⟨w1.heap.size, 2, none⟩ = some (.int .u32 255) := (B2.cell (p := ⟨w1.heap.size, 2, none⟩) (by simp)).trans (by simp)
    have l0 : w1.heap.size < w2.heap.size := by have := B2.size; simp at this; omega
    have l0b : w1.heap.size < w2.heap.size + 1 := by omega
    have l0c : w1.heap.size < w2.heap.size + 1 + 1 := by omega
    go_wp2_with (first | (go_at_call 31; go_in) | (go_at_call 35; refine (LN.out _).mono ?_; rintro e' w5 ⟨rfl, hw5⟩; obtain rfl := hw5))
    refine (WR.out _).mono ?_
    rintro e' w6 ⟨⟨s, i1, i2, rfl⟩, B6⟩
    have u0 : w6.cell? ⟨w1.heap.size, 0, none⟩ = some (.int .i64 23) := (B6.cell (p := ⟨w1.heap.size, 0, none⟩) (by simp; omega)).trans (by simp [go_sem, *])
    have u1 : w6.cell? ⟨w1.heap.size, 1, none⟩ = some (.int .i64 127) := (B6.cell (p := ⟨w1.heap.size, 1, none⟩) (by simp; omega)).trans (by simp [go_sem, *])
    have u2 : w6.cell? ⟨w1.heap.size, 2, none⟩ = some (.int .u32 255) := (B6.cell (p := ⟨w1.heap.size, 2, none⟩) (by simp; omega)).trans (by simp [go_sem, *])
    have u3 : w6.cell? ⟨w2.heap.size, 3, none⟩ = some (.int .i64 e1) := (B6.cell (p := ⟨w2.heap.size, 3, none⟩) (by simp; omega)).trans (by simp [go_sem])
    have R := RR.out s i1 i2
    have rr := sqRoom s X HX.out i1
    have ne := sqNe s X
    generalize decide (s * s ≠ X) = more at *
    generalize s * s = Z at *
    clear i1 i2
    go_wp2_with fail
    refine (R _).mono ?_
    rintro e' w7 ⟨rfl, B7⟩
    go_wp2
    go_ret
    refine ⟨rfl, ?_⟩
    ((repeat (first | refine bel_alloc ?_ _ | refine bel_dN ?_ _ | refine Below.drew ?_ | refine Below.setCell ?_ (by first | (simp; done) | (simp; omega)) _)); refine bel_step ?_ B7; (repeat (first | refine bel_alloc ?_ _ | refine bel_dN ?_ _ | refine Below.drew ?_ | refine Below.setCell ?_ (by first | (simp; done) | (simp; omega)) _)); refine bel_step ?_ B6; (repeat (first | refine bel_alloc ?_ _ | refine bel_dN ?_ _ | refine Below.drew ?_ | refine Below.setCell ?_ (by first | (simp; done) | (simp; omega)) _)); refine bel_step ?_ B2; (repeat (first | refine bel_alloc ?_ _ | refine bel_dN ?_ _ | refine Below.drew ?_ | refine Below.setCell ?_ (by first | (simp; done) | (simp; omega)) _)); refine bel_step ?_ B1; (repeat (first | refine bel_alloc ?_ _ | refine bel_dN ?_ _ | refine Below.drew ?_ | refine Below.setCell ?_ (by first | (simp; done) | (simp; omega)) _)); exact Below.refl _ _)
  · have h5' := h5 rfl
    clear h5 h6
    go_enter Try.func21, Try.ntmps21
    go_wp2_with fail
    refine (form32 _).mono ?_
    rintro e' w1 ⟨rfl, B1⟩
    go_wp2_with fail
    refine (V1.out _).mono ?_
    rintro e' w2 ⟨rfl, B2⟩
    have t0 : w2.cell? ⟨w1.heap.size, 0, none⟩ = some (.int .i64 23) := (B2.cell (p := ⟨w1.heap.size, 0, none⟩) (by simp)).trans (by simp)
    have t1 : w2.cell? ⟨w1.heap.size, 1, none⟩ = some (.int .i64 127) := (B2.cell (p := ⟨w1.heap.size, 1, none⟩) (by simp)).trans (by simp)
    have t2 : w2.cell? ⟨w1.heap.size, 2, none⟩ = some (.int .u32 255) := (B2.cell (p := ⟨w1.heap.size, 2, none⟩) (by simp)).trans (by simp)
    have l0 : w1.heap.size < w2.heap.size := by have := B2.size; simp at this; omega
    have l0b : w1.heap.size < w2.heap.size + 1 := by omega
    have l0c : w1.heap.size < w2.heap.size + 1 + 1 := by omega
    go_wp2_with (first | (go_at_call 31; go_in) | (go_at_call 35; refine (LN.out _).mono ?_; rintro e' w5 ⟨rfl, hw5⟩; obtain rfl := hw5))
    refine (WR.out _).mono ?_
    rintro e' w6 ⟨⟨s, i1, i2, rfl⟩, B6⟩
    have u0 : w6.cell? ⟨w1.heap.size, 0, none⟩ = some (.int .i64 23) := (B6.cell (p := ⟨w1.heap.size, 0, none⟩) (by simp; omega)).trans (by simp [go_sem, *])
    have u1 : w6.cell? ⟨w1.heap.size, 1, none⟩ = some (.int .i64 127) := (B6.cell (p := ⟨w1.heap.size, 1, none⟩) (by simp; omega)).trans (by simp [go_sem, *])
    have u2 : w6.cell? ⟨w1.heap.size, 2, none⟩ = some (.int .u32 255) := (B6.cell (p := ⟨w1.heap.size, 2, none⟩) (by simp; omega)).trans (by simp [go_sem, *])
    have u3 : w6.cell? ⟨w2.heap.size, 3, none⟩ = some (.int .i64 e1) := (B6.cell (p := ⟨w2.heap.size, 3, none⟩) (by simp; omega)).trans (by simp [go_sem])
    have R := RR.out s i1 i2
    have rr := sqRoom s X HX.out i1
    have ne := sqNe s X
    generalize decide (s * s ≠ X) = more at *
    generalize s * s = Z at *
    clear i1 i2
    go_wp2_with fail
    refine (R _).mono ?_
    rintro e' w7 ⟨rfl, B7⟩
    go_wp2
    go_ret
    refine ⟨rfl, ?_⟩
    ((repeat (first | refine bel_alloc ?_ _ | refine bel_dN ?_ _ | refine Below.drew ?_ | refine Below.setCell ?_ (by first | (simp; done) | (simp; omega)) _)); refine bel_step ?_ B7; (repeat (first | refine bel_alloc ?_ _ | refine bel_dN ?_ _ | refine Below.drew ?_ | refine Below.setCell ?_ (by first | (simp; done) | (simp; omega)) _)); refine bel_step ?_ B6; (repeat (first | refine bel_alloc ?_ _ | refine bel_dN ?_ _ | refine Below.drew ?_ | refine Below.setCell ?_ (by first | (simp; done) | (simp; omega)) _)); refine bel_step ?_ B2; (repeat (first | refine bel_alloc ?_ _ | refine bel_dN ?_ _ | refine Below.drew ?_ | refine Below.setCell ?_ (by first | (simp; done) | (simp; omega)) _)); refine bel_step ?_ B1; (repeat (first | refine bel_alloc ?_ _ | refine bel_dN ?_ _ | refine Below.drew ?_ | refine Below.setCell ?_ (by first | (simp; done) | (simp; omega)) _)); exact Below.refl _ _)

end Go.Proofs.Yteniijmnpgdpcaa
