/-
  Words in places of other types: the laws' walks.
-/
import Derived.Test.YthoenaoanikppaaWW2
import Derived.ProofKit
import Derived.OpenShut
namespace Go.Proofs.Ythoenaoanikppaa
open Go.ChangeShapes Go.WideShapes Go.ChangeAt Go.RowKit

set_option maxRecDepth 100000 in
set_option maxHeartbeats 800000 in
theorem toWordW (ty bits : Int) (w : World) :
    Calls Try.prog 6 #[.agg #[.int .i64 ty, .int .u64 bits]] w fun e w' => e = .returned (.agg #[.int .i64 ty, .int .u64 bits]) ∧ Below w.heap.size w w' := by
  go_enter Try.func6, Try.ntmps6
  go_wp2
  exact bodyPost_ret (v := .agg #[.int .i64 ty, .int .u64 bits]) (by simp [results, Try.results6, go_sem]) rfl ⟨rfl, by (repeat (first | refine Below.alloc ?_ (by first | (simp; done) | (simp; omega)) _ | refine Below.setCell ?_ (by first | (simp; done) | (simp; omega)) _ | refine bel_dN ?_ _ | refine Below.drew ?_ | exact Below.refl _ _))⟩

set_option maxRecDepth 100000 in
set_option maxHeartbeats 800000 in
theorem eqWordW (ty bits : Int) (w : World) :
    Calls Try.prog 8 #[.agg #[.int .i64 ty, .int .u64 bits], .agg #[.int .i64 ty, .int .u64 bits]] w fun e w' => e = .returned (.bool true) ∧ Below w.heap.size w w' := by
  go_enter Try.func8, Try.ntmps8
  go_wp2
  go_ret
  exact ⟨rfl, ((Below.refl _ _).alloc (Nat.le_refl _) _).alloc (by simp) _⟩

theorem WordAsR_form (ty bits want : Int) : ∃ x y z, WordAsR ty bits want = .tuple #[.agg #[.int .i64 x, .int .u64 y], .bool z] := by
  unfold WordAsR
  split
  · exact ⟨_, _, _, rfl⟩
  · exact ⟨_, _, _, rfl⟩

set_option maxRecDepth 100000 in
set_option maxHeartbeats 1600000 in
theorem wordAs_walk (ty bits want : Int) (_ : (Lit.int .i64 ty).wf = true) (hb : (Lit.int .u64 bits).wf = true) (_ : (Lit.int .i64 want).wf = true) (w : World) :
    Calls Try.prog 3 #[.agg #[.int .i64 ty, .int .u64 bits], .int .i64 want] w fun e w' => e = .returned (.bool true) ∧ Below w.heap.size w w' := by
  have h0 : 0 ≤ bits ∧ bits ≤ 18446744073709551615 := bounds_u64 hb
  have A := toWordW ty bits
  have S := specWordAs ty bits want h0.1 h0.2
  have I := implWordAs ty bits want h0.1 h0.2
  obtain ⟨x, y, z, hR⟩ := WordAsR_form ty bits want
  rw [hR] at S I
  clear hR hb h0
  have Q := eqWordW x y
  have hzz : (z != z) = false := by cases z <;> rfl
  go_enter Try.func3, Try.ntmps3
  go_wp2_with fail
  refine (A _).mono ?_
  rintro e w1 ⟨rfl, hb1⟩
  have hx1 := (hb1.block w.heap.size (by simp)).trans (heap_alloc_new _ _)
  have HB1 : Hid (Below w.heap.size w w1) := bel_step ((Below.refl _ _).alloc (Nat.le_refl _) _) hb1
  clear hb1
  go_wp2_with fail
  refine (S _).mono ?_
  rintro e w2 ⟨rfl, hb2⟩
  have hx2 := (hb2.block w.heap.size (lt_of_block hx1)).trans hx1
  have HB2 : Hid (Below w.heap.size w w2) := bel_step HB1.out hb2
  have hl2 := lt_of_block hx2
  clear hb2 hx1
  have x0 : (w2.alloc (.cells #[.int .i64 x, .int .u64 y] 25)).cell? ⟨w.heap.size, 0, none⟩ = some (.int .i64 ty) := pastCell hl2 ((cell_of_block hx2 0).trans rfl)
  have x1 : (w2.alloc (.cells #[.int .i64 x, .int .u64 y] 25)).cell? ⟨w.heap.size, 1, none⟩ = some (.int .u64 bits) := pastCell hl2 ((cell_of_block hx2 1).trans rfl)
  go_wp2_with fail
  refine (A _).mono ?_
  rintro e w3 ⟨rfl, hb3⟩
  have hy3 := (hb3.block w2.heap.size (by simp)).trans (heap_alloc_new _ _)
  have HB3 : Hid (Below w.heap.size w w3) := bel_step (HB2.out.alloc (Nat.le_of_lt hl2) _) hb3
  clear hb3 x0 x1 hx2
  go_wp2_with fail
  refine (I _).mono ?_
  rintro e w4 ⟨rfl, hb4⟩
  have hy4 := (hb4.block w2.heap.size (lt_of_block hy3)).trans hy3
  have HB4 : Hid (Below w.heap.size w w4) := bel_step HB3.out hb4
  have hl4 := lt_of_block hy4
  clear hb4 hy3
  have y0 : (w4.alloc (.cells #[.int .i64 x, .int .u64 y] 25)).cell? ⟨w2.heap.size, 0, none⟩ = some (.int .i64 x) := pastCell hl4 ((cell_of_block hy4 0).trans rfl)
  have y1 : (w4.alloc (.cells #[.int .i64 x, .int .u64 y] 25)).cell? ⟨w2.heap.size, 1, none⟩ = some (.int .u64 y) := pastCell hl4 ((cell_of_block hy4 1).trans rfl)
  go_wp2_with fail
  refine (Q _).mono ?_
  rintro e w5 ⟨rfl, hb5⟩
  have HB5 : Hid (Below w.heap.size w w5) := bel_step (HB4.out.alloc (by have := HB4.out.size; omega) _) hb5
  clear hb5
  go_wp2
  go_ret
  exact ⟨rfl, HB5.out⟩

theorem WordFromR_form (ty bits want : Int) : ∃ x y z, WordFromR ty bits want = .tuple #[.agg #[.int .i64 x, .int .u64 y], .bool z] := by
  unfold WordFromR
  split
  · exact ⟨_, _, _, rfl⟩
  · exact ⟨_, _, _, rfl⟩

set_option maxRecDepth 100000 in
set_option maxHeartbeats 1600000 in
theorem wordFrom_walk (ty bits want : Int) (_ : (Lit.int .i64 ty).wf = true) (hb : (Lit.int .u64 bits).wf = true) (_ : (Lit.int .i64 want).wf = true) (w : World) :
    Calls Try.prog 4 #[.agg #[.int .i64 ty, .int .u64 bits], .int .i64 want] w fun e w' => e = .returned (.bool true) ∧ Below w.heap.size w w' := by
  have h0 : 0 ≤ bits ∧ bits ≤ 18446744073709551615 := bounds_u64 hb
  have A := toWordW ty bits
  have S := specWordFrom ty bits want h0.1 h0.2
  have I := implWordFrom ty bits want h0.1 h0.2
  obtain ⟨x, y, z, hR⟩ := WordFromR_form ty bits want
  rw [hR] at S I
  clear hR hb h0
  have Q := eqWordW x y
  have hzz : (z != z) = false := by cases z <;> rfl
  go_enter Try.func4, Try.ntmps4
  go_wp2_with fail
  refine (A _).mono ?_
  rintro e w1 ⟨rfl, hb1⟩
  have hx1 := (hb1.block w.heap.size (by simp)).trans (heap_alloc_new _ _)
  have HB1 : Hid (Below w.heap.size w w1) := bel_step ((Below.refl _ _).alloc (Nat.le_refl _) _) hb1
  clear hb1
  go_wp2_with fail
  refine (S _).mono ?_
  rintro e w2 ⟨rfl, hb2⟩
  have hx2 := (hb2.block w.heap.size (lt_of_block hx1)).trans hx1
  have HB2 : Hid (Below w.heap.size w w2) := bel_step HB1.out hb2
  have hl2 := lt_of_block hx2
  clear hb2 hx1
  have x0 : (w2.alloc (.cells #[.int .i64 x, .int .u64 y] 25)).cell? ⟨w.heap.size, 0, none⟩ = some (.int .i64 ty) := pastCell hl2 ((cell_of_block hx2 0).trans rfl)
  have x1 : (w2.alloc (.cells #[.int .i64 x, .int .u64 y] 25)).cell? ⟨w.heap.size, 1, none⟩ = some (.int .u64 bits) := pastCell hl2 ((cell_of_block hx2 1).trans rfl)
  go_wp2_with fail
  refine (A _).mono ?_
  rintro e w3 ⟨rfl, hb3⟩
  have hy3 := (hb3.block w2.heap.size (by simp)).trans (heap_alloc_new _ _)
  have HB3 : Hid (Below w.heap.size w w3) := bel_step (HB2.out.alloc (Nat.le_of_lt hl2) _) hb3
  clear hb3 x0 x1 hx2
  go_wp2_with fail
  refine (I _).mono ?_
  rintro e w4 ⟨rfl, hb4⟩
  have hy4 := (hb4.block w2.heap.size (lt_of_block hy3)).trans hy3
  have HB4 : Hid (Below w.heap.size w w4) := bel_step HB3.out hb4
  have hl4 := lt_of_block hy4
  clear hb4 hy3
  have y0 : (w4.alloc (.cells #[.int .i64 x, .int .u64 y] 25)).cell? ⟨w2.heap.size, 0, none⟩ = some (.int .i64 x) := pastCell hl4 ((cell_of_block hy4 0).trans rfl)
  have y1 : (w4.alloc (.cells #[.int .i64 x, .int .u64 y] 25)).cell? ⟨w2.heap.size, 1, none⟩ = some (.int .u64 y) := pastCell hl4 ((cell_of_block hy4 1).trans rfl)
  go_wp2_with fail
  refine (Q _).mono ?_
  rintro e w5 ⟨rfl, hb5⟩
  have HB5 : Hid (Below w.heap.size w w5) := bel_step (HB4.out.alloc (by have := HB4.out.size; omega) _) hb5
  clear hb5
  go_wp2
  go_ret
  exact ⟨rfl, HB5.out⟩

end Go.Proofs.Ythoenaoanikppaa
