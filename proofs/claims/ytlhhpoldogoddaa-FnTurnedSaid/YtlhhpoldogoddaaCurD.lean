/-
  What is drawn for products and quotients of two words: some numbers that fit.
-/
import Derived.Test.YtlhhpoldogoddaaCurW
namespace Go.Proofs.Ytlhhpoldogoddaa
open Go.RowKit

theorem cur_new (w : World) (a : Option Addr) (n cap : Nat) (t : TypeId) (hb : Bys w a n w.heap.size) : Cur (w.alloc (.cells #[.slice a n cap, .int .i64 0, .int .u64 0] t)) w.heap.size a n cap w.heap.size 0 := by
  refine ⟨?_, ⟨0, by omega, by omega, ?_⟩, ⟨0, by omega, by omega, ?_⟩, hb.below ((Below.refl _ _).alloc (Nat.le_refl _) _), Nat.le_refl _, by simp, fun j => World.frozen?_alloc_at _ t _ j rfl⟩
  · rw [World.cell?_alloc_at _ t _ 0 rfl]; rfl
  · rw [World.cell?_alloc_at _ t _ 1 rfl]; rfl
  · rw [World.cell?_alloc_at _ t _ 2 rfl]; rfl
theorem below_new (w : World) (o : Obj) : Below w.heap.size w (w.alloc o) := (Below.refl _ _).alloc (Nat.le_refl _) _

set_option maxHeartbeats 1000000 in
theorem drawMul (a : Option Addr) (n cap : Nat) (w : World) (hb : Bys w a n w.heap.size) :
    Calls Try.prog 10 #[.slice a n cap] w fun e w' => ∃ x y : Int, 0 ≤ x ∧ x ≤ 18446744073709551615 ∧ 0 ≤ y ∧ y ≤ 18446744073709551615 ∧ e = .returned (.tuple #[.int .u64 x, .int .u64 y]) ∧ Below w.heap.size w w' := by
  have C0 := cur_new w a n cap 43 hb
  have N0 := below_new w (.cells #[.slice a n cap, .int .i64 0, .int .u64 0] 43)
  go_enter Try.func10, Try.ntmps10
  go_wp2_with fail
  refine (curWord w.heap.size a n cap w.heap.size 0 (hid_le (by omega)) _ C0).mono ?_
  rintro e w1 ⟨x, x0, x1, rfl, C1, B1⟩
  go_wp2_with fail
  refine (curWord w.heap.size a n cap w.heap.size (0 + 12) (hid_le (by omega)) _ C1).mono ?_
  rintro e w2 ⟨y, y0, y1, rfl, C2, B2⟩
  go_wp2
  go_ret2
  exact ⟨x, y, x0, x1, y0, y1, rfl, (N0.trans B1.below).trans B2.below⟩

set_option maxHeartbeats 1000000 in
theorem drawDiv (a : Option Addr) (n cap : Nat) (w : World) (hb : Bys w a n w.heap.size) :
    Calls Try.prog 14 #[.slice a n cap] w fun e w' => ∃ x y z : Int, 0 ≤ x ∧ x ≤ 18446744073709551615 ∧ 0 ≤ y ∧ y ≤ 18446744073709551615 ∧ 0 ≤ z ∧ z ≤ 18446744073709551615 ∧ e = .returned (.tuple #[.int .u64 x, .int .u64 y, .int .u64 z]) ∧ Below w.heap.size w w' := by
  have C0 := cur_new w a n cap 43 hb
  have N0 := below_new w (.cells #[.slice a n cap, .int .i64 0, .int .u64 0] 43)
  go_enter Try.func14, Try.ntmps14
  go_wp2_with fail
  refine (curWord w.heap.size a n cap w.heap.size 0 (hid_le (by omega)) _ C0).mono ?_
  rintro e w1 ⟨x, x0, x1, rfl, C1, B1⟩
  go_wp2_with fail
  refine (curWord w.heap.size a n cap w.heap.size (0 + 12) (hid_le (by omega)) _ C1).mono ?_
  rintro e w2 ⟨y, y0, y1, rfl, C2, B2⟩
  go_wp2_with fail
  refine (curOne 2 (by omega) (by omega) w.heap.size a n cap w.heap.size (0 + 12 + 12) (hid_le (by omega)) _ C2).mono ?_
  rintro e w3 ⟨o, rfl, C3, B3⟩
  by_cases hy : 0 < y
  · have hy0 : ¬ y = 0 := by omega
    cases o
    · go_wp2_with fail
      refine (curWord w.heap.size a n cap w.heap.size (0 + 12 + 12 + 2) (hid_le (by omega)) _ C3).mono ?_
      rintro e w4 ⟨z, z0, z1, rfl, C4, B4⟩
      go_wp2
      go_ret3
      exact ⟨x, z, y, x0, x1, z0, z1, y0, y1, rfl, (((N0.trans B1.below).trans B2.below).trans B3.below).trans B4.below⟩
    · go_wp2_with fail
      refine (curWord w.heap.size a n cap w.heap.size (0 + 12 + 12 + 2) (hid_le (by omega)) _ C3).mono ?_
      rintro e w4 ⟨z, z0, z1, rfl, C4, B4⟩
      go_wp2
      go_ret3
      refine ⟨x % y, z, y, Int.emod_nonneg _ hy0, ?_, z0, z1, y0, y1, rfl, (((N0.trans B1.below).trans B2.below).trans B3.below).trans B4.below⟩
      have := Int.emod_lt_of_pos x hy
      omega
  · cases o
    · go_wp2_with fail
      refine (curWord w.heap.size a n cap w.heap.size (0 + 12 + 12 + 2) (hid_le (by omega)) _ C3).mono ?_
      rintro e w4 ⟨z, z0, z1, rfl, C4, B4⟩
      go_wp2
      go_ret3
      exact ⟨x, z, y, x0, x1, z0, z1, y0, y1, rfl, (((N0.trans B1.below).trans B2.below).trans B3.below).trans B4.below⟩
    · go_wp2_with fail
      refine (curWord w.heap.size a n cap w.heap.size (0 + 12 + 12 + 2) (hid_le (by omega)) _ C3).mono ?_
      rintro e w4 ⟨z, z0, z1, rfl, C4, B4⟩
      go_wp2
      go_ret3
      exact ⟨x, z, y, x0, x1, z0, z1, y0, y1, rfl, (((N0.trans B1.below).trans B2.below).trans B3.below).trans B4.below⟩

end Go.Proofs.Ytlhhpoldogoddaa
