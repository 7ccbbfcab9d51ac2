/-
  Floats that are drawn for a law, and what a half is in parts of 2 to the -24.
-/
import Derived.Test.YtnimlkobcginjaaFDrw
import Derived.Test.YtnimlkobcginjaaCurD
namespace Go.Proofs.Ytnimlkobcginjaa
open Go.RowKit

theorem and32_b (x y : Int) : 0 ≤ bits .and .u32 x y ∧ bits .and .u32 x y ≤ 4294967295 := by
  show 0 ≤ IntKind.u32.wrap _ ∧ IntKind.u32.wrap _ ≤ 4294967295
  exact ⟨w32_lo _, w32_hi _⟩
theorem xor32_b (x y : Int) : 0 ≤ bits .xor .u32 x y ∧ bits .xor .u32 x y ≤ 4294967295 := by
  show 0 ≤ IntKind.u32.wrap _ ∧ IntKind.u32.wrap _ ≤ 4294967295
  exact ⟨w32_lo _, w32_hi _⟩
theorem two_resD {fn : Func} {a b : Tmp} (h : fn.results = #[.tmp a, .tmp b]) (tmps : Array Value) (P : Program) (w : World) :
    (results fn tmps).run P w = .ok (.tuple #[tmps.getD a undef, tmps.getD b undef]) w := by
  simp [results, h]
theorem three_resD {fn : Func} {a b c : Tmp} (h : fn.results = #[.tmp a, .tmp b, .tmp c]) (tmps : Array Value) (P : Program) (w : World) :
    (results fn tmps).run P w = .ok (.tuple #[tmps.getD a undef, tmps.getD b undef, tmps.getD c undef]) w := by
  simp [results, h]

theorem curFloat (k : Int) (hk : k = 16 ∨ k = 32 ∨ k = 64) (g : Nat) (a : Option Addr) (n cap B m : Nat) (hm : Hid (m ≤ 800000)) (w : World) (C : Cur w g a n cap B m) :
    Calls Try.prog 77 #[.pointer (some ⟨g, 0, none⟩), .int .i64 k] w fun e w' => ∃ r : Int, 0 ≤ r ∧ r ≤ 4294967295 ∧ e = .returned (.int .u32 r) ∧ Cur w' g a n cap B (m + 20) ∧ Aft B g w w' := by
  rcases hk with rfl | rfl | rfl
  · exact curFloat16 g a n cap B m hm w C
  · exact curFloat32 g a n cap B m hm w C
  · exact curFloat64 g a n cap B m hm w C

set_option maxHeartbeats 400000 in
theorem drawFAdd (a : Option Addr) (n cap : Nat) (w : World) (hb : Bys w a n w.heap.size) :
    Calls Try.prog 64 #[.slice a n cap] w fun e w' => ∃ k x y : Int, (k = 16 ∨ k = 32 ∨ k = 64) ∧ 0 ≤ x ∧ x ≤ 4294967295 ∧ 0 ≤ y ∧ y ≤ 4294967295 ∧ e = .returned (.tuple #[.int .i64 k, .int .u32 x, .int .u32 y]) ∧ Below w.heap.size w w' := by
  have C0 := cur_new w a n cap 69 hb
  have N0 := below_new w (.cells #[.slice a n cap, .int .i64 0, .int .u64 0] 69)
  go_enter Try.func64, Try.ntmps64
  go_wp2_with fail
  refine (curKind w.heap.size a n cap w.heap.size 0 (hid_le (by omega)) _ C0).mono ?_
  rintro e w1 ⟨k, hk, rfl, C1, B1⟩
  go_wp2_with fail
  refine (curFloat k hk w.heap.size a n cap w.heap.size (0 + 4) (hid_le (by omega)) _ C1).mono ?_
  rintro e w2 ⟨x, x0, x1, rfl, C2, B2⟩
  go_wp2_with fail
  refine (curFloat k hk w.heap.size a n cap w.heap.size (0 + 4 + 20) (hid_le (by omega)) _ C2).mono ?_
  rintro e w3 ⟨y, y0, y1, rfl, C3, B3⟩
  go_wp2_with fail
  refine (curPick 8 (by omega) (by omega) w.heap.size a n cap w.heap.size (0 + 4 + 20 + 20) (hid_le (by omega)) _ C3).mono ?_
  rintro e w4 ⟨p, p0, p1, rfl, C4, B4⟩
  have HB : Hid (Below w.heap.size w w4) := (((N0.trans B1.below).trans B2.below).trans B3.below).trans B4.below
  clear C0 C1 C2 C3 C4 B1 B2 B3 B4 N0 hb
  by_cases h0 : p = 0
  · subst h0
    go_wp2
    refine bodyPost_ret (three_resD Try.results64 _ _ _) rfl ⟨k, x, _, hk, x0, x1, (xor32_b _ _).1, (xor32_b _ _).2, rfl, HB.out⟩
  · have k0 : (p == 0) = false := by simp [h0]
    by_cases h1 : p = 1
    · subst h1
      rcases hk with rfl | rfl | rfl
      · go_wp2
        refine bodyPost_ret (three_resD Try.results64 _ _ _) rfl ⟨16, x, _, by omega, x0, x1, (xor32_b _ _).1, (xor32_b _ _).2, rfl, HB.out⟩
      · go_wp2
        refine bodyPost_ret (three_resD Try.results64 _ _ _) rfl ⟨32, x, _, by omega, x0, x1, (xor32_b _ _).1, (xor32_b _ _).2, rfl, HB.out⟩
      · go_wp2
        refine bodyPost_ret (three_resD Try.results64 _ _ _) rfl ⟨64, x, _, by omega, x0, x1, (xor32_b _ _).1, (xor32_b _ _).2, rfl, HB.out⟩
    · have k1 : (p == 1) = false := by simp [h1]
      go_wp2
      refine bodyPost_ret (three_resD Try.results64 _ _ _) rfl ⟨k, x, y, hk, x0, x1, y0, y1, rfl, HB.out⟩

end Go.Proofs.Ytnimlkobcginjaa
