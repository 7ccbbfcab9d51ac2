/-
  What is drawn for operations: some bits, some operation, two words.
-/
import Derived.Test.YtcnjllecobhalaaCurD
namespace Go.Proofs.Ytcnjllecobhalaa
open Go.RowKit

/-- Four results, each in a slot. -/
theorem four_results {fn : Func} {a b c d : Tmp} (h : fn.results = #[.tmp a, .tmp b, .tmp c, .tmp d]) (s : Array Value) (P : Program) (w : World) :
    (results fn s).run P w = .ok (.tuple #[s.getD a undef, s.getD b undef, s.getD c undef, s.getD d undef]) w := by
  simp [results, h]

set_option maxHeartbeats 1000000 in
theorem curWidth (g : Nat) (a : Option Addr) (n cap B m : Nat) (hm : Hid (m ≤ 800000)) (w : World) (C : Cur w g a n cap B m) :
    Calls Try.prog 41 #[.pointer (some ⟨g, 0, none⟩)] w fun e w' => ∃ r : Int, -9223372036854775808 ≤ r ∧ r ≤ 9223372036854775807 ∧ e = .returned (.int .i64 r) ∧ Cur w' g a n cap B (m + 4) ∧ Aft B g w w' := by
  go_enter Try.func41, Try.ntmps41
  go_wp2_with fail
  refine (curOne 40 (by omega) (by omega) g a n cap B m (hid_le (by have := hm.out; omega)) w C).mono ?_
  rintro e w1 ⟨o, rfl, C1, B1⟩
  have hl := C1.lt
  have hB := C1.hg
  cases o
  · go_wp2_with fail
    refine (curPick 2 (by omega) (by omega) g a n cap B (m + 2) (hid_le (by have := hm.out; omega)) w1 C1).mono ?_
    rintro e w2 ⟨q, q0, q1, rfl, C2, B2⟩
    go_wp2
    go_ret
    exact ⟨32 + 32 * q, by omega, by omega, by first | rfl | (congr 2; omega), C2, B1.trans B2⟩
  · go_wp2_with fail
    refine (curAmong w1.heap.size 3 (by omega) (by omega) g a n cap B (m + 2) (hid_le (by have := hm.out; omega)) _ (C1.alloc _) (row_new w1 [.int .i64 0, .int .i64 16, .int .i64 33] _ (by decide)) (by simp) (by omega)).mono ?_
    rintro e w2 ⟨r, r0, r1, rfl, C2, B2⟩
    go_wp2
    go_ret
    exact ⟨r, r0, r1, rfl, C2, (B1.trans (Aft.alloc (by omega) _)).trans B2⟩

set_option maxHeartbeats 1000000 in
theorem drawBin (a : Option Addr) (n cap : Nat) (w : World) (hb : Bys w a n w.heap.size) :
    Calls Try.prog 9 #[.slice a n cap] w fun e w' => ∃ b o x y : Int, -9223372036854775808 ≤ b ∧ b ≤ 9223372036854775807 ∧ 0 ≤ o ∧ o < 29 ∧ 0 ≤ x ∧ x ≤ 18446744073709551615 ∧ 0 ≤ y ∧ y ≤ 18446744073709551615 ∧ e = .returned (.tuple #[.int .i64 b, .int .i64 o, .int .u64 x, .int .u64 y]) ∧ Below w.heap.size w w' := by
  have C0 := cur_new w a n cap 61 hb
  have N0 := below_new w (.cells #[.slice a n cap, .int .i64 0, .int .u64 0] 61)
  go_enter Try.func9, Try.ntmps9
  go_wp2_with fail
  refine (curWord w.heap.size a n cap w.heap.size 0 (hid_le (by omega)) _ C0).mono ?_
  rintro e w1 ⟨x, x0, x1, rfl, C1, B1⟩
  go_wp2_with fail
  refine (curWord w.heap.size a n cap w.heap.size (0 + 12) (hid_le (by omega)) _ C1).mono ?_
  rintro e w2 ⟨y, y0, y1, rfl, C2, B2⟩
  go_wp2_with fail
  refine (curPick 8 (by omega) (by omega) w.heap.size a n cap w.heap.size (0 + 12 + 12) (hid_le (by omega)) _ C2).mono ?_
  rintro e w3 ⟨r, r0, r1, rfl, C3, B3⟩
  have hl := C3.lt
  by_cases h0 : r = 0
  · subst h0
    go_wp2_with fail
    refine (curWidth w.heap.size a n cap w.heap.size (0 + 12 + 12 + 2) (hid_le (by omega)) _ C3).mono ?_
    rintro e w4 ⟨b, b0, b1, rfl, C4, B4⟩
    go_wp2_with fail
    refine (curPick 29 (by omega) (by omega) w.heap.size a n cap w.heap.size (0 + 12 + 12 + 2 + 4) (hid_le (by omega)) _ C4).mono ?_
    rintro e w5 ⟨o, o0, o1, rfl, C5, B5⟩
    go_wp2
    (try simp only [Exit.inBlock, Exit.then])
    refine bodyPost_ret (four_results rfl _ _ _) rfl ?_
    exact ⟨b, o, x, x, b0, b1, o0, o1, x0, x1, x0, x1, rfl, ((((N0.trans B1.below).trans B2.below).trans B3.below).trans B4.below).trans B5.below⟩
  · have k0 : (r == 0) = false := by simp [h0]
    by_cases h1 : r = 1
    · subst h1
      go_wp2_with fail
      refine (curAmong w3.heap.size 2 (by omega) (by omega) w.heap.size a n cap w.heap.size (0 + 12 + 12 + 2) (hid_le (by omega)) _ (C3.alloc _) (row_new w3 [.int .i64 2147483648, .int .i64 (-9223372036854775808)] _ (by decide)) (by simp) (by omega)).mono ?_
      rintro e w4 ⟨p, _, _, rfl, C4, B4⟩
      have hl4 := C4.lt
      go_wp2_with fail
      refine (curAmong w4.heap.size 3 (by omega) (by omega) w.heap.size a n cap w.heap.size (0 + 12 + 12 + 2 + 2) (hid_le (by omega)) _ (C4.alloc _) (row_new w4 [.int .i64 (-1), .int .i64 4294967295, .int .i64 0] _ (by decide)) (by simp) (by omega)).mono ?_
      rintro e w5 ⟨q, _, _, rfl, C5, B5⟩
      go_wp2_with fail
      refine (curWidth w.heap.size a n cap w.heap.size (0 + 12 + 12 + 2 + 2 + 2) (hid_le (by omega)) _ C5).mono ?_
      rintro e w6 ⟨b, b0, b1, rfl, C6, B6⟩
      go_wp2_with fail
      refine (curPick 29 (by omega) (by omega) w.heap.size a n cap w.heap.size (0 + 12 + 12 + 2 + 2 + 2 + 4) (hid_le (by omega)) _ C6).mono ?_
      rintro e w7 ⟨o, o0, o1, rfl, C7, B7⟩
      go_wp2
      (try simp only [Exit.inBlock, Exit.then])
      refine bodyPost_ret (four_results rfl _ _ _) rfl ?_
      exact ⟨b, o, _, _, b0, b1, o0, o1, u_lo _, u_hi _, u_lo _, u_hi _, rfl, (((((((((N0.trans B1.below).trans B2.below).trans B3.below).trans ((Below.refl w.heap.size w3).alloc (by omega) _)).trans B4.below).trans ((Below.refl w.heap.size w4).alloc (by omega) _)).trans B5.below).trans B6.below).trans B7.below)⟩
    · have k1 : (r == 1) = false := by simp [h1]
      go_wp2_with fail
      refine (curWidth w.heap.size a n cap w.heap.size (0 + 12 + 12 + 2) (hid_le (by omega)) _ C3).mono ?_
      rintro e w4 ⟨b, b0, b1, rfl, C4, B4⟩
      go_wp2_with fail
      refine (curPick 29 (by omega) (by omega) w.heap.size a n cap w.heap.size (0 + 12 + 12 + 2 + 4) (hid_le (by omega)) _ C4).mono ?_
      rintro e w5 ⟨o, o0, o1, rfl, C5, B5⟩
      go_wp2
      (try simp only [Exit.inBlock, Exit.then])
      refine bodyPost_ret (four_results rfl _ _ _) rfl ?_
      exact ⟨b, o, x, y, b0, b1, o0, o1, x0, x1, y0, y1, rfl, ((((N0.trans B1.below).trans B2.below).trans B3.below).trans B4.below).trans B5.below⟩

end Go.Proofs.Ytcnjllecobhalaa
