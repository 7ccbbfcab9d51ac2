/-
  The cursor's words.
-/
import Derived.Test.YtdalkbapfjpkoaaCurB
namespace Go.Proofs.Ytdalkbapfjpkoaa
open Go.RowKit

theorem u_lo (n : Int) : 0 ≤ IntKind.u64.wrap n := by rw [IntKind.wrap_u64]; omega
theorem u_hi (n : Int) : IntKind.u64.wrap n ≤ 18446744073709551615 := by rw [IntKind.wrap_u64]; omega
theorem Aft.alloc {B g : Nat} {w : World} (h : B ≤ w.heap.size) (o : Obj) : Aft B g w (w.alloc o) :=
  ⟨(Below.refl B w).alloc h o, by simp, fun b _ hl => (Below.refl w.heap.size w |>.alloc (Nat.le_refl _) o).block b hl⟩

def okV : Value → Bool
  | .int .i64 z => decide (-9223372036854775808 ≤ z) && decide (z ≤ 9223372036854775807)
  | _ => false
theorem okV_int : ∀ v, okV v = true → ∃ z : Int, -9223372036854775808 ≤ z ∧ z ≤ 9223372036854775807 ∧ v = .int .i64 z
  | .int .i64 z, h => by
    simp [okV] at h
    exact ⟨z, h.1, h.2, rfl⟩
theorem row_new (w : World) (A : List Value) (t : TypeId) (h : A.all okV = true) : Row (w.alloc (.cells A.toArray t)) w.heap.size A.length := fun i hi => by
  obtain ⟨z, z0, z1, hz⟩ := okV_int A[i] (List.all_eq_true.1 h _ (List.getElem_mem hi))
  refine ⟨z, z0, z1, ?_⟩
  rw [World.cell?_alloc_at A.toArray t _ i rfl]
  simp [hi, hz]
theorem Cur.alloc {w : World} {g : Nat} {a : Option Addr} {n cap B m : Nat} (C : Cur w g a n cap B m) (o : Obj) : Cur (w.alloc o) g a n cap B m := C.kept ((Below.refl _ _).alloc (Nat.le_refl _) o)

set_option maxHeartbeats 1000000 in
theorem curWord (g : Nat) (a : Option Addr) (n cap B m : Nat) (hm : Hid (m ≤ 800000)) (w : World) (C : Cur w g a n cap B m) :
    Calls Try.prog 57 #[.pointer (some ⟨g, 0, none⟩)] w fun e w' => ∃ r : Int, 0 ≤ r ∧ r ≤ 18446744073709551615 ∧ e = .returned (.int .u64 r) ∧ Cur w' g a n cap B (m + 12) ∧ Aft B g w w' := by
  go_enter Try.func57, Try.ntmps57
  go_wp2_with fail
  refine (curPick 6 (by omega) (by omega) g a n cap B m (hid_le (by have := hm.out; omega)) w C).mono ?_
  rintro e w1 ⟨r, r0, r1, rfl, C1, B1⟩
  have hc : r = 0 ∨ r = 1 ∨ r = 2 ∨ r = 3 ∨ r = 4 ∨ r = 5 := by omega
  rcases hc with rfl | rfl | rfl | rfl | rfl | rfl
  · have hl := C1.lt
    have hB := C1.hg
    go_wp2_with fail
    refine (curAmong w1.heap.size 13 (by omega) (by omega) g a n cap B (m + 2) (hid_le (by have := hm.out; omega)) _ (C1.alloc _) (row_new w1 [.int .i64 0, .int .i64 1, .int .i64 127, .int .i64 128, .int .i64 255, .int .i64 256, .int .i64 16383, .int .i64 16384, .int .i64 4294967295, .int .i64 4294967296, .int .i64 (-1), .int .i64 9223372036854775807, .int .i64 (-9223372036854775808)] _ (by decide)) (by simp) (by omega)).mono ?_
    rintro e w2 ⟨r, _, _, rfl, C2, B2⟩
    go_wp2
    go_ret
    exact ⟨_, u_lo _, u_hi _, rfl, C2.more (by omega), (B1.trans (Aft.alloc (by omega) _)).trans B2⟩
  · go_wp2_with fail
    refine (curWide g a n cap B (m + 2) (hid_le (by have := hm.out; omega)) w1 C1).mono ?_
    rintro e w2 ⟨r, _, _, rfl, C2, B2⟩
    go_wp2
    go_ret
    exact ⟨_, u_lo _, u_hi _, rfl, C2.more (by omega), B1.trans B2⟩
  · go_wp2_with fail
    refine (curWide g a n cap B (m + 2) (hid_le (by have := hm.out; omega)) w1 C1).mono ?_
    rintro e w2 ⟨r, _, _, rfl, C2, B2⟩
    obtain ⟨x, hx⟩ : ∃ x, IntKind.u64.wrap r = x := ⟨_, rfl⟩
    have x0 : 0 ≤ x := by rw [← hx]; exact u_lo _
    have x1 : x ≤ 18446744073709551615 := by rw [← hx]; exact u_hi _
    go_wp2_with fail
    refine (curPick 64 (by omega) (by omega) g a n cap B (m + 2 + 8) (hid_le (by have := hm.out; omega)) w2 C2).mono ?_
    rintro e w3 ⟨q, q0, q1, rfl, C3, B3⟩
    have hq : IntKind.u64.wrap q = q := by rw [IntKind.wrap_u64]; omega
    have q2 : q ≤ 64 := by omega
    go_wp2
    go_ret
    exact ⟨_, Int.ediv_nonneg x0 (Int.le_of_lt (Int.pow_pos (by omega))), Int.le_trans (Int.ediv_le_self _ x0) x1, rfl, C3, (B1.trans B2).trans B3⟩
  · go_wp2_with fail
    refine (curWide g a n cap B (m + 2) (hid_le (by have := hm.out; omega)) w1 C1).mono ?_
    rintro e w2 ⟨r, _, _, rfl, C2, B2⟩
    go_wp2
    go_ret
    exact ⟨_, u_lo _, u_hi _, rfl, C2.more (by omega), B1.trans B2⟩
  · go_wp2_with fail
    refine (curPick 300 (by omega) (by omega) g a n cap B (m + 2) (hid_le (by have := hm.out; omega)) w1 C1).mono ?_
    rintro e w2 ⟨q, q0, q1, rfl, C2, B2⟩
    go_wp2
    go_ret
    exact ⟨_, q0, by omega, rfl, C2.more (by omega), B1.trans B2⟩
  · go_wp2_with fail
    refine (curPick 300 (by omega) (by omega) g a n cap B (m + 2) (hid_le (by have := hm.out; omega)) w1 C1).mono ?_
    rintro e w2 ⟨q, q0, q1, rfl, C2, B2⟩
    go_wp2
    go_ret
    exact ⟨_, q0, by omega, rfl, C2.more (by omega), B1.trans B2⟩

end Go.Proofs.Ytdalkbapfjpkoaa
