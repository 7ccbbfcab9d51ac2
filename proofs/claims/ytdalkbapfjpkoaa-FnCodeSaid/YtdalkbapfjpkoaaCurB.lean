/-
  What the cursor draws: some number of those asked for.
-/
import Derived.Test.YtdalkbapfjpkoaaCur
namespace Go.Proofs.Ytdalkbapfjpkoaa
open Go.RowKit

theorem Cur.more {w : World} {g : Nat} {a : Option Addr} {n cap B m k : Nat} (C : Cur w g a n cap B m) (h : m ≤ k) : Cur w g a n cap B k := by
  obtain ⟨t, t0, t1, c⟩ := C.at_
  exact ⟨C.code, ⟨t, t0, by omega, c⟩, C.seed, C.bys, C.hg, C.lt, C.fr⟩
theorem or_i64 (x y : Int) : -9223372036854775808 ≤ bits .or .i64 x y ∧ bits .or .i64 x y ≤ 9223372036854775807 := by
  show -9223372036854775808 ≤ IntKind.i64.wrap _ ∧ IntKind.i64.wrap _ ≤ 9223372036854775807
  rw [IntKind.wrap_i64]
  omega
theorem and_i64 (x y : Int) : -9223372036854775808 ≤ bits .and .i64 x y ∧ bits .and .i64 x y ≤ 9223372036854775807 := by
  show -9223372036854775808 ≤ IntKind.i64.wrap _ ∧ IntKind.i64.wrap _ ≤ 9223372036854775807
  rw [IntKind.wrap_i64]
  omega
theorem hid_le {m k : Nat} (h : m ≤ k) : Hid (m ≤ k) := h

set_option maxHeartbeats 1000000 in
theorem curPick (N : Int) (N0 : 1 ≤ N) (N1 : N ≤ 2000000) (g : Nat) (a : Option Addr) (n cap B m : Nat) (hm : Hid (m ≤ 900000)) (w : World) (C : Cur w g a n cap B m) :
    Calls Try.prog 14 #[.pointer (some ⟨g, 0, none⟩), .int .i64 N] w fun e w' => ∃ r : Int, 0 ≤ r ∧ r < N ∧ e = .returned (.int .i64 r) ∧ Cur w' g a n cap B (m + 2) ∧ Aft B g w w' := by
  have hm1 : Hid (m ≤ 1000000) := hid_le (Nat.le_trans hm.out (by omega))
  have hm2 : Hid (m + 1 ≤ 1000000) := hid_le (by have := hm.out; omega)
  by_cases h1 : N ≤ 1
  · go_enter Try.func14, Try.ntmps14
    go_wp2
    go_ret
    exact ⟨0, by omega, by omega, rfl, C.more (by omega), Aft.refl _ _ _⟩
  · have hN : ¬ N = 0 := by omega
    by_cases h2 : 200 < N
    · go_enter Try.func14, Try.ntmps14
      go_wp2_with fail
      refine (curNext g a n cap B m hm1 w C).mono ?_
      rintro e w1 ⟨r, r0, r1, rfl, C1, B1⟩
      go_wp2_with fail
      refine (curNext g a n cap B (m + 1) hm2 w1 C1).mono ?_
      rintro e w2 ⟨r2, r20, r21, rfl, C2, B2⟩
      go_wp2
      go_ret
      exact ⟨(r * 256 + r2) % N, Int.emod_nonneg _ hN, Int.emod_lt_of_pos _ (by omega), rfl, C2, B1.trans B2⟩
    · go_enter Try.func14, Try.ntmps14
      go_wp2_with fail
      refine (curNext g a n cap B m hm1 w C).mono ?_
      rintro e w1 ⟨r, r0, r1, rfl, C1, B1⟩
      go_wp2
      go_ret
      exact ⟨r % N, Int.emod_nonneg _ hN, Int.emod_lt_of_pos _ (by omega), rfl, C1.more (by omega), B1⟩

theorem curOne (N : Int) (N0 : 1 ≤ N) (N1 : N ≤ 100000) (g : Nat) (a : Option Addr) (n cap B m : Nat) (hm : Hid (m ≤ 900000)) (w : World) (C : Cur w g a n cap B m) :
    Calls Try.prog 13 #[.pointer (some ⟨g, 0, none⟩), .int .i64 N] w fun e w' => ∃ b : Bool, e = .returned (.bool b) ∧ Cur w' g a n cap B (m + 2) ∧ Aft B g w w' := by
  go_enter Try.func13, Try.ntmps13
  go_wp2_with fail
  refine (curPick N N0 (by omega) g a n cap B m hm w C).mono ?_
  rintro e w1 ⟨r, r0, r1, rfl, C1, B1⟩
  go_wp2
  go_ret
  exact ⟨r == 0, rfl, C1, B1⟩

theorem Cur.kept {w w' : World} {g : Nat} {a : Option Addr} {n cap B m : Nat} (C : Cur w g a n cap B m) (h : Below w.heap.size w w') : Cur w' g a n cap B m := by
  obtain ⟨t, t0, t1, c1⟩ := C.at_
  obtain ⟨s, s0, s1, c2⟩ := C.seed
  have hl := C.lt
  have hB := C.hg
  have k : ∀ j, w'.cell? ⟨g, j, none⟩ = w.cell? ⟨g, j, none⟩ := fun j => h.cell (p := ⟨g, j, none⟩) hl
  exact ⟨(k 0).trans C.code, ⟨t, t0, t1, (k 1).trans c1⟩, ⟨s, s0, s1, (k 2).trans c2⟩, C.bys.below (h.mono (by omega)), C.hg, Nat.lt_of_lt_of_le hl h.size, fun j => (h.frozen (p := ⟨g, j, none⟩) hl).trans (C.fr j)⟩

set_option maxHeartbeats 1000000 in
theorem curWide (g : Nat) (a : Option Addr) (n cap B m : Nat) (hm : Hid (m ≤ 900000)) (w : World) (C : Cur w g a n cap B m) :
    Calls Try.prog 58 #[.pointer (some ⟨g, 0, none⟩)] w fun e w' => ∃ r : Int, -9223372036854775808 ≤ r ∧ r ≤ 9223372036854775807 ∧ e = .returned (.int .i64 r) ∧ Cur w' g a n cap B (m + 8) ∧ Aft B g w w' := by
  go_enter Try.func58, Try.ntmps58
  go_wp2
  go_loopw [3, 4] (fun p c wr => ∃ (x : Int) (k : Nat), k ≤ 8 ∧ Hid (-9223372036854775808 ≤ x ∧ x ≤ 9223372036854775807) ∧ Hid (Cur wr g a n cap B (m + k) ∧ Aft B g w wr) ∧ p = .int .i64 x ∧ c = .int .i64 (k : Int)) (fun _ c _ => (8 - intOf c).toNat)
  case atStart => exact ⟨0, 0, by omega, ⟨by omega, by omega⟩, ⟨C, Aft.refl _ _ _⟩, rfl, rfl⟩
  case round =>
    obtain ⟨x, k, hk, hx, I, rfl, rfl⟩ := hrel
    by_cases h8 : (k : Int) < 8
    · go_wp2_with fail
      refine (curNext g a n cap B (m + k) (hid_le (by have := hm.out; omega)) wr I.out.1).mono ?_
      rintro e w1 ⟨r, r0, r1, rfl, C1, B1⟩
      go_wp2
      go_roundw
      case rel => exact ⟨_, k + 1, by omega, or_i64 _ _, ⟨C1, I.out.2.trans B1⟩, rfl, rfl⟩
      case measure => simp [intOf]; omega
    · obtain rfl : k = 8 := by omega
      go_wp2
      go_ret
      exact ⟨x, hx.out.1, hx.out.2, rfl, I.out.1, I.out.2⟩

/-- Some numbers lie in a block of their own. -/
def Row (w : World) (b k : Nat) : Prop := ∀ i, i < k → ∃ z : Int, -9223372036854775808 ≤ z ∧ z ≤ 9223372036854775807 ∧ w.cell? ⟨b, i, none⟩ = some (.int .i64 z)

set_option maxHeartbeats 1000000 in
theorem curAmong (b k : Nat) (k0 : 1 ≤ k) (k1 : k ≤ 1000) (g : Nat) (a : Option Addr) (n cap B m : Nat) (hm : Hid (m ≤ 900000)) (w : World) (C : Cur w g a n cap B m) (hr : Row w b k) (hb : b < w.heap.size) (hbg : b ≠ g) :
    Calls Try.prog 26 #[.pointer (some ⟨g, 0, none⟩), .slice (some ⟨b, 0, none⟩) k k] w fun e w' => ∃ r : Int, -9223372036854775808 ≤ r ∧ r ≤ 9223372036854775807 ∧ e = .returned (.int .i64 r) ∧ Cur w' g a n cap B (m + 2) ∧ Aft B g w w' := by
  go_enter Try.func26, Try.ntmps26
  go_wp2_with fail
  refine (curPick k (by omega) (by omega) g a n cap B m hm w C).mono ?_
  rintro e w1 ⟨r, r0, r1, rfl, C1, B1⟩
  obtain ⟨j, rfl⟩ : ∃ j : Nat, r = j := ⟨r.toNat, by omega⟩
  obtain ⟨z, z0, z1, hz⟩ := hr j (by omega)
  have hz1 : w1.cell? ⟨b, j, none⟩ = some (.int .i64 z) := (B1.keep b j hbg hb).trans hz
  go_wp2
  go_ret
  exact ⟨z, z0, z1, rfl, C1, B1⟩

end Go.Proofs.Ytdalkbapfjpkoaa
