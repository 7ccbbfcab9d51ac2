/-
  What is drawn for memories that are stored into.
-/
import Derived.Test.YtcnjllecobhalaaCurM
import Derived.Test.YtcnjllecobhalaaCurD
namespace Go.Proofs.Ytcnjllecobhalaa
open Go.RowKit

theorem Bys.alloc {w : World} {a : Option Addr} {n : Nat} (h : Bys w a n w.heap.size) (o : Obj) : Bys (w.alloc o) a n (w.alloc o).heap.size := fun hn => by
  obtain ⟨b, off, e, hl, hc⟩ := (h.below ((Below.refl _ _).alloc (Nat.le_refl _) o)) hn
  exact ⟨b, off, e, by simp; omega, hc⟩

set_option maxRecDepth 100000 in
set_option maxHeartbeats 1000000 in
theorem drawStoreBytes (a : Option Addr) (n cap : Nat) (w : World) (hb : Bys w a n w.heap.size) :
    Calls Try.prog 30 #[.slice a n cap] w fun e w' => ∃ (M p : Int) (D s : ByteArray), D.size ≤ 600 ∧ -9223372036854775808 ≤ p ∧ p ≤ 9223372036854775807 ∧ s.size ≤ 11 ∧ e = .returned (.tuple #[.agg #[.int .i64 M, .string D], .int .i64 p, .string s]) ∧ Below w.heap.size w w' := by
  have C0 := cur_new _ a n cap 61 (hb.alloc (.cells #[.int .i64 0, .string ⟨#[]⟩] 47))
  have N0 := below_new (w.alloc (.cells #[.int .i64 0, .string ⟨#[]⟩] 47)) (.cells #[.slice a n cap, .int .i64 0, .int .u64 0] 61)
  have N1 := below_new w (.cells #[.int .i64 0, .string ⟨#[]⟩] 47)
  have hR0 : Hid ((w.alloc (.cells #[.int .i64 0, .string ⟨#[]⟩] 47)).heap[w.heap.size]? = some (.cells #[.int .i64 0, .string ⟨#[]⟩] 47 (0, 0))) := heap_alloc_new _ _
  have hsz : (w.alloc (.cells #[.int .i64 0, .string ⟨#[]⟩] 47)).heap.size = w.heap.size + 1 := by simp
  go_enter Try.func30, Try.ntmps30
  go_wp2_with fail
  try rw [hsz] at C0 N0
  refine (curMem (w.heap.size + 1) a n cap (w.heap.size + 1) 0 (hid_le (by omega)) _ C0).mono ?_
  rintro e w1 ⟨M, D, hD, rfl, C1, B1⟩
  go_wp2_with fail
  refine (curPlace (w.heap.size + 1) a n cap (w.heap.size + 1) _ (hid_le (by omega)) _ C1).mono ?_
  rintro e w2 ⟨p, p0, p1, rfl, C2, B2⟩
  go_wp2_with fail
  refine (curPick 12 (by omega) (by omega) (w.heap.size + 1) a n cap (w.heap.size + 1) _ (hid_le (by omega)) _ C2).mono ?_
  rintro e w3 ⟨r, r0, r1, rfl, C3, B3⟩
  obtain ⟨k, rfl⟩ : ∃ k : Nat, r = k := ⟨r.toNat, by omega⟩
  go_wp2_with fail
  refine (curText k (by omega) (w.heap.size + 1) a n cap (w.heap.size + 1) _ (hid_le (by omega)) _ C3).mono ?_
  rintro e w4 ⟨s, hs, rfl, C4, B4⟩
  have hB : Below (w.heap.size + 1) (w.alloc (.cells #[.int .i64 0, .string ⟨#[]⟩] 47)) w4 := (((N0.trans B1.below).trans B2.below).trans B3.below).trans B4.below
  have hR4 := (hB.block w.heap.size (by omega)).trans hR0.out
  have HB : Hid (Below w.heap.size w w4) := N1.trans (hB.mono (by omega))
  have d0 : w4.cell? ⟨w.heap.size, 0, none⟩ = some (.int .i64 0) := by simp [World.cell?, hR4]
  have d1 : w4.cell? ⟨w.heap.size, 1, none⟩ = some (.string ⟨#[]⟩) := by simp [World.cell?, hR4]
  have f0 : w4.frozen? ⟨w.heap.size, 0, none⟩ = false := by simp [World.frozen?, hR4]
  have f1 : w4.frozen? ⟨w.heap.size, 1, none⟩ = false := by simp [World.frozen?, hR4]
  clear hB hR4 N0 N1 B1 B2 B3 B4 C0 C1 C2 C3 C4 hsz
  go_wp2
  refine bodyPost_ret (v := .tuple #[.agg #[.int .i64 M, .string D], .int .i64 p, .string s]) (by simp [results, Try.results30, go_sem, *]) rfl ⟨M, p, D, s, hD, p0, p1, by omega, rfl, ?_⟩
  exact (HB.out.setCell (p := ⟨w.heap.size, 0, none⟩) (Nat.le_refl _) _).setCell (p := ⟨w.heap.size, 1, none⟩) (Nat.le_refl _) _

set_option maxRecDepth 100000 in
set_option maxHeartbeats 1000000 in
theorem drawStoreInt (a : Option Addr) (n cap : Nat) (w : World) (hb : Bys w a n w.heap.size) :
    Calls Try.prog 34 #[.slice a n cap] w fun e w' => ∃ (M p z v : Int) (D : ByteArray), D.size ≤ 600 ∧ -9223372036854775808 ≤ p ∧ p ≤ 9223372036854775807 ∧ -9223372036854775808 ≤ z ∧ z ≤ 9223372036854775807 ∧ 0 ≤ v ∧ v ≤ 18446744073709551615 ∧ e = .returned (.tuple #[.agg #[.int .i64 M, .string D], .int .i64 p, .int .i64 z, .int .u64 v]) ∧ Below w.heap.size w w' := by
  have C0 := cur_new _ a n cap 61 (hb.alloc (.cells #[.int .i64 0, .string ⟨#[]⟩] 47))
  have N0 := below_new (w.alloc (.cells #[.int .i64 0, .string ⟨#[]⟩] 47)) (.cells #[.slice a n cap, .int .i64 0, .int .u64 0] 61)
  have N1 := below_new w (.cells #[.int .i64 0, .string ⟨#[]⟩] 47)
  have hR0 : Hid ((w.alloc (.cells #[.int .i64 0, .string ⟨#[]⟩] 47)).heap[w.heap.size]? = some (.cells #[.int .i64 0, .string ⟨#[]⟩] 47 (0, 0))) := heap_alloc_new _ _
  have hsz : (w.alloc (.cells #[.int .i64 0, .string ⟨#[]⟩] 47)).heap.size = w.heap.size + 1 := by simp
  go_enter Try.func34, Try.ntmps34
  go_wp2_with fail
  try rw [hsz] at C0 N0
  refine (curMem (w.heap.size + 1) a n cap (w.heap.size + 1) 0 (hid_le (by omega)) _ C0).mono ?_
  rintro e w1 ⟨M, D, hD, rfl, C1, B1⟩
  go_wp2_with fail
  refine (curPlace (w.heap.size + 1) a n cap (w.heap.size + 1) _ (hid_le (by omega)) _ C1).mono ?_
  rintro e w2 ⟨p, p0, p1, rfl, C2, B2⟩
  have hl2 := C2.lt
  go_wp2_with fail
  refine (curAmong w2.heap.size 6 (by omega) (by omega) (w.heap.size + 1) a n cap (w.heap.size + 1) _ (hid_le (by omega)) _ (C2.alloc _) (row_new w2 [.int .i64 1, .int .i64 2, .int .i64 4, .int .i64 8, .int .i64 3, .int .i64 0] 3 (by decide)) (by simp) (by omega)).mono ?_
  rintro e w3 ⟨z, z0, z1, rfl, C3, B3⟩
  go_wp2_with fail
  refine (curWord (w.heap.size + 1) a n cap (w.heap.size + 1) _ (hid_le (by omega)) _ C3).mono ?_
  rintro e w4 ⟨v, v0, v1, rfl, C4, B4⟩
  have hB : Below (w.heap.size + 1) (w.alloc (.cells #[.int .i64 0, .string ⟨#[]⟩] 47)) w4 := ((((N0.trans B1.below).trans B2.below).trans ((Below.refl _ _).alloc (by omega) _)).trans B3.below).trans B4.below
  have hR4 := (hB.block w.heap.size (by omega)).trans hR0.out
  have HB : Hid (Below w.heap.size w w4) := N1.trans (hB.mono (by omega))
  have d0 : w4.cell? ⟨w.heap.size, 0, none⟩ = some (.int .i64 0) := by simp [World.cell?, hR4]
  have d1 : w4.cell? ⟨w.heap.size, 1, none⟩ = some (.string ⟨#[]⟩) := by simp [World.cell?, hR4]
  have f0 : w4.frozen? ⟨w.heap.size, 0, none⟩ = false := by simp [World.frozen?, hR4]
  have f1 : w4.frozen? ⟨w.heap.size, 1, none⟩ = false := by simp [World.frozen?, hR4]
  clear hB hR4 N0 N1 B1 B2 B3 B4 C0 C1 C2 C3 C4 hsz hl2
  go_wp2
  refine bodyPost_ret (v := .tuple #[.agg #[.int .i64 M, .string D], .int .i64 p, .int .i64 z, .int .u64 v]) (by simp [results, Try.results34, go_sem, *]) rfl ⟨M, p, z, v, D, hD, p0, p1, z0, z1, v0, v1, rfl, ?_⟩
  exact (HB.out.setCell (p := ⟨w.heap.size, 0, none⟩) (Nat.le_refl _) _).setCell (p := ⟨w.heap.size, 1, none⟩) (Nat.le_refl _) _

end Go.Proofs.Ytcnjllecobhalaa
