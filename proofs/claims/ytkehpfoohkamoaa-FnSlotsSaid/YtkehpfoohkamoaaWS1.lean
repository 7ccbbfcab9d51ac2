/-
  What is drawn for words in places of other types.
-/
import Derived.Test.YtkehpfoohkamoaaWW1
import Derived.Test.YtkehpfoohkamoaaCurD
namespace Go.Proofs.Ytkehpfoohkamoaa
open Go.ChangeShapes Go.WideShapes Go.ChangeAt Go.RowKit

theorem pastBlk {w : World} {o o' : Obj} {g : Nat} (h : w.heap[g]? = some o') : (w.alloc o).heap[g]? = some o' :=
  (((Below.refl w.heap.size w).alloc (Nat.le_refl _) o).block g (lt_of_block h)).trans h
theorem Cur.upto {w w' : World} {g : Nat} {a : Option Addr} {n cap B m Z : Nat} (C : Cur w g a n cap B m) (h : Below Z w w') (hl : g < Z) : Cur w' g a n cap B m := by
  obtain ⟨t, t0, t1, c1⟩ := C.at_
  obtain ⟨s, s0, s1, c2⟩ := C.seed
  have hB := C.hg
  have k : ∀ j, w'.cell? ⟨g, j, none⟩ = w.cell? ⟨g, j, none⟩ := fun j => h.cell (p := ⟨g, j, none⟩) hl
  exact ⟨(k 0).trans C.code, ⟨t, t0, t1, (k 1).trans c1⟩, ⟨s, s0, s1, (k 2).trans c2⟩, C.bys.below (h.mono (by omega)), C.hg, Nat.lt_of_lt_of_le C.lt h.size, fun j => (h.frozen (p := ⟨g, j, none⟩) hl).trans (C.fr j)⟩
theorem Aft.upto {B g Z : Nat} {w w1 w2 : World} (h : Aft B g w w1) (k : Below Z w1 w2) (hB : B ≤ Z) (hZ : w.heap.size ≤ Z) : Aft B g w w2 :=
  ⟨h.below.trans (k.mono hB), Nat.le_trans h.size k.size, fun b hb hl => (k.block b (by omega)).trans (h.blk b hb hl)⟩
theorem Cur.ample {w : World} {g : Nat} {a : Option Addr} {n cap B m m' : Nat} (C : Cur w g a n cap B m) (h : m ≤ m') : Cur w g a n cap B m' := by
  obtain ⟨t, t0, t1, c1⟩ := C.at_
  exact ⟨C.code, ⟨t, t0, by omega, c1⟩, C.seed, C.bys, C.hg, C.lt, C.fr⟩
theorem BysS.alloc {w : World} {a : Option Addr} {n : Nat} (h : Bys w a n w.heap.size) (o : Obj) : Bys (w.alloc o) a n (w.alloc o).heap.size := fun hn => by
  obtain ⟨b, off, e, hl, hc⟩ := (h.below ((Below.refl _ _).alloc (Nat.le_refl _) o)) hn
  exact ⟨b, off, e, by simp; omega, hc⟩

set_option maxRecDepth 100000 in
set_option maxHeartbeats 2000000 in
theorem curCore (g : Nat) (a : Option Addr) (n cap B m : Nat) (hm : Hid (m ≤ 700000)) (w : World) (C : Cur w g a n cap B m) :
    Calls Try.prog 11 #[.pointer (some ⟨g, 0, none⟩)] w fun e w' => ∃ ty x : Int, (125 ≤ ty ∧ ty ≤ 127) ∧ (0 ≤ x ∧ x ≤ 18446744073709551615) ∧ e = .returned (.agg #[.int .i64 ty, .int .u64 x]) ∧ Cur w' g a n cap B (m + 20) ∧ Aft B g w w' := by
  have hl := C.lt
  have hB := C.hg
  have HL : Hid (g < w.heap.size ∧ B ≤ g) := ⟨hl, hB⟩
  have A0 : Aft B g w (w.alloc (.cells #[.int .i64 0, .int .u64 0] 25)) := Aft.alloc (by omega) _
  have C0 := C.alloc (.cells #[.int .i64 0, .int .u64 0] 25)
  have z0 : (w.alloc (.cells #[.int .i64 0, .int .u64 0] 25)).heap[w.heap.size]? = some (.cells #[.int .i64 0, .int .u64 0] 25 (0, 0)) := heap_alloc_new _ _
  clear hl hB C
  go_enter Try.func11, Try.ntmps11
  go_wp2_with fail
  refine (curPick 3 (by omega) (by omega) g a n cap B m (hid_le (by have := hm.out; omega)) _ C0).mono ?_
  rintro e w1 ⟨q, q0, q1, rfl, C1, B1⟩
  have z1 := (B1.blk w.heap.size (by have := HL.out; omega) (lt_of_block z0)).trans z0
  have A1 := A0.trans B1
  clear z0 C0 A0 B1
  have hq : q = 0 ∨ q = 1 ∨ q = 2 := by omega
  clear q0 q1
  rcases hq with rfl | rfl | rfl
  · go_wp2_with fail
    refine (curWord g a n cap B (m + 2) (hid_le (by have := hm.out; omega)) _ C1).mono ?_
    rintro e w2 ⟨x, x0, x1, rfl, C2, B2⟩
    have z2 := (B2.blk w.heap.size (by have := HL.out; omega) (lt_of_block z1)).trans z1
    have A2 := A1.trans B2
    clear z1 C1 A1 B2
    have hs2 := lt_of_block z2
    have HN : Hid (w2.heap.size ≠ g) := by unfold Hid; have := HL.out; omega
    have hB2 : B ≤ w2.heap.size := by have := HL.out; omega
    have A3 : Aft B g w (w2.alloc (.cells #[.int .i64 125, .int .u64 x] 25)) := A2.trans (Aft.alloc hB2 _)
    have C3 := C2.alloc (.cells #[.int .i64 125, .int .u64 x] 25)
    have z3 : (w2.alloc (.cells #[.int .i64 125, .int .u64 x] 25)).heap[w.heap.size]? = _ := pastBlk z2
    have HX : Hid (0 ≤ x ∧ x ≤ 18446744073709551615) := ⟨x0, x1⟩
    clear C2 A2 z2
    have y3 : (w2.alloc (.cells #[.int .i64 125, .int .u64 x] 25)).heap[w2.heap.size]? = some (.cells #[.int .i64 125, .int .u64 x] 25 (0, 0)) := heap_alloc_new _ _
    go_wp2_with fail
    refine (curOne 12 (by omega) (by omega) g a n cap B (m + 2 + 12) (hid_le (by have := hm.out; omega)) _ C3).mono ?_
    rintro e w3 ⟨one, rfl, C4, B4⟩
    have z4 := (B4.blk w.heap.size (by have := HL.out; omega) (lt_of_block z3)).trans z3
    have y4 := (B4.blk w2.heap.size HN.out (lt_of_block y3)).trans y3
    have A4 := A3.trans B4
    clear z3 y3 C3 A3 B4
    have k0 : w3.cell? ⟨w2.heap.size, 0, none⟩ = some (.int .i64 125) := (cell_of_block y4 0).trans rfl
    have k1 : w3.cell? ⟨w2.heap.size, 1, none⟩ = some (.int .u64 x) := (cell_of_block y4 1).trans rfl
    have g1 : w3.frozen? ⟨w2.heap.size, 1, none⟩ = false := free_of_block y4 1
    cases one
    · have M := mask32 x x0 x1
      obtain ⟨v, hv⟩ : ∃ v, bits .and .u64 x 4294967295 = v := ⟨_, rfl⟩
      have HV : Hid (0 ≤ v ∧ v ≤ 18446744073709551615) := by unfold Hid; rw [← hv, M]; omega
      clear M x0 x1
      have y5 : (w3.setCell ⟨w2.heap.size, 1, none⟩ (.int .u64 v)).heap[w2.heap.size]? = some (.cells #[.int .i64 125, .int .u64 v] 25 (0, 0)) := heap_setCell_same _ _ _ _ _ _ y4
      have z5 : (w3.setCell ⟨w2.heap.size, 1, none⟩ (.int .u64 v)).heap[w.heap.size]? = some (.cells #[.int .i64 0, .int .u64 0] 25 (0, 0)) := (heap_setCell_other _ _ _ _ (show w.heap.size ≠ w2.heap.size by omega)).trans z4
      have l0 : (w3.setCell ⟨w2.heap.size, 1, none⟩ (.int .u64 v)).cell? ⟨w2.heap.size, 0, none⟩ = some (.int .i64 125) := (cell_of_block y5 0).trans rfl
      have l1 : (w3.setCell ⟨w2.heap.size, 1, none⟩ (.int .u64 v)).cell? ⟨w2.heap.size, 1, none⟩ = some (.int .u64 v) := (cell_of_block y5 1).trans rfl
      have HS0 : Below w.heap.size w3 (w3.setCell ⟨w2.heap.size, 1, none⟩ (.int .u64 v)) := (Below.refl w.heap.size _).setCell (p := ⟨w2.heap.size, 1, none⟩) (Nat.le_of_lt hs2) _
      have C5 := C4.upto HS0 HL.out.1
      have A5 := A4.upto HS0 (by have := HL.out; omega) (Nat.le_refl _)
      have c0 : (w3.setCell ⟨w2.heap.size, 1, none⟩ (.int .u64 v)).cell? ⟨w.heap.size, 0, none⟩ = some (.int .i64 0) := (cell_of_block z5 0).trans rfl
      have c1 : (w3.setCell ⟨w2.heap.size, 1, none⟩ (.int .u64 v)).cell? ⟨w.heap.size, 1, none⟩ = some (.int .u64 0) := (cell_of_block z5 1).trans rfl
      have f0 : (w3.setCell ⟨w2.heap.size, 1, none⟩ (.int .u64 v)).frozen? ⟨w.heap.size, 0, none⟩ = false := free_of_block z5 0
      have f1 : (w3.setCell ⟨w2.heap.size, 1, none⟩ (.int .u64 v)).frozen? ⟨w.heap.size, 1, none⟩ = false := free_of_block z5 1
      clear z4 y4 y5 C4 A4
      go_wp2
      obtain ⟨r1, r2⟩ := set2 z5 (.int .i64 125) (.int .u64 (v))
      have HS : Below w.heap.size (w3.setCell ⟨w2.heap.size, 1, none⟩ (.int .u64 v)) (((w3.setCell ⟨w2.heap.size, 1, none⟩ (.int .u64 v)).setCell ⟨w.heap.size, 0, none⟩ (.int .i64 125)).setCell ⟨w.heap.size, 1, none⟩ (.int .u64 (v))) := ((Below.refl w.heap.size _).setCell (p := ⟨w.heap.size, 0, none⟩) (Nat.le_refl _) _).setCell (p := ⟨w.heap.size, 1, none⟩) (Nat.le_refl _) _
      exact bodyPost_ret (v := .agg #[.int .i64 125, .int .u64 (v)]) (by simp [results, Try.results11, go_sem, r1, r2]) rfl ⟨125, _, by omega, HV.out, rfl, (C5.ample (by omega)).upto HS HL.out.1, A5.upto HS (by have := HL.out; omega) (Nat.le_refl _)⟩
    · clear x0 x1
      have c0 : w3.cell? ⟨w.heap.size, 0, none⟩ = some (.int .i64 0) := (cell_of_block z4 0).trans rfl
      have c1 : w3.cell? ⟨w.heap.size, 1, none⟩ = some (.int .u64 0) := (cell_of_block z4 1).trans rfl
      have f0 : w3.frozen? ⟨w.heap.size, 0, none⟩ = false := free_of_block z4 0
      have f1 : w3.frozen? ⟨w.heap.size, 1, none⟩ = false := free_of_block z4 1
      go_wp2
      obtain ⟨r1, r2⟩ := set2 z4 (.int .i64 125) (.int .u64 (x))
      have HS : Below w.heap.size w3 ((w3.setCell ⟨w.heap.size, 0, none⟩ (.int .i64 125)).setCell ⟨w.heap.size, 1, none⟩ (.int .u64 (x))) := ((Below.refl w.heap.size _).setCell (p := ⟨w.heap.size, 0, none⟩) (Nat.le_refl _) _).setCell (p := ⟨w.heap.size, 1, none⟩) (Nat.le_refl _) _
      exact bodyPost_ret (v := .agg #[.int .i64 125, .int .u64 (x)]) (by simp [results, Try.results11, go_sem, r1, r2]) rfl ⟨125, _, by omega, HX.out, rfl, (C4.ample (by omega)).upto HS HL.out.1, A4.upto HS (by have := HL.out; omega) (Nat.le_refl _)⟩
  · go_wp2_with fail
    refine (curWord g a n cap B (m + 2) (hid_le (by have := hm.out; omega)) _ C1).mono ?_
    rintro e w2 ⟨x, x0, x1, rfl, C2, B2⟩
    have z2 := (B2.blk w.heap.size (by have := HL.out; omega) (lt_of_block z1)).trans z1
    have A2 := A1.trans B2
    clear z1 C1 A1 B2
    have hs2 := lt_of_block z2
    have HN : Hid (w2.heap.size ≠ g) := by unfold Hid; have := HL.out; omega
    have hB2 : B ≤ w2.heap.size := by have := HL.out; omega
    have A3 : Aft B g w (w2.alloc (.cells #[.int .i64 126, .int .u64 x] 25)) := A2.trans (Aft.alloc hB2 _)
    have C3 := C2.alloc (.cells #[.int .i64 126, .int .u64 x] 25)
    have z3 : (w2.alloc (.cells #[.int .i64 126, .int .u64 x] 25)).heap[w.heap.size]? = _ := pastBlk z2
    have HX : Hid (0 ≤ x ∧ x ≤ 18446744073709551615) := ⟨x0, x1⟩
    clear C3 A3 z3
    have c0 : w2.cell? ⟨w.heap.size, 0, none⟩ = some (.int .i64 0) := (cell_of_block z2 0).trans rfl
    have c1 : w2.cell? ⟨w.heap.size, 1, none⟩ = some (.int .u64 0) := (cell_of_block z2 1).trans rfl
    have f0 : w2.frozen? ⟨w.heap.size, 0, none⟩ = false := free_of_block z2 0
    have f1 : w2.frozen? ⟨w.heap.size, 1, none⟩ = false := free_of_block z2 1
    go_wp2
    obtain ⟨r1, r2⟩ := set2 z2 (.int .i64 126) (.int .u64 x)
    have HS : Below w.heap.size w2 (((w2.setCell ⟨w.heap.size, 0, none⟩ (.int .i64 126)).setCell ⟨w.heap.size, 1, none⟩ (.int .u64 x)).alloc (.cells #[.int .i64 126, .int .u64 x] 25)) := (((Below.refl w.heap.size _).setCell (p := ⟨w.heap.size, 0, none⟩) (Nat.le_refl _) _).setCell (p := ⟨w.heap.size, 1, none⟩) (Nat.le_refl _) _).alloc (by simp; omega) _
    exact bodyPost_ret (v := .agg #[.int .i64 126, .int .u64 x]) (by simp [results, Try.results11, go_sem, r1, r2, hs2]) rfl ⟨126, _, by omega, HX.out, rfl, (C2.ample (by omega)).upto HS HL.out.1, A2.upto HS (by have := HL.out; omega) (Nat.le_refl _)⟩
  · go_wp2_with fail
    refine (curWord g a n cap B (m + 2) (hid_le (by have := hm.out; omega)) _ C1).mono ?_
    rintro e w2 ⟨x, x0, x1, rfl, C2, B2⟩
    have z2 := (B2.blk w.heap.size (by have := HL.out; omega) (lt_of_block z1)).trans z1
    have A2 := A1.trans B2
    clear z1 C1 A1 B2
    have hs2 := lt_of_block z2
    have HN : Hid (w2.heap.size ≠ g) := by unfold Hid; have := HL.out; omega
    have hB2 : B ≤ w2.heap.size := by have := HL.out; omega
    have A3 : Aft B g w (w2.alloc (.cells #[.int .i64 127, .int .u64 x] 25)) := A2.trans (Aft.alloc hB2 _)
    have C3 := C2.alloc (.cells #[.int .i64 127, .int .u64 x] 25)
    have z3 : (w2.alloc (.cells #[.int .i64 127, .int .u64 x] 25)).heap[w.heap.size]? = _ := pastBlk z2
    have HX : Hid (0 ≤ x ∧ x ≤ 18446744073709551615) := ⟨x0, x1⟩
    clear C2 A2 z2
    have y3 : (w2.alloc (.cells #[.int .i64 127, .int .u64 x] 25)).heap[w2.heap.size]? = some (.cells #[.int .i64 127, .int .u64 x] 25 (0, 0)) := heap_alloc_new _ _
    go_wp2_with fail
    refine (curOne 12 (by omega) (by omega) g a n cap B (m + 2 + 12) (hid_le (by have := hm.out; omega)) _ C3).mono ?_
    rintro e w3 ⟨one, rfl, C4, B4⟩
    have z4 := (B4.blk w.heap.size (by have := HL.out; omega) (lt_of_block z3)).trans z3
    have y4 := (B4.blk w2.heap.size HN.out (lt_of_block y3)).trans y3
    have A4 := A3.trans B4
    clear z3 y3 C3 A3 B4
    have k0 : w3.cell? ⟨w2.heap.size, 0, none⟩ = some (.int .i64 127) := (cell_of_block y4 0).trans rfl
    have k1 : w3.cell? ⟨w2.heap.size, 1, none⟩ = some (.int .u64 x) := (cell_of_block y4 1).trans rfl
    have g1 : w3.frozen? ⟨w2.heap.size, 1, none⟩ = false := free_of_block y4 1
    cases one
    · have M := mask32 x x0 x1
      obtain ⟨v, hv⟩ : ∃ v, bits .and .u64 x 4294967295 = v := ⟨_, rfl⟩
      have HV : Hid (0 ≤ v ∧ v ≤ 18446744073709551615) := by unfold Hid; rw [← hv, M]; omega
      clear M x0 x1
      have y5 : (w3.setCell ⟨w2.heap.size, 1, none⟩ (.int .u64 v)).heap[w2.heap.size]? = some (.cells #[.int .i64 127, .int .u64 v] 25 (0, 0)) := heap_setCell_same _ _ _ _ _ _ y4
      have z5 : (w3.setCell ⟨w2.heap.size, 1, none⟩ (.int .u64 v)).heap[w.heap.size]? = some (.cells #[.int .i64 0, .int .u64 0] 25 (0, 0)) := (heap_setCell_other _ _ _ _ (show w.heap.size ≠ w2.heap.size by omega)).trans z4
      have l0 : (w3.setCell ⟨w2.heap.size, 1, none⟩ (.int .u64 v)).cell? ⟨w2.heap.size, 0, none⟩ = some (.int .i64 127) := (cell_of_block y5 0).trans rfl
      have l1 : (w3.setCell ⟨w2.heap.size, 1, none⟩ (.int .u64 v)).cell? ⟨w2.heap.size, 1, none⟩ = some (.int .u64 v) := (cell_of_block y5 1).trans rfl
      have HS0 : Below w.heap.size w3 (w3.setCell ⟨w2.heap.size, 1, none⟩ (.int .u64 v)) := (Below.refl w.heap.size _).setCell (p := ⟨w2.heap.size, 1, none⟩) (Nat.le_of_lt hs2) _
      have C5 := C4.upto HS0 HL.out.1
      have A5 := A4.upto HS0 (by have := HL.out; omega) (Nat.le_refl _)
      have c0 : (w3.setCell ⟨w2.heap.size, 1, none⟩ (.int .u64 v)).cell? ⟨w.heap.size, 0, none⟩ = some (.int .i64 0) := (cell_of_block z5 0).trans rfl
      have c1 : (w3.setCell ⟨w2.heap.size, 1, none⟩ (.int .u64 v)).cell? ⟨w.heap.size, 1, none⟩ = some (.int .u64 0) := (cell_of_block z5 1).trans rfl
      have f0 : (w3.setCell ⟨w2.heap.size, 1, none⟩ (.int .u64 v)).frozen? ⟨w.heap.size, 0, none⟩ = false := free_of_block z5 0
      have f1 : (w3.setCell ⟨w2.heap.size, 1, none⟩ (.int .u64 v)).frozen? ⟨w.heap.size, 1, none⟩ = false := free_of_block z5 1
      clear z4 y4 y5 C4 A4
      go_wp2
      obtain ⟨r1, r2⟩ := set2 z5 (.int .i64 127) (.int .u64 (v))
      have HS : Below w.heap.size (w3.setCell ⟨w2.heap.size, 1, none⟩ (.int .u64 v)) (((w3.setCell ⟨w2.heap.size, 1, none⟩ (.int .u64 v)).setCell ⟨w.heap.size, 0, none⟩ (.int .i64 127)).setCell ⟨w.heap.size, 1, none⟩ (.int .u64 (v))) := ((Below.refl w.heap.size _).setCell (p := ⟨w.heap.size, 0, none⟩) (Nat.le_refl _) _).setCell (p := ⟨w.heap.size, 1, none⟩) (Nat.le_refl _) _
      exact bodyPost_ret (v := .agg #[.int .i64 127, .int .u64 (v)]) (by simp [results, Try.results11, go_sem, r1, r2]) rfl ⟨127, _, by omega, HV.out, rfl, (C5.ample (by omega)).upto HS HL.out.1, A5.upto HS (by have := HL.out; omega) (Nat.le_refl _)⟩
    · clear x0 x1
      have c0 : w3.cell? ⟨w.heap.size, 0, none⟩ = some (.int .i64 0) := (cell_of_block z4 0).trans rfl
      have c1 : w3.cell? ⟨w.heap.size, 1, none⟩ = some (.int .u64 0) := (cell_of_block z4 1).trans rfl
      have f0 : w3.frozen? ⟨w.heap.size, 0, none⟩ = false := free_of_block z4 0
      have f1 : w3.frozen? ⟨w.heap.size, 1, none⟩ = false := free_of_block z4 1
      go_wp2
      obtain ⟨r1, r2⟩ := set2 z4 (.int .i64 127) (.int .u64 (x))
      have HS : Below w.heap.size w3 ((w3.setCell ⟨w.heap.size, 0, none⟩ (.int .i64 127)).setCell ⟨w.heap.size, 1, none⟩ (.int .u64 (x))) := ((Below.refl w.heap.size _).setCell (p := ⟨w.heap.size, 0, none⟩) (Nat.le_refl _) _).setCell (p := ⟨w.heap.size, 1, none⟩) (Nat.le_refl _) _
      exact bodyPost_ret (v := .agg #[.int .i64 127, .int .u64 (x)]) (by simp [results, Try.results11, go_sem, r1, r2]) rfl ⟨127, _, by omega, HX.out, rfl, (C4.ample (by omega)).upto HS HL.out.1, A4.upto HS (by have := HL.out; omega) (Nat.le_refl _)⟩

set_option maxRecDepth 100000 in
set_option maxHeartbeats 2000000 in
theorem drawWordAs (a : Option Addr) (n cap : Nat) (w : World) (hb : Bys w a n w.heap.size) :
    Calls Try.prog 4 #[.slice a n cap] w fun e w' => ∃ ty x t : Int, (125 ≤ ty ∧ ty ≤ 127) ∧ (0 ≤ x ∧ x ≤ 18446744073709551615) ∧ e = .returned (.tuple #[.agg #[.int .i64 ty, .int .u64 x], .int .i64 t]) ∧ Below w.heap.size w w' := by
  have C0 := cur_new _ a n cap 34 (BysS.alloc hb (.cells #[.int .i64 0, .int .u64 0] 25))
  have N0 := below_new (w.alloc (.cells #[.int .i64 0, .int .u64 0] 25)) (.cells #[.slice a n cap, .int .i64 0, .int .u64 0] 34)
  have N1 := below_new w (.cells #[.int .i64 0, .int .u64 0] 25)
  have z0 : Hid ((w.alloc (.cells #[.int .i64 0, .int .u64 0] 25)).heap[w.heap.size]? = some (.cells #[.int .i64 0, .int .u64 0] 25 (0, 0))) := heap_alloc_new _ _
  have hsz : (w.alloc (.cells #[.int .i64 0, .int .u64 0] 25)).heap.size = w.heap.size + 1 := by simp
  go_enter Try.func4, Try.ntmps4
  go_wp2_with fail
  try rw [hsz] at C0 N0
  refine (curCore (w.heap.size + 1) a n cap (w.heap.size + 1) 0 (hid_le (by omega)) _ C0).mono ?_
  rintro e w1 ⟨ty, x, hty, hx, rfl, C1, B1⟩
  go_wp2_with fail
  refine (curPick 4 (by omega) (by omega) (w.heap.size + 1) a n cap (w.heap.size + 1) _ (hid_le (by omega)) _ C1).mono ?_
  rintro e w2 ⟨q, q0, q1, rfl, C2, B2⟩
  have hB : Below (w.heap.size + 1) (w.alloc (.cells #[.int .i64 0, .int .u64 0] 25)) w2 := (N0.trans B1.below).trans B2.below
  have z2 := (hB.block w.heap.size (by omega)).trans z0.out
  have HB : Hid (Below w.heap.size w w2) := N1.trans (hB.mono (by omega))
  have HT : Hid ((125 ≤ ty ∧ ty ≤ 127) ∧ (0 ≤ x ∧ x ≤ 18446744073709551615)) := ⟨hty, hx⟩
  have c0 : w2.cell? ⟨w.heap.size, 0, none⟩ = some (.int .i64 0) := (cell_of_block z2 0).trans rfl
  have c1 : w2.cell? ⟨w.heap.size, 1, none⟩ = some (.int .u64 0) := (cell_of_block z2 1).trans rfl
  have f0 : w2.frozen? ⟨w.heap.size, 0, none⟩ = false := free_of_block z2 0
  have f1 : w2.frozen? ⟨w.heap.size, 1, none⟩ = false := free_of_block z2 1
  clear hB N0 N1 B1 B2 C0 C1 C2 hsz z0 q0 q1 hty hx
  go_wp2
  obtain ⟨r1, r2⟩ := set2 z2 (.int .i64 ty) (.int .u64 x)
  exact bodyPost_ret (v := .tuple #[.agg #[.int .i64 ty, .int .u64 x], .int .i64 (wrap64 (124 + q))]) (by simp [results, Try.results4, go_sem, r1, r2]) rfl ⟨ty, x, _, HT.out.1, HT.out.2, rfl, (HB.out.setCell (p := ⟨w.heap.size, 0, none⟩) (Nat.le_refl _) _).setCell (p := ⟨w.heap.size, 1, none⟩) (Nat.le_refl _) _⟩

set_option maxRecDepth 100000 in
set_option maxHeartbeats 2000000 in
theorem drawWordFrom (a : Option Addr) (n cap : Nat) (w : World) (hb : Bys w a n w.heap.size) :
    Calls Try.prog 9 #[.slice a n cap] w fun e w' => ∃ ty x t : Int, (125 ≤ ty ∧ ty ≤ 127) ∧ (0 ≤ x ∧ x ≤ 18446744073709551615) ∧ e = .returned (.tuple #[.agg #[.int .i64 ty, .int .u64 x], .int .i64 t]) ∧ Below w.heap.size w w' := by
  have D := drawWordAs a n cap (w.alloc (.cells #[.int .i64 0, .int .u64 0] 25)) (BysS.alloc hb _)
  have N1 := below_new w (.cells #[.int .i64 0, .int .u64 0] 25)
  have z0 : Hid ((w.alloc (.cells #[.int .i64 0, .int .u64 0] 25)).heap[w.heap.size]? = some (.cells #[.int .i64 0, .int .u64 0] 25 (0, 0))) := heap_alloc_new _ _
  go_enter Try.func9, Try.ntmps9
  go_wp2_with fail
  refine D.mono ?_
  rintro e w1 ⟨ty, x, t, hty, hx, rfl, B1⟩
  have z2 := (B1.block w.heap.size (by simp)).trans z0.out
  have HB : Hid (Below w.heap.size w w1) := bel_step N1 B1
  have HT : Hid ((125 ≤ ty ∧ ty ≤ 127) ∧ (0 ≤ x ∧ x ≤ 18446744073709551615)) := ⟨hty, hx⟩
  have c0 : w1.cell? ⟨w.heap.size, 0, none⟩ = some (.int .i64 0) := (cell_of_block z2 0).trans rfl
  have c1 : w1.cell? ⟨w.heap.size, 1, none⟩ = some (.int .u64 0) := (cell_of_block z2 1).trans rfl
  have f0 : w1.frozen? ⟨w.heap.size, 0, none⟩ = false := free_of_block z2 0
  have f1 : w1.frozen? ⟨w.heap.size, 1, none⟩ = false := free_of_block z2 1
  clear N1 B1 z0 hty hx D
  go_wp2
  obtain ⟨r1, r2⟩ := set2 z2 (.int .i64 ty) (.int .u64 x)
  exact bodyPost_ret (v := .tuple #[.agg #[.int .i64 ty, .int .u64 x], .int .i64 t]) (by simp [results, Try.results9, go_sem, r1, r2]) rfl ⟨ty, x, t, HT.out.1, HT.out.2, rfl, (HB.out.setCell (p := ⟨w.heap.size, 0, none⟩) (Nat.le_refl _) _).setCell (p := ⟨w.heap.size, 1, none⟩) (Nat.le_refl _) _⟩

end Go.Proofs.Ytkehpfoohkamoaa
