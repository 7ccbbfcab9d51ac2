/-
  A handle is drawn. (Made by a generator.)
-/
import Derived.Test.YtjielcilcningaaTB26
import Derived.Test.YtjielcilcningaaTB22
import Derived.Test.YtjielcilcningaaCurW
import Derived.Test.YtjielcilcningaaQChain2
namespace Go.Proofs.Ytjielcilcningaa
open Go.ChangeShapes Go.WideShapes Go.ChangeAt Go.RowKit

theorem aft_step {B g : Nat} {w w1 w2 : World} (h : Aft B g w w1) (k : Below w1.heap.size w1 w2) (hB : B ≤ w.heap.size) : Aft B g w w2 :=
  ⟨h.below.trans (k.mono (Nat.le_trans hB h.size)), Nat.le_trans h.size k.size, fun b hb hl => (k.block b (Nat.lt_of_lt_of_le hl h.size)).trans (h.blk b hb hl)⟩
theorem aft_upto {B g : Nat} {w w1 w2 : World} (h : Aft B g w w1) (k : Below w.heap.size w1 w2) (hB : B ≤ w.heap.size) : Aft B g w w2 :=
  ⟨h.below.trans (k.mono hB), Nat.le_trans h.size k.size, fun b hb hl => (k.block b hl).trans (h.blk b hb hl)⟩
theorem cur_upto {w w' : World} {g : Nat} {a : Option Addr} {n cap B m Z : Nat} (C : Cur w g a n cap B m) (h : Below Z w w') (hl : g < Z) : Cur w' g a n cap B m := by
  obtain ⟨t, t0, t1, c1⟩ := C.at_
  obtain ⟨s, s0, s1, c2⟩ := C.seed
  have hB := C.hg
  have k : ∀ j, w'.cell? ⟨g, j, none⟩ = w.cell? ⟨g, j, none⟩ := fun j => h.cell (p := ⟨g, j, none⟩) hl
  exact ⟨(k 0).trans C.code, ⟨t, t0, t1, (k 1).trans c1⟩, ⟨s, s0, s1, (k 2).trans c2⟩, C.bys.below (h.mono (by omega)), C.hg, Nat.lt_of_lt_of_le C.lt h.size, fun j => (h.frozen (p := ⟨g, j, none⟩) hl).trans (C.fr j)⟩
theorem set1T {W : World} {z : Nat} {t : TypeId} {cs : Array Value} (h : W.heap[z]? = some (.cells cs t (0, 0))) (k : Nat) (b : Value) {G : World} (hG : W.setCell ⟨z, k, none⟩ b = G) :
    G.heap[z]? = some (.cells (cs.setIfInBounds k b) t (0, 0)) ∧ (∀ g, g ≠ z → G.heap[g]? = W.heap[g]?) ∧ G.heap.size = W.heap.size ∧ ∀ (B : Nat) (w : World), B ≤ z → Below B w W → Below B w G := by
  subst hG
  exact ⟨heap_setCell_same _ _ _ _ _ _ h, fun g hg => heap_setCell_other _ _ _ _ (by simpa using hg), by simp, fun B w hB hb => hb.setCell hB _⟩

set_option maxRecDepth 100000 in
set_option maxHeartbeats 1600000 in
theorem curHandle (g : Nat) (a : Option Addr) (n cap B m : Nat) (hm : Hid (m ≤ 700000)) (w : World) (C : Cur w g a n cap B m) :
    Calls Try.prog 19 #[.pointer (some ⟨g, 0, none⟩)] w fun e w' => ∃ h : Hd, e = .returned (hdV h) ∧ Cur w' g a n cap B (m + 16) ∧ Aft B g w w' := by
  have HC : Hid (g < w.heap.size ∧ B ≤ g) := ⟨C.lt, C.hg⟩
  obtain ⟨z, hz⟩ : ∃ z, w.heap.size = z := ⟨_, rfl⟩
  have HZ : Hid (w.heap.size = z) := hz
  obtain ⟨V, hV⟩ : ∃ W, (w.alloc (.cells #[.bool false, .int .i64 0, .int .i64 0, .bool false, .int .i64 0, .int .i64 0] 28)) = W := ⟨_, rfl⟩
  have hb : Below w.heap.size w V := by rw [← hV]; exact (bel_alloc (Below.refl _ _) _)
  have br : V.heap[z]? = some (.cells #[.bool false, .int .i64 0, .int .i64 0, .bool false, .int .i64 0, .int .i64 0] 28 (0, 0)) := by
    have h := heap_alloc_new w (.cells #[.bool false, .int .i64 0, .int .i64 0, .bool false, .int .i64 0, .int .i64 0] 28)
    have e : w.heap.size = z := by exact hz
    rw [e] at h
    rw [← hV]
    exact h
  have LB : Hid (z + 1 ≤ V.heap.size) := by unfold Hid; rw [← hV]; simp [hz]
  replace C := C.kept hb
  have A : Hid (Aft B g w V) := aft_step (Aft.refl _ _ _) hb (Nat.le_trans HC.out.2 (Nat.le_of_lt HC.out.1))
  clear hb
  go_enter Try.func19, Try.ntmps19
  go_wp2_with fail
  clear hV hz
  refine (curPick 3 (by omega) (by omega) g a n cap B (m) (hid_le (by have := hm.out; omega)) V C).mono ?_
  rintro e w1 ⟨x, x0, x1, rfl, C1, ha⟩
  replace br := (ha.blk (z) (by have h1 := HC.out; have h2 := HZ.out; omega) (lt_of_block br)).trans br
  replace A : Hid (Aft B g w w1) := A.out.trans ha
  replace LB : Hid (z + 1 ≤ w1.heap.size) := Nat.le_trans LB.out ha.size
  clear ha C
  have C := C1
  clear C1
  go_wp2_with fail
  refine (curPick 20 (by omega) (by omega) g a n cap B (m + 2) (hid_le (by have := hm.out; omega)) w1 C).mono ?_
  rintro e w2 ⟨y, y0, y1, rfl, C1, ha⟩
  replace br := (ha.blk (z) (by have h1 := HC.out; have h2 := HZ.out; omega) (lt_of_block br)).trans br
  replace A : Hid (Aft B g w w2) := A.out.trans ha
  replace LB : Hid (z + 1 ≤ w2.heap.size) := Nat.le_trans LB.out ha.size
  clear ha C
  have C := C1
  clear C1
  go_wp2_with fail
  refine (curOne 2 (by omega) (by omega) g a n cap B (m + 2 + 2) (hid_le (by have := hm.out; omega)) w2 C).mono ?_
  rintro e w3 ⟨o, rfl, C1, ha⟩
  replace br := (ha.blk (z) (by have h1 := HC.out; have h2 := HZ.out; omega) (lt_of_block br)).trans br
  replace A : Hid (Aft B g w w3) := A.out.trans ha
  replace LB : Hid (z + 1 ≤ w3.heap.size) := Nat.le_trans LB.out ha.size
  clear ha C
  have C := C1
  clear C1
  clear x0 x1 y0 y1
  obtain ⟨q, hq⟩ : ∃ z, w3.heap.size = z := ⟨_, rfl⟩
  obtain ⟨w4, hNw4⟩ : ∃ W, w3.alloc (.cells #[.bool false, .int .i64 0, .int .i64 0, .bool false, .int .i64 0, .int .i64 0] 28) = W := ⟨_, rfl⟩
  have hb : Below w3.heap.size w3 w4 := by rw [← hNw4]; exact bel_alloc (Below.refl _ _) _
  have hleq : Hid (z + 1 ≤ q) := by unfold Hid; rw [← hq]; exact LB.out
  replace br := (hb.block (z) (lt_of_block br)).trans br
  replace C := C.kept hb
  replace A : Hid (Aft B g w w4) := aft_step A.out hb (Nat.le_trans HC.out.2 (Nat.le_of_lt HC.out.1))
  replace LB : Hid (z + 1 ≤ w4.heap.size) := Nat.le_trans LB.out hb.size
  have bh : w4.heap[q]? = some (.cells #[.bool false, .int .i64 0, .int .i64 0, .bool false, .int .i64 0, .int .i64 0] 28 (0, 0)) := by rw [← hNw4, ← hq]; exact heap_alloc_new _ _
  clear hb
  have ph0x1 : w4.cell? ⟨q, 0, none⟩ = some (.bool false) := (cell_of_block bh 0).trans rfl
  have ph1x1 : w4.cell? ⟨q, 1, none⟩ = some (.int .i64 0) := (cell_of_block bh 1).trans rfl
  have ph2x1 : w4.cell? ⟨q, 2, none⟩ = some (.int .i64 0) := (cell_of_block bh 2).trans rfl
  have ph3x1 : w4.cell? ⟨q, 3, none⟩ = some (.bool false) := (cell_of_block bh 3).trans rfl
  have ph4x1 : w4.cell? ⟨q, 4, none⟩ = some (.int .i64 0) := (cell_of_block bh 4).trans rfl
  have ph5x1 : w4.cell? ⟨q, 5, none⟩ = some (.int .i64 0) := (cell_of_block bh 5).trans rfl
  have fh0x1 := free_of_block bh 0
  have fh1x1 := free_of_block bh 1
  have fh2x1 := free_of_block bh 2
  have fh3x1 := free_of_block bh 3
  have fh4x1 := free_of_block bh 4
  have fh5x1 := free_of_block bh 5
  obtain ⟨w5, hNw5⟩ : ∃ G, ((((((w4.setCell ⟨q, 0, none⟩ (.bool true)).setCell ⟨q, 1, none⟩ (.int .i64 x)).setCell ⟨q, 2, none⟩ (.int .i64 y)).setCell ⟨q, 3, none⟩ (.bool o)).setCell ⟨q, 4, none⟩ (.int .i64 0)).setCell ⟨q, 5, none⟩ (.int .i64 0)) = G := ⟨_, rfl⟩
  obtain ⟨s1, s2, s3, s4⟩ := set6T bh _ _ _ _ _ _ hNw5
  replace br := (s2 (z) (by have h3 := hleq.out; omega)).trans br
  have hsl : w.heap.size ≤ q := by have h3 := hleq.out; have h1 := HC.out; have h2 := HZ.out; omega
  have hs : Below w.heap.size w4 w5 := s4 _ _ hsl (Below.refl _ _)
  replace C := cur_upto C hs HC.out.1
  replace A : Hid (Aft B g w w5) := aft_upto A.out hs (Nat.le_trans HC.out.2 (Nat.le_of_lt HC.out.1))
  replace LB : Hid (z + 1 ≤ w5.heap.size) := by unfold Hid; rw [s3]; exact LB.out
  replace bh := s1
  clear s1 s2 s3 s4 hs hsl
  cases o
  · have ph3x2 : w5.cell? ⟨q, 3, none⟩ = some (.bool false) := (cell_of_block bh 3).trans rfl
    go_wp2_with fail
    clear hNw4 hq ph0x1 ph1x1 ph2x1 ph3x1 ph4x1 ph5x1 fh0x1 fh1x1 fh2x1 fh3x1 fh4x1 fh5x1 hNw5 ph3x2
    refine (curPick 3 (by omega) (by omega) g a n cap B (m + 2 + 2 + 2) (hid_le (by have := hm.out; omega)) w5 C).mono ?_
    rintro e w6 ⟨s, s0, s1, rfl, C1, ha⟩
    replace br := (ha.blk (z) (by have h1 := HC.out; have h2 := HZ.out; omega) (lt_of_block br)).trans br
    replace bh := (ha.blk (q) (by have h3 := hleq.out; have h1 := HC.out; have h2 := HZ.out; omega) (lt_of_block bh)).trans bh
    replace A : Hid (Aft B g w w6) := A.out.trans ha
    replace LB : Hid (z + 1 ≤ w6.heap.size) := Nat.le_trans LB.out ha.size
    clear ha C
    have C := C1
    clear C1
    have hw : wrap64 (1 + s) = 1 + s := by unfold wrap64; omega
    clear s0 s1
    have ph0x3 : w6.cell? ⟨q, 0, none⟩ = some (.bool true) := (cell_of_block bh 0).trans rfl
    have ph1x3 : w6.cell? ⟨q, 1, none⟩ = some (.int .i64 x) := (cell_of_block bh 1).trans rfl
    have ph2x3 : w6.cell? ⟨q, 2, none⟩ = some (.int .i64 y) := (cell_of_block bh 2).trans rfl
    have ph3x3 : w6.cell? ⟨q, 3, none⟩ = some (.bool false) := (cell_of_block bh 3).trans rfl
    have ph4x3 : w6.cell? ⟨q, 4, none⟩ = some (.int .i64 0) := (cell_of_block bh 4).trans rfl
    have ph5x3 : w6.cell? ⟨q, 5, none⟩ = some (.int .i64 0) := (cell_of_block bh 5).trans rfl
    have ph0x4 : w6.cell? ⟨q, 0, none⟩ = some (.bool true) := (cell_of_block bh 0).trans rfl
    have ph1x4 : w6.cell? ⟨q, 1, none⟩ = some (.int .i64 x) := (cell_of_block bh 1).trans rfl
    have ph2x4 : w6.cell? ⟨q, 2, none⟩ = some (.int .i64 y) := (cell_of_block bh 2).trans rfl
    have ph3x4 : w6.cell? ⟨q, 3, none⟩ = some (.bool false) := (cell_of_block bh 3).trans rfl
    have ph4x4 : w6.cell? ⟨q, 4, none⟩ = some (.int .i64 0) := (cell_of_block bh 4).trans rfl
    have ph5x4 : w6.cell? ⟨q, 5, none⟩ = some (.int .i64 0) := (cell_of_block bh 5).trans rfl
    have fh0x4 := free_of_block bh 0
    have fh1x4 := free_of_block bh 1
    have fh2x4 := free_of_block bh 2
    have fh3x4 := free_of_block bh 3
    have fh4x4 := free_of_block bh 4
    have fh5x4 := free_of_block bh 5
    obtain ⟨w7, hNw7⟩ : ∃ G, (w6.setCell ⟨q, 5, none⟩ (.int .i64 (1 + s))) = G := ⟨_, rfl⟩
    obtain ⟨s1, s2, s3, s4⟩ := set1T bh 5 (.int .i64 (1 + s)) hNw7
    replace s1 : w7.heap[q]? = some (.cells #[.bool true, .int .i64 x, .int .i64 y, .bool false, .int .i64 0, .int .i64 (1 + s)] 28 (0, 0)) := s1
    replace br := (s2 (z) (by have h3 := hleq.out; omega)).trans br
    have hsl : w.heap.size ≤ q := by have h3 := hleq.out; have h1 := HC.out; have h2 := HZ.out; omega
    have hs : Below w.heap.size w6 w7 := s4 _ _ hsl (Below.refl _ _)
    replace C := cur_upto C hs HC.out.1
    replace A : Hid (Aft B g w w7) := aft_upto A.out hs (Nat.le_trans HC.out.2 (Nat.le_of_lt HC.out.1))
    replace LB : Hid (z + 1 ≤ w7.heap.size) := by unfold Hid; rw [s3]; exact LB.out
    replace bh := s1
    clear s1 s2 s3 s4 hs hsl
    go_wp2_with fail
    clear ph0x3 ph1x3 ph2x3 ph3x3 ph4x3 ph5x3 ph0x4 ph1x4 ph2x4 ph3x4 ph4x4 ph5x4 fh0x4 fh1x4 fh2x4 fh3x4 fh4x4 fh5x4 hNw7 hw
    refine (curOne 30 (by omega) (by omega) g a n cap B (m + 2 + 2 + 2 + 2) (hid_le (by have := hm.out; omega)) w7 C).mono ?_
    rintro e w8 ⟨b, rfl, C1, ha⟩
    replace br := (ha.blk (z) (by have h1 := HC.out; have h2 := HZ.out; omega) (lt_of_block br)).trans br
    replace bh := (ha.blk (q) (by have h3 := hleq.out; have h1 := HC.out; have h2 := HZ.out; omega) (lt_of_block bh)).trans bh
    replace A : Hid (Aft B g w w8) := A.out.trans ha
    replace LB : Hid (z + 1 ≤ w8.heap.size) := Nat.le_trans LB.out ha.size
    clear ha C
    have C := C1
    clear C1
    cases b
    · have ph0x5 : w8.cell? ⟨q, 0, none⟩ = some (.bool true) := (cell_of_block bh 0).trans rfl
      have ph1x5 : w8.cell? ⟨q, 1, none⟩ = some (.int .i64 x) := (cell_of_block bh 1).trans rfl
      have ph2x5 : w8.cell? ⟨q, 2, none⟩ = some (.int .i64 y) := (cell_of_block bh 2).trans rfl
      have ph3x5 : w8.cell? ⟨q, 3, none⟩ = some (.bool false) := (cell_of_block bh 3).trans rfl
      have ph4x5 : w8.cell? ⟨q, 4, none⟩ = some (.int .i64 0) := (cell_of_block bh 4).trans rfl
      have ph5x5 : w8.cell? ⟨q, 5, none⟩ = some (.int .i64 (1 + s)) := (cell_of_block bh 5).trans rfl
      have pr0x6 : w8.cell? ⟨z, 0, none⟩ = some (.bool false) := (cell_of_block br 0).trans rfl
      have pr1x6 : w8.cell? ⟨z, 1, none⟩ = some (.int .i64 0) := (cell_of_block br 1).trans rfl
      have pr2x6 : w8.cell? ⟨z, 2, none⟩ = some (.int .i64 0) := (cell_of_block br 2).trans rfl
      have pr3x6 : w8.cell? ⟨z, 3, none⟩ = some (.bool false) := (cell_of_block br 3).trans rfl
      have pr4x6 : w8.cell? ⟨z, 4, none⟩ = some (.int .i64 0) := (cell_of_block br 4).trans rfl
      have pr5x6 : w8.cell? ⟨z, 5, none⟩ = some (.int .i64 0) := (cell_of_block br 5).trans rfl
      have fr0x6 := free_of_block br 0
      have fr1x6 := free_of_block br 1
      have fr2x6 := free_of_block br 2
      have fr3x6 := free_of_block br 3
      have fr4x6 := free_of_block br 4
      have fr5x6 := free_of_block br 5
      obtain ⟨w9, hNw9⟩ : ∃ G, ((((((w8.setCell ⟨z, 0, none⟩ (.bool true)).setCell ⟨z, 1, none⟩ (.int .i64 x)).setCell ⟨z, 2, none⟩ (.int .i64 y)).setCell ⟨z, 3, none⟩ (.bool false)).setCell ⟨z, 4, none⟩ (.int .i64 0)).setCell ⟨z, 5, none⟩ (.int .i64 (1 + s))) = G := ⟨_, rfl⟩
      obtain ⟨s1, s2, s3, s4⟩ := set6T br _ _ _ _ _ _ hNw9
      replace bh := (s2 (q) (by have h3 := hleq.out; omega)).trans bh
      have hsl : w.heap.size ≤ z := by have h1 := HC.out; have h2 := HZ.out; omega
      have hs : Below w.heap.size w8 w9 := s4 _ _ hsl (Below.refl _ _)
      replace C := cur_upto C hs HC.out.1
      replace A : Hid (Aft B g w w9) := aft_upto A.out hs (Nat.le_trans HC.out.2 (Nat.le_of_lt HC.out.1))
      replace LB : Hid (z + 1 ≤ w9.heap.size) := by unfold Hid; rw [s3]; exact LB.out
      replace br := s1
      clear s1 s2 s3 s4 hs hsl
      have zr0 : w9.cell? ⟨z, 0, none⟩ = some (.bool true) := (cell_of_block br 0).trans rfl
      have zr1 : w9.cell? ⟨z, 1, none⟩ = some (.int .i64 x) := (cell_of_block br 1).trans rfl
      have zr2 : w9.cell? ⟨z, 2, none⟩ = some (.int .i64 y) := (cell_of_block br 2).trans rfl
      have zr3 : w9.cell? ⟨z, 3, none⟩ = some (.bool false) := (cell_of_block br 3).trans rfl
      have zr4 : w9.cell? ⟨z, 4, none⟩ = some (.int .i64 0) := (cell_of_block br 4).trans rfl
      have zr5 : w9.cell? ⟨z, 5, none⟩ = some (.int .i64 (1 + s)) := (cell_of_block br 5).trans rfl
      go_wp2
      exact bodyPost_ret (v := .agg #[.bool true, .int .i64 x, .int .i64 y, .bool false, .int .i64 0, .int .i64 (1 + s)]) (by simp [results, Try.results19, go_sem, zr0, zr1, zr2, zr3, zr4, zr5]) rfl ⟨⟨true, x, y, false, 0, (1 + s)⟩, rfl, C.more (by omega), A.out⟩
    · obtain ⟨ql, hql⟩ : ∃ z, w8.heap.size = z := ⟨_, rfl⟩
      obtain ⟨w9, hNw9⟩ : ∃ W, w8.alloc (.cells #[.int .i64 0, .int .i64 1, .int .i64 1001] 3) = W := ⟨_, rfl⟩
      have hb : Below w8.heap.size w8 w9 := by rw [← hNw9]; exact bel_alloc (Below.refl _ _) _
      have hleql : Hid (z + 1 ≤ ql) := by unfold Hid; rw [← hql]; exact LB.out
      replace br := (hb.block (z) (lt_of_block br)).trans br
      replace bh := (hb.block (q) (lt_of_block bh)).trans bh
      replace C := C.kept hb
      replace A : Hid (Aft B g w w9) := aft_step A.out hb (Nat.le_trans HC.out.2 (Nat.le_of_lt HC.out.1))
      replace LB : Hid (z + 1 ≤ w9.heap.size) := Nat.le_trans LB.out hb.size
      have bl : w9.heap[ql]? = some (.cells #[.int .i64 0, .int .i64 1, .int .i64 1001] 3 (0, 0)) := by rw [← hNw9, ← hql]; exact heap_alloc_new _ _
      clear hb
      have hr := row_new w8 [.int .i64 0, .int .i64 1, .int .i64 1001] 3 (by decide)
      rw [hql] at hr
      rw [show (w8.alloc (.cells [Value.int .i64 0, .int .i64 1, .int .i64 1001].toArray 3)) = w9 from hNw9] at hr
      have hqg : ql ≠ g := by have h3 := hleql.out; have h1 := HC.out; have h2 := HZ.out; omega
      have hql2 := lt_of_block bl
      go_wp2_with fail
      clear hNw9 hql
      refine (curAmong ql 3 (by omega) (by omega) g a n cap B (m + 2 + 2 + 2 + 2 + 2) (hid_le (by have := hm.out; omega)) w9 C hr hql2 hqg).mono ?_
      clear hr hqg hql2
      rintro e w10 ⟨v, _, _, rfl, C1, ha⟩
      replace br := (ha.blk (z) (by have h1 := HC.out; have h2 := HZ.out; omega) (lt_of_block br)).trans br
      replace bh := (ha.blk (q) (by have h3 := hleq.out; have h1 := HC.out; have h2 := HZ.out; omega) (lt_of_block bh)).trans bh
      replace bl := (ha.blk (ql) (by have h3 := hleql.out; have h1 := HC.out; have h2 := HZ.out; omega) (lt_of_block bl)).trans bl
      replace A : Hid (Aft B g w w10) := A.out.trans ha
      replace LB : Hid (z + 1 ≤ w10.heap.size) := Nat.le_trans LB.out ha.size
      clear ha C
      have C := C1
      clear C1
      have ph0x5 : w10.cell? ⟨q, 0, none⟩ = some (.bool true) := (cell_of_block bh 0).trans rfl
      have ph1x5 : w10.cell? ⟨q, 1, none⟩ = some (.int .i64 x) := (cell_of_block bh 1).trans rfl
      have ph2x5 : w10.cell? ⟨q, 2, none⟩ = some (.int .i64 y) := (cell_of_block bh 2).trans rfl
      have ph3x5 : w10.cell? ⟨q, 3, none⟩ = some (.bool false) := (cell_of_block bh 3).trans rfl
      have ph4x5 : w10.cell? ⟨q, 4, none⟩ = some (.int .i64 0) := (cell_of_block bh 4).trans rfl
      have ph5x5 : w10.cell? ⟨q, 5, none⟩ = some (.int .i64 (1 + s)) := (cell_of_block bh 5).trans rfl
      have ph0x6 : w10.cell? ⟨q, 0, none⟩ = some (.bool true) := (cell_of_block bh 0).trans rfl
      have ph1x6 : w10.cell? ⟨q, 1, none⟩ = some (.int .i64 x) := (cell_of_block bh 1).trans rfl
      have ph2x6 : w10.cell? ⟨q, 2, none⟩ = some (.int .i64 y) := (cell_of_block bh 2).trans rfl
      have ph3x6 : w10.cell? ⟨q, 3, none⟩ = some (.bool false) := (cell_of_block bh 3).trans rfl
      have ph4x6 : w10.cell? ⟨q, 4, none⟩ = some (.int .i64 0) := (cell_of_block bh 4).trans rfl
      have ph5x6 : w10.cell? ⟨q, 5, none⟩ = some (.int .i64 (1 + s)) := (cell_of_block bh 5).trans rfl
      have fh0x6 := free_of_block bh 0
      have fh1x6 := free_of_block bh 1
      have fh2x6 := free_of_block bh 2
      have fh3x6 := free_of_block bh 3
      have fh4x6 := free_of_block bh 4
      have fh5x6 := free_of_block bh 5
      obtain ⟨w11, hNw11⟩ : ∃ G, (w10.setCell ⟨q, 5, none⟩ (.int .i64 v)) = G := ⟨_, rfl⟩
      obtain ⟨s1, s2, s3, s4⟩ := set1T bh 5 (.int .i64 v) hNw11
      replace s1 : w11.heap[q]? = some (.cells #[.bool true, .int .i64 x, .int .i64 y, .bool false, .int .i64 0, .int .i64 v] 28 (0, 0)) := s1
      replace br := (s2 (z) (by have h3 := hleq.out; omega)).trans br
      replace bl := (s2 (ql) (fun e => by have e2 := bl; rw [e] at e2; rw [bh] at e2; cases e2)).trans bl
      have hsl : w.heap.size ≤ q := by have h3 := hleq.out; have h1 := HC.out; have h2 := HZ.out; omega
      have hs : Below w.heap.size w10 w11 := s4 _ _ hsl (Below.refl _ _)
      replace C := cur_upto C hs HC.out.1
      replace A : Hid (Aft B g w w11) := aft_upto A.out hs (Nat.le_trans HC.out.2 (Nat.le_of_lt HC.out.1))
      replace LB : Hid (z + 1 ≤ w11.heap.size) := by unfold Hid; rw [s3]; exact LB.out
      replace bh := s1
      clear s1 s2 s3 s4 hs hsl
      have ph0x7 : w11.cell? ⟨q, 0, none⟩ = some (.bool true) := (cell_of_block bh 0).trans rfl
      have ph1x7 : w11.cell? ⟨q, 1, none⟩ = some (.int .i64 x) := (cell_of_block bh 1).trans rfl
      have ph2x7 : w11.cell? ⟨q, 2, none⟩ = some (.int .i64 y) := (cell_of_block bh 2).trans rfl
      have ph3x7 : w11.cell? ⟨q, 3, none⟩ = some (.bool false) := (cell_of_block bh 3).trans rfl
      have ph4x7 : w11.cell? ⟨q, 4, none⟩ = some (.int .i64 0) := (cell_of_block bh 4).trans rfl
      have ph5x7 : w11.cell? ⟨q, 5, none⟩ = some (.int .i64 v) := (cell_of_block bh 5).trans rfl
      have pr0x8 : w11.cell? ⟨z, 0, none⟩ = some (.bool false) := (cell_of_block br 0).trans rfl
      have pr1x8 : w11.cell? ⟨z, 1, none⟩ = some (.int .i64 0) := (cell_of_block br 1).trans rfl
      have pr2x8 : w11.cell? ⟨z, 2, none⟩ = some (.int .i64 0) := (cell_of_block br 2).trans rfl
      have pr3x8 : w11.cell? ⟨z, 3, none⟩ = some (.bool false) := (cell_of_block br 3).trans rfl
      have pr4x8 : w11.cell? ⟨z, 4, none⟩ = some (.int .i64 0) := (cell_of_block br 4).trans rfl
      have pr5x8 : w11.cell? ⟨z, 5, none⟩ = some (.int .i64 0) := (cell_of_block br 5).trans rfl
      have fr0x8 := free_of_block br 0
      have fr1x8 := free_of_block br 1
      have fr2x8 := free_of_block br 2
      have fr3x8 := free_of_block br 3
      have fr4x8 := free_of_block br 4
      have fr5x8 := free_of_block br 5
      obtain ⟨w12, hNw12⟩ : ∃ G, ((((((w11.setCell ⟨z, 0, none⟩ (.bool true)).setCell ⟨z, 1, none⟩ (.int .i64 x)).setCell ⟨z, 2, none⟩ (.int .i64 y)).setCell ⟨z, 3, none⟩ (.bool false)).setCell ⟨z, 4, none⟩ (.int .i64 0)).setCell ⟨z, 5, none⟩ (.int .i64 v)) = G := ⟨_, rfl⟩
      obtain ⟨s1, s2, s3, s4⟩ := set6T br _ _ _ _ _ _ hNw12
      replace bh := (s2 (q) (by have h3 := hleq.out; omega)).trans bh
      replace bl := (s2 (ql) (by have h3 := hleql.out; omega)).trans bl
      have hsl : w.heap.size ≤ z := by have h1 := HC.out; have h2 := HZ.out; omega
      have hs : Below w.heap.size w11 w12 := s4 _ _ hsl (Below.refl _ _)
      replace C := cur_upto C hs HC.out.1
      replace A : Hid (Aft B g w w12) := aft_upto A.out hs (Nat.le_trans HC.out.2 (Nat.le_of_lt HC.out.1))
      replace LB : Hid (z + 1 ≤ w12.heap.size) := by unfold Hid; rw [s3]; exact LB.out
      replace br := s1
      clear s1 s2 s3 s4 hs hsl
      have zr0 : w12.cell? ⟨z, 0, none⟩ = some (.bool true) := (cell_of_block br 0).trans rfl
      have zr1 : w12.cell? ⟨z, 1, none⟩ = some (.int .i64 x) := (cell_of_block br 1).trans rfl
      have zr2 : w12.cell? ⟨z, 2, none⟩ = some (.int .i64 y) := (cell_of_block br 2).trans rfl
      have zr3 : w12.cell? ⟨z, 3, none⟩ = some (.bool false) := (cell_of_block br 3).trans rfl
      have zr4 : w12.cell? ⟨z, 4, none⟩ = some (.int .i64 0) := (cell_of_block br 4).trans rfl
      have zr5 : w12.cell? ⟨z, 5, none⟩ = some (.int .i64 v) := (cell_of_block br 5).trans rfl
      go_wp2
      exact bodyPost_ret (v := .agg #[.bool true, .int .i64 x, .int .i64 y, .bool false, .int .i64 0, .int .i64 v]) (by simp [results, Try.results19, go_sem, zr0, zr1, zr2, zr3, zr4, zr5]) rfl ⟨⟨true, x, y, false, 0, v⟩, rfl, C.more (by omega), A.out⟩
  · have ph3x2 : w5.cell? ⟨q, 3, none⟩ = some (.bool true) := (cell_of_block bh 3).trans rfl
    go_wp2_with fail
    clear hNw4 hq ph0x1 ph1x1 ph2x1 ph3x1 ph4x1 ph5x1 fh0x1 fh1x1 fh2x1 fh3x1 fh4x1 fh5x1 hNw5 ph3x2
    refine (curOne 30 (by omega) (by omega) g a n cap B (m + 2 + 2 + 2) (hid_le (by have := hm.out; omega)) w5 C).mono ?_
    rintro e w6 ⟨b, rfl, C1, ha⟩
    replace br := (ha.blk (z) (by have h1 := HC.out; have h2 := HZ.out; omega) (lt_of_block br)).trans br
    replace bh := (ha.blk (q) (by have h3 := hleq.out; have h1 := HC.out; have h2 := HZ.out; omega) (lt_of_block bh)).trans bh
    replace A : Hid (Aft B g w w6) := A.out.trans ha
    replace LB : Hid (z + 1 ≤ w6.heap.size) := Nat.le_trans LB.out ha.size
    clear ha C
    have C := C1
    clear C1
    cases b
    · have ph0x3 : w6.cell? ⟨q, 0, none⟩ = some (.bool true) := (cell_of_block bh 0).trans rfl
      have ph1x3 : w6.cell? ⟨q, 1, none⟩ = some (.int .i64 x) := (cell_of_block bh 1).trans rfl
      have ph2x3 : w6.cell? ⟨q, 2, none⟩ = some (.int .i64 y) := (cell_of_block bh 2).trans rfl
      have ph3x3 : w6.cell? ⟨q, 3, none⟩ = some (.bool true) := (cell_of_block bh 3).trans rfl
      have ph4x3 : w6.cell? ⟨q, 4, none⟩ = some (.int .i64 0) := (cell_of_block bh 4).trans rfl
      have ph5x3 : w6.cell? ⟨q, 5, none⟩ = some (.int .i64 0) := (cell_of_block bh 5).trans rfl
      have pr0x4 : w6.cell? ⟨z, 0, none⟩ = some (.bool false) := (cell_of_block br 0).trans rfl
      have pr1x4 : w6.cell? ⟨z, 1, none⟩ = some (.int .i64 0) := (cell_of_block br 1).trans rfl
      have pr2x4 : w6.cell? ⟨z, 2, none⟩ = some (.int .i64 0) := (cell_of_block br 2).trans rfl
      have pr3x4 : w6.cell? ⟨z, 3, none⟩ = some (.bool false) := (cell_of_block br 3).trans rfl
      have pr4x4 : w6.cell? ⟨z, 4, none⟩ = some (.int .i64 0) := (cell_of_block br 4).trans rfl
      have pr5x4 : w6.cell? ⟨z, 5, none⟩ = some (.int .i64 0) := (cell_of_block br 5).trans rfl
      have fr0x4 := free_of_block br 0
      have fr1x4 := free_of_block br 1
      have fr2x4 := free_of_block br 2
      have fr3x4 := free_of_block br 3
      have fr4x4 := free_of_block br 4
      have fr5x4 := free_of_block br 5
      obtain ⟨w7, hNw7⟩ : ∃ G, ((((((w6.setCell ⟨z, 0, none⟩ (.bool true)).setCell ⟨z, 1, none⟩ (.int .i64 x)).setCell ⟨z, 2, none⟩ (.int .i64 y)).setCell ⟨z, 3, none⟩ (.bool true)).setCell ⟨z, 4, none⟩ (.int .i64 0)).setCell ⟨z, 5, none⟩ (.int .i64 0)) = G := ⟨_, rfl⟩
      obtain ⟨s1, s2, s3, s4⟩ := set6T br _ _ _ _ _ _ hNw7
      replace bh := (s2 (q) (by have h3 := hleq.out; omega)).trans bh
      have hsl : w.heap.size ≤ z := by have h1 := HC.out; have h2 := HZ.out; omega
      have hs : Below w.heap.size w6 w7 := s4 _ _ hsl (Below.refl _ _)
      replace C := cur_upto C hs HC.out.1
      replace A : Hid (Aft B g w w7) := aft_upto A.out hs (Nat.le_trans HC.out.2 (Nat.le_of_lt HC.out.1))
      replace LB : Hid (z + 1 ≤ w7.heap.size) := by unfold Hid; rw [s3]; exact LB.out
      replace br := s1
      clear s1 s2 s3 s4 hs hsl
      have zr0 : w7.cell? ⟨z, 0, none⟩ = some (.bool true) := (cell_of_block br 0).trans rfl
      have zr1 : w7.cell? ⟨z, 1, none⟩ = some (.int .i64 x) := (cell_of_block br 1).trans rfl
      have zr2 : w7.cell? ⟨z, 2, none⟩ = some (.int .i64 y) := (cell_of_block br 2).trans rfl
      have zr3 : w7.cell? ⟨z, 3, none⟩ = some (.bool true) := (cell_of_block br 3).trans rfl
      have zr4 : w7.cell? ⟨z, 4, none⟩ = some (.int .i64 0) := (cell_of_block br 4).trans rfl
      have zr5 : w7.cell? ⟨z, 5, none⟩ = some (.int .i64 0) := (cell_of_block br 5).trans rfl
      go_wp2
      exact bodyPost_ret (v := .agg #[.bool true, .int .i64 x, .int .i64 y, .bool true, .int .i64 0, .int .i64 0]) (by simp [results, Try.results19, go_sem, zr0, zr1, zr2, zr3, zr4, zr5]) rfl ⟨⟨true, x, y, true, 0, 0⟩, rfl, C.more (by omega), A.out⟩
    · obtain ⟨ql, hql⟩ : ∃ z, w6.heap.size = z := ⟨_, rfl⟩
      obtain ⟨w7, hNw7⟩ : ∃ W, w6.alloc (.cells #[.int .i64 0, .int .i64 1, .int .i64 1001] 3) = W := ⟨_, rfl⟩
      have hb : Below w6.heap.size w6 w7 := by rw [← hNw7]; exact bel_alloc (Below.refl _ _) _
      have hleql : Hid (z + 1 ≤ ql) := by unfold Hid; rw [← hql]; exact LB.out
      replace br := (hb.block (z) (lt_of_block br)).trans br
      replace bh := (hb.block (q) (lt_of_block bh)).trans bh
      replace C := C.kept hb
      replace A : Hid (Aft B g w w7) := aft_step A.out hb (Nat.le_trans HC.out.2 (Nat.le_of_lt HC.out.1))
      replace LB : Hid (z + 1 ≤ w7.heap.size) := Nat.le_trans LB.out hb.size
      have bl : w7.heap[ql]? = some (.cells #[.int .i64 0, .int .i64 1, .int .i64 1001] 3 (0, 0)) := by rw [← hNw7, ← hql]; exact heap_alloc_new _ _
      clear hb
      have hr := row_new w6 [.int .i64 0, .int .i64 1, .int .i64 1001] 3 (by decide)
      rw [hql] at hr
      rw [show (w6.alloc (.cells [Value.int .i64 0, .int .i64 1, .int .i64 1001].toArray 3)) = w7 from hNw7] at hr
      have hqg : ql ≠ g := by have h3 := hleql.out; have h1 := HC.out; have h2 := HZ.out; omega
      have hql2 := lt_of_block bl
      go_wp2_with fail
      clear hNw7 hql
      refine (curAmong ql 3 (by omega) (by omega) g a n cap B (m + 2 + 2 + 2 + 2) (hid_le (by have := hm.out; omega)) w7 C hr hql2 hqg).mono ?_
      clear hr hqg hql2
      rintro e w8 ⟨v, _, _, rfl, C1, ha⟩
      replace br := (ha.blk (z) (by have h1 := HC.out; have h2 := HZ.out; omega) (lt_of_block br)).trans br
      replace bh := (ha.blk (q) (by have h3 := hleq.out; have h1 := HC.out; have h2 := HZ.out; omega) (lt_of_block bh)).trans bh
      replace bl := (ha.blk (ql) (by have h3 := hleql.out; have h1 := HC.out; have h2 := HZ.out; omega) (lt_of_block bl)).trans bl
      replace A : Hid (Aft B g w w8) := A.out.trans ha
      replace LB : Hid (z + 1 ≤ w8.heap.size) := Nat.le_trans LB.out ha.size
      clear ha C
      have C := C1
      clear C1
      have ph0x3 : w8.cell? ⟨q, 0, none⟩ = some (.bool true) := (cell_of_block bh 0).trans rfl
      have ph1x3 : w8.cell? ⟨q, 1, none⟩ = some (.int .i64 x) := (cell_of_block bh 1).trans rfl
      have ph2x3 : w8.cell? ⟨q, 2, none⟩ = some (.int .i64 y) := (cell_of_block bh 2).trans rfl
      have ph3x3 : w8.cell? ⟨q, 3, none⟩ = some (.bool true) := (cell_of_block bh 3).trans rfl
      have ph4x3 : w8.cell? ⟨q, 4, none⟩ = some (.int .i64 0) := (cell_of_block bh 4).trans rfl
      have ph5x3 : w8.cell? ⟨q, 5, none⟩ = some (.int .i64 0) := (cell_of_block bh 5).trans rfl
      have ph0x4 : w8.cell? ⟨q, 0, none⟩ = some (.bool true) := (cell_of_block bh 0).trans rfl
      have ph1x4 : w8.cell? ⟨q, 1, none⟩ = some (.int .i64 x) := (cell_of_block bh 1).trans rfl
      have ph2x4 : w8.cell? ⟨q, 2, none⟩ = some (.int .i64 y) := (cell_of_block bh 2).trans rfl
      have ph3x4 : w8.cell? ⟨q, 3, none⟩ = some (.bool true) := (cell_of_block bh 3).trans rfl
      have ph4x4 : w8.cell? ⟨q, 4, none⟩ = some (.int .i64 0) := (cell_of_block bh 4).trans rfl
      have ph5x4 : w8.cell? ⟨q, 5, none⟩ = some (.int .i64 0) := (cell_of_block bh 5).trans rfl
      have fh0x4 := free_of_block bh 0
      have fh1x4 := free_of_block bh 1
      have fh2x4 := free_of_block bh 2
      have fh3x4 := free_of_block bh 3
      have fh4x4 := free_of_block bh 4
      have fh5x4 := free_of_block bh 5
      obtain ⟨w9, hNw9⟩ : ∃ G, (w8.setCell ⟨q, 5, none⟩ (.int .i64 v)) = G := ⟨_, rfl⟩
      obtain ⟨s1, s2, s3, s4⟩ := set1T bh 5 (.int .i64 v) hNw9
      replace s1 : w9.heap[q]? = some (.cells #[.bool true, .int .i64 x, .int .i64 y, .bool true, .int .i64 0, .int .i64 v] 28 (0, 0)) := s1
      replace br := (s2 (z) (by have h3 := hleq.out; omega)).trans br
      replace bl := (s2 (ql) (fun e => by have e2 := bl; rw [e] at e2; rw [bh] at e2; cases e2)).trans bl
      have hsl : w.heap.size ≤ q := by have h3 := hleq.out; have h1 := HC.out; have h2 := HZ.out; omega
      have hs : Below w.heap.size w8 w9 := s4 _ _ hsl (Below.refl _ _)
      replace C := cur_upto C hs HC.out.1
      replace A : Hid (Aft B g w w9) := aft_upto A.out hs (Nat.le_trans HC.out.2 (Nat.le_of_lt HC.out.1))
      replace LB : Hid (z + 1 ≤ w9.heap.size) := by unfold Hid; rw [s3]; exact LB.out
      replace bh := s1
      clear s1 s2 s3 s4 hs hsl
      have ph0x5 : w9.cell? ⟨q, 0, none⟩ = some (.bool true) := (cell_of_block bh 0).trans rfl
      have ph1x5 : w9.cell? ⟨q, 1, none⟩ = some (.int .i64 x) := (cell_of_block bh 1).trans rfl
      have ph2x5 : w9.cell? ⟨q, 2, none⟩ = some (.int .i64 y) := (cell_of_block bh 2).trans rfl
      have ph3x5 : w9.cell? ⟨q, 3, none⟩ = some (.bool true) := (cell_of_block bh 3).trans rfl
      have ph4x5 : w9.cell? ⟨q, 4, none⟩ = some (.int .i64 0) := (cell_of_block bh 4).trans rfl
      have ph5x5 : w9.cell? ⟨q, 5, none⟩ = some (.int .i64 v) := (cell_of_block bh 5).trans rfl
      have pr0x6 : w9.cell? ⟨z, 0, none⟩ = some (.bool false) := (cell_of_block br 0).trans rfl
      have pr1x6 : w9.cell? ⟨z, 1, none⟩ = some (.int .i64 0) := (cell_of_block br 1).trans rfl
      have pr2x6 : w9.cell? ⟨z, 2, none⟩ = some (.int .i64 0) := (cell_of_block br 2).trans rfl
      have pr3x6 : w9.cell? ⟨z, 3, none⟩ = some (.bool false) := (cell_of_block br 3).trans rfl
      have pr4x6 : w9.cell? ⟨z, 4, none⟩ = some (.int .i64 0) := (cell_of_block br 4).trans rfl
      have pr5x6 : w9.cell? ⟨z, 5, none⟩ = some (.int .i64 0) := (cell_of_block br 5).trans rfl
      have fr0x6 := free_of_block br 0
      have fr1x6 := free_of_block br 1
      have fr2x6 := free_of_block br 2
      have fr3x6 := free_of_block br 3
      have fr4x6 := free_of_block br 4
      have fr5x6 := free_of_block br 5
      obtain ⟨w10, hNw10⟩ : ∃ G, ((((((w9.setCell ⟨z, 0, none⟩ (.bool true)).setCell ⟨z, 1, none⟩ (.int .i64 x)).setCell ⟨z, 2, none⟩ (.int .i64 y)).setCell ⟨z, 3, none⟩ (.bool true)).setCell ⟨z, 4, none⟩ (.int .i64 0)).setCell ⟨z, 5, none⟩ (.int .i64 v)) = G := ⟨_, rfl⟩
      obtain ⟨s1, s2, s3, s4⟩ := set6T br _ _ _ _ _ _ hNw10
      replace bh := (s2 (q) (by have h3 := hleq.out; omega)).trans bh
      replace bl := (s2 (ql) (by have h3 := hleql.out; omega)).trans bl
      have hsl : w.heap.size ≤ z := by have h1 := HC.out; have h2 := HZ.out; omega
      have hs : Below w.heap.size w9 w10 := s4 _ _ hsl (Below.refl _ _)
      replace C := cur_upto C hs HC.out.1
      replace A : Hid (Aft B g w w10) := aft_upto A.out hs (Nat.le_trans HC.out.2 (Nat.le_of_lt HC.out.1))
      replace LB : Hid (z + 1 ≤ w10.heap.size) := by unfold Hid; rw [s3]; exact LB.out
      replace br := s1
      clear s1 s2 s3 s4 hs hsl
      have zr0 : w10.cell? ⟨z, 0, none⟩ = some (.bool true) := (cell_of_block br 0).trans rfl
      have zr1 : w10.cell? ⟨z, 1, none⟩ = some (.int .i64 x) := (cell_of_block br 1).trans rfl
      have zr2 : w10.cell? ⟨z, 2, none⟩ = some (.int .i64 y) := (cell_of_block br 2).trans rfl
      have zr3 : w10.cell? ⟨z, 3, none⟩ = some (.bool true) := (cell_of_block br 3).trans rfl
      have zr4 : w10.cell? ⟨z, 4, none⟩ = some (.int .i64 0) := (cell_of_block br 4).trans rfl
      have zr5 : w10.cell? ⟨z, 5, none⟩ = some (.int .i64 v) := (cell_of_block br 5).trans rfl
      go_wp2
      exact bodyPost_ret (v := .agg #[.bool true, .int .i64 x, .int .i64 y, .bool true, .int .i64 0, .int .i64 v]) (by simp [results, Try.results19, go_sem, zr0, zr1, zr2, zr3, zr4, zr5]) rfl ⟨⟨true, x, y, true, 0, v⟩, rfl, C.more (by omega), A.out⟩

end Go.Proofs.Ytjielcilcningaa
