/-
  What is drawn for FindHandle and LendHandle. (Made by a generator.)
-/
import Derived.Test.YtjielcilcningaaTD3
namespace Go.Proofs.Ytjielcilcningaa
open Go.ChangeShapes Go.WideShapes Go.ChangeAt Go.RowKit

theorem sum_facts (n : Nat) (h : n ≤ 900) : wrap64 ((n : Int) + 2) = (n : Int) + 2 ∧ wrap64 ((n : Int) - 1) = (n : Int) - 1 := by
  unfold wrap64
  omega
theorem less_one (r : Int) (h0 : 0 ≤ r) (h1 : r ≤ 1000) : wrap64 (r - 1) = r - 1 := by
  unfold wrap64
  omega

set_option maxRecDepth 100000 in
set_option maxHeartbeats 1600000 in
theorem drawFind (a : Option Addr) (n cap : Nat) (w : World) (hb : Bys w a n w.heap.size) :
    Calls Try.prog 31 #[.slice a n cap] w fun e w' => ∃ S F v u x res, e = .returned (.tuple #[.agg #[v, u], .int .i64 x, .int .i64 res]) ∧ Hid (TabO w.heap.size w' v u S F ∧ Small S F 100) ∧ Below w.heap.size w w' := by
  have C := cur_newT _ a n cap 48 (bysS_alloc hb (.cells #[.slice none 0 0, .slice none 0 0] 26))
  obtain ⟨z, hz⟩ : ∃ z, w.heap.size = z := ⟨_, rfl⟩
  obtain ⟨g, hg⟩ : ∃ g, z + 1 = g := ⟨_, rfl⟩
  have e1 : (w.alloc (.cells #[.slice none 0 0, .slice none 0 0] 26)).heap.size = g := by simp [hz, hg]
  rw [e1] at C
  obtain ⟨V, hV⟩ : ∃ W, (w.alloc (.cells #[.slice none 0 0, .slice none 0 0] 26)).alloc (.cells #[.slice a n cap, .int .i64 0, .int .u64 0] 48) = W := ⟨_, rfl⟩
  have HB : Hid (Below w.heap.size w V) := by unfold Hid; rw [← hV]; exact bel_alloc (bel_alloc (Below.refl _ _) _) _
  have br : V.heap[z]? = some (.cells #[.slice none 0 0, .slice none 0 0] 26 (0, 0)) := by
    have h := heap_alloc_new w (.cells #[.slice none 0 0, .slice none 0 0] 26)
    rw [hz] at h
    replace h := (Below.heap_alloc _ (.cells #[.slice a n cap, .int .i64 0, .int .u64 0] 48) _ (lt_of_block h)).trans h
    rw [← hV]; exact h
  rw [hV] at C
  have HG : Hid (w.heap.size = z ∧ z + 1 = g) := ⟨hz, hg⟩
  have LB : Hid (g + 1 ≤ V.heap.size) := by unfold Hid; rw [← hV]; simp [hz, hg]
  clear e1
  go_enter Try.func31, Try.ntmps31
  go_wp2_with fail
  clear hV hz hg
  refine (curTable g a n cap g 0 (hid_le (by omega)) V C).mono ?_
  rintro e w1 ⟨S, F, v, u, rfl, HT, C1, ha⟩
  obtain ⟨rt, ct, ut, dt, rfl, rfl, _, _, _⟩ := HT.out.1.shape2
  have HS : Hid (Small S F 100) := HT.out.2
  replace HT : Hid (TabO (g + 1) w1 (.slice rt S.length ct) (.slice ut F.length dt) S F) := HT.out.1.base LB.out
  replace br := (ha.blk (z) (by have := HG.out; omega) (lt_of_block br)).trans br
  replace HB : Hid (Below w.heap.size w w1) := HB.out.trans (ha.below.mono (by have := HG.out; omega))
  replace LB : Hid (g + 1 ≤ w1.heap.size) := Nat.le_trans LB.out ha.size
  clear ha C
  have C := C1
  clear C1
  obtain ⟨y, hy⟩ : ∃ z, w1.heap.size = z := ⟨_, rfl⟩
  obtain ⟨w2, hNw2⟩ : ∃ W, w1.alloc (.cells #[.slice rt S.length ct, .slice ut F.length dt] 26) = W := ⟨_, rfl⟩
  have hb : Below w1.heap.size w1 w2 := by rw [← hNw2]; exact bel_alloc (Below.refl _ _) _
  have hgy : g + 1 ≤ y := by rw [← hy]; exact LB.out
  replace br := (hb.block (z) (lt_of_block br)).trans br
  replace HT : Hid (TabO (g + 1) w2 (.slice rt S.length ct) (.slice ut F.length dt) S F) := HT.out.below hb
  replace C := C.kept hb
  replace HB : Hid (Below w.heap.size w w2) := bel_step HB.out hb
  replace LB : Hid (g + 1 ≤ w2.heap.size) := Nat.le_trans LB.out hb.size
  have bt : w2.heap[y]? = some (.cells #[.slice rt S.length ct, .slice ut F.length dt] 26 (0, 0)) := by rw [← hNw2, ← hy]; exact heap_alloc_new _ _
  replace HG : Hid (w.heap.size = z ∧ z + 1 = g ∧ g + 1 ≤ y) := ⟨HG.out.1, HG.out.2, hgy⟩
  clear hb hgy
  obtain ⟨hs1, hs2⟩ := sum_facts S.length (by have := HS.out.1; omega)
  obtain ⟨M, hM⟩ : ∃ M : Int, (S.length : Int) + 2 = M := ⟨_, rfl⟩
  replace hs1 : wrap64 ((S.length : Int) + 2) = M := hs1.trans hM
  have HM : Hid ((S.length : Int) + 2 = M ∧ S.length ≤ 100) := ⟨hM, HS.out.1⟩
  have HW : Hid (wrap64 ((S.length : Int) - 1) = (S.length : Int) - 1) := hs2
  clear hs2 hM
  have pt0x1 : w2.cell? ⟨y, 0, none⟩ = some (.slice rt S.length ct) := (cell_of_block bt 0).trans rfl
  go_wp2_with fail
  try rw [hs1]
  clear hNw2 hy pt0x1 hs1
  refine (curPick M (by have := HM.out; omega) (by have := HM.out; omega) g a n cap g (0 + 2000) (hid_le (by omega)) w2 C).mono ?_
  rintro e w3 ⟨r, r0, r1, rfl, C1, ha⟩
  replace br := (ha.blk (z) (by have := HG.out; omega) (lt_of_block br)).trans br
  replace bt := (ha.blk (y) (by have := HG.out; omega) (lt_of_block bt)).trans bt
  replace HT : Hid (TabO (g + 1) w3 (.slice rt S.length ct) (.slice ut F.length dt) S F) := HT.out.same (fun q h1 h2 => ha.blk q (by omega) h2)
  replace HB : Hid (Below w.heap.size w w3) := HB.out.trans (ha.below.mono (by have := HG.out; omega))
  replace LB : Hid (g + 1 ≤ w3.heap.size) := Nat.le_trans LB.out ha.size
  clear ha C
  have C := C1
  clear C1
  have hw := less_one r r0 (by have := HM.out; omega)
  obtain ⟨x, hx⟩ : ∃ x : Int, r - 1 = x := ⟨_, rfl⟩
  replace hw : wrap64 (r - 1) = x := hw.trans hx
  have HX : Hid (-1 ≤ x ∧ x ≤ (S.length : Int)) := by unfold Hid; have := HM.out; omega
  clear hx r0 r1
  obtain ⟨t, ht⟩ : ∃ t, (decide (0 ≤ x) && decide (x ≤ (S.length : Int) - 1)) = t := ⟨_, rfl⟩
  have HT0 : Hid ((decide (0 ≤ x) && decide (x ≤ (S.length : Int) - 1)) = t) := ht
  clear ht
  have pt0x2 : w3.cell? ⟨y, 0, none⟩ = some (.slice rt S.length ct) := (cell_of_block bt 0).trans rfl
  have hs2 := HW.out
  have K := in_eq x 0 ((S.length : Int) - 1) t HT0 w3
  go_wp2_with fail
  try rw [hw]
  try rw [hs2]
  clear pt0x2
  refine K.mono ?_
  rintro e w' ⟨rfl, hw'⟩
  obtain rfl := hw'.symm
  clear hw' K hw hs2
  cases t
  · go_wp2
    refine wh_begin (fun w' : World => w'.heap[y]? = some (.cells #[.slice rt S.length ct, .slice ut F.length dt] 26 (0, 0))) (by kernel_rfl) ?_
    obtain ⟨w4, hD⟩ : ∃ W, w3.drew = W := ⟨_, rfl⟩
    have hb : Below w3.heap.size w3 w4 := by rw [← hD]; exact (Below.refl _ _).drew
    rw [hD]
    replace br := (hb.block (z) (lt_of_block br)).trans br
    replace bt := (hb.block (y) (lt_of_block bt)).trans bt
    replace HT : Hid (TabO (g + 1) w4 (.slice rt S.length ct) (.slice ut F.length dt) S F) := HT.out.below hb
    replace C := C.kept hb
    replace HB : Hid (Below w.heap.size w w4) := bel_step HB.out hb
    replace LB : Hid (g + 1 ≤ w4.heap.size) := Nat.le_trans LB.out hb.size
    clear hb hD
    refine wh_take 0 (some 39) (.agg #[.slice rt S.length ct, .slice ut F.length dt]) rfl rfl (by kernel_rfl) (by kernel_rfl) (by kernel_rfl) (fun _ _ _ h => h) bt (by rfl) (fun w' hS => by have q0 : w'.cell? ⟨y, 0, none⟩ = some (.slice rt S.length ct) := (cell_of_block hS 0).trans rfl; have q1 : w'.cell? ⟨y, 1, none⟩ = some (.slice ut F.length dt) := (cell_of_block hS 1).trans rfl; clear hS; go_simp) ?_
    simp only [Act.put, List.setIfInBounds_toArray, List.set_cons_zero, List.set_cons_succ]
    refine wh_take 1 (some 40) (.int .i64 x) rfl rfl (by kernel_rfl) (by kernel_rfl) (by kernel_rfl) (fun _ _ _ h => h) bt (by rfl) (fun w' hS => by kernel_rfl) ?_
    simp only [Act.put, List.setIfInBounds_toArray, List.set_cons_zero, List.set_cons_succ]
    refine wh_take 2 (some 41) (.pointer (some ⟨g, 0, none⟩)) rfl rfl (by kernel_rfl) (by kernel_rfl) (by kernel_rfl) (fun _ _ _ h => h) bt (by rfl) (fun w' hS => by kernel_rfl) ?_
    simp only [Act.put, List.setIfInBounds_toArray, List.set_cons_zero, List.set_cons_succ]
    refine wh_call 3 (some 42) 34 #[.pointer (some ⟨g, 0, none⟩), .int .i64 4] (by kernel_rfl) rfl rfl (by rfl) (by kernel_rfl) ?_
    refine (curPick 4 (by omega) (by omega) g a n cap g _ (hid_le (by omega)) w4 C).mono ?_
    rintro e w5 ⟨k, _, _, rfl, C1, ha⟩
    replace br := (ha.blk (z) (by have := HG.out; omega) (lt_of_block br)).trans br
    replace bt := (ha.blk (y) (by have := HG.out; omega) (lt_of_block bt)).trans bt
    replace HT : Hid (TabO (g + 1) w5 (.slice rt S.length ct) (.slice ut F.length dt) S F) := HT.out.same (fun q h1 h2 => ha.blk q (by omega) h2)
    replace HB : Hid (Below w.heap.size w w5) := HB.out.trans (ha.below.mono (by have := HG.out; omega))
    replace LB : Hid (g + 1 ≤ w5.heap.size) := Nat.le_trans LB.out ha.size
    clear ha C
    have C := C1
    clear C1
    refine ⟨_, rfl, bt, ?_⟩
    simp only [Act.put, List.setIfInBounds_toArray, List.set_cons_zero, List.set_cons_succ]
    have pr0x3 : w5.cell? ⟨z, 0, none⟩ = some (.slice none 0 0) := (cell_of_block br 0).trans rfl
    have pr1x3 : w5.cell? ⟨z, 1, none⟩ = some (.slice none 0 0) := (cell_of_block br 1).trans rfl
    have fr0x3 := free_of_block br 0
    have fr1x3 := free_of_block br 1
    obtain ⟨w6, hNw6⟩ : ∃ G, ((w5.setCell ⟨z, 0, none⟩ (.slice rt S.length ct)).setCell ⟨z, 1, none⟩ (.slice ut F.length dt)) = G := ⟨_, rfl⟩
    obtain ⟨s1, s2, s3, s4⟩ := set2T br _ _ hNw6
    replace bt := (s2 y (by have := HG.out; omega)).trans bt
    replace HT : Hid (TabO (g + 1) w6 (.slice rt S.length ct) (.slice ut F.length dt) S F) := HT.out.same (fun q h1 _ => s2 q (by have := HG.out; omega))
    replace HB : Hid (Below w.heap.size w w6) := s4 _ _ (by have := HG.out; omega) HB.out
    replace br := s1
    clear s1 s2 s3 s4
    refine wh_skip 4 none w6 (by kernel_rfl) rfl rfl (by rfl) (by rw [← hNw6]; go_simp) bt ?_
    simp only [Act.put]
    clear pr0x3 pr1x3 fr0x3 fr1x3 hNw6
    refine wh_val 5 (some 3) (.int .i64 x) w6 (by kernel_rfl) rfl rfl (by rfl) (by rfl) bt ?_
    simp only [Act.put, List.setIfInBounds_toArray, List.set_cons_zero, List.set_cons_succ]
    refine wh_val 6 (some 4) (.int .i64 k) w6 (by kernel_rfl) rfl rfl (by rfl) (by rfl) bt ?_
    simp only [Act.put, List.setIfInBounds_toArray, List.set_cons_zero, List.set_cons_succ]
    refine wh_done (by kernel_rfl) ?_
    have z0 : w6.cell? ⟨z, 0, none⟩ = some (.slice rt S.length ct) := (cell_of_block br 0).trans rfl
    have z1 : w6.cell? ⟨z, 1, none⟩ = some (.slice ut F.length dt) := (cell_of_block br 1).trans rfl
    go_wp2
    exact bodyPost_ret (v := .tuple #[.agg #[.slice rt S.length ct, .slice ut F.length dt], .int .i64 x, .int .i64 k]) (by simp [results, Try.results31, go_sem, z0, z1]) rfl ⟨S, F, _, _, x, k, rfl, ⟨HT.out.base (by have := HG.out; omega), HS.out⟩, HB.out⟩
  · go_wp2_with fail
    refine (curOne 4 (by omega) (by omega) g a n cap g (0 + 2000 + 2) (hid_le (by omega)) w3 C).mono ?_
    rintro e w4 ⟨b, rfl, C1, ha⟩
    replace br := (ha.blk (z) (by have := HG.out; omega) (lt_of_block br)).trans br
    replace bt := (ha.blk (y) (by have := HG.out; omega) (lt_of_block bt)).trans bt
    replace HT : Hid (TabO (g + 1) w4 (.slice rt S.length ct) (.slice ut F.length dt) S F) := HT.out.same (fun q h1 h2 => ha.blk q (by omega) h2)
    replace HB : Hid (Below w.heap.size w w4) := HB.out.trans (ha.below.mono (by have := HG.out; omega))
    replace LB : Hid (g + 1 ≤ w4.heap.size) := Nat.le_trans LB.out ha.size
    clear ha C
    have C := C1
    clear C1
    cases b
    · have hx : 0 ≤ x ∧ x ≤ (S.length : Int) - 1 := by have h := HT0.out; simp at h; exact h
      obtain ⟨i, rfl⟩ : ∃ i : Nat, x = (i : Int) := ⟨x.toNat, by omega⟩
      have hi : i < S.length := by omega
      clear hx HT0
      obtain ⟨f, hf⟩ : ∃ f, S[i] = f := ⟨_, rfl⟩
      obtain ⟨q, rfl, hq1, hq2⟩ := row_pos HT.out.hds (by omega)
      have prow : w4.cell? ⟨q, i * 6 + 1, none⟩ = some (.int .i64 f.r) := by have h := (tabO_at HT.out i hi).2.1; rw [hf] at h; exact h
      have hi1 : (i : Int) < (S.length : Int) := by omega
      go_wp2
      refine wh_begin (fun w' : World => w'.heap[y]? = some (.cells #[.slice (some ⟨q, 0, none⟩) S.length ct, .slice ut F.length dt] 26 (0, 0)) ∧ w'.cell? ⟨q, i * 6 + 1, none⟩ = some (.int .i64 f.r)) (by kernel_rfl) ?_
      obtain ⟨w5, hD⟩ : ∃ W, w4.drew = W := ⟨_, rfl⟩
      have hb : Below w4.heap.size w4 w5 := by rw [← hD]; exact (Below.refl _ _).drew
      rw [hD]
      replace prow : w5.cell? ⟨q, i * 6 + 1, none⟩ = some (.int .i64 f.r) := (hb.cell (p := ⟨q, i * 6 + 1, none⟩) hq2).trans prow
      replace br := (hb.block (z) (lt_of_block br)).trans br
      replace bt := (hb.block (y) (lt_of_block bt)).trans bt
      replace HT : Hid (TabO (g + 1) w5 (.slice (some ⟨q, 0, none⟩) S.length ct) (.slice ut F.length dt) S F) := HT.out.below hb
      replace C := C.kept hb
      replace HB : Hid (Below w.heap.size w w5) := bel_step HB.out hb
      replace LB : Hid (g + 1 ≤ w5.heap.size) := Nat.le_trans LB.out hb.size
      clear hb hD
      refine wh_take 0 (some 31) (.agg #[.slice (some ⟨q, 0, none⟩) S.length ct, .slice ut F.length dt]) rfl rfl (by kernel_rfl) (by kernel_rfl) (by kernel_rfl) (fun _ _ _ h => h) ⟨bt, prow⟩ (by rfl) (fun w' hS => by have q0 : w'.cell? ⟨y, 0, none⟩ = some (.slice (some ⟨q, 0, none⟩) S.length ct) := (cell_of_block hS.1 0).trans rfl; have q1 : w'.cell? ⟨y, 1, none⟩ = some (.slice ut F.length dt) := (cell_of_block hS.1 1).trans rfl; clear hS; go_simp) ?_
      simp only [Act.put, List.setIfInBounds_toArray, List.set_cons_zero, List.set_cons_succ]
      refine wh_take 1 (some 32) (.int .i64 (i : Int)) rfl rfl (by kernel_rfl) (by kernel_rfl) (by kernel_rfl) (fun _ _ _ h => h) ⟨bt, prow⟩ (by rfl) (fun w' hS => by kernel_rfl) ?_
      simp only [Act.put, List.setIfInBounds_toArray, List.set_cons_zero, List.set_cons_succ]
      refine wh_take 2 (some 33) (.pointer (some ⟨y, 0, none⟩)) rfl rfl (by kernel_rfl) (by kernel_rfl) (by kernel_rfl) (fun _ _ _ h => h) ⟨bt, prow⟩ (by rfl) (fun w' hS => by kernel_rfl) ?_
      simp only [Act.put, List.setIfInBounds_toArray, List.set_cons_zero, List.set_cons_succ]
      refine wh_take 3 (some 34) (.slice (some ⟨q, 0, none⟩) S.length ct) rfl rfl (by kernel_rfl) (by kernel_rfl) (by kernel_rfl) (fun _ _ _ h => h) ⟨bt, prow⟩ (by rfl) (fun w' hS => by have q0 : w'.cell? ⟨y, 0, none⟩ = some (.slice (some ⟨q, 0, none⟩) S.length ct) := (cell_of_block hS.1 0).trans rfl; clear hS; go_simp) ?_
      simp only [Act.put, List.setIfInBounds_toArray, List.set_cons_zero, List.set_cons_succ]
      refine wh_take 4 (some 35) (.int .i64 (i : Int)) rfl rfl (by kernel_rfl) (by kernel_rfl) (by kernel_rfl) (fun _ _ _ h => h) ⟨bt, prow⟩ (by rfl) (fun w' hS => by kernel_rfl) ?_
      simp only [Act.put, List.setIfInBounds_toArray, List.set_cons_zero, List.set_cons_succ]
      refine wh_take 5 (some 36) (.pointer (some ⟨q, i * 6, none⟩)) rfl rfl (by kernel_rfl) (by kernel_rfl) (by kernel_rfl) (fun _ _ _ h => h) ⟨bt, prow⟩ (by rfl) (fun w' hS => by clear hS; go_simp) ?_
      simp only [Act.put, List.setIfInBounds_toArray, List.set_cons_zero, List.set_cons_succ]
      refine wh_take 6 (some 37) (.pointer (some ⟨q, i * 6 + 1, none⟩)) rfl rfl (by kernel_rfl) (by kernel_rfl) (by kernel_rfl) (fun _ _ _ h => h) ⟨bt, prow⟩ (by rfl) (fun w' hS => by clear hS; first | kernel_rfl | go_simp) ?_
      simp only [Act.put, List.setIfInBounds_toArray, List.set_cons_zero, List.set_cons_succ]
      refine wh_take 7 (some 38) (.int .i64 f.r) rfl rfl (by kernel_rfl) (by kernel_rfl) (by kernel_rfl) (fun _ _ _ h => h) ⟨bt, prow⟩ (by rfl) (fun w' hS => by have q2 := hS.2; clear hS; go_simp) ?_
      simp only [Act.put, List.setIfInBounds_toArray, List.set_cons_zero, List.set_cons_succ]
      obtain ⟨x, hx⟩ : ∃ x : Int, (i : Int) = x := ⟨_, rfl⟩
      rw [hx]
      clear hx hi1 hf
      clear HX
      have pr0x3 : w5.cell? ⟨z, 0, none⟩ = some (.slice none 0 0) := (cell_of_block br 0).trans rfl
      have pr1x3 : w5.cell? ⟨z, 1, none⟩ = some (.slice none 0 0) := (cell_of_block br 1).trans rfl
      have fr0x3 := free_of_block br 0
      have fr1x3 := free_of_block br 1
      obtain ⟨w6, hNw6⟩ : ∃ G, ((w5.setCell ⟨z, 0, none⟩ (.slice (some ⟨q, 0, none⟩) S.length ct)).setCell ⟨z, 1, none⟩ (.slice ut F.length dt)) = G := ⟨_, rfl⟩
      obtain ⟨s1, s2, s3, s4⟩ := set2T br _ _ hNw6
      replace bt := (s2 y (by have := HG.out; omega)).trans bt
      replace HT : Hid (TabO (g + 1) w6 (.slice (some ⟨q, 0, none⟩) S.length ct) (.slice ut F.length dt) S F) := HT.out.same (fun q h1 _ => s2 q (by have := HG.out; omega))
      replace HB : Hid (Below w.heap.size w w6) := s4 _ _ (by have := HG.out; omega) HB.out
      replace br := s1
      have prow2 : w6.cell? ⟨q, i * 6 + 1, none⟩ = some (.int .i64 f.r) := (World.cell?_of_block (a := ⟨q, i * 6 + 1, none⟩) (s2 q (by have := HG.out; omega))).trans prow
      clear s1 s2 s3 s4
      refine wh_skip 8 none w6 (by kernel_rfl) rfl rfl (by rfl) (by rw [← hNw6]; go_simp) ⟨bt, prow2⟩ ?_
      simp only [Act.put]
      clear pr0x3 pr1x3 fr0x3 fr1x3 hNw6
      refine wh_val 9 (some 3) (.int .i64 x) w6 (by kernel_rfl) rfl rfl (by rfl) (by rfl) ⟨bt, prow2⟩ ?_
      simp only [Act.put, List.setIfInBounds_toArray, List.set_cons_zero, List.set_cons_succ]
      refine wh_val 10 (some 4) (.int .i64 f.r) w6 (by kernel_rfl) rfl rfl (by rfl) (by rfl) ⟨bt, prow2⟩ ?_
      simp only [Act.put, List.setIfInBounds_toArray, List.set_cons_zero, List.set_cons_succ]
      refine wh_done (by kernel_rfl) ?_
      have z0 : w6.cell? ⟨z, 0, none⟩ = some (.slice (some ⟨q, 0, none⟩) S.length ct) := (cell_of_block br 0).trans rfl
      have z1 : w6.cell? ⟨z, 1, none⟩ = some (.slice ut F.length dt) := (cell_of_block br 1).trans rfl
      go_wp2
      exact bodyPost_ret (v := .tuple #[.agg #[.slice (some ⟨q, 0, none⟩) S.length ct, .slice ut F.length dt], .int .i64 x, .int .i64 f.r]) (by simp [results, Try.results31, go_sem, z0, z1]) rfl ⟨S, F, _, _, x, f.r, rfl, ⟨HT.out.base (by have := HG.out; omega), HS.out⟩, HB.out⟩
    · go_wp2
      refine wh_begin (fun w' : World => w'.heap[y]? = some (.cells #[.slice rt S.length ct, .slice ut F.length dt] 26 (0, 0))) (by kernel_rfl) ?_
      obtain ⟨w5, hD⟩ : ∃ W, w4.drew = W := ⟨_, rfl⟩
      have hb : Below w4.heap.size w4 w5 := by rw [← hD]; exact (Below.refl _ _).drew
      rw [hD]
      replace br := (hb.block (z) (lt_of_block br)).trans br
      replace bt := (hb.block (y) (lt_of_block bt)).trans bt
      replace HT : Hid (TabO (g + 1) w5 (.slice rt S.length ct) (.slice ut F.length dt) S F) := HT.out.below hb
      replace C := C.kept hb
      replace HB : Hid (Below w.heap.size w w5) := bel_step HB.out hb
      replace LB : Hid (g + 1 ≤ w5.heap.size) := Nat.le_trans LB.out hb.size
      clear hb hD
      refine wh_take 0 (some 39) (.agg #[.slice rt S.length ct, .slice ut F.length dt]) rfl rfl (by kernel_rfl) (by kernel_rfl) (by kernel_rfl) (fun _ _ _ h => h) bt (by rfl) (fun w' hS => by have q0 : w'.cell? ⟨y, 0, none⟩ = some (.slice rt S.length ct) := (cell_of_block hS 0).trans rfl; have q1 : w'.cell? ⟨y, 1, none⟩ = some (.slice ut F.length dt) := (cell_of_block hS 1).trans rfl; clear hS; go_simp) ?_
      simp only [Act.put, List.setIfInBounds_toArray, List.set_cons_zero, List.set_cons_succ]
      refine wh_take 1 (some 40) (.int .i64 x) rfl rfl (by kernel_rfl) (by kernel_rfl) (by kernel_rfl) (fun _ _ _ h => h) bt (by rfl) (fun w' hS => by kernel_rfl) ?_
      simp only [Act.put, List.setIfInBounds_toArray, List.set_cons_zero, List.set_cons_succ]
      refine wh_take 2 (some 41) (.pointer (some ⟨g, 0, none⟩)) rfl rfl (by kernel_rfl) (by kernel_rfl) (by kernel_rfl) (fun _ _ _ h => h) bt (by rfl) (fun w' hS => by kernel_rfl) ?_
      simp only [Act.put, List.setIfInBounds_toArray, List.set_cons_zero, List.set_cons_succ]
      refine wh_call 3 (some 42) 34 #[.pointer (some ⟨g, 0, none⟩), .int .i64 4] (by kernel_rfl) rfl rfl (by rfl) (by kernel_rfl) ?_
      refine (curPick 4 (by omega) (by omega) g a n cap g _ (hid_le (by omega)) w5 C).mono ?_
      rintro e w6 ⟨k, _, _, rfl, C1, ha⟩
      replace br := (ha.blk (z) (by have := HG.out; omega) (lt_of_block br)).trans br
      replace bt := (ha.blk (y) (by have := HG.out; omega) (lt_of_block bt)).trans bt
      replace HT : Hid (TabO (g + 1) w6 (.slice rt S.length ct) (.slice ut F.length dt) S F) := HT.out.same (fun q h1 h2 => ha.blk q (by omega) h2)
      replace HB : Hid (Below w.heap.size w w6) := HB.out.trans (ha.below.mono (by have := HG.out; omega))
      replace LB : Hid (g + 1 ≤ w6.heap.size) := Nat.le_trans LB.out ha.size
      clear ha C
      have C := C1
      clear C1
      refine ⟨_, rfl, bt, ?_⟩
      simp only [Act.put, List.setIfInBounds_toArray, List.set_cons_zero, List.set_cons_succ]
      have pr0x3 : w6.cell? ⟨z, 0, none⟩ = some (.slice none 0 0) := (cell_of_block br 0).trans rfl
      have pr1x3 : w6.cell? ⟨z, 1, none⟩ = some (.slice none 0 0) := (cell_of_block br 1).trans rfl
      have fr0x3 := free_of_block br 0
      have fr1x3 := free_of_block br 1
      obtain ⟨w7, hNw7⟩ : ∃ G, ((w6.setCell ⟨z, 0, none⟩ (.slice rt S.length ct)).setCell ⟨z, 1, none⟩ (.slice ut F.length dt)) = G := ⟨_, rfl⟩
      obtain ⟨s1, s2, s3, s4⟩ := set2T br _ _ hNw7
      replace bt := (s2 y (by have := HG.out; omega)).trans bt
      replace HT : Hid (TabO (g + 1) w7 (.slice rt S.length ct) (.slice ut F.length dt) S F) := HT.out.same (fun q h1 _ => s2 q (by have := HG.out; omega))
      replace HB : Hid (Below w.heap.size w w7) := s4 _ _ (by have := HG.out; omega) HB.out
      replace br := s1
      clear s1 s2 s3 s4
      refine wh_skip 4 none w7 (by kernel_rfl) rfl rfl (by rfl) (by rw [← hNw7]; go_simp) bt ?_
      simp only [Act.put]
      clear pr0x3 pr1x3 fr0x3 fr1x3 hNw7
      refine wh_val 5 (some 3) (.int .i64 x) w7 (by kernel_rfl) rfl rfl (by rfl) (by rfl) bt ?_
      simp only [Act.put, List.setIfInBounds_toArray, List.set_cons_zero, List.set_cons_succ]
      refine wh_val 6 (some 4) (.int .i64 k) w7 (by kernel_rfl) rfl rfl (by rfl) (by rfl) bt ?_
      simp only [Act.put, List.setIfInBounds_toArray, List.set_cons_zero, List.set_cons_succ]
      refine wh_done (by kernel_rfl) ?_
      have z0 : w7.cell? ⟨z, 0, none⟩ = some (.slice rt S.length ct) := (cell_of_block br 0).trans rfl
      have z1 : w7.cell? ⟨z, 1, none⟩ = some (.slice ut F.length dt) := (cell_of_block br 1).trans rfl
      go_wp2
      exact bodyPost_ret (v := .tuple #[.agg #[.slice rt S.length ct, .slice ut F.length dt], .int .i64 x, .int .i64 k]) (by simp [results, Try.results31, go_sem, z0, z1]) rfl ⟨S, F, _, _, x, k, rfl, ⟨HT.out.base (by have := HG.out; omega), HS.out⟩, HB.out⟩

set_option maxRecDepth 100000 in
set_option maxHeartbeats 1600000 in
theorem drawLend (a : Option Addr) (n cap : Nat) (w : World) (hb : Bys w a n w.heap.size) :
    Calls Try.prog 13 #[.slice a n cap] w fun e w' => ∃ S F v u x res, e = .returned (.tuple #[.agg #[v, u], .int .i64 x, .int .i64 res]) ∧ Hid (TabO w.heap.size w' v u S F ∧ Small S F 100) ∧ Below w.heap.size w w' := by
  have K := drawFind a n cap _ (bysS_alloc hb (.cells #[.slice none 0 0, .slice none 0 0] 26))
  obtain ⟨z, hz⟩ : ∃ z, w.heap.size = z := ⟨_, rfl⟩
  obtain ⟨V, hV⟩ : ∃ W, w.alloc (.cells #[.slice none 0 0, .slice none 0 0] 26) = W := ⟨_, rfl⟩
  have HB : Hid (Below w.heap.size w V) := by unfold Hid; rw [← hV]; exact bel_alloc (Below.refl _ _) _
  have br : V.heap[z]? = some (.cells #[.slice none 0 0, .slice none 0 0] 26 (0, 0)) := by rw [← hV, ← hz]; exact heap_alloc_new _ _
  rw [hV] at K
  have HZ : Hid (w.heap.size = z ∧ V.heap.size = z + 1) := ⟨hz, by rw [← hV, ← hz]; simp⟩
  go_enter Try.func13, Try.ntmps13
  go_wp2_with fail
  clear hV hz
  refine K.mono ?_
  rintro e w1 ⟨S, F, v, u, x, res, rfl, HT, hb1⟩
  obtain ⟨rt, ct, ut, dt, rfl, rfl, _, _, _⟩ := HT.out.1.shape2
  have HS : Hid (Small S F 100) := HT.out.2
  replace HT : Hid (TabO (z + 1) w1 (.slice rt S.length ct) (.slice ut F.length dt) S F) := by have h := HT.out.1; rw [HZ.out.2] at h; exact h
  replace br := (hb1.block z (lt_of_block br)).trans br
  replace HB : Hid (Below w.heap.size w w1) := bel_step HB.out hb1
  clear hb1 K
  have p0 : w1.cell? ⟨z, 0, none⟩ = some (.slice none 0 0) := (cell_of_block br 0).trans rfl
  have p1 : w1.cell? ⟨z, 1, none⟩ = some (.slice none 0 0) := (cell_of_block br 1).trans rfl
  have f0 := free_of_block br 0
  have f1 := free_of_block br 1
  obtain ⟨w2, hN⟩ : ∃ G, ((w1.setCell ⟨z, 0, none⟩ (.slice rt S.length ct)).setCell ⟨z, 1, none⟩ (.slice ut F.length dt)) = G := ⟨_, rfl⟩
  obtain ⟨s1, s2, s3, s4⟩ := set2T br _ _ hN
  replace HT : Hid (TabO (z + 1) w2 (.slice rt S.length ct) (.slice ut F.length dt) S F) := HT.out.same (fun q h1 _ => s2 q (by omega))
  replace HB : Hid (Below w.heap.size w w2) := s4 _ _ (by have := HZ.out; omega) HB.out
  replace br := s1
  clear s1 s2 s3 s4
  have z0 : w2.cell? ⟨z, 0, none⟩ = some (.slice rt S.length ct) := (cell_of_block br 0).trans rfl
  have z1 : w2.cell? ⟨z, 1, none⟩ = some (.slice ut F.length dt) := (cell_of_block br 1).trans rfl
  go_wp2
  exact bodyPost_ret (v := .tuple #[.agg #[.slice rt S.length ct, .slice ut F.length dt], .int .i64 x, .int .i64 res]) (by simp [results, Try.results13, go_sem, z0, z1]) rfl ⟨S, F, _, _, x, res, rfl, ⟨HT.out.base (by have := HZ.out; omega), HS.out⟩, HB.out⟩

end Go.Proofs.Ytjielcilcningaa
