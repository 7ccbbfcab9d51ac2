/-
  A new handle: the law's side. (Made by a generator.)
-/
import Derived.Test.YtjielcilcningaaTB25
namespace Go.Proofs.Ytjielcilcningaa
open Go.ChangeShapes Go.WideShapes Go.ChangeAt Go.RowKit Go.Maps

set_option maxRecDepth 100000 in
set_option maxHeartbeats 1600000 in
theorem specNew (a b : Option Addr) (c d : Nat) (S : List Hd) (F : List Int) (H : Hd) (S1 : List Hd) (F1 : List Int) (N1 C1 : Int) (w : World) (hS : Hid (Hds w a S)) (hF : Hid (Ints w b F)) (lS : S.length ≤ 1048576) (lF : F.length ≤ 1048576) (hd : F.length ≤ d) (hf : NewR S F H S1 F1 N1 C1) :
    Calls Try.prog 7 #[tabV a S.length c b F.length d, hdV H] w fun e w' => ∃ v u, e = .returned (.tuple #[.agg #[v, u], .int .i64 N1, .int .i64 C1]) ∧ Hid (TabO w.heap.size w' v u S1 F1) ∧ Below w.heap.size w w' := by
  obtain ⟨g, hg⟩ : ∃ g, w.heap.size = g := ⟨_, rfl⟩
  obtain ⟨V, hV⟩ : ∃ W, (((w.alloc (.cells #[.slice a S.length c, .slice b F.length d] 26)).alloc (.cells #[.bool H.u, .int .i64 H.r, .int .i64 H.p, .bool H.o, .int .i64 H.l, .int .i64 H.s] 28)).alloc (.cells #[.slice none 0 0, .slice none 0 0] 26)) = W := ⟨_, rfl⟩
  have hbV : Below w.heap.size w V := by rw [← hV]; exact (bel_alloc (bel_alloc (bel_alloc (Below.refl _ _) _) _) _)
  have hzV : V.heap.size = g + 1 + 1 + 1 := by rw [← hV, ← hg]; simp
  have bt : V.heap[g]? = some (.cells #[.slice a S.length c, .slice b F.length d] 26 (0, 0)) := by
    have h := heap_alloc_new w (.cells #[.slice a S.length c, .slice b F.length d] 26)
    have e : w.heap.size = g := by exact hg
    rw [e] at h
    rw [← hV]
    replace h := (Below.heap_alloc _ (.cells #[.bool H.u, .int .i64 H.r, .int .i64 H.p, .bool H.o, .int .i64 H.l, .int .i64 H.s] 28) _ (lt_of_block h)).trans h
    replace h := (Below.heap_alloc _ (.cells #[.slice none 0 0, .slice none 0 0] 26) _ (lt_of_block h)).trans h
    exact h
  have bq : V.heap[g + 1]? = some (.cells #[.bool H.u, .int .i64 H.r, .int .i64 H.p, .bool H.o, .int .i64 H.l, .int .i64 H.s] 28 (0, 0)) := by
    have h := heap_alloc_new (w.alloc (.cells #[.slice a S.length c, .slice b F.length d] 26)) (.cells #[.bool H.u, .int .i64 H.r, .int .i64 H.p, .bool H.o, .int .i64 H.l, .int .i64 H.s] 28)
    have e : (w.alloc (.cells #[.slice a S.length c, .slice b F.length d] 26)).heap.size = g + 1 := by simp [hg]
    rw [e] at h
    rw [← hV]
    replace h := (Below.heap_alloc _ (.cells #[.slice none 0 0, .slice none 0 0] 26) _ (lt_of_block h)).trans h
    exact h
  have br : V.heap[g + 1 + 1]? = some (.cells #[.slice none 0 0, .slice none 0 0] 26 (0, 0)) := by
    have h := heap_alloc_new ((w.alloc (.cells #[.slice a S.length c, .slice b F.length d] 26)).alloc (.cells #[.bool H.u, .int .i64 H.r, .int .i64 H.p, .bool H.o, .int .i64 H.l, .int .i64 H.s] 28)) (.cells #[.slice none 0 0, .slice none 0 0] 26)
    have e : ((w.alloc (.cells #[.slice a S.length c, .slice b F.length d] 26)).alloc (.cells #[.bool H.u, .int .i64 H.r, .int .i64 H.p, .bool H.o, .int .i64 H.l, .int .i64 H.s] 28)).heap.size = g + 1 + 1 := by simp [hg]
    rw [e] at h
    rw [← hV]
    exact h
  have HBV : Hid (Below w.heap.size w V ∧ w.heap.size = g) := ⟨hbV, hg⟩
  have HB : Hid (Below w.heap.size w V) := hbV
  have LB : Hid (g + 1 + 1 + 1 ≤ V.heap.size) := Nat.le_of_eq hzV.symm
  have GT := specGoodT a b c d S F V (hS.out.below hbV) (hF.out.below hbV) lS lF hd
  have OW : Hid (∀ w', Below w.heap.size w w' → Calls Try.prog 26 #[tabV a S.length c b F.length d] w' fun e w'' => ∃ v u, e = .returned (.agg #[v, u]) ∧ Hid (TabO w'.heap.size w'' v u S F) ∧ Below w'.heap.size w' w'') := fun w' hb => specOwn a b c d S F w' (hS.out.below hb) (hF.out.below hb) lS lF
  have IH := specHd H
  unfold tabV at GT OW ⊢
  unfold hdV at IH ⊢
  clear hbV hzV hS hF hd
  have pt0x1 : V.cell? ⟨g, 0, none⟩ = some (.slice a S.length c) := (cell_of_block bt 0).trans rfl
  have pt1x1 : V.cell? ⟨g, 1, none⟩ = some (.slice b F.length d) := (cell_of_block bt 1).trans rfl
  go_enter Try.func7, Try.ntmps7
  go_wp2_with fail
  clear hV hg pt0x1 pt1x1
  refine (GT).mono ?_
  rintro e w1 ⟨ht, hb⟩
  replace bt := (hb.block (g) (lt_of_block bt)).trans bt
  replace bq := (hb.block (g + 1) (lt_of_block bq)).trans bq
  replace br := (hb.block (g + 1 + 1) (lt_of_block br)).trans br
  replace HB : Hid (Below w.heap.size w w1) := bel_step HB.out hb
  replace LB : Hid (g + 1 + 1 + 1 ≤ w1.heap.size) := Nat.le_trans LB.out hb.size
  clear hb
  clear GT
  rcases hf with ⟨hG, rfl, rfl, rfl, rfl⟩ | ⟨hG, hok, rfl, rfl, rfl, rfl⟩ | ⟨hG, hok, hl, rfl, rfl, rfl, rfl⟩ | ⟨hG, hok, hl, hf⟩
  · obtain rfl := ht.no hG
    clear ht hG OW IH
    have pr0x2 : w1.cell? ⟨g + 1 + 1, 0, none⟩ = some (.slice none 0 0) := (cell_of_block br 0).trans rfl
    have pr1x2 : w1.cell? ⟨g + 1 + 1, 1, none⟩ = some (.slice none 0 0) := (cell_of_block br 1).trans rfl
    have fr0x2 := free_of_block br 0
    have fr1x2 := free_of_block br 1
    obtain ⟨w2, hNw2⟩ : ∃ G, ((w1.setCell ⟨g + 1 + 1, 0, none⟩ (.slice none 0 0)).setCell ⟨g + 1 + 1, 1, none⟩ (.slice none 0 0)) = G := ⟨_, rfl⟩
    obtain ⟨s1, s2, s3, s4⟩ := set2T br _ _ hNw2
    replace bt := (s2 (g) (by omega)).trans bt
    replace bq := (s2 (g + 1) (by omega)).trans bq
    replace HB : Hid (Below w.heap.size w w2) := s4 _ _ (by have := HBV.out.2; omega) HB.out
    replace LB : Hid (g + 1 + 1 + 1 ≤ w2.heap.size) := by unfold Hid; rw [s3]; exact LB.out
    replace br := s1
    clear s1 s2 s3 s4
    have zr0 : w2.cell? ⟨g + 1 + 1, 0, none⟩ = some (.slice none 0 0) := (cell_of_block br 0).trans rfl
    have zr1 : w2.cell? ⟨g + 1 + 1, 1, none⟩ = some (.slice none 0 0) := (cell_of_block br 1).trans rfl
    go_wp2
    exact bodyPost_ret (v := .tuple #[.agg #[.slice none 0 0, .slice none 0 0], .int .i64 0, .int .i64 1]) (by simp [results, Try.results7, go_sem, zr0, zr1]) rfl ⟨_, _, rfl, ⟨World.ownsRow_nil _ _ _ _, World.ownsRow_nil _ _ _ _⟩, HB.out⟩
  · obtain rfl := ht.yes hG
    have HG : Hid (GoodT S F) := hG
    clear ht hG
    have OC := OW.out w1 HB.out
    have pt0x2 : w1.cell? ⟨g, 0, none⟩ = some (.slice a S.length c) := (cell_of_block bt 0).trans rfl
    have pt1x2 : w1.cell? ⟨g, 1, none⟩ = some (.slice b F.length d) := (cell_of_block bt 1).trans rfl
    go_wp2_with fail
    clear pt0x2 pt1x2
    refine (OC).mono ?_
    rintro e w2 ⟨v, u, rfl, HT, hb⟩
    replace HT := HT.out.base LB.out
    replace bt := (hb.block (g) (lt_of_block bt)).trans bt
    replace bq := (hb.block (g + 1) (lt_of_block bq)).trans bq
    replace br := (hb.block (g + 1 + 1) (lt_of_block br)).trans br
    replace HB : Hid (Below w.heap.size w w2) := bel_step HB.out hb
    replace LB : Hid (g + 1 + 1 + 1 ≤ w2.heap.size) := Nat.le_trans LB.out hb.size
    clear hb
    obtain ⟨at_, ct, bt_, dt, rfl, rfl, _, _, hdt⟩ := HT.shape2
    replace HT : Hid (TabO (g + 1 + 1 + 1) w2 (.slice at_ S.length ct) (.slice bt_ F.length dt) S F) := HT
    clear OC OW
    have pt0x3 : w2.cell? ⟨g, 0, none⟩ = some (.slice a S.length c) := (cell_of_block bt 0).trans rfl
    have pt1x3 : w2.cell? ⟨g, 1, none⟩ = some (.slice b F.length d) := (cell_of_block bt 1).trans rfl
    have ft0x3 := free_of_block bt 0
    have ft1x3 := free_of_block bt 1
    obtain ⟨w3, hNw3⟩ : ∃ G, ((w2.setCell ⟨g, 0, none⟩ (.slice at_ S.length ct)).setCell ⟨g, 1, none⟩ (.slice bt_ F.length dt)) = G := ⟨_, rfl⟩
    obtain ⟨s1, s2, s3, s4⟩ := set2T bt _ _ hNw3
    replace bq := (s2 (g + 1) (by omega)).trans bq
    replace br := (s2 (g + 1 + 1) (by omega)).trans br
    replace HT : Hid (TabO (g + 1 + 1 + 1) w3 (.slice at_ S.length ct) (.slice bt_ F.length dt) S F) := HT.out.same (fun q h1 _ => s2 q (by omega))
    replace HB : Hid (Below w.heap.size w w3) := s4 _ _ (by have := HBV.out.2; omega) HB.out
    replace LB : Hid (g + 1 + 1 + 1 ≤ w3.heap.size) := by unfold Hid; rw [s3]; exact LB.out
    replace bt := s1
    clear s1 s2 s3 s4
    rw [hok] at IH
    clear hok
    have pq0x4 : w3.cell? ⟨g + 1, 0, none⟩ = some (.bool H.u) := (cell_of_block bq 0).trans rfl
    have pq1x4 : w3.cell? ⟨g + 1, 1, none⟩ = some (.int .i64 H.r) := (cell_of_block bq 1).trans rfl
    have pq2x4 : w3.cell? ⟨g + 1, 2, none⟩ = some (.int .i64 H.p) := (cell_of_block bq 2).trans rfl
    have pq3x4 : w3.cell? ⟨g + 1, 3, none⟩ = some (.bool H.o) := (cell_of_block bq 3).trans rfl
    have pq4x4 : w3.cell? ⟨g + 1, 4, none⟩ = some (.int .i64 H.l) := (cell_of_block bq 4).trans rfl
    have pq5x4 : w3.cell? ⟨g + 1, 5, none⟩ = some (.int .i64 H.s) := (cell_of_block bq 5).trans rfl
    go_wp2_with fail
    clear pt0x3 pt1x3 ft0x3 ft1x3 hNw3 pq0x4 pq1x4 pq2x4 pq3x4 pq4x4 pq5x4
    refine (IH w3).mono ?_
    rintro e w4 ⟨rfl, hb⟩
    replace bt := (hb.block (g) (lt_of_block bt)).trans bt
    replace bq := (hb.block (g + 1) (lt_of_block bq)).trans bq
    replace br := (hb.block (g + 1 + 1) (lt_of_block br)).trans br
    replace HT : Hid (TabO (g + 1 + 1 + 1) w4 (.slice at_ S.length ct) (.slice bt_ F.length dt) S F) := HT.out.below hb
    replace HB : Hid (Below w.heap.size w w4) := bel_step HB.out hb
    replace LB : Hid (g + 1 + 1 + 1 ≤ w4.heap.size) := Nat.le_trans LB.out hb.size
    clear hb
    clear IH
    have pt0x5 : w4.cell? ⟨g, 0, none⟩ = some (.slice at_ S.length ct) := (cell_of_block bt 0).trans rfl
    have pt1x5 : w4.cell? ⟨g, 1, none⟩ = some (.slice bt_ F.length dt) := (cell_of_block bt 1).trans rfl
    have pr0x6 : w4.cell? ⟨g + 1 + 1, 0, none⟩ = some (.slice none 0 0) := (cell_of_block br 0).trans rfl
    have pr1x6 : w4.cell? ⟨g + 1 + 1, 1, none⟩ = some (.slice none 0 0) := (cell_of_block br 1).trans rfl
    have fr0x6 := free_of_block br 0
    have fr1x6 := free_of_block br 1
    obtain ⟨w5, hNw5⟩ : ∃ G, ((w4.setCell ⟨g + 1 + 1, 0, none⟩ (.slice at_ S.length ct)).setCell ⟨g + 1 + 1, 1, none⟩ (.slice bt_ F.length dt)) = G := ⟨_, rfl⟩
    obtain ⟨s1, s2, s3, s4⟩ := set2T br _ _ hNw5
    replace bt := (s2 (g) (by omega)).trans bt
    replace bq := (s2 (g + 1) (by omega)).trans bq
    replace HT : Hid (TabO (g + 1 + 1 + 1) w5 (.slice at_ S.length ct) (.slice bt_ F.length dt) S F) := HT.out.same (fun q h1 _ => s2 q (by omega))
    replace HB : Hid (Below w.heap.size w w5) := s4 _ _ (by have := HBV.out.2; omega) HB.out
    replace LB : Hid (g + 1 + 1 + 1 ≤ w5.heap.size) := by unfold Hid; rw [s3]; exact LB.out
    replace br := s1
    clear s1 s2 s3 s4
    have zr0 : w5.cell? ⟨g + 1 + 1, 0, none⟩ = some (.slice at_ S.length ct) := (cell_of_block br 0).trans rfl
    have zr1 : w5.cell? ⟨g + 1 + 1, 1, none⟩ = some (.slice bt_ F.length dt) := (cell_of_block br 1).trans rfl
    go_wp2
    exact bodyPost_ret (v := .tuple #[.agg #[.slice at_ S.length ct, .slice bt_ F.length dt], .int .i64 0, .int .i64 1]) (by simp [results, Try.results7, go_sem, zr0, zr1]) rfl ⟨_, _, rfl, HT.out.base (by have := HBV.out.2; omega), HB.out⟩
  · obtain rfl := ht.yes hG
    have HG : Hid (GoodT S F) := hG
    clear ht hG
    have OC := OW.out w1 HB.out
    have pt0x2 : w1.cell? ⟨g, 0, none⟩ = some (.slice a S.length c) := (cell_of_block bt 0).trans rfl
    have pt1x2 : w1.cell? ⟨g, 1, none⟩ = some (.slice b F.length d) := (cell_of_block bt 1).trans rfl
    go_wp2_with fail
    clear pt0x2 pt1x2
    refine (OC).mono ?_
    rintro e w2 ⟨v, u, rfl, HT, hb⟩
    replace HT := HT.out.base LB.out
    replace bt := (hb.block (g) (lt_of_block bt)).trans bt
    replace bq := (hb.block (g + 1) (lt_of_block bq)).trans bq
    replace br := (hb.block (g + 1 + 1) (lt_of_block br)).trans br
    replace HB : Hid (Below w.heap.size w w2) := bel_step HB.out hb
    replace LB : Hid (g + 1 + 1 + 1 ≤ w2.heap.size) := Nat.le_trans LB.out hb.size
    clear hb
    obtain ⟨at_, ct, bt_, dt, rfl, rfl, _, _, hdt⟩ := HT.shape2
    replace HT : Hid (TabO (g + 1 + 1 + 1) w2 (.slice at_ S.length ct) (.slice bt_ F.length dt) S F) := HT
    clear OC OW
    have pt0x3 : w2.cell? ⟨g, 0, none⟩ = some (.slice a S.length c) := (cell_of_block bt 0).trans rfl
    have pt1x3 : w2.cell? ⟨g, 1, none⟩ = some (.slice b F.length d) := (cell_of_block bt 1).trans rfl
    have ft0x3 := free_of_block bt 0
    have ft1x3 := free_of_block bt 1
    obtain ⟨w3, hNw3⟩ : ∃ G, ((w2.setCell ⟨g, 0, none⟩ (.slice at_ S.length ct)).setCell ⟨g, 1, none⟩ (.slice bt_ F.length dt)) = G := ⟨_, rfl⟩
    obtain ⟨s1, s2, s3, s4⟩ := set2T bt _ _ hNw3
    replace bq := (s2 (g + 1) (by omega)).trans bq
    replace br := (s2 (g + 1 + 1) (by omega)).trans br
    replace HT : Hid (TabO (g + 1 + 1 + 1) w3 (.slice at_ S.length ct) (.slice bt_ F.length dt) S F) := HT.out.same (fun q h1 _ => s2 q (by omega))
    replace HB : Hid (Below w.heap.size w w3) := s4 _ _ (by have := HBV.out.2; omega) HB.out
    replace LB : Hid (g + 1 + 1 + 1 ≤ w3.heap.size) := by unfold Hid; rw [s3]; exact LB.out
    replace bt := s1
    clear s1 s2 s3 s4
    rw [hok] at IH
    clear hok
    have pq0x4 : w3.cell? ⟨g + 1, 0, none⟩ = some (.bool H.u) := (cell_of_block bq 0).trans rfl
    have pq1x4 : w3.cell? ⟨g + 1, 1, none⟩ = some (.int .i64 H.r) := (cell_of_block bq 1).trans rfl
    have pq2x4 : w3.cell? ⟨g + 1, 2, none⟩ = some (.int .i64 H.p) := (cell_of_block bq 2).trans rfl
    have pq3x4 : w3.cell? ⟨g + 1, 3, none⟩ = some (.bool H.o) := (cell_of_block bq 3).trans rfl
    have pq4x4 : w3.cell? ⟨g + 1, 4, none⟩ = some (.int .i64 H.l) := (cell_of_block bq 4).trans rfl
    have pq5x4 : w3.cell? ⟨g + 1, 5, none⟩ = some (.int .i64 H.s) := (cell_of_block bq 5).trans rfl
    go_wp2_with fail
    clear pt0x3 pt1x3 ft0x3 ft1x3 hNw3 pq0x4 pq1x4 pq2x4 pq3x4 pq4x4 pq5x4
    refine (IH w3).mono ?_
    rintro e w4 ⟨rfl, hb⟩
    replace bt := (hb.block (g) (lt_of_block bt)).trans bt
    replace bq := (hb.block (g + 1) (lt_of_block bq)).trans bq
    replace br := (hb.block (g + 1 + 1) (lt_of_block br)).trans br
    replace HT : Hid (TabO (g + 1 + 1 + 1) w4 (.slice at_ S.length ct) (.slice bt_ F.length dt) S F) := HT.out.below hb
    replace HB : Hid (Below w.heap.size w w4) := bel_step HB.out hb
    replace LB : Hid (g + 1 + 1 + 1 ≤ w4.heap.size) := Nat.le_trans LB.out hb.size
    clear hb
    clear IH
    have hl2 : (H.l == 0) = false := by simpa using hl
    clear hl
    have pq0x5 : w4.cell? ⟨g + 1, 0, none⟩ = some (.bool H.u) := (cell_of_block bq 0).trans rfl
    have pq1x5 : w4.cell? ⟨g + 1, 1, none⟩ = some (.int .i64 H.r) := (cell_of_block bq 1).trans rfl
    have pq2x5 : w4.cell? ⟨g + 1, 2, none⟩ = some (.int .i64 H.p) := (cell_of_block bq 2).trans rfl
    have pq3x5 : w4.cell? ⟨g + 1, 3, none⟩ = some (.bool H.o) := (cell_of_block bq 3).trans rfl
    have pq4x5 : w4.cell? ⟨g + 1, 4, none⟩ = some (.int .i64 H.l) := (cell_of_block bq 4).trans rfl
    have pq5x5 : w4.cell? ⟨g + 1, 5, none⟩ = some (.int .i64 H.s) := (cell_of_block bq 5).trans rfl
    have pt0x6 : w4.cell? ⟨g, 0, none⟩ = some (.slice at_ S.length ct) := (cell_of_block bt 0).trans rfl
    have pt1x6 : w4.cell? ⟨g, 1, none⟩ = some (.slice bt_ F.length dt) := (cell_of_block bt 1).trans rfl
    have pr0x7 : w4.cell? ⟨g + 1 + 1, 0, none⟩ = some (.slice none 0 0) := (cell_of_block br 0).trans rfl
    have pr1x7 : w4.cell? ⟨g + 1 + 1, 1, none⟩ = some (.slice none 0 0) := (cell_of_block br 1).trans rfl
    have fr0x7 := free_of_block br 0
    have fr1x7 := free_of_block br 1
    obtain ⟨w5, hNw5⟩ : ∃ G, ((w4.setCell ⟨g + 1 + 1, 0, none⟩ (.slice at_ S.length ct)).setCell ⟨g + 1 + 1, 1, none⟩ (.slice bt_ F.length dt)) = G := ⟨_, rfl⟩
    obtain ⟨s1, s2, s3, s4⟩ := set2T br _ _ hNw5
    replace bt := (s2 (g) (by omega)).trans bt
    replace bq := (s2 (g + 1) (by omega)).trans bq
    replace HT : Hid (TabO (g + 1 + 1 + 1) w5 (.slice at_ S.length ct) (.slice bt_ F.length dt) S F) := HT.out.same (fun q h1 _ => s2 q (by omega))
    replace HB : Hid (Below w.heap.size w w5) := s4 _ _ (by have := HBV.out.2; omega) HB.out
    replace LB : Hid (g + 1 + 1 + 1 ≤ w5.heap.size) := by unfold Hid; rw [s3]; exact LB.out
    replace br := s1
    clear s1 s2 s3 s4
    have zr0 : w5.cell? ⟨g + 1 + 1, 0, none⟩ = some (.slice at_ S.length ct) := (cell_of_block br 0).trans rfl
    have zr1 : w5.cell? ⟨g + 1 + 1, 1, none⟩ = some (.slice bt_ F.length dt) := (cell_of_block br 1).trans rfl
    go_wp2
    exact bodyPost_ret (v := .tuple #[.agg #[.slice at_ S.length ct, .slice bt_ F.length dt], .int .i64 0, .int .i64 1]) (by simp [results, Try.results7, go_sem, zr0, zr1]) rfl ⟨_, _, rfl, HT.out.base (by have := HBV.out.2; omega), HB.out⟩
  · have hl2 : (H.l == 0) = true := by simpa using hl
    have HF : Hid _ := hf
    clear hl hf
    obtain rfl := ht.yes hG
    have HG : Hid (GoodT S F) := hG
    clear ht hG
    have OC := OW.out w1 HB.out
    have pt0x2 : w1.cell? ⟨g, 0, none⟩ = some (.slice a S.length c) := (cell_of_block bt 0).trans rfl
    have pt1x2 : w1.cell? ⟨g, 1, none⟩ = some (.slice b F.length d) := (cell_of_block bt 1).trans rfl
    go_wp2_with fail
    clear pt0x2 pt1x2
    refine (OC).mono ?_
    rintro e w2 ⟨v, u, rfl, HT, hb⟩
    replace HT := HT.out.base LB.out
    replace bt := (hb.block (g) (lt_of_block bt)).trans bt
    replace bq := (hb.block (g + 1) (lt_of_block bq)).trans bq
    replace br := (hb.block (g + 1 + 1) (lt_of_block br)).trans br
    replace HB : Hid (Below w.heap.size w w2) := bel_step HB.out hb
    replace LB : Hid (g + 1 + 1 + 1 ≤ w2.heap.size) := Nat.le_trans LB.out hb.size
    clear hb
    obtain ⟨at_, ct, bt_, dt, rfl, rfl, _, _, hdt⟩ := HT.shape2
    replace HT : Hid (TabO (g + 1 + 1 + 1) w2 (.slice at_ S.length ct) (.slice bt_ F.length dt) S F) := HT
    clear OC OW
    have pt0x3 : w2.cell? ⟨g, 0, none⟩ = some (.slice a S.length c) := (cell_of_block bt 0).trans rfl
    have pt1x3 : w2.cell? ⟨g, 1, none⟩ = some (.slice b F.length d) := (cell_of_block bt 1).trans rfl
    have ft0x3 := free_of_block bt 0
    have ft1x3 := free_of_block bt 1
    obtain ⟨w3, hNw3⟩ : ∃ G, ((w2.setCell ⟨g, 0, none⟩ (.slice at_ S.length ct)).setCell ⟨g, 1, none⟩ (.slice bt_ F.length dt)) = G := ⟨_, rfl⟩
    obtain ⟨s1, s2, s3, s4⟩ := set2T bt _ _ hNw3
    replace bq := (s2 (g + 1) (by omega)).trans bq
    replace br := (s2 (g + 1 + 1) (by omega)).trans br
    replace HT : Hid (TabO (g + 1 + 1 + 1) w3 (.slice at_ S.length ct) (.slice bt_ F.length dt) S F) := HT.out.same (fun q h1 _ => s2 q (by omega))
    replace HB : Hid (Below w.heap.size w w3) := s4 _ _ (by have := HBV.out.2; omega) HB.out
    replace LB : Hid (g + 1 + 1 + 1 ≤ w3.heap.size) := by unfold Hid; rw [s3]; exact LB.out
    replace bt := s1
    clear s1 s2 s3 s4
    rw [hok] at IH
    clear hok
    have pq0x4 : w3.cell? ⟨g + 1, 0, none⟩ = some (.bool H.u) := (cell_of_block bq 0).trans rfl
    have pq1x4 : w3.cell? ⟨g + 1, 1, none⟩ = some (.int .i64 H.r) := (cell_of_block bq 1).trans rfl
    have pq2x4 : w3.cell? ⟨g + 1, 2, none⟩ = some (.int .i64 H.p) := (cell_of_block bq 2).trans rfl
    have pq3x4 : w3.cell? ⟨g + 1, 3, none⟩ = some (.bool H.o) := (cell_of_block bq 3).trans rfl
    have pq4x4 : w3.cell? ⟨g + 1, 4, none⟩ = some (.int .i64 H.l) := (cell_of_block bq 4).trans rfl
    have pq5x4 : w3.cell? ⟨g + 1, 5, none⟩ = some (.int .i64 H.s) := (cell_of_block bq 5).trans rfl
    go_wp2_with fail
    clear pt0x3 pt1x3 ft0x3 ft1x3 hNw3 pq0x4 pq1x4 pq2x4 pq3x4 pq4x4 pq5x4
    refine (IH w3).mono ?_
    rintro e w4 ⟨rfl, hb⟩
    replace bt := (hb.block (g) (lt_of_block bt)).trans bt
    replace bq := (hb.block (g + 1) (lt_of_block bq)).trans bq
    replace br := (hb.block (g + 1 + 1) (lt_of_block br)).trans br
    replace HT : Hid (TabO (g + 1 + 1 + 1) w4 (.slice at_ S.length ct) (.slice bt_ F.length dt) S F) := HT.out.below hb
    replace HB : Hid (Below w.heap.size w w4) := bel_step HB.out hb
    replace LB : Hid (g + 1 + 1 + 1 ≤ w4.heap.size) := Nat.le_trans LB.out hb.size
    clear hb
    clear IH
    have hf := HF.out
    clear HF
    rcases hf with ⟨F1, k, hk, rfl, rfl, rfl, rfl, rfl⟩ | ⟨rfl, h40, rfl, rfl, rfl, rfl⟩ | ⟨rfl, h40, rfl, rfl, rfl, rfl⟩
    · have hfl : (F1 ++ [(k : Int)]).length = F1.length + 1 := by simp
      obtain ⟨q, rfl, hq1, hq2⟩ := row_pos HT.out.hds (by omega)
      obtain ⟨qf, rfl, hq3, hq4⟩ := row_pos HT.out.ints (by omega)
      rw [hfl] at bt HT hdt lF
      have hint : w4.cell? ⟨qf, F1.length, none⟩ = some (.int .i64 (k : Int)) := by
        have h' := HT.out.ints
        rw [hfl] at h'
        exact (own_cell h' (by simp [iv])).1
      have pq0x5 : w4.cell? ⟨g + 1, 0, none⟩ = some (.bool H.u) := (cell_of_block bq 0).trans rfl
      have pq1x5 : w4.cell? ⟨g + 1, 1, none⟩ = some (.int .i64 H.r) := (cell_of_block bq 1).trans rfl
      have pq2x5 : w4.cell? ⟨g + 1, 2, none⟩ = some (.int .i64 H.p) := (cell_of_block bq 2).trans rfl
      have pq3x5 : w4.cell? ⟨g + 1, 3, none⟩ = some (.bool H.o) := (cell_of_block bq 3).trans rfl
      have pq4x5 : w4.cell? ⟨g + 1, 4, none⟩ = some (.int .i64 H.l) := (cell_of_block bq 4).trans rfl
      have pq5x5 : w4.cell? ⟨g + 1, 5, none⟩ = some (.int .i64 H.s) := (cell_of_block bq 5).trans rfl
      have pt0x6 : w4.cell? ⟨g, 0, none⟩ = some (.slice (some ⟨q, 0, none⟩) S.length ct) := (cell_of_block bt 0).trans rfl
      have pt1x6 : w4.cell? ⟨g, 1, none⟩ = some (.slice (some ⟨qf, 0, none⟩) (F1.length + 1) dt) := (cell_of_block bt 1).trans rfl
      have ft0x6 := free_of_block bt 0
      have ft1x6 := free_of_block bt 1
      obtain ⟨w5, hNw5⟩ : ∃ G, w4.setCell ⟨g, 1, none⟩ (.slice (some ⟨qf, 0, none⟩) F1.length dt) = G := ⟨_, rfl⟩
      have s2 : ∀ j, j ≠ g → w5.heap[j]? = w4.heap[j]? := fun j hj => by rw [← hNw5]; exact heap_setCell_other _ ⟨g, 1, none⟩ j _ hj
      replace bt : w5.heap[g]? = some (.cells #[.slice (some ⟨q, 0, none⟩) S.length ct, .slice (some ⟨qf, 0, none⟩) F1.length dt] 26 (0, 0)) := by rw [← hNw5]; exact heap_setCell_same _ _ _ _ _ _ bt
      replace bq := (s2 (g + 1) (by omega)).trans bq
      replace br := (s2 (g + 1 + 1) (by omega)).trans br
      replace HT : Hid (TabO (g + 1 + 1 + 1) w5 (.slice (some ⟨q, 0, none⟩) S.length ct) (.slice (some ⟨qf, 0, none⟩) F1.length dt) S F1) := by
        have h1 := HT.out.same (fun q h1 _ => s2 q (by omega))
        have h2 := h1.ints
        rw [hfl] at h2
        have h3 := own_take h2
        rw [Nat.mul_one, ← iv_app, List.take_append_of_le_length (by rw [iv_len]; exact Nat.le_refl _), List.take_of_length_le (by rw [iv_len]; exact Nat.le_refl _)] at h3
        exact ⟨h1.hds, h3⟩
      replace HB : Hid (Below w.heap.size w w5) := by unfold Hid; rw [← hNw5]; exact HB.out.setCell (by have := HBV.out.2; show w.heap.size ≤ g; omega) _
      replace LB : Hid (g + 1 + 1 + 1 ≤ w5.heap.size) := by unfold Hid; rw [← hNw5]; simpa using LB.out
      clear s2
      have pt0x7 : w5.cell? ⟨g, 0, none⟩ = some (.slice (some ⟨q, 0, none⟩) S.length ct) := (cell_of_block bt 0).trans rfl
      have pt1x7 : w5.cell? ⟨g, 1, none⟩ = some (.slice (some ⟨qf, 0, none⟩) F1.length dt) := (cell_of_block bt 1).trans rfl
      have pq0x8 : w5.cell? ⟨g + 1, 0, none⟩ = some (.bool H.u) := (cell_of_block bq 0).trans rfl
      have pq1x8 : w5.cell? ⟨g + 1, 1, none⟩ = some (.int .i64 H.r) := (cell_of_block bq 1).trans rfl
      have pq2x8 : w5.cell? ⟨g + 1, 2, none⟩ = some (.int .i64 H.p) := (cell_of_block bq 2).trans rfl
      have pq3x8 : w5.cell? ⟨g + 1, 3, none⟩ = some (.bool H.o) := (cell_of_block bq 3).trans rfl
      have pq4x8 : w5.cell? ⟨g + 1, 4, none⟩ = some (.int .i64 H.l) := (cell_of_block bq 4).trans rfl
      have pq5x8 : w5.cell? ⟨g + 1, 5, none⟩ = some (.int .i64 H.s) := (cell_of_block bq 5).trans rfl
      obtain ⟨⟨c0, c1, c2, c3, c4, c5⟩, hfz⟩ := row_six HT.out.hds rfl k hk
      have fz0 := hfz 0 (by omega)
      have fz1 := hfz 1 (by omega)
      have fz2 := hfz 2 (by omega)
      have fz3 := hfz 3 (by omega)
      have fz4 := hfz 4 (by omega)
      have fz5 := hfz 5 (by omega)
      rw [Nat.add_zero] at fz0
      clear hfz
      obtain ⟨w6, hNw6⟩ : ∃ G, ((((((w5.setCell ⟨q, k * 6, none⟩ (.bool H.u)).setCell ⟨q, k * 6 + 1, none⟩ (.int .i64 H.r)).setCell ⟨q, k * 6 + 2, none⟩ (.int .i64 H.p)).setCell ⟨q, k * 6 + 3, none⟩ (.bool H.o)).setCell ⟨q, k * 6 + 4, none⟩ (.int .i64 H.l)).setCell ⟨q, k * 6 + 5, none⟩ (.int .i64 H.s)) = G := ⟨_, rfl⟩
      obtain ⟨r1, r2, r3, r4⟩ := row_set6 HT.out.hds rfl k hk H hNw6
      replace HT : Hid (TabO (g + 1 + 1 + 1) w6 (.slice (some ⟨q, 0, none⟩) S.length ct) (.slice (some ⟨qf, 0, none⟩) F1.length dt) (S.set k H) F1) := ⟨r1, own_keep HT.out.ints (fun j hj => r2 j (fun e => by obtain ⟨cur, hc, _⟩ := own_at HT.out.ints hj; obtain ⟨cur2, hc2, _⟩ := own_at HT.out.hds (g := q) rfl; rw [e, hc2] at hc; simp at hc))⟩
      replace bt := (r2 (g) (by omega)).trans bt
      replace bq := (r2 (g + 1) (by omega)).trans bq
      replace br := (r2 (g + 1 + 1) (by omega)).trans br
      replace HB : Hid (Below w.heap.size w w6) := r4 _ _ (by have := HBV.out.2; omega) HB.out
      replace LB : Hid (g + 1 + 1 + 1 ≤ w6.heap.size) := by unfold Hid; rw [r3]; exact LB.out
      clear r1 r2 r3 r4
      have pt0x9 : w6.cell? ⟨g, 0, none⟩ = some (.slice (some ⟨q, 0, none⟩) S.length ct) := (cell_of_block bt 0).trans rfl
      have pt1x9 : w6.cell? ⟨g, 1, none⟩ = some (.slice (some ⟨qf, 0, none⟩) F1.length dt) := (cell_of_block bt 1).trans rfl
      have pr0x10 : w6.cell? ⟨g + 1 + 1, 0, none⟩ = some (.slice none 0 0) := (cell_of_block br 0).trans rfl
      have pr1x10 : w6.cell? ⟨g + 1 + 1, 1, none⟩ = some (.slice none 0 0) := (cell_of_block br 1).trans rfl
      have fr0x10 := free_of_block br 0
      have fr1x10 := free_of_block br 1
      obtain ⟨w7, hNw7⟩ : ∃ G, ((w6.setCell ⟨g + 1 + 1, 0, none⟩ (.slice (some ⟨q, 0, none⟩) S.length ct)).setCell ⟨g + 1 + 1, 1, none⟩ (.slice (some ⟨qf, 0, none⟩) F1.length dt)) = G := ⟨_, rfl⟩
      obtain ⟨s1, s2, s3, s4⟩ := set2T br _ _ hNw7
      replace bt := (s2 (g) (by omega)).trans bt
      replace bq := (s2 (g + 1) (by omega)).trans bq
      replace HT : Hid (TabO (g + 1 + 1 + 1) w7 (.slice (some ⟨q, 0, none⟩) S.length ct) (.slice (some ⟨qf, 0, none⟩) F1.length dt) (S.set k H) F1) := HT.out.same (fun q h1 _ => s2 q (by omega))
      replace HB : Hid (Below w.heap.size w w7) := s4 _ _ (by have := HBV.out.2; omega) HB.out
      replace LB : Hid (g + 1 + 1 + 1 ≤ w7.heap.size) := by unfold Hid; rw [s3]; exact LB.out
      replace br := s1
      clear s1 s2 s3 s4
      have zr0 : w7.cell? ⟨g + 1 + 1, 0, none⟩ = some (.slice (some ⟨q, 0, none⟩) S.length ct) := (cell_of_block br 0).trans rfl
      have zr1 : w7.cell? ⟨g + 1 + 1, 1, none⟩ = some (.slice (some ⟨qf, 0, none⟩) F1.length dt) := (cell_of_block br 1).trans rfl
      go_wp2
      exact bodyPost_ret (v := .tuple #[.agg #[.slice (some ⟨q, 0, none⟩) S.length ct, .slice (some ⟨qf, 0, none⟩) F1.length dt], .int .i64 (k : Int), .int .i64 0]) (by simp [results, Try.results7, go_sem, zr0, zr1]) rfl ⟨_, _, rfl, HT.out.base (by have := HBV.out.2; omega), HB.out⟩
    · have h41 := HG.out.1
      replace bt : w4.heap[g]? = some (.cells #[.slice at_ S.length ct, .slice bt_ 0 dt] 26 (0, 0)) := bt
      replace HT : Hid (TabO (g + 1 + 1 + 1) w4 (.slice at_ S.length ct) (.slice bt_ 0 dt) S []) := HT
      have e40 : ((S.length : Int) == 40) = true := by simpa using (by omega : (S.length : Int) = 40)
      clear h40 h41
      have pq0x5 : w4.cell? ⟨g + 1, 0, none⟩ = some (.bool H.u) := (cell_of_block bq 0).trans rfl
      have pq1x5 : w4.cell? ⟨g + 1, 1, none⟩ = some (.int .i64 H.r) := (cell_of_block bq 1).trans rfl
      have pq2x5 : w4.cell? ⟨g + 1, 2, none⟩ = some (.int .i64 H.p) := (cell_of_block bq 2).trans rfl
      have pq3x5 : w4.cell? ⟨g + 1, 3, none⟩ = some (.bool H.o) := (cell_of_block bq 3).trans rfl
      have pq4x5 : w4.cell? ⟨g + 1, 4, none⟩ = some (.int .i64 H.l) := (cell_of_block bq 4).trans rfl
      have pq5x5 : w4.cell? ⟨g + 1, 5, none⟩ = some (.int .i64 H.s) := (cell_of_block bq 5).trans rfl
      have pt0x6 : w4.cell? ⟨g, 0, none⟩ = some (.slice at_ S.length ct) := (cell_of_block bt 0).trans rfl
      have pt1x6 : w4.cell? ⟨g, 1, none⟩ = some (.slice bt_ 0 dt) := (cell_of_block bt 1).trans rfl
      have pr0x7 : w4.cell? ⟨g + 1 + 1, 0, none⟩ = some (.slice none 0 0) := (cell_of_block br 0).trans rfl
      have pr1x7 : w4.cell? ⟨g + 1 + 1, 1, none⟩ = some (.slice none 0 0) := (cell_of_block br 1).trans rfl
      have fr0x7 := free_of_block br 0
      have fr1x7 := free_of_block br 1
      obtain ⟨w5, hNw5⟩ : ∃ G, ((w4.setCell ⟨g + 1 + 1, 0, none⟩ (.slice at_ S.length ct)).setCell ⟨g + 1 + 1, 1, none⟩ (.slice bt_ 0 dt)) = G := ⟨_, rfl⟩
      obtain ⟨s1, s2, s3, s4⟩ := set2T br _ _ hNw5
      replace bt := (s2 (g) (by omega)).trans bt
      replace bq := (s2 (g + 1) (by omega)).trans bq
      replace HT : Hid (TabO (g + 1 + 1 + 1) w5 (.slice at_ S.length ct) (.slice bt_ 0 dt) S []) := HT.out.same (fun q h1 _ => s2 q (by omega))
      replace HB : Hid (Below w.heap.size w w5) := s4 _ _ (by have := HBV.out.2; omega) HB.out
      replace LB : Hid (g + 1 + 1 + 1 ≤ w5.heap.size) := by unfold Hid; rw [s3]; exact LB.out
      replace br := s1
      clear s1 s2 s3 s4
      have zr0 : w5.cell? ⟨g + 1 + 1, 0, none⟩ = some (.slice at_ S.length ct) := (cell_of_block br 0).trans rfl
      have zr1 : w5.cell? ⟨g + 1 + 1, 1, none⟩ = some (.slice bt_ 0 dt) := (cell_of_block br 1).trans rfl
      go_wp2
      exact bodyPost_ret (v := .tuple #[.agg #[.slice at_ S.length ct, .slice bt_ 0 dt], .int .i64 0, .int .i64 5]) (by simp [results, Try.results7, go_sem, zr0, zr1]) rfl ⟨_, _, rfl, HT.out.base (by have := HBV.out.2; omega), HB.out⟩
    · have h41 := HG.out.1
      replace bt : w4.heap[g]? = some (.cells #[.slice at_ S.length ct, .slice bt_ 0 dt] 26 (0, 0)) := bt
      replace HT : Hid (TabO (g + 1 + 1 + 1) w4 (.slice at_ S.length ct) (.slice bt_ 0 dt) S []) := HT
      have e40 : ((S.length : Int) == 40) = false := by simpa using (by omega : ¬ (S.length : Int) = 40)
      clear h40
      have pq0x5 : w4.cell? ⟨g + 1, 0, none⟩ = some (.bool H.u) := (cell_of_block bq 0).trans rfl
      have pq1x5 : w4.cell? ⟨g + 1, 1, none⟩ = some (.int .i64 H.r) := (cell_of_block bq 1).trans rfl
      have pq2x5 : w4.cell? ⟨g + 1, 2, none⟩ = some (.int .i64 H.p) := (cell_of_block bq 2).trans rfl
      have pq3x5 : w4.cell? ⟨g + 1, 3, none⟩ = some (.bool H.o) := (cell_of_block bq 3).trans rfl
      have pq4x5 : w4.cell? ⟨g + 1, 4, none⟩ = some (.int .i64 H.l) := (cell_of_block bq 4).trans rfl
      have pq5x5 : w4.cell? ⟨g + 1, 5, none⟩ = some (.int .i64 H.s) := (cell_of_block bq 5).trans rfl
      have pt0x6 : w4.cell? ⟨g, 0, none⟩ = some (.slice at_ S.length ct) := (cell_of_block bt 0).trans rfl
      have pt1x6 : w4.cell? ⟨g, 1, none⟩ = some (.slice bt_ 0 dt) := (cell_of_block bt 1).trans rfl
      obtain ⟨yn, hyn⟩ : ∃ z, w4.heap.size = z := ⟨_, rfl⟩
      obtain ⟨w5, hNw5⟩ : ∃ W, w4.alloc (.cells #[.bool H.u, .int .i64 H.r, .int .i64 H.p, .bool H.o, .int .i64 H.l, .int .i64 H.s] 28) = W := ⟨_, rfl⟩
      have hb : Below w4.heap.size w4 w5 := by rw [← hNw5]; exact bel_alloc (Below.refl _ _) _
      have hleyn : Hid (g + 1 + 1 + 1 ≤ yn) := by unfold Hid; rw [← hyn]; exact LB.out
      replace bt := (hb.block (g) (lt_of_block bt)).trans bt
      replace bq := (hb.block (g + 1) (lt_of_block bq)).trans bq
      replace br := (hb.block (g + 1 + 1) (lt_of_block br)).trans br
      replace HT : Hid (TabO (g + 1 + 1 + 1) w5 (.slice at_ S.length ct) (.slice bt_ 0 dt) S []) := HT.out.below hb
      replace HB : Hid (Below w.heap.size w w5) := bel_step HB.out hb
      replace LB : Hid (g + 1 + 1 + 1 ≤ w5.heap.size) := Nat.le_trans LB.out hb.size
      have bn : w5.heap[yn]? = some (.cells #[.bool H.u, .int .i64 H.r, .int .i64 H.p, .bool H.o, .int .i64 H.l, .int .i64 H.s] 28 (0, 0)) := by rw [← hNw5, ← hyn]; exact heap_alloc_new _ _
      clear hb
      obtain ⟨i0, i0i, i00, i01, i02⟩ := info_parts Try.infoHd
      have bn2 := bn
      go_wp2_with (at_builtin; refine wpList_append_own _ rfl _ _ 23 rfl (g + 1 + 1 + 1) 28 i0 (.agg #[.bool false, .int .i64 0, .int .i64 0, .bool false, .int .i64 0, .int .i64 0]) 6 48 Try.underlying23 i0i i00 i01 i02 rfl (by decide) _ _ _ rfl HT.out.hds ⟨yn, 0, none⟩ 1 _ (hdC H) rfl rfl ?qc2 ?qc3 ?qc4 ?qc5 ?qc6 ?_)
      case qc2 =>
        intro j u hu
        have hj : j < 6 := by rcases Nat.lt_or_ge j 6 with h' | h'; exact h'; rw [List.getElem?_eq_none (by simpa [hdC] using h')] at hu; cases hu
        rw [Addr.add_lit, Nat.zero_add, cell_of_block bn2, ← hu]
        have hjj : j = 0 ∨ j = 1 ∨ j = 2 ∨ j = 3 ∨ j = 4 ∨ j = 5 := by omega
        rcases hjj with rfl | rfl | rfl | rfl | rfl | rfl <;> rfl
      case qc3 => intro u hu; exact hv_one [H] u (by simpa [hv] using hu)
      case qc4 => unfold maxLen; omega
      case qc5 => omega
      case qc6 => exact LB.out
      clear pq0x5 pq1x5 pq2x5 pq3x5 pq4x5 pq5x5 pt0x6 pt1x6 hNw5 hyn
      intro v' wA hown hgr _
      clear bn2 i0i i00 i01 i02
      obtain ⟨bA, dA, rfl, _⟩ := ownT_shape hown
      have hbA : Below (g + 1 + 1 + 1) w5 wA := (Below.refl _ _).grown hgr LB.out (fun j hj => (HT.out.hds.lt j hj).1)
      replace HT : Hid (TabO (g + 1 + 1 + 1) wA (.slice bA (S.length + 1) dA) (.slice bt_ 0 dt) (S ++ [H]) []) := ⟨by rw [List.length_append, ← hv_app]; simpa [hv] using hown, other_row HT.out.hds hgr HT.out.ints (by decide)⟩
      clear bn
      replace bt := (hbA.block (g) (by omega)).trans bt
      replace bq := (hbA.block (g + 1) (by omega)).trans bq
      replace br := (hbA.block (g + 1 + 1) (by omega)).trans br
      replace HB : Hid (Below w.heap.size w wA) := HB.out.trans (hbA.mono (by have := HBV.out.2; omega))
      replace LB : Hid (g + 1 + 1 + 1 ≤ wA.heap.size) := Nat.le_trans LB.out hbA.size
      clear hbA hgr hown
      have pt0x7 : wA.cell? ⟨g, 0, none⟩ = some (.slice at_ S.length ct) := (cell_of_block bt 0).trans rfl
      have pt1x7 : wA.cell? ⟨g, 1, none⟩ = some (.slice bt_ 0 dt) := (cell_of_block bt 1).trans rfl
      have ft0x7 := free_of_block bt 0
      have ft1x7 := free_of_block bt 1
      obtain ⟨w6, hNw6⟩ : ∃ G, wA.setCell ⟨g, 0, none⟩ (.slice bA (S.length + 1) dA) = G := ⟨_, rfl⟩
      have s2 : ∀ j, j ≠ g → w6.heap[j]? = wA.heap[j]? := fun j hj => by rw [← hNw6]; exact heap_setCell_other _ ⟨g, 0, none⟩ j _ hj
      replace bt : w6.heap[g]? = some (.cells #[.slice bA (S.length + 1) dA, .slice bt_ 0 dt] 26 (0, 0)) := by rw [← hNw6]; exact heap_setCell_same _ _ _ _ _ _ bt
      replace bq := (s2 (g + 1) (by omega)).trans bq
      replace br := (s2 (g + 1 + 1) (by omega)).trans br
      replace HT : Hid (TabO (g + 1 + 1 + 1) w6 (.slice bA (S.length + 1) dA) (.slice bt_ 0 dt) (S ++ [H]) []) := HT.out.same (fun q h1 _ => s2 q (by omega))
      replace HB : Hid (Below w.heap.size w w6) := by unfold Hid; rw [← hNw6]; exact HB.out.setCell (by have := HBV.out.2; show w.heap.size ≤ g; omega) _
      replace LB : Hid (g + 1 + 1 + 1 ≤ w6.heap.size) := by unfold Hid; rw [← hNw6]; simpa using LB.out
      clear s2
      go_wp2
      clear pt0x7 pt1x7 ft0x7 ft1x7 hNw6
      refine wh_begin (fun w' : World => w'.heap[g]? = some (.cells #[.slice bA (S.length + 1) dA, .slice bt_ 0 dt] 26 (0, 0))) (by kernel_rfl) ?_
      obtain ⟨w7, hD⟩ : ∃ W, w6.drew = W := ⟨_, rfl⟩
      have hb : Below w6.heap.size w6 w7 := by rw [← hD]; exact (Below.refl _ _).drew
      rw [hD]
      replace bt := (hb.block (g) (lt_of_block bt)).trans bt
      replace bq := (hb.block (g + 1) (lt_of_block bq)).trans bq
      replace br := (hb.block (g + 1 + 1) (lt_of_block br)).trans br
      replace HT : Hid (TabO (g + 1 + 1 + 1) w7 (.slice bA (S.length + 1) dA) (.slice bt_ 0 dt) (S ++ [H]) []) := HT.out.below hb
      replace HB : Hid (Below w.heap.size w w7) := bel_step HB.out hb
      replace LB : Hid (g + 1 + 1 + 1 ≤ w7.heap.size) := Nat.le_trans LB.out hb.size
      clear hb hD
      refine wh_take 0 (some 59) (.agg #[.slice bA (S.length + 1) dA, .slice bt_ 0 dt]) rfl rfl (by kernel_rfl) (by kernel_rfl) (by kernel_rfl) (fun _ _ _ h => h) bt (by rfl) (fun w' hS => by have hq : w'.heap[g]? = some (.cells #[.slice bA (S.length + 1) dA, .slice bt_ 0 dt] 26 (0, 0)) := hS; have q0 : w'.cell? ⟨g, 0, none⟩ = some (.slice bA (S.length + 1) dA) := (cell_of_block hq 0).trans rfl; have q1 : w'.cell? ⟨g, 1, none⟩ = some (.slice bt_ 0 dt) := (cell_of_block hq 1).trans rfl; clear hq hS; go_simp) ?_
      simp only [Act.put, List.setIfInBounds_toArray, List.set_cons_zero, List.set_cons_succ]
      refine wh_take 1 (some 60) (.pointer (some ⟨g, 0, none⟩)) rfl rfl (by kernel_rfl) (by kernel_rfl) (by kernel_rfl) (fun _ _ _ h => h) bt (by rfl) (fun _ _ => by kernel_rfl) ?_
      simp only [Act.put, List.setIfInBounds_toArray, List.set_cons_zero, List.set_cons_succ]
      refine wh_take 2 (some 61) (.slice bA (S.length + 1) dA) rfl rfl (by kernel_rfl) (by kernel_rfl) (by kernel_rfl) (fun _ _ _ h => h) bt (by rfl) (fun w' hS => by have hq : w'.heap[g]? = some (.cells #[.slice bA (S.length + 1) dA, .slice bt_ 0 dt] 26 (0, 0)) := hS; have q0 : w'.cell? ⟨g, 0, none⟩ = some (.slice bA (S.length + 1) dA) := (cell_of_block hq 0).trans rfl; clear hq hS; go_simp) ?_
      simp only [Act.put, List.setIfInBounds_toArray, List.set_cons_zero, List.set_cons_succ]
      refine wh_take 3 (some 62) (.int .i64 ((S.length : Int) + 1)) rfl rfl (by kernel_rfl) (by kernel_rfl) (by kernel_rfl) (fun _ _ _ h => h) bt (by rfl) (fun _ _ => by first | rfl | go_simp | (go_simp; rfl)) ?_
      simp only [Act.put, List.setIfInBounds_toArray, List.set_cons_zero, List.set_cons_succ]
      have hwr : IntKind.i64.wrap (S.length : Int) = (S.length : Int) := by rw [IntKind.wrap_i64]; omega
      refine wh_take 4 (some 63) (.int .i64 (S.length : Int)) rfl rfl (by kernel_rfl) (by kernel_rfl) (by kernel_rfl) (fun _ _ _ h => h) bt (by rfl) (fun _ _ => by go_simp; try rfl) ?_
      simp only [Act.put, List.setIfInBounds_toArray, List.set_cons_zero, List.set_cons_succ]
      clear hwr
      have pr0x8 : w7.cell? ⟨g + 1 + 1, 0, none⟩ = some (.slice none 0 0) := (cell_of_block br 0).trans rfl
      have pr1x8 : w7.cell? ⟨g + 1 + 1, 1, none⟩ = some (.slice none 0 0) := (cell_of_block br 1).trans rfl
      have fr0x8 := free_of_block br 0
      have fr1x8 := free_of_block br 1
      obtain ⟨w8, hNw8⟩ : ∃ G, ((w7.setCell ⟨g + 1 + 1, 0, none⟩ (.slice bA (S.length + 1) dA)).setCell ⟨g + 1 + 1, 1, none⟩ (.slice bt_ 0 dt)) = G := ⟨_, rfl⟩
      obtain ⟨s1, s2, s3, s4⟩ := set2T br _ _ hNw8
      replace bt := (s2 (g) (by omega)).trans bt
      replace bq := (s2 (g + 1) (by omega)).trans bq
      replace HT : Hid (TabO (g + 1 + 1 + 1) w8 (.slice bA (S.length + 1) dA) (.slice bt_ 0 dt) (S ++ [H]) []) := HT.out.same (fun q h1 _ => s2 q (by omega))
      replace HB : Hid (Below w.heap.size w w8) := s4 _ _ (by have := HBV.out.2; omega) HB.out
      replace LB : Hid (g + 1 + 1 + 1 ≤ w8.heap.size) := by unfold Hid; rw [s3]; exact LB.out
      replace br := s1
      clear s1 s2 s3 s4
      refine wh_skip 5 none w8 (by kernel_rfl) rfl rfl (by rfl) (by rw [← hNw8]; go_simp) bt ?_
      simp only [Act.put]
      clear pr0x8 pr1x8 fr0x8 fr1x8 hNw8
      refine wh_val 6 (some 5) (.int .i64 (S.length : Int)) w8 (by kernel_rfl) rfl rfl (by rfl) (by rfl) bt ?_
      simp only [Act.put, List.setIfInBounds_toArray, List.set_cons_zero, List.set_cons_succ]
      refine wh_val 7 (some 6) (.int .i64 0) w8 (by kernel_rfl) rfl rfl (by rfl) (by rfl) bt ?_
      simp only [Act.put, List.setIfInBounds_toArray, List.set_cons_zero, List.set_cons_succ]
      refine wh_done (by kernel_rfl) ?_
      have zr0 : w8.cell? ⟨g + 1 + 1, 0, none⟩ = some (.slice bA (S.length + 1) dA) := (cell_of_block br 0).trans rfl
      have zr1 : w8.cell? ⟨g + 1 + 1, 1, none⟩ = some (.slice bt_ 0 dt) := (cell_of_block br 1).trans rfl
      go_wp2
      exact bodyPost_ret (v := .tuple #[.agg #[.slice bA (S.length + 1) dA, .slice bt_ 0 dt], .int .i64 (S.length : Int), .int .i64 0]) (by simp [results, Try.results7, go_sem, zr0, zr1]) rfl ⟨_, _, rfl, HT.out.base (by have := HBV.out.2; omega), HB.out⟩

end Go.Proofs.Ytjielcilcningaa
