/-
  Handles dropped and moved: what the law's side tells, the moving, and both laws. (Made by a generator.)
-/
import Derived.Test.YtjielcilcningaaTB21
namespace Go.Proofs.Ytjielcilcningaa
open Go.ChangeShapes Go.WideShapes Go.ChangeAt Go.RowKit Go.Maps

theorem out_true {S : List Hd} {F : List Int} {x res : Int} {S1 : List Hd} {F1 : List Int} {H1 : Hd} {C1 : Int} (h : OutR true S F x res S1 F1 H1 C1) :
    (∃ H0, GoodT S F ∧ FindIs S x res H0 0 ∧ H0.o = false ∧ S = S1 ∧ F = F1 ∧ H1 = zH ∧ C1 = 6) ∨ (OutR false S F x res S1 F1 H1 C1 ∧ ∃ H0 C0, FindR S F x res H0 C0 ∧ ((C0 == 0) && !H0.o) = false) := by
  rcases h with ⟨hG, h⟩ | ⟨hG, H0, C0, hf, ⟨hc, h⟩ | ⟨rfl, ⟨_, ho⟩, h⟩ | ⟨rfl, ho, h⟩ | ⟨rfl, ho, h⟩⟩
  · exact .inr ⟨.inl ⟨hG, h⟩, zH, 1, .inr ⟨hG, rfl, rfl⟩, rfl⟩
  · exact .inr ⟨.inr ⟨hG, H0, C0, hf, .inl ⟨hc, h⟩⟩, H0, C0, .inl ⟨hG, hf⟩, by simp [hc]⟩
  · exact .inl ⟨H0, hG, hf, ho, h⟩
  · exact .inr ⟨.inr ⟨hG, H0, 0, hf, .inr (.inr (.inl ⟨rfl, rfl, h⟩))⟩, H0, 0, .inl ⟨hG, hf⟩, by simpa using ho⟩
  · exact .inr ⟨.inr ⟨hG, H0, 0, hf, .inr (.inr (.inr ⟨rfl, rfl, h⟩))⟩, H0, 0, .inl ⟨hG, hf⟩, by simpa using ho⟩

set_option maxRecDepth 100000 in
set_option maxHeartbeats 3200000 in
theorem specDrop (a b : Option Addr) (c d : Nat) (S : List Hd) (F : List Int) (x res : Int) (S1 : List Hd) (F1 : List Int) (H1 : Hd) (C1 : Int) (w : World) (hS : Hid (Hds w a S)) (hF : Hid (Ints w b F)) (lS : S.length ≤ 1048576) (lF : F.length ≤ 1048576) (hd : F.length ≤ d) (hf : OutR false S F x res S1 F1 H1 C1) :
    Calls Try.prog 36 #[tabV a S.length c b F.length d, .int .i64 x, .int .i64 res] w fun e w' => ∃ v u, e = .returned (.tuple #[.agg #[v, u], hdV H1, .int .i64 C1]) ∧ Hid (TabO w.heap.size w' v u S1 F1) ∧ Below w.heap.size w w' := by
  obtain ⟨g, hg⟩ : ∃ g, w.heap.size = g := ⟨_, rfl⟩
  obtain ⟨V, hV⟩ : ∃ W, (((w.alloc (.cells #[.slice a S.length c, .slice b F.length d] 26)).alloc (.cells #[.slice none 0 0, .slice none 0 0] 26)).alloc (.cells #[.bool false, .int .i64 0, .int .i64 0, .bool false, .int .i64 0, .int .i64 0] 28)) = W := ⟨_, rfl⟩
  have hbV : Below w.heap.size w V := by rw [← hV]; exact (bel_alloc (bel_alloc (bel_alloc (Below.refl _ _) _) _) _)
  have hzV : V.heap.size = g + 1 + 1 + 1 := by rw [← hV, ← hg]; simp
  have bt : V.heap[g]? = some (.cells #[.slice a S.length c, .slice b F.length d] 26 (0, 0)) := by
    have h := heap_alloc_new w (.cells #[.slice a S.length c, .slice b F.length d] 26)
    have e : w.heap.size = g := by exact hg
    rw [e] at h
    rw [← hV]
    replace h := (Below.heap_alloc _ (.cells #[.slice none 0 0, .slice none 0 0] 26) _ (lt_of_block h)).trans h
    replace h := (Below.heap_alloc _ (.cells #[.bool false, .int .i64 0, .int .i64 0, .bool false, .int .i64 0, .int .i64 0] 28) _ (lt_of_block h)).trans h
    exact h
  have br : V.heap[g + 1]? = some (.cells #[.slice none 0 0, .slice none 0 0] 26 (0, 0)) := by
    have h := heap_alloc_new (w.alloc (.cells #[.slice a S.length c, .slice b F.length d] 26)) (.cells #[.slice none 0 0, .slice none 0 0] 26)
    have e : (w.alloc (.cells #[.slice a S.length c, .slice b F.length d] 26)).heap.size = g + 1 := by simp [hg]
    rw [e] at h
    rw [← hV]
    replace h := (Below.heap_alloc _ (.cells #[.bool false, .int .i64 0, .int .i64 0, .bool false, .int .i64 0, .int .i64 0] 28) _ (lt_of_block h)).trans h
    exact h
  have bh : V.heap[g + 1 + 1]? = some (.cells #[.bool false, .int .i64 0, .int .i64 0, .bool false, .int .i64 0, .int .i64 0] 28 (0, 0)) := by
    have h := heap_alloc_new ((w.alloc (.cells #[.slice a S.length c, .slice b F.length d] 26)).alloc (.cells #[.slice none 0 0, .slice none 0 0] 26)) (.cells #[.bool false, .int .i64 0, .int .i64 0, .bool false, .int .i64 0, .int .i64 0] 28)
    have e : ((w.alloc (.cells #[.slice a S.length c, .slice b F.length d] 26)).alloc (.cells #[.slice none 0 0, .slice none 0 0] 26)).heap.size = g + 1 + 1 := by simp [hg]
    rw [e] at h
    rw [← hV]
    exact h
  have HBV : Hid (Below w.heap.size w V ∧ w.heap.size = g) := ⟨hbV, hg⟩
  have HB : Hid (Below w.heap.size w V) := hbV
  have LB : Hid (g + 1 + 1 + 1 ≤ V.heap.size) := Nat.le_of_eq hzV.symm
  have CC := specOut false a b c d S F x res S1 F1 H1 C1 V (hS.out.below hbV) (hF.out.below hbV) lS lF hd hf
  unfold tabV at CC ⊢
  unfold hdV at CC ⊢
  clear hbV hzV hS hF hd hf lS lF
  have pt0x1 : V.cell? ⟨g, 0, none⟩ = some (.slice a S.length c) := (cell_of_block bt 0).trans rfl
  have pt1x1 : V.cell? ⟨g, 1, none⟩ = some (.slice b F.length d) := (cell_of_block bt 1).trans rfl
  go_enter Try.func36, Try.ntmps36
  go_wp2_with fail
  clear hV hg pt0x1 pt1x1
  refine (CC).mono ?_
  rintro e w1 ⟨v, u, rfl, HT, hb⟩
  replace HT := HT.out.base LB.out
  replace bt := (hb.block (g) (lt_of_block bt)).trans bt
  replace br := (hb.block (g + 1) (lt_of_block br)).trans br
  replace bh := (hb.block (g + 1 + 1) (lt_of_block bh)).trans bh
  replace HB : Hid (Below w.heap.size w w1) := bel_step HB.out hb
  replace LB : Hid (g + 1 + 1 + 1 ≤ w1.heap.size) := Nat.le_trans LB.out hb.size
  clear hb
  obtain ⟨a1, c1, b1, d1, rfl, rfl, _, _, _⟩ := HT.shape2
  replace HT : Hid (TabO (g + 1 + 1 + 1) w1 (.slice a1 S1.length c1) (.slice b1 F1.length d1) S1 F1) := HT
  have pr0x2 : w1.cell? ⟨g + 1, 0, none⟩ = some (.slice none 0 0) := (cell_of_block br 0).trans rfl
  have pr1x2 : w1.cell? ⟨g + 1, 1, none⟩ = some (.slice none 0 0) := (cell_of_block br 1).trans rfl
  have fr0x2 := free_of_block br 0
  have fr1x2 := free_of_block br 1
  obtain ⟨w2, hNw2⟩ : ∃ G, ((w1.setCell ⟨g + 1, 0, none⟩ (.slice a1 S1.length c1)).setCell ⟨g + 1, 1, none⟩ (.slice b1 F1.length d1)) = G := ⟨_, rfl⟩
  obtain ⟨s1, s2, s3, s4⟩ := set2T br _ _ hNw2
  replace bt := (s2 (g) (by omega)).trans bt
  replace bh := (s2 (g + 1 + 1) (by omega)).trans bh
  replace HT : Hid (TabO (g + 1 + 1 + 1) w2 (.slice a1 S1.length c1) (.slice b1 F1.length d1) S1 F1) := HT.out.same (fun q h1 _ => s2 q (by omega))
  replace HB : Hid (Below w.heap.size w w2) := s4 _ _ (by have := HBV.out.2; omega) HB.out
  replace LB : Hid (g + 1 + 1 + 1 ≤ w2.heap.size) := by unfold Hid; rw [s3]; exact LB.out
  replace br := s1
  clear s1 s2 s3 s4
  have ph0x3 : w2.cell? ⟨g + 1 + 1, 0, none⟩ = some (.bool false) := (cell_of_block bh 0).trans rfl
  have ph1x3 : w2.cell? ⟨g + 1 + 1, 1, none⟩ = some (.int .i64 0) := (cell_of_block bh 1).trans rfl
  have ph2x3 : w2.cell? ⟨g + 1 + 1, 2, none⟩ = some (.int .i64 0) := (cell_of_block bh 2).trans rfl
  have ph3x3 : w2.cell? ⟨g + 1 + 1, 3, none⟩ = some (.bool false) := (cell_of_block bh 3).trans rfl
  have ph4x3 : w2.cell? ⟨g + 1 + 1, 4, none⟩ = some (.int .i64 0) := (cell_of_block bh 4).trans rfl
  have ph5x3 : w2.cell? ⟨g + 1 + 1, 5, none⟩ = some (.int .i64 0) := (cell_of_block bh 5).trans rfl
  have fh0x3 := free_of_block bh 0
  have fh1x3 := free_of_block bh 1
  have fh2x3 := free_of_block bh 2
  have fh3x3 := free_of_block bh 3
  have fh4x3 := free_of_block bh 4
  have fh5x3 := free_of_block bh 5
  obtain ⟨w3, hNw3⟩ : ∃ G, ((((((w2.setCell ⟨g + 1 + 1, 0, none⟩ (.bool H1.u)).setCell ⟨g + 1 + 1, 1, none⟩ (.int .i64 H1.r)).setCell ⟨g + 1 + 1, 2, none⟩ (.int .i64 H1.p)).setCell ⟨g + 1 + 1, 3, none⟩ (.bool H1.o)).setCell ⟨g + 1 + 1, 4, none⟩ (.int .i64 H1.l)).setCell ⟨g + 1 + 1, 5, none⟩ (.int .i64 H1.s)) = G := ⟨_, rfl⟩
  obtain ⟨s1, s2, s3, s4⟩ := set6T bh _ _ _ _ _ _ hNw3
  replace bt := (s2 (g) (by omega)).trans bt
  replace br := (s2 (g + 1) (by omega)).trans br
  replace HT : Hid (TabO (g + 1 + 1 + 1) w3 (.slice a1 S1.length c1) (.slice b1 F1.length d1) S1 F1) := HT.out.same (fun q h1 _ => s2 q (by omega))
  replace HB : Hid (Below w.heap.size w w3) := s4 _ _ (by have := HBV.out.2; omega) HB.out
  replace LB : Hid (g + 1 + 1 + 1 ≤ w3.heap.size) := by unfold Hid; rw [s3]; exact LB.out
  replace bh := s1
  clear s1 s2 s3 s4
  have zr0 : w3.cell? ⟨g + 1, 0, none⟩ = some (.slice a1 S1.length c1) := (cell_of_block br 0).trans rfl
  have zr1 : w3.cell? ⟨g + 1, 1, none⟩ = some (.slice b1 F1.length d1) := (cell_of_block br 1).trans rfl
  have zh0 : w3.cell? ⟨g + 1 + 1, 0, none⟩ = some (.bool H1.u) := (cell_of_block bh 0).trans rfl
  have zh1 : w3.cell? ⟨g + 1 + 1, 1, none⟩ = some (.int .i64 H1.r) := (cell_of_block bh 1).trans rfl
  have zh2 : w3.cell? ⟨g + 1 + 1, 2, none⟩ = some (.int .i64 H1.p) := (cell_of_block bh 2).trans rfl
  have zh3 : w3.cell? ⟨g + 1 + 1, 3, none⟩ = some (.bool H1.o) := (cell_of_block bh 3).trans rfl
  have zh4 : w3.cell? ⟨g + 1 + 1, 4, none⟩ = some (.int .i64 H1.l) := (cell_of_block bh 4).trans rfl
  have zh5 : w3.cell? ⟨g + 1 + 1, 5, none⟩ = some (.int .i64 H1.s) := (cell_of_block bh 5).trans rfl
  go_wp2
  exact bodyPost_ret (v := .tuple #[.agg #[.slice a1 S1.length c1, .slice b1 F1.length d1], .agg #[.bool H1.u, .int .i64 H1.r, .int .i64 H1.p, .bool H1.o, .int .i64 H1.l, .int .i64 H1.s], .int .i64 C1]) (by simp [results, Try.results36, go_sem, zr0, zr1, zh0, zh1, zh2, zh3, zh4, zh5]) rfl ⟨_, _, rfl, HT.out.base (by have := HBV.out.2; omega), HB.out⟩

set_option maxRecDepth 100000 in
set_option maxHeartbeats 3200000 in
theorem implMove (a b : Option Addr) (c d : Nat) (S : List Hd) (F : List Int) (x res : Int) (S1 : List Hd) (F1 : List Int) (H1 : Hd) (C1 : Int) (w : World) (hS : Hid (Hds w a S)) (hF : Hid (Ints w b F)) (lS : S.length ≤ 1048576) (lF : F.length ≤ 1048576) (okF : Hid (∀ x ∈ F, -9223372036854775808 ≤ x ∧ x ≤ 9223372036854775807)) (hf : OutR true S F x res S1 F1 H1 C1) :
    Calls Try.prog 16 #[tabV a S.length c b F.length d, .int .i64 x, .int .i64 res] w fun e w' => ∃ v u, e = .returned (.tuple #[.agg #[v, u], hdV H1, .int .i64 C1]) ∧ Hid (TabO w.heap.size w' v u S1 F1) ∧ Below w.heap.size w w' := by
  obtain ⟨g, hg⟩ : ∃ g, w.heap.size = g := ⟨_, rfl⟩
  obtain ⟨V, hV⟩ : ∃ W, (((w.alloc (.cells #[.slice a S.length c, .slice b F.length d] 26)).alloc (.cells #[.slice none 0 0, .slice none 0 0] 26)).alloc (.cells #[.bool false, .int .i64 0, .int .i64 0, .bool false, .int .i64 0, .int .i64 0] 28)) = W := ⟨_, rfl⟩
  have hbV : Below w.heap.size w V := by rw [← hV]; exact (bel_alloc (bel_alloc (bel_alloc (Below.refl _ _) _) _) _)
  have hzV : V.heap.size = g + 1 + 1 + 1 := by rw [← hV, ← hg]; simp
  have bt : V.heap[g]? = some (.cells #[.slice a S.length c, .slice b F.length d] 26 (0, 0)) := by
    have h := heap_alloc_new w (.cells #[.slice a S.length c, .slice b F.length d] 26)
    have e : w.heap.size = g := by exact hg
    rw [e] at h
    rw [← hV]
    replace h := (Below.heap_alloc _ (.cells #[.slice none 0 0, .slice none 0 0] 26) _ (lt_of_block h)).trans h
    replace h := (Below.heap_alloc _ (.cells #[.bool false, .int .i64 0, .int .i64 0, .bool false, .int .i64 0, .int .i64 0] 28) _ (lt_of_block h)).trans h
    exact h
  have br : V.heap[g + 1]? = some (.cells #[.slice none 0 0, .slice none 0 0] 26 (0, 0)) := by
    have h := heap_alloc_new (w.alloc (.cells #[.slice a S.length c, .slice b F.length d] 26)) (.cells #[.slice none 0 0, .slice none 0 0] 26)
    have e : (w.alloc (.cells #[.slice a S.length c, .slice b F.length d] 26)).heap.size = g + 1 := by simp [hg]
    rw [e] at h
    rw [← hV]
    replace h := (Below.heap_alloc _ (.cells #[.bool false, .int .i64 0, .int .i64 0, .bool false, .int .i64 0, .int .i64 0] 28) _ (lt_of_block h)).trans h
    exact h
  have bh : V.heap[g + 1 + 1]? = some (.cells #[.bool false, .int .i64 0, .int .i64 0, .bool false, .int .i64 0, .int .i64 0] 28 (0, 0)) := by
    have h := heap_alloc_new ((w.alloc (.cells #[.slice a S.length c, .slice b F.length d] 26)).alloc (.cells #[.slice none 0 0, .slice none 0 0] 26)) (.cells #[.bool false, .int .i64 0, .int .i64 0, .bool false, .int .i64 0, .int .i64 0] 28)
    have e : ((w.alloc (.cells #[.slice a S.length c, .slice b F.length d] 26)).alloc (.cells #[.slice none 0 0, .slice none 0 0] 26)).heap.size = g + 1 + 1 := by simp [hg]
    rw [e] at h
    rw [← hV]
    exact h
  have HBV : Hid (Below w.heap.size w V ∧ w.heap.size = g) := ⟨hbV, hg⟩
  have HB : Hid (Below w.heap.size w V) := hbV
  have LB : Hid (g + 1 + 1 + 1 ≤ V.heap.size) := Nat.le_of_eq hzV.symm
  have HOF : Hid (∀ H0 C0, FindR S F x res H0 C0 → Calls Try.prog 29 #[tabV a S.length c b F.length d, .int .i64 x, .int .i64 res] V fun e w' => HofPost V S F x res H0 C0 e w') := fun H0 C0 h => implHof a b c d S F x res H0 C0 V (hS.out.below hbV) (hF.out.below hbV) lS lF okF h
  have DR : Hid (OutR false S F x res S1 F1 H1 C1 → ∀ w', Below w.heap.size w w' → Calls Try.prog 12 #[tabV a S.length c b F.length d, .int .i64 x, .int .i64 res] w' fun e w'' => ∃ v u, e = .returned (.tuple #[.agg #[v, u], hdV H1, .int .i64 C1]) ∧ Hid (TabO w'.heap.size w'' v u S1 F1) ∧ Below w'.heap.size w' w'') := fun h w' hb => implDrop a b c d S F x res S1 F1 H1 C1 w' (hS.out.below hb) (hF.out.below hb) lS lF okF h
  have HZV : Hid (V.heap.size = g + 1 + 1 + 1) := hzV
  unfold tabV at HOF DR ⊢
  unfold hdV at DR ⊢
  clear hbV hzV hS hF okF
  rcases out_true hf with ⟨H0, hG, hfi, ho, rfl, rfl, rfl, rfl⟩ | ⟨ho, H0, C0, hfi, hc⟩
  · have OP := HOF.out H0 0 (.inl ⟨hG, hfi⟩)
    have HG : Hid (GoodT S F) := hG
    clear HOF hG hfi hf DR
    have pt0x1 : V.cell? ⟨g, 0, none⟩ = some (.slice a S.length c) := (cell_of_block bt 0).trans rfl
    have pt1x1 : V.cell? ⟨g, 1, none⟩ = some (.slice b F.length d) := (cell_of_block bt 1).trans rfl
    go_enter Try.func16, Try.ntmps16
    go_wp2_with fail
    clear hV hg pt0x1 pt1x1
    refine (OP).mono ?_
    rintro e w1 ⟨hb, y, m, rfl, h⟩
    replace bt := (hb.block (g) (lt_of_block bt)).trans bt
    replace br := (hb.block (g + 1) (lt_of_block br)).trans br
    replace bh := (hb.block (g + 1 + 1) (lt_of_block bh)).trans bh
    replace HB : Hid (Below w.heap.size w w1) := bel_step HB.out hb
    replace LB : Hid (g + 1 + 1 + 1 ≤ w1.heap.size) := Nat.le_trans LB.out hb.size
    clear hb
    clear OP
    obtain ⟨v, HO⟩ : ∃ v, Hid (OT (g + 1 + 1 + 1) w1 y m S F v) := by
      rcases h with ⟨_, _, v, h⟩ | ⟨h, _⟩
      · rw [HZV.out] at h; exact ⟨v, h⟩
      · exact absurd HG.out h
    clear h
    unfold hdV
    obtain ⟨u0, r0, p0, o0, l0, s0⟩ := H0
    simp only at ho
    subst ho
    obtain ⟨yk, hyk⟩ : ∃ z, w1.heap.size = z := ⟨_, rfl⟩
    obtain ⟨w2, hNw2⟩ : ∃ W, w1.alloc (.cells #[.bool u0, .int .i64 r0, .int .i64 p0, .bool false, .int .i64 l0, .int .i64 s0] 28) = W := ⟨_, rfl⟩
    have hb : Below w1.heap.size w1 w2 := by rw [← hNw2]; exact bel_alloc (Below.refl _ _) _
    have hleyk : Hid (g + 1 + 1 + 1 ≤ yk) := by unfold Hid; rw [← hyk]; exact LB.out
    replace bt := (hb.block (g) (lt_of_block bt)).trans bt
    replace br := (hb.block (g + 1) (lt_of_block br)).trans br
    replace bh := (hb.block (g + 1 + 1) (lt_of_block bh)).trans bh
    replace HO : Hid (OT (g + 1 + 1 + 1) w2 y m S F v) := HO.out.below hb
    replace HB : Hid (Below w.heap.size w w2) := bel_step HB.out hb
    replace LB : Hid (g + 1 + 1 + 1 ≤ w2.heap.size) := Nat.le_trans LB.out hb.size
    have bk : w2.heap[yk]? = some (.cells #[.bool u0, .int .i64 r0, .int .i64 p0, .bool false, .int .i64 l0, .int .i64 s0] 28 (0, 0)) := by rw [← hNw2, ← hyk]; exact heap_alloc_new _ _
    clear hb
    have pk0x2 : w2.cell? ⟨yk, 0, none⟩ = some (.bool u0) := (cell_of_block bk 0).trans rfl
    have pk1x2 : w2.cell? ⟨yk, 1, none⟩ = some (.int .i64 r0) := (cell_of_block bk 1).trans rfl
    have pk2x2 : w2.cell? ⟨yk, 2, none⟩ = some (.int .i64 p0) := (cell_of_block bk 2).trans rfl
    have pk3x2 : w2.cell? ⟨yk, 3, none⟩ = some (.bool false) := (cell_of_block bk 3).trans rfl
    have pk4x2 : w2.cell? ⟨yk, 4, none⟩ = some (.int .i64 l0) := (cell_of_block bk 4).trans rfl
    have pk5x2 : w2.cell? ⟨yk, 5, none⟩ = some (.int .i64 s0) := (cell_of_block bk 5).trans rfl
    have TO := implTold (g + 1 + 1 + 1) y m _ S F w2 HO lF
    go_wp2_with fail
    clear hNw2 hyk pk0x2 pk1x2 pk2x2 pk3x2 pk4x2 pk5x2
    refine (TO).mono ?_
    rintro e w3 ⟨v1, u1, rfl, HT, hb⟩
    replace bt := (hb.block (g) (lt_of_block bt)).trans bt
    replace br := (hb.block (g + 1) (lt_of_block br)).trans br
    replace bh := (hb.block (g + 1 + 1) (lt_of_block bh)).trans bh
    replace bk := (hb.block (yk) (lt_of_block bk)).trans bk
    replace HO : Hid (OT (g + 1 + 1 + 1) w3 y m S F v) := HO.out.below hb
    replace HB : Hid (Below w.heap.size w w3) := bel_step HB.out hb
    replace LB : Hid (g + 1 + 1 + 1 ≤ w3.heap.size) := Nat.le_trans LB.out hb.size
    clear hb
    clear TO
    obtain ⟨a1, c1, b1, d1, rfl, rfl, _, _, _⟩ := HT.out.shape2
    clear HO
    have pr0x3 : w3.cell? ⟨g + 1, 0, none⟩ = some (.slice none 0 0) := (cell_of_block br 0).trans rfl
    have pr1x3 : w3.cell? ⟨g + 1, 1, none⟩ = some (.slice none 0 0) := (cell_of_block br 1).trans rfl
    have fr0x3 := free_of_block br 0
    have fr1x3 := free_of_block br 1
    obtain ⟨w4, hNw4⟩ : ∃ G, ((w3.setCell ⟨g + 1, 0, none⟩ (.slice a1 S.length c1)).setCell ⟨g + 1, 1, none⟩ (.slice b1 F.length d1)) = G := ⟨_, rfl⟩
    obtain ⟨s1, s2, s3, s4⟩ := set2T br _ _ hNw4
    replace bt := (s2 (g) (by omega)).trans bt
    replace bh := (s2 (g + 1 + 1) (by omega)).trans bh
    replace bk := (s2 (yk) (by have := hleyk.out; omega)).trans bk
    replace HT : Hid (TabO (g + 1 + 1 + 1) w4 (.slice a1 S.length c1) (.slice b1 F.length d1) S F) := HT.out.same (fun q h1 _ => s2 q (by omega))
    replace HB : Hid (Below w.heap.size w w4) := s4 _ _ (by have := HBV.out.2; omega) HB.out
    replace LB : Hid (g + 1 + 1 + 1 ≤ w4.heap.size) := by unfold Hid; rw [s3]; exact LB.out
    replace br := s1
    clear s1 s2 s3 s4
    have ph0x4 : w4.cell? ⟨g + 1 + 1, 0, none⟩ = some (.bool false) := (cell_of_block bh 0).trans rfl
    have ph1x4 : w4.cell? ⟨g + 1 + 1, 1, none⟩ = some (.int .i64 0) := (cell_of_block bh 1).trans rfl
    have ph2x4 : w4.cell? ⟨g + 1 + 1, 2, none⟩ = some (.int .i64 0) := (cell_of_block bh 2).trans rfl
    have ph3x4 : w4.cell? ⟨g + 1 + 1, 3, none⟩ = some (.bool false) := (cell_of_block bh 3).trans rfl
    have ph4x4 : w4.cell? ⟨g + 1 + 1, 4, none⟩ = some (.int .i64 0) := (cell_of_block bh 4).trans rfl
    have ph5x4 : w4.cell? ⟨g + 1 + 1, 5, none⟩ = some (.int .i64 0) := (cell_of_block bh 5).trans rfl
    have fh0x4 := free_of_block bh 0
    have fh1x4 := free_of_block bh 1
    have fh2x4 := free_of_block bh 2
    have fh3x4 := free_of_block bh 3
    have fh4x4 := free_of_block bh 4
    have fh5x4 := free_of_block bh 5
    obtain ⟨w5, hNw5⟩ : ∃ G, ((((((w4.setCell ⟨g + 1 + 1, 0, none⟩ (.bool false)).setCell ⟨g + 1 + 1, 1, none⟩ (.int .i64 0)).setCell ⟨g + 1 + 1, 2, none⟩ (.int .i64 0)).setCell ⟨g + 1 + 1, 3, none⟩ (.bool false)).setCell ⟨g + 1 + 1, 4, none⟩ (.int .i64 0)).setCell ⟨g + 1 + 1, 5, none⟩ (.int .i64 0)) = G := ⟨_, rfl⟩
    obtain ⟨s1, s2, s3, s4⟩ := set6T bh _ _ _ _ _ _ hNw5
    replace bt := (s2 (g) (by omega)).trans bt
    replace br := (s2 (g + 1) (by omega)).trans br
    replace bk := (s2 (yk) (by have := hleyk.out; omega)).trans bk
    replace HT : Hid (TabO (g + 1 + 1 + 1) w5 (.slice a1 S.length c1) (.slice b1 F.length d1) S F) := HT.out.same (fun q h1 _ => s2 q (by omega))
    replace HB : Hid (Below w.heap.size w w5) := s4 _ _ (by have := HBV.out.2; omega) HB.out
    replace LB : Hid (g + 1 + 1 + 1 ≤ w5.heap.size) := by unfold Hid; rw [s3]; exact LB.out
    replace bh := s1
    clear s1 s2 s3 s4
    have zr0 : w5.cell? ⟨g + 1, 0, none⟩ = some (.slice a1 S.length c1) := (cell_of_block br 0).trans rfl
    have zr1 : w5.cell? ⟨g + 1, 1, none⟩ = some (.slice b1 F.length d1) := (cell_of_block br 1).trans rfl
    have zh0 : w5.cell? ⟨g + 1 + 1, 0, none⟩ = some (.bool false) := (cell_of_block bh 0).trans rfl
    have zh1 : w5.cell? ⟨g + 1 + 1, 1, none⟩ = some (.int .i64 0) := (cell_of_block bh 1).trans rfl
    have zh2 : w5.cell? ⟨g + 1 + 1, 2, none⟩ = some (.int .i64 0) := (cell_of_block bh 2).trans rfl
    have zh3 : w5.cell? ⟨g + 1 + 1, 3, none⟩ = some (.bool false) := (cell_of_block bh 3).trans rfl
    have zh4 : w5.cell? ⟨g + 1 + 1, 4, none⟩ = some (.int .i64 0) := (cell_of_block bh 4).trans rfl
    have zh5 : w5.cell? ⟨g + 1 + 1, 5, none⟩ = some (.int .i64 0) := (cell_of_block bh 5).trans rfl
    go_wp2
    exact bodyPost_ret (v := .tuple #[.agg #[.slice a1 S.length c1, .slice b1 F.length d1], .agg #[.bool false, .int .i64 0, .int .i64 0, .bool false, .int .i64 0, .int .i64 0], .int .i64 6]) (by simp [results, Try.results16, go_sem, zr0, zr1, zh0, zh1, zh2, zh3, zh4, zh5]) rfl ⟨_, _, rfl, HT.out.base (by have := HBV.out.2; omega), HB.out⟩
  · have OP := HOF.out H0 C0 hfi
    have DC := DR.out ho
    clear HOF hfi hf DR ho
    have pt0x1 : V.cell? ⟨g, 0, none⟩ = some (.slice a S.length c) := (cell_of_block bt 0).trans rfl
    have pt1x1 : V.cell? ⟨g, 1, none⟩ = some (.slice b F.length d) := (cell_of_block bt 1).trans rfl
    go_enter Try.func16, Try.ntmps16
    go_wp2_with fail
    clear hV hg pt0x1 pt1x1
    refine (OP).mono ?_
    rintro e w1 ⟨hb, y, m, rfl, h⟩
    replace bt := (hb.block (g) (lt_of_block bt)).trans bt
    replace br := (hb.block (g + 1) (lt_of_block br)).trans br
    replace bh := (hb.block (g + 1 + 1) (lt_of_block bh)).trans bh
    replace HB : Hid (Below w.heap.size w w1) := bel_step HB.out hb
    replace LB : Hid (g + 1 + 1 + 1 ≤ w1.heap.size) := Nat.le_trans LB.out hb.size
    clear hb
    clear OP h
    unfold hdV
    obtain ⟨u0, r0, p0, o0, l0, s0⟩ := H0
    simp only at hc
    obtain ⟨yk, hyk⟩ : ∃ z, w1.heap.size = z := ⟨_, rfl⟩
    obtain ⟨w2, hNw2⟩ : ∃ W, w1.alloc (.cells #[.bool u0, .int .i64 r0, .int .i64 p0, .bool o0, .int .i64 l0, .int .i64 s0] 28) = W := ⟨_, rfl⟩
    have hb : Below w1.heap.size w1 w2 := by rw [← hNw2]; exact bel_alloc (Below.refl _ _) _
    have hleyk : Hid (g + 1 + 1 + 1 ≤ yk) := by unfold Hid; rw [← hyk]; exact LB.out
    replace bt := (hb.block (g) (lt_of_block bt)).trans bt
    replace br := (hb.block (g + 1) (lt_of_block br)).trans br
    replace bh := (hb.block (g + 1 + 1) (lt_of_block bh)).trans bh
    replace HB : Hid (Below w.heap.size w w2) := bel_step HB.out hb
    replace LB : Hid (g + 1 + 1 + 1 ≤ w2.heap.size) := Nat.le_trans LB.out hb.size
    have bk : w2.heap[yk]? = some (.cells #[.bool u0, .int .i64 r0, .int .i64 p0, .bool o0, .int .i64 l0, .int .i64 s0] 28 (0, 0)) := by rw [← hNw2, ← hyk]; exact heap_alloc_new _ _
    clear hb
    have DD := DC w2 HB.out
    clear DC
    by_cases hc0 : C0 = 0
    · subst hc0
      have ho : o0 = true := by simpa using hc
      subst ho
      clear hc
      have pk0x2 : w2.cell? ⟨yk, 0, none⟩ = some (.bool u0) := (cell_of_block bk 0).trans rfl
      have pk1x2 : w2.cell? ⟨yk, 1, none⟩ = some (.int .i64 r0) := (cell_of_block bk 1).trans rfl
      have pk2x2 : w2.cell? ⟨yk, 2, none⟩ = some (.int .i64 p0) := (cell_of_block bk 2).trans rfl
      have pk3x2 : w2.cell? ⟨yk, 3, none⟩ = some (.bool true) := (cell_of_block bk 3).trans rfl
      have pk4x2 : w2.cell? ⟨yk, 4, none⟩ = some (.int .i64 l0) := (cell_of_block bk 4).trans rfl
      have pk5x2 : w2.cell? ⟨yk, 5, none⟩ = some (.int .i64 s0) := (cell_of_block bk 5).trans rfl
      have pt0x3 : w2.cell? ⟨g, 0, none⟩ = some (.slice a S.length c) := (cell_of_block bt 0).trans rfl
      have pt1x3 : w2.cell? ⟨g, 1, none⟩ = some (.slice b F.length d) := (cell_of_block bt 1).trans rfl
      go_wp2_with fail
      clear hNw2 hyk pk0x2 pk1x2 pk2x2 pk3x2 pk4x2 pk5x2 pt0x3 pt1x3
      refine (DD).mono ?_
      rintro e w3 ⟨v, u, rfl, HT, hb⟩
      replace HT := HT.out.base LB.out
      replace bt := (hb.block (g) (lt_of_block bt)).trans bt
      replace br := (hb.block (g + 1) (lt_of_block br)).trans br
      replace bh := (hb.block (g + 1 + 1) (lt_of_block bh)).trans bh
      replace bk := (hb.block (yk) (lt_of_block bk)).trans bk
      replace HB : Hid (Below w.heap.size w w3) := bel_step HB.out hb
      replace LB : Hid (g + 1 + 1 + 1 ≤ w3.heap.size) := Nat.le_trans LB.out hb.size
      clear hb
      obtain ⟨a1, c1, b1, d1, rfl, rfl, _, _, _⟩ := HT.shape2
      replace HT : Hid (TabO (g + 1 + 1 + 1) w3 (.slice a1 S1.length c1) (.slice b1 F1.length d1) S1 F1) := HT
      have pr0x4 : w3.cell? ⟨g + 1, 0, none⟩ = some (.slice none 0 0) := (cell_of_block br 0).trans rfl
      have pr1x4 : w3.cell? ⟨g + 1, 1, none⟩ = some (.slice none 0 0) := (cell_of_block br 1).trans rfl
      have fr0x4 := free_of_block br 0
      have fr1x4 := free_of_block br 1
      obtain ⟨w4, hNw4⟩ : ∃ G, ((w3.setCell ⟨g + 1, 0, none⟩ (.slice a1 S1.length c1)).setCell ⟨g + 1, 1, none⟩ (.slice b1 F1.length d1)) = G := ⟨_, rfl⟩
      obtain ⟨s1, s2, s3, s4⟩ := set2T br _ _ hNw4
      replace bt := (s2 (g) (by omega)).trans bt
      replace bh := (s2 (g + 1 + 1) (by omega)).trans bh
      replace bk := (s2 (yk) (by have := hleyk.out; omega)).trans bk
      replace HT : Hid (TabO (g + 1 + 1 + 1) w4 (.slice a1 S1.length c1) (.slice b1 F1.length d1) S1 F1) := HT.out.same (fun q h1 _ => s2 q (by omega))
      replace HB : Hid (Below w.heap.size w w4) := s4 _ _ (by have := HBV.out.2; omega) HB.out
      replace LB : Hid (g + 1 + 1 + 1 ≤ w4.heap.size) := by unfold Hid; rw [s3]; exact LB.out
      replace br := s1
      clear s1 s2 s3 s4
      have ph0x5 : w4.cell? ⟨g + 1 + 1, 0, none⟩ = some (.bool false) := (cell_of_block bh 0).trans rfl
      have ph1x5 : w4.cell? ⟨g + 1 + 1, 1, none⟩ = some (.int .i64 0) := (cell_of_block bh 1).trans rfl
      have ph2x5 : w4.cell? ⟨g + 1 + 1, 2, none⟩ = some (.int .i64 0) := (cell_of_block bh 2).trans rfl
      have ph3x5 : w4.cell? ⟨g + 1 + 1, 3, none⟩ = some (.bool false) := (cell_of_block bh 3).trans rfl
      have ph4x5 : w4.cell? ⟨g + 1 + 1, 4, none⟩ = some (.int .i64 0) := (cell_of_block bh 4).trans rfl
      have ph5x5 : w4.cell? ⟨g + 1 + 1, 5, none⟩ = some (.int .i64 0) := (cell_of_block bh 5).trans rfl
      have fh0x5 := free_of_block bh 0
      have fh1x5 := free_of_block bh 1
      have fh2x5 := free_of_block bh 2
      have fh3x5 := free_of_block bh 3
      have fh4x5 := free_of_block bh 4
      have fh5x5 := free_of_block bh 5
      obtain ⟨w5, hNw5⟩ : ∃ G, ((((((w4.setCell ⟨g + 1 + 1, 0, none⟩ (.bool H1.u)).setCell ⟨g + 1 + 1, 1, none⟩ (.int .i64 H1.r)).setCell ⟨g + 1 + 1, 2, none⟩ (.int .i64 H1.p)).setCell ⟨g + 1 + 1, 3, none⟩ (.bool H1.o)).setCell ⟨g + 1 + 1, 4, none⟩ (.int .i64 H1.l)).setCell ⟨g + 1 + 1, 5, none⟩ (.int .i64 H1.s)) = G := ⟨_, rfl⟩
      obtain ⟨s1, s2, s3, s4⟩ := set6T bh _ _ _ _ _ _ hNw5
      replace bt := (s2 (g) (by omega)).trans bt
      replace br := (s2 (g + 1) (by omega)).trans br
      replace bk := (s2 (yk) (by have := hleyk.out; omega)).trans bk
      replace HT : Hid (TabO (g + 1 + 1 + 1) w5 (.slice a1 S1.length c1) (.slice b1 F1.length d1) S1 F1) := HT.out.same (fun q h1 _ => s2 q (by omega))
      replace HB : Hid (Below w.heap.size w w5) := s4 _ _ (by have := HBV.out.2; omega) HB.out
      replace LB : Hid (g + 1 + 1 + 1 ≤ w5.heap.size) := by unfold Hid; rw [s3]; exact LB.out
      replace bh := s1
      clear s1 s2 s3 s4
      have zr0 : w5.cell? ⟨g + 1, 0, none⟩ = some (.slice a1 S1.length c1) := (cell_of_block br 0).trans rfl
      have zr1 : w5.cell? ⟨g + 1, 1, none⟩ = some (.slice b1 F1.length d1) := (cell_of_block br 1).trans rfl
      have zh0 : w5.cell? ⟨g + 1 + 1, 0, none⟩ = some (.bool H1.u) := (cell_of_block bh 0).trans rfl
      have zh1 : w5.cell? ⟨g + 1 + 1, 1, none⟩ = some (.int .i64 H1.r) := (cell_of_block bh 1).trans rfl
      have zh2 : w5.cell? ⟨g + 1 + 1, 2, none⟩ = some (.int .i64 H1.p) := (cell_of_block bh 2).trans rfl
      have zh3 : w5.cell? ⟨g + 1 + 1, 3, none⟩ = some (.bool H1.o) := (cell_of_block bh 3).trans rfl
      have zh4 : w5.cell? ⟨g + 1 + 1, 4, none⟩ = some (.int .i64 H1.l) := (cell_of_block bh 4).trans rfl
      have zh5 : w5.cell? ⟨g + 1 + 1, 5, none⟩ = some (.int .i64 H1.s) := (cell_of_block bh 5).trans rfl
      go_wp2
      exact bodyPost_ret (v := .tuple #[.agg #[.slice a1 S1.length c1, .slice b1 F1.length d1], .agg #[.bool H1.u, .int .i64 H1.r, .int .i64 H1.p, .bool H1.o, .int .i64 H1.l, .int .i64 H1.s], .int .i64 C1]) (by simp [results, Try.results16, go_sem, zr0, zr1, zh0, zh1, zh2, zh3, zh4, zh5]) rfl ⟨_, _, rfl, HT.out.base (by have := HBV.out.2; omega), HB.out⟩
    · have hc2 : (C0 == 0) = false := by simpa using hc0
      clear hc hc0
      have pk0x2 : w2.cell? ⟨yk, 0, none⟩ = some (.bool u0) := (cell_of_block bk 0).trans rfl
      have pk1x2 : w2.cell? ⟨yk, 1, none⟩ = some (.int .i64 r0) := (cell_of_block bk 1).trans rfl
      have pk2x2 : w2.cell? ⟨yk, 2, none⟩ = some (.int .i64 p0) := (cell_of_block bk 2).trans rfl
      have pk3x2 : w2.cell? ⟨yk, 3, none⟩ = some (.bool o0) := (cell_of_block bk 3).trans rfl
      have pk4x2 : w2.cell? ⟨yk, 4, none⟩ = some (.int .i64 l0) := (cell_of_block bk 4).trans rfl
      have pk5x2 : w2.cell? ⟨yk, 5, none⟩ = some (.int .i64 s0) := (cell_of_block bk 5).trans rfl
      have pt0x3 : w2.cell? ⟨g, 0, none⟩ = some (.slice a S.length c) := (cell_of_block bt 0).trans rfl
      have pt1x3 : w2.cell? ⟨g, 1, none⟩ = some (.slice b F.length d) := (cell_of_block bt 1).trans rfl
      go_wp2_with fail
      clear hNw2 hyk pk0x2 pk1x2 pk2x2 pk3x2 pk4x2 pk5x2 pt0x3 pt1x3
      refine (DD).mono ?_
      rintro e w3 ⟨v, u, rfl, HT, hb⟩
      replace HT := HT.out.base LB.out
      replace bt := (hb.block (g) (lt_of_block bt)).trans bt
      replace br := (hb.block (g + 1) (lt_of_block br)).trans br
      replace bh := (hb.block (g + 1 + 1) (lt_of_block bh)).trans bh
      replace bk := (hb.block (yk) (lt_of_block bk)).trans bk
      replace HB : Hid (Below w.heap.size w w3) := bel_step HB.out hb
      replace LB : Hid (g + 1 + 1 + 1 ≤ w3.heap.size) := Nat.le_trans LB.out hb.size
      clear hb
      obtain ⟨a1, c1, b1, d1, rfl, rfl, _, _, _⟩ := HT.shape2
      replace HT : Hid (TabO (g + 1 + 1 + 1) w3 (.slice a1 S1.length c1) (.slice b1 F1.length d1) S1 F1) := HT
      have pr0x4 : w3.cell? ⟨g + 1, 0, none⟩ = some (.slice none 0 0) := (cell_of_block br 0).trans rfl
      have pr1x4 : w3.cell? ⟨g + 1, 1, none⟩ = some (.slice none 0 0) := (cell_of_block br 1).trans rfl
      have fr0x4 := free_of_block br 0
      have fr1x4 := free_of_block br 1
      obtain ⟨w4, hNw4⟩ : ∃ G, ((w3.setCell ⟨g + 1, 0, none⟩ (.slice a1 S1.length c1)).setCell ⟨g + 1, 1, none⟩ (.slice b1 F1.length d1)) = G := ⟨_, rfl⟩
      obtain ⟨s1, s2, s3, s4⟩ := set2T br _ _ hNw4
      replace bt := (s2 (g) (by omega)).trans bt
      replace bh := (s2 (g + 1 + 1) (by omega)).trans bh
      replace bk := (s2 (yk) (by have := hleyk.out; omega)).trans bk
      replace HT : Hid (TabO (g + 1 + 1 + 1) w4 (.slice a1 S1.length c1) (.slice b1 F1.length d1) S1 F1) := HT.out.same (fun q h1 _ => s2 q (by omega))
      replace HB : Hid (Below w.heap.size w w4) := s4 _ _ (by have := HBV.out.2; omega) HB.out
      replace LB : Hid (g + 1 + 1 + 1 ≤ w4.heap.size) := by unfold Hid; rw [s3]; exact LB.out
      replace br := s1
      clear s1 s2 s3 s4
      have ph0x5 : w4.cell? ⟨g + 1 + 1, 0, none⟩ = some (.bool false) := (cell_of_block bh 0).trans rfl
      have ph1x5 : w4.cell? ⟨g + 1 + 1, 1, none⟩ = some (.int .i64 0) := (cell_of_block bh 1).trans rfl
      have ph2x5 : w4.cell? ⟨g + 1 + 1, 2, none⟩ = some (.int .i64 0) := (cell_of_block bh 2).trans rfl
      have ph3x5 : w4.cell? ⟨g + 1 + 1, 3, none⟩ = some (.bool false) := (cell_of_block bh 3).trans rfl
      have ph4x5 : w4.cell? ⟨g + 1 + 1, 4, none⟩ = some (.int .i64 0) := (cell_of_block bh 4).trans rfl
      have ph5x5 : w4.cell? ⟨g + 1 + 1, 5, none⟩ = some (.int .i64 0) := (cell_of_block bh 5).trans rfl
      have fh0x5 := free_of_block bh 0
      have fh1x5 := free_of_block bh 1
      have fh2x5 := free_of_block bh 2
      have fh3x5 := free_of_block bh 3
      have fh4x5 := free_of_block bh 4
      have fh5x5 := free_of_block bh 5
      obtain ⟨w5, hNw5⟩ : ∃ G, ((((((w4.setCell ⟨g + 1 + 1, 0, none⟩ (.bool H1.u)).setCell ⟨g + 1 + 1, 1, none⟩ (.int .i64 H1.r)).setCell ⟨g + 1 + 1, 2, none⟩ (.int .i64 H1.p)).setCell ⟨g + 1 + 1, 3, none⟩ (.bool H1.o)).setCell ⟨g + 1 + 1, 4, none⟩ (.int .i64 H1.l)).setCell ⟨g + 1 + 1, 5, none⟩ (.int .i64 H1.s)) = G := ⟨_, rfl⟩
      obtain ⟨s1, s2, s3, s4⟩ := set6T bh _ _ _ _ _ _ hNw5
      replace bt := (s2 (g) (by omega)).trans bt
      replace br := (s2 (g + 1) (by omega)).trans br
      replace bk := (s2 (yk) (by have := hleyk.out; omega)).trans bk
      replace HT : Hid (TabO (g + 1 + 1 + 1) w5 (.slice a1 S1.length c1) (.slice b1 F1.length d1) S1 F1) := HT.out.same (fun q h1 _ => s2 q (by omega))
      replace HB : Hid (Below w.heap.size w w5) := s4 _ _ (by have := HBV.out.2; omega) HB.out
      replace LB : Hid (g + 1 + 1 + 1 ≤ w5.heap.size) := by unfold Hid; rw [s3]; exact LB.out
      replace bh := s1
      clear s1 s2 s3 s4
      have zr0 : w5.cell? ⟨g + 1, 0, none⟩ = some (.slice a1 S1.length c1) := (cell_of_block br 0).trans rfl
      have zr1 : w5.cell? ⟨g + 1, 1, none⟩ = some (.slice b1 F1.length d1) := (cell_of_block br 1).trans rfl
      have zh0 : w5.cell? ⟨g + 1 + 1, 0, none⟩ = some (.bool H1.u) := (cell_of_block bh 0).trans rfl
      have zh1 : w5.cell? ⟨g + 1 + 1, 1, none⟩ = some (.int .i64 H1.r) := (cell_of_block bh 1).trans rfl
      have zh2 : w5.cell? ⟨g + 1 + 1, 2, none⟩ = some (.int .i64 H1.p) := (cell_of_block bh 2).trans rfl
      have zh3 : w5.cell? ⟨g + 1 + 1, 3, none⟩ = some (.bool H1.o) := (cell_of_block bh 3).trans rfl
      have zh4 : w5.cell? ⟨g + 1 + 1, 4, none⟩ = some (.int .i64 H1.l) := (cell_of_block bh 4).trans rfl
      have zh5 : w5.cell? ⟨g + 1 + 1, 5, none⟩ = some (.int .i64 H1.s) := (cell_of_block bh 5).trans rfl
      go_wp2
      exact bodyPost_ret (v := .tuple #[.agg #[.slice a1 S1.length c1, .slice b1 F1.length d1], .agg #[.bool H1.u, .int .i64 H1.r, .int .i64 H1.p, .bool H1.o, .int .i64 H1.l, .int .i64 H1.s], .int .i64 C1]) (by simp [results, Try.results16, go_sem, zr0, zr1, zh0, zh1, zh2, zh3, zh4, zh5]) rfl ⟨_, _, rfl, HT.out.base (by have := HBV.out.2; omega), HB.out⟩

end Go.Proofs.Ytjielcilcningaa
