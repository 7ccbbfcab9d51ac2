/-
  A new handle: both sides. (Made by a generator.)
-/
import Derived.Test.YtjielcilcningaaTB24
import Derived.Test.YtjielcilcningaaTB21
namespace Go.Proofs.Ytjielcilcningaa
open Go.ChangeShapes Go.WideShapes Go.ChangeAt Go.RowKit Go.Maps

/-- What NewHandle tells. -/
def NewR (S : List Hd) (F : List Int) (h : Hd) (S1 : List Hd) (F1 : List Int) (N1 C1 : Int) : Prop :=
  (¬ GoodT S F ∧ S1 = [] ∧ F1 = [] ∧ N1 = 0 ∧ C1 = 1) ∨ (GoodT S F ∧ okH h = false ∧ S = S1 ∧ F = F1 ∧ N1 = 0 ∧ C1 = 1) ∨ (GoodT S F ∧ okH h = true ∧ h.l ≠ 0 ∧ S = S1 ∧ F = F1 ∧ N1 = 0 ∧ C1 = 1) ∨ (GoodT S F ∧ okH h = true ∧ h.l = 0 ∧ ((∃ F0 k, ∃ _ : k < S.length, F = F0 ++ [(k : Int)] ∧ S1 = S.set k h ∧ F0 = F1 ∧ N1 = (k : Int) ∧ C1 = 0) ∨ (F = [] ∧ S.length = 40 ∧ S = S1 ∧ F1 = [] ∧ N1 = 0 ∧ C1 = 5) ∨ (F = [] ∧ S.length ≠ 40 ∧ S1 = S ++ [h] ∧ F1 = [] ∧ N1 = (S.length : Int) ∧ C1 = 0)))
theorem new_r (S : List Hd) (F : List Int) (h : Hd) : ∃ S1 F1 N1 C1, NewR S F h S1 F1 N1 C1 := by
  rcases Classical.em (GoodT S F) with hG | hG
  · rcases ho : okH h with _ | _
    · exact ⟨S, F, 0, 1, .inr (.inl ⟨hG, ho, rfl, rfl, rfl, rfl⟩)⟩
    · by_cases hl : h.l = 0
      · rcases List.eq_nil_or_concat F with rfl | ⟨F0, x, rfl⟩
        · by_cases h40 : S.length = 40
          · exact ⟨S, [], 0, 5, .inr (.inr (.inr ⟨hG, ho, hl, .inr (.inl ⟨rfl, h40, rfl, rfl, rfl, rfl⟩)⟩))⟩
          · exact ⟨_, [], _, 0, .inr (.inr (.inr ⟨hG, ho, hl, .inr (.inr ⟨rfl, h40, rfl, rfl, rfl, rfl⟩)⟩))⟩
        · rw [List.concat_eq_append] at hG ⊢
          have hx := hG.2.2.1 x (by simp)
          refine ⟨_, F0, _, 0, .inr (.inr (.inr ⟨hG, ho, hl, .inl ⟨F0, x.toNat, by omega, ?_, rfl, rfl, rfl, rfl⟩⟩))⟩
          rw [show ((x.toNat : Nat) : Int) = x by omega]
      · exact ⟨S, F, 0, 1, .inr (.inr (.inl ⟨hG, ho, hl, rfl, rfl, rfl, rfl⟩))⟩
  · exact ⟨[], [], 0, 1, .inl ⟨hG, rfl, rfl, rfl, rfl⟩⟩
theorem new_len {S : List Hd} {F : List Int} {h : Hd} {S1 : List Hd} {F1 : List Int} {N1 C1 : Int} (hf : NewR S F h S1 F1 N1 C1) (lS : S.length ≤ 1048576) (lF : F.length ≤ 1048576) : S1.length ≤ 1048576 ∧ F1.length ≤ 1048576 := by
  rcases hf with ⟨_, rfl, rfl, _⟩ | ⟨_, _, rfl, rfl, _⟩ | ⟨_, _, _, rfl, rfl, _⟩ | ⟨hG, _, _, ⟨F0, k, _, rfl, rfl, rfl, _⟩ | ⟨_, _, rfl, rfl, _⟩ | ⟨_, _, rfl, rfl, _⟩⟩
  · simp
  · exact ⟨lS, lF⟩
  · exact ⟨lS, lF⟩
  · rw [List.length_set]; simp at lF; exact ⟨lS, by omega⟩
  · exact ⟨lS, by simp⟩
  · have := hG.1
    simp
    omega

set_option maxRecDepth 100000 in
set_option maxHeartbeats 1600000 in
theorem implNew (a b : Option Addr) (c d : Nat) (S : List Hd) (F : List Int) (H : Hd) (S1 : List Hd) (F1 : List Int) (N1 C1 : Int) (w : World) (hS : Hid (Hds w a S)) (hF : Hid (Ints w b F)) (lS : S.length ≤ 1048576) (lF : F.length ≤ 1048576) (okF : Hid (∀ x ∈ F, -9223372036854775808 ≤ x ∧ x ≤ 9223372036854775807)) (hf : NewR S F H S1 F1 N1 C1) :
    Calls Try.prog 6 #[tabV a S.length c b F.length d, hdV H] w fun e w' => ∃ v u, e = .returned (.tuple #[.agg #[v, u], .int .i64 N1, .int .i64 C1]) ∧ Hid (TabO w.heap.size w' v u S1 F1) ∧ Below w.heap.size w w' := by
  obtain ⟨g, hg⟩ : ∃ g, w.heap.size = g := ⟨_, rfl⟩
  obtain ⟨V, hV⟩ : ∃ W, (((w.alloc (.cells #[.slice a S.length c, .slice b F.length d] 26)).alloc (.cells #[.bool H.u, .int .i64 H.r, .int .i64 H.p, .bool H.o, .int .i64 H.l, .int .i64 H.s] 28)).alloc (.cells #[.slice none 0 0, .slice none 0 0] 26)) = W := ⟨_, rfl⟩
  have hbV : Below w.heap.size w V := by rw [← hV]; exact (bel_alloc (bel_alloc (bel_alloc (Below.refl _ _) _) _) _)
  have hzV : V.heap.size = g + 1 + 1 + 1 := by rw [← hV, ← hg]; simp
  have bt : V.heap[g]? = some (.cells #[.slice a S.length c, .slice b F.length d] 26 (0, 0)) := by
    have h := heap_alloc_new w (.cells #[.slice a S.length c, .slice b F.length d] 26)
    have e : w.heap.size = g := by exact hg
    rw [e] at h
    rw [← hV]
    replace h := (Below.heap_alloc _ (.cells #[.bool H.u, .int .i64 H.r, .int .i64 H.p, .bool H.o, .int .i64 H.l, .int .i64 H.s] 28) _ (lt_of_block h)).trans h
    replace h := (Below.heap_alloc _ (.cells #[.slice none 0 0, .slice none 0 0] 26) _ (lt_of_block h)).trans h
    exact h
  have bq : V.heap[g + 1]? = some (.cells #[.bool H.u, .int .i64 H.r, .int .i64 H.p, .bool H.o, .int .i64 H.l, .int .i64 H.s] 28 (0, 0)) := by
    have h := heap_alloc_new (w.alloc (.cells #[.slice a S.length c, .slice b F.length d] 26)) (.cells #[.bool H.u, .int .i64 H.r, .int .i64 H.p, .bool H.o, .int .i64 H.l, .int .i64 H.s] 28)
    have e : (w.alloc (.cells #[.slice a S.length c, .slice b F.length d] 26)).heap.size = g + 1 := by simp [hg]
    rw [e] at h
    rw [← hV]
    replace h := (Below.heap_alloc _ (.cells #[.slice none 0 0, .slice none 0 0] 26) _ (lt_of_block h)).trans h
    exact h
  have br : V.heap[g + 1 + 1]? = some (.cells #[.slice none 0 0, .slice none 0 0] 26 (0, 0)) := by
    have h := heap_alloc_new ((w.alloc (.cells #[.slice a S.length c, .slice b F.length d] 26)).alloc (.cells #[.bool H.u, .int .i64 H.r, .int .i64 H.p, .bool H.o, .int .i64 H.l, .int .i64 H.s] 28)) (.cells #[.slice none 0 0, .slice none 0 0] 26)
    have e : ((w.alloc (.cells #[.slice a S.length c, .slice b F.length d] 26)).alloc (.cells #[.bool H.u, .int .i64 H.r, .int .i64 H.p, .bool H.o, .int .i64 H.l, .int .i64 H.s] 28)).heap.size = g + 1 + 1 := by simp [hg]
    rw [e] at h
    rw [← hV]
    exact h
  have HBV : Hid (Below w.heap.size w V ∧ w.heap.size = g) := ⟨hbV, hg⟩
  have HB : Hid (Below w.heap.size w V) := hbV
  have LB : Hid (g + 1 + 1 + 1 ≤ V.heap.size) := Nat.le_of_eq hzV.symm
  have OP := implOpen a b c d S F V (hS.out.below hbV) (hF.out.below hbV) lS lF okF
  have HZV : Hid (V.heap.size = g + 1 + 1 + 1) := hzV
  have IH := implHd H
  unfold tabV at OP ⊢
  unfold hdV at IH ⊢
  clear hbV hzV hS hF okF
  have pt0x1 : V.cell? ⟨g, 0, none⟩ = some (.slice a S.length c) := (cell_of_block bt 0).trans rfl
  have pt1x1 : V.cell? ⟨g, 1, none⟩ = some (.slice b F.length d) := (cell_of_block bt 1).trans rfl
  go_enter Try.func6, Try.ntmps6
  go_wp2_with fail
  clear hV hg pt0x1 pt1x1
  refine (OP).mono ?_
  rintro e w1 ⟨hb, y, m, h'⟩
  replace bt := (hb.block (g) (lt_of_block bt)).trans bt
  replace bq := (hb.block (g + 1) (lt_of_block bq)).trans bq
  replace br := (hb.block (g + 1 + 1) (lt_of_block br)).trans br
  replace HB : Hid (Below w.heap.size w w1) := bel_step HB.out hb
  replace LB : Hid (g + 1 + 1 + 1 ≤ w1.heap.size) := Nat.le_trans LB.out hb.size
  clear hb
  clear OP
  rcases hf with ⟨hG, rfl, rfl, rfl, rfl⟩ | ⟨hG, hok, rfl, rfl, rfl, rfl⟩ | ⟨hG, hok, hl, rfl, rfl, rfl, rfl⟩ | ⟨hG, hok, hl, hf⟩
  · obtain ⟨rfl, HO⟩ : e = .returned (.tuple #[.pointer (some ⟨y, 0, none⟩), .bool false]) ∧ Hid (OT (g + 1 + 1 + 1) w1 y m [] [] (.slice none 0 0)) := by
      rcases h' with ⟨_, h', _⟩ | ⟨he, _, h'⟩
      · exact absurd h' hG
      · rw [HZV.out] at h'; exact ⟨he, h'⟩
    clear h' hG IH
    have TO := implTold (g + 1 + 1 + 1) y m _ ([] : List Hd) ([] : List Int) w1 HO (by simp)
    go_wp2_with fail
    refine (TO).mono ?_
    rintro e w2 ⟨v1, u1, rfl, HT, hb⟩
    replace bt := (hb.block (g) (lt_of_block bt)).trans bt
    replace bq := (hb.block (g + 1) (lt_of_block bq)).trans bq
    replace br := (hb.block (g + 1 + 1) (lt_of_block br)).trans br
    replace HO : Hid (OT (g + 1 + 1 + 1) w2 y m [] [] (.slice none 0 0)) := HO.out.below hb
    replace HB : Hid (Below w.heap.size w w2) := bel_step HB.out hb
    replace LB : Hid (g + 1 + 1 + 1 ≤ w2.heap.size) := Nat.le_trans LB.out hb.size
    clear hb
    clear TO
    obtain ⟨a1, c1, b1, d1, rfl, rfl, _, _, _⟩ := HT.out.shape2
    replace HT : Hid (TabO (g + 1 + 1 + 1) w2 (.slice a1 (0) c1) (.slice b1 (0) d1) ([] : List Hd) ([] : List Int)) := by have h' := HT; exact h'
    clear HO
    have pr0x2 : w2.cell? ⟨g + 1 + 1, 0, none⟩ = some (.slice none 0 0) := (cell_of_block br 0).trans rfl
    have pr1x2 : w2.cell? ⟨g + 1 + 1, 1, none⟩ = some (.slice none 0 0) := (cell_of_block br 1).trans rfl
    have fr0x2 := free_of_block br 0
    have fr1x2 := free_of_block br 1
    obtain ⟨w3, hNw3⟩ : ∃ G, ((w2.setCell ⟨g + 1 + 1, 0, none⟩ (.slice a1 (0) c1)).setCell ⟨g + 1 + 1, 1, none⟩ (.slice b1 (0) d1)) = G := ⟨_, rfl⟩
    obtain ⟨s1, s2, s3, s4⟩ := set2T br _ _ hNw3
    replace bt := (s2 (g) (by omega)).trans bt
    replace bq := (s2 (g + 1) (by omega)).trans bq
    replace HT : Hid (TabO (g + 1 + 1 + 1) w3 (.slice a1 (0) c1) (.slice b1 (0) d1) ([] : List Hd) ([] : List Int)) := HT.out.same (fun q h1 _ => s2 q (by omega))
    replace HB : Hid (Below w.heap.size w w3) := s4 _ _ (by have := HBV.out.2; omega) HB.out
    replace LB : Hid (g + 1 + 1 + 1 ≤ w3.heap.size) := by unfold Hid; rw [s3]; exact LB.out
    replace br := s1
    clear s1 s2 s3 s4
    have zr0 : w3.cell? ⟨g + 1 + 1, 0, none⟩ = some (.slice a1 (0) c1) := (cell_of_block br 0).trans rfl
    have zr1 : w3.cell? ⟨g + 1 + 1, 1, none⟩ = some (.slice b1 (0) d1) := (cell_of_block br 1).trans rfl
    go_wp2
    exact bodyPost_ret (v := .tuple #[.agg #[.slice a1 (0) c1, .slice b1 (0) d1], .int .i64 0, .int .i64 1]) (by simp [results, Try.results6, go_sem, zr0, zr1]) rfl ⟨_, _, rfl, HT.out.base (by have := HBV.out.2; omega), HB.out⟩
  · obtain ⟨v, rfl, HO⟩ : ∃ v, e = .returned (.tuple #[.pointer (some ⟨y, 0, none⟩), .bool true]) ∧ Hid (OT (g + 1 + 1 + 1) w1 y m S F v) := by
      rcases h' with ⟨he, _, v, h'⟩ | ⟨_, h', _⟩
      · rw [HZV.out] at h'; exact ⟨v, he, h'⟩
      · exact absurd hG h'
    have HG : Hid (GoodT S F) := hG
    clear h' hG
    rw [hok] at IH
    clear hok
    have pq0x2 : w1.cell? ⟨g + 1, 0, none⟩ = some (.bool H.u) := (cell_of_block bq 0).trans rfl
    have pq1x2 : w1.cell? ⟨g + 1, 1, none⟩ = some (.int .i64 H.r) := (cell_of_block bq 1).trans rfl
    have pq2x2 : w1.cell? ⟨g + 1, 2, none⟩ = some (.int .i64 H.p) := (cell_of_block bq 2).trans rfl
    have pq3x2 : w1.cell? ⟨g + 1, 3, none⟩ = some (.bool H.o) := (cell_of_block bq 3).trans rfl
    have pq4x2 : w1.cell? ⟨g + 1, 4, none⟩ = some (.int .i64 H.l) := (cell_of_block bq 4).trans rfl
    have pq5x2 : w1.cell? ⟨g + 1, 5, none⟩ = some (.int .i64 H.s) := (cell_of_block bq 5).trans rfl
    go_wp2_with fail
    clear pq0x2 pq1x2 pq2x2 pq3x2 pq4x2 pq5x2
    refine (IH w1).mono ?_
    rintro e w2 ⟨rfl, hb⟩
    replace bt := (hb.block (g) (lt_of_block bt)).trans bt
    replace bq := (hb.block (g + 1) (lt_of_block bq)).trans bq
    replace br := (hb.block (g + 1 + 1) (lt_of_block br)).trans br
    replace HO : Hid (OT (g + 1 + 1 + 1) w2 y m S F v) := HO.out.below hb
    replace HB : Hid (Below w.heap.size w w2) := bel_step HB.out hb
    replace LB : Hid (g + 1 + 1 + 1 ≤ w2.heap.size) := Nat.le_trans LB.out hb.size
    clear hb
    clear IH
    have TO := implTold (g + 1 + 1 + 1) y m _ S F w2 HO (lF)
    go_wp2_with fail
    refine (TO).mono ?_
    rintro e w3 ⟨v1, u1, rfl, HT, hb⟩
    replace bt := (hb.block (g) (lt_of_block bt)).trans bt
    replace bq := (hb.block (g + 1) (lt_of_block bq)).trans bq
    replace br := (hb.block (g + 1 + 1) (lt_of_block br)).trans br
    replace HO : Hid (OT (g + 1 + 1 + 1) w3 y m S F v) := HO.out.below hb
    replace HB : Hid (Below w.heap.size w w3) := bel_step HB.out hb
    replace LB : Hid (g + 1 + 1 + 1 ≤ w3.heap.size) := Nat.le_trans LB.out hb.size
    clear hb
    clear TO
    obtain ⟨a1, c1, b1, d1, rfl, rfl, _, _, _⟩ := HT.out.shape2
    replace HT : Hid (TabO (g + 1 + 1 + 1) w3 (.slice a1 (S.length) c1) (.slice b1 (F.length) d1) S F) := by have h' := HT; exact h'
    clear HO
    have pr0x3 : w3.cell? ⟨g + 1 + 1, 0, none⟩ = some (.slice none 0 0) := (cell_of_block br 0).trans rfl
    have pr1x3 : w3.cell? ⟨g + 1 + 1, 1, none⟩ = some (.slice none 0 0) := (cell_of_block br 1).trans rfl
    have fr0x3 := free_of_block br 0
    have fr1x3 := free_of_block br 1
    obtain ⟨w4, hNw4⟩ : ∃ G, ((w3.setCell ⟨g + 1 + 1, 0, none⟩ (.slice a1 (S.length) c1)).setCell ⟨g + 1 + 1, 1, none⟩ (.slice b1 (F.length) d1)) = G := ⟨_, rfl⟩
    obtain ⟨s1, s2, s3, s4⟩ := set2T br _ _ hNw4
    replace bt := (s2 (g) (by omega)).trans bt
    replace bq := (s2 (g + 1) (by omega)).trans bq
    replace HT : Hid (TabO (g + 1 + 1 + 1) w4 (.slice a1 (S.length) c1) (.slice b1 (F.length) d1) S F) := HT.out.same (fun q h1 _ => s2 q (by omega))
    replace HB : Hid (Below w.heap.size w w4) := s4 _ _ (by have := HBV.out.2; omega) HB.out
    replace LB : Hid (g + 1 + 1 + 1 ≤ w4.heap.size) := by unfold Hid; rw [s3]; exact LB.out
    replace br := s1
    clear s1 s2 s3 s4
    have zr0 : w4.cell? ⟨g + 1 + 1, 0, none⟩ = some (.slice a1 (S.length) c1) := (cell_of_block br 0).trans rfl
    have zr1 : w4.cell? ⟨g + 1 + 1, 1, none⟩ = some (.slice b1 (F.length) d1) := (cell_of_block br 1).trans rfl
    go_wp2
    exact bodyPost_ret (v := .tuple #[.agg #[.slice a1 (S.length) c1, .slice b1 (F.length) d1], .int .i64 0, .int .i64 1]) (by simp [results, Try.results6, go_sem, zr0, zr1]) rfl ⟨_, _, rfl, HT.out.base (by have := HBV.out.2; omega), HB.out⟩
  · obtain ⟨v, rfl, HO⟩ : ∃ v, e = .returned (.tuple #[.pointer (some ⟨y, 0, none⟩), .bool true]) ∧ Hid (OT (g + 1 + 1 + 1) w1 y m S F v) := by
      rcases h' with ⟨he, _, v, h'⟩ | ⟨_, h', _⟩
      · rw [HZV.out] at h'; exact ⟨v, he, h'⟩
      · exact absurd hG h'
    have HG : Hid (GoodT S F) := hG
    clear h' hG
    rw [hok] at IH
    clear hok
    have pq0x2 : w1.cell? ⟨g + 1, 0, none⟩ = some (.bool H.u) := (cell_of_block bq 0).trans rfl
    have pq1x2 : w1.cell? ⟨g + 1, 1, none⟩ = some (.int .i64 H.r) := (cell_of_block bq 1).trans rfl
    have pq2x2 : w1.cell? ⟨g + 1, 2, none⟩ = some (.int .i64 H.p) := (cell_of_block bq 2).trans rfl
    have pq3x2 : w1.cell? ⟨g + 1, 3, none⟩ = some (.bool H.o) := (cell_of_block bq 3).trans rfl
    have pq4x2 : w1.cell? ⟨g + 1, 4, none⟩ = some (.int .i64 H.l) := (cell_of_block bq 4).trans rfl
    have pq5x2 : w1.cell? ⟨g + 1, 5, none⟩ = some (.int .i64 H.s) := (cell_of_block bq 5).trans rfl
    go_wp2_with fail
    clear pq0x2 pq1x2 pq2x2 pq3x2 pq4x2 pq5x2
    refine (IH w1).mono ?_
    rintro e w2 ⟨rfl, hb⟩
    replace bt := (hb.block (g) (lt_of_block bt)).trans bt
    replace bq := (hb.block (g + 1) (lt_of_block bq)).trans bq
    replace br := (hb.block (g + 1 + 1) (lt_of_block br)).trans br
    replace HO : Hid (OT (g + 1 + 1 + 1) w2 y m S F v) := HO.out.below hb
    replace HB : Hid (Below w.heap.size w w2) := bel_step HB.out hb
    replace LB : Hid (g + 1 + 1 + 1 ≤ w2.heap.size) := Nat.le_trans LB.out hb.size
    clear hb
    clear IH
    have hl2 : (H.l == 0) = false := by simpa using hl
    clear hl
    have pq0x3 : w2.cell? ⟨g + 1, 0, none⟩ = some (.bool H.u) := (cell_of_block bq 0).trans rfl
    have pq1x3 : w2.cell? ⟨g + 1, 1, none⟩ = some (.int .i64 H.r) := (cell_of_block bq 1).trans rfl
    have pq2x3 : w2.cell? ⟨g + 1, 2, none⟩ = some (.int .i64 H.p) := (cell_of_block bq 2).trans rfl
    have pq3x3 : w2.cell? ⟨g + 1, 3, none⟩ = some (.bool H.o) := (cell_of_block bq 3).trans rfl
    have pq4x3 : w2.cell? ⟨g + 1, 4, none⟩ = some (.int .i64 H.l) := (cell_of_block bq 4).trans rfl
    have pq5x3 : w2.cell? ⟨g + 1, 5, none⟩ = some (.int .i64 H.s) := (cell_of_block bq 5).trans rfl
    have TO := implTold (g + 1 + 1 + 1) y m _ S F w2 HO (lF)
    go_wp2_with fail
    clear pq0x3 pq1x3 pq2x3 pq3x3 pq4x3 pq5x3
    refine (TO).mono ?_
    rintro e w3 ⟨v1, u1, rfl, HT, hb⟩
    replace bt := (hb.block (g) (lt_of_block bt)).trans bt
    replace bq := (hb.block (g + 1) (lt_of_block bq)).trans bq
    replace br := (hb.block (g + 1 + 1) (lt_of_block br)).trans br
    replace HO : Hid (OT (g + 1 + 1 + 1) w3 y m S F v) := HO.out.below hb
    replace HB : Hid (Below w.heap.size w w3) := bel_step HB.out hb
    replace LB : Hid (g + 1 + 1 + 1 ≤ w3.heap.size) := Nat.le_trans LB.out hb.size
    clear hb
    clear TO
    obtain ⟨a1, c1, b1, d1, rfl, rfl, _, _, _⟩ := HT.out.shape2
    replace HT : Hid (TabO (g + 1 + 1 + 1) w3 (.slice a1 (S.length) c1) (.slice b1 (F.length) d1) S F) := by have h' := HT; exact h'
    clear HO
    have pr0x4 : w3.cell? ⟨g + 1 + 1, 0, none⟩ = some (.slice none 0 0) := (cell_of_block br 0).trans rfl
    have pr1x4 : w3.cell? ⟨g + 1 + 1, 1, none⟩ = some (.slice none 0 0) := (cell_of_block br 1).trans rfl
    have fr0x4 := free_of_block br 0
    have fr1x4 := free_of_block br 1
    obtain ⟨w4, hNw4⟩ : ∃ G, ((w3.setCell ⟨g + 1 + 1, 0, none⟩ (.slice a1 (S.length) c1)).setCell ⟨g + 1 + 1, 1, none⟩ (.slice b1 (F.length) d1)) = G := ⟨_, rfl⟩
    obtain ⟨s1, s2, s3, s4⟩ := set2T br _ _ hNw4
    replace bt := (s2 (g) (by omega)).trans bt
    replace bq := (s2 (g + 1) (by omega)).trans bq
    replace HT : Hid (TabO (g + 1 + 1 + 1) w4 (.slice a1 (S.length) c1) (.slice b1 (F.length) d1) S F) := HT.out.same (fun q h1 _ => s2 q (by omega))
    replace HB : Hid (Below w.heap.size w w4) := s4 _ _ (by have := HBV.out.2; omega) HB.out
    replace LB : Hid (g + 1 + 1 + 1 ≤ w4.heap.size) := by unfold Hid; rw [s3]; exact LB.out
    replace br := s1
    clear s1 s2 s3 s4
    have zr0 : w4.cell? ⟨g + 1 + 1, 0, none⟩ = some (.slice a1 (S.length) c1) := (cell_of_block br 0).trans rfl
    have zr1 : w4.cell? ⟨g + 1 + 1, 1, none⟩ = some (.slice b1 (F.length) d1) := (cell_of_block br 1).trans rfl
    go_wp2
    exact bodyPost_ret (v := .tuple #[.agg #[.slice a1 (S.length) c1, .slice b1 (F.length) d1], .int .i64 0, .int .i64 1]) (by simp [results, Try.results6, go_sem, zr0, zr1]) rfl ⟨_, _, rfl, HT.out.base (by have := HBV.out.2; omega), HB.out⟩
  · have hl2 : (H.l == 0) = true := by simpa using hl
    have HF : Hid _ := hf
    clear hl hf
    obtain ⟨v, rfl, HO⟩ : ∃ v, e = .returned (.tuple #[.pointer (some ⟨y, 0, none⟩), .bool true]) ∧ Hid (OT (g + 1 + 1 + 1) w1 y m S F v) := by
      rcases h' with ⟨he, _, v, h'⟩ | ⟨_, h', _⟩
      · rw [HZV.out] at h'; exact ⟨v, he, h'⟩
      · exact absurd hG h'
    have HG : Hid (GoodT S F) := hG
    clear h' hG
    rw [hok] at IH
    clear hok
    have pq0x2 : w1.cell? ⟨g + 1, 0, none⟩ = some (.bool H.u) := (cell_of_block bq 0).trans rfl
    have pq1x2 : w1.cell? ⟨g + 1, 1, none⟩ = some (.int .i64 H.r) := (cell_of_block bq 1).trans rfl
    have pq2x2 : w1.cell? ⟨g + 1, 2, none⟩ = some (.int .i64 H.p) := (cell_of_block bq 2).trans rfl
    have pq3x2 : w1.cell? ⟨g + 1, 3, none⟩ = some (.bool H.o) := (cell_of_block bq 3).trans rfl
    have pq4x2 : w1.cell? ⟨g + 1, 4, none⟩ = some (.int .i64 H.l) := (cell_of_block bq 4).trans rfl
    have pq5x2 : w1.cell? ⟨g + 1, 5, none⟩ = some (.int .i64 H.s) := (cell_of_block bq 5).trans rfl
    go_wp2_with fail
    clear pq0x2 pq1x2 pq2x2 pq3x2 pq4x2 pq5x2
    refine (IH w1).mono ?_
    rintro e w2 ⟨rfl, hb⟩
    replace bt := (hb.block (g) (lt_of_block bt)).trans bt
    replace bq := (hb.block (g + 1) (lt_of_block bq)).trans bq
    replace br := (hb.block (g + 1 + 1) (lt_of_block br)).trans br
    replace HO : Hid (OT (g + 1 + 1 + 1) w2 y m S F v) := HO.out.below hb
    replace HB : Hid (Below w.heap.size w w2) := bel_step HB.out hb
    replace LB : Hid (g + 1 + 1 + 1 ≤ w2.heap.size) := Nat.le_trans LB.out hb.size
    clear hb
    clear IH
    have hf := HF.out
    clear HF
    rcases hf with ⟨F1, k, hk, rfl, rfl, rfl, rfl, rfl⟩ | ⟨rfl, h40, rfl, rfl, rfl, rfl⟩ | ⟨rfl, h40, rfl, rfl, rfl, rfl⟩
    · have h40 := HG.out.1
      have hfl := HG.out.flen
      have hfl1 : F1.length ≤ 40 := by simp at hfl; omega
      have FU := implFull (g + 1 + 1 + 1) y m v S (F1 ++ [(k : Int)]) w2 HO false (by unfold Hid; simp)
      have pq0x3 : w2.cell? ⟨g + 1, 0, none⟩ = some (.bool H.u) := (cell_of_block bq 0).trans rfl
      have pq1x3 : w2.cell? ⟨g + 1, 1, none⟩ = some (.int .i64 H.r) := (cell_of_block bq 1).trans rfl
      have pq2x3 : w2.cell? ⟨g + 1, 2, none⟩ = some (.int .i64 H.p) := (cell_of_block bq 2).trans rfl
      have pq3x3 : w2.cell? ⟨g + 1, 3, none⟩ = some (.bool H.o) := (cell_of_block bq 3).trans rfl
      have pq4x3 : w2.cell? ⟨g + 1, 4, none⟩ = some (.int .i64 H.l) := (cell_of_block bq 4).trans rfl
      have pq5x3 : w2.cell? ⟨g + 1, 5, none⟩ = some (.int .i64 H.s) := (cell_of_block bq 5).trans rfl
      go_wp2_with fail
      clear pq0x3 pq1x3 pq2x3 pq3x3 pq4x3 pq5x3
      refine (FU).mono ?_
      rintro e w' ⟨rfl, hw⟩
      obtain rfl := hw.symm
      clear hw
      clear FU
      have PU := implPutB (g + 1 + 1 + 1) y m v S F1 k H w2 HO hk (by omega) (by omega)
      unfold hdV at PU
      have pq0x4 : w2.cell? ⟨g + 1, 0, none⟩ = some (.bool H.u) := (cell_of_block bq 0).trans rfl
      have pq1x4 : w2.cell? ⟨g + 1, 1, none⟩ = some (.int .i64 H.r) := (cell_of_block bq 1).trans rfl
      have pq2x4 : w2.cell? ⟨g + 1, 2, none⟩ = some (.int .i64 H.p) := (cell_of_block bq 2).trans rfl
      have pq3x4 : w2.cell? ⟨g + 1, 3, none⟩ = some (.bool H.o) := (cell_of_block bq 3).trans rfl
      have pq4x4 : w2.cell? ⟨g + 1, 4, none⟩ = some (.int .i64 H.l) := (cell_of_block bq 4).trans rfl
      have pq5x4 : w2.cell? ⟨g + 1, 5, none⟩ = some (.int .i64 H.s) := (cell_of_block bq 5).trans rfl
      go_wp2_with fail
      clear pq0x4 pq1x4 pq2x4 pq3x4 pq4x4 pq5x4
      refine PU.mono ?_
      rintro e w3 ⟨rfl, v', HO2, hb⟩
      replace bt := (hb.block (g) (by omega)).trans bt
      replace bq := (hb.block (g + 1) (by omega)).trans bq
      replace br := (hb.block (g + 1 + 1) (by omega)).trans br
      replace HB : Hid (Below w.heap.size w w3) := HB.out.trans (hb.mono (by have := HBV.out.2; omega))
      replace LB : Hid (g + 1 + 1 + 1 ≤ w3.heap.size) := Nat.le_trans LB.out hb.size
      clear HO PU hb
      have HO : Hid (OT (g + 1 + 1 + 1) w3 y m (S.set k H) F1 v') := HO2
      clear HO2
      have TO := implTold (g + 1 + 1 + 1) y m _ (S.set k H) F1 w3 HO (by first | omega | (simp; done) | (simp; omega))
      go_wp2_with fail
      refine (TO).mono ?_
      rintro e w4 ⟨v1, u1, rfl, HT, hb⟩
      replace bt := (hb.block (g) (lt_of_block bt)).trans bt
      replace bq := (hb.block (g + 1) (lt_of_block bq)).trans bq
      replace br := (hb.block (g + 1 + 1) (lt_of_block br)).trans br
      replace HO : Hid (OT (g + 1 + 1 + 1) w4 y m (S.set k H) F1 v') := HO.out.below hb
      replace HB : Hid (Below w.heap.size w w4) := bel_step HB.out hb
      replace LB : Hid (g + 1 + 1 + 1 ≤ w4.heap.size) := Nat.le_trans LB.out hb.size
      clear hb
      clear TO
      obtain ⟨a1, c1, b1, d1, rfl, rfl, _, _, _⟩ := HT.out.shape2
      replace HT : Hid (TabO (g + 1 + 1 + 1) w4 (.slice a1 (S.length) c1) (.slice b1 (F1.length) d1) (S.set k H) F1) := by have h' := HT; rw [List.length_set] at h'; exact h'
      clear HO
      have pr0x5 : w4.cell? ⟨g + 1 + 1, 0, none⟩ = some (.slice none 0 0) := (cell_of_block br 0).trans rfl
      have pr1x5 : w4.cell? ⟨g + 1 + 1, 1, none⟩ = some (.slice none 0 0) := (cell_of_block br 1).trans rfl
      have fr0x5 := free_of_block br 0
      have fr1x5 := free_of_block br 1
      obtain ⟨w5, hNw5⟩ : ∃ G, ((w4.setCell ⟨g + 1 + 1, 0, none⟩ (.slice a1 (S.length) c1)).setCell ⟨g + 1 + 1, 1, none⟩ (.slice b1 (F1.length) d1)) = G := ⟨_, rfl⟩
      obtain ⟨s1, s2, s3, s4⟩ := set2T br _ _ hNw5
      replace bt := (s2 (g) (by omega)).trans bt
      replace bq := (s2 (g + 1) (by omega)).trans bq
      replace HT : Hid (TabO (g + 1 + 1 + 1) w5 (.slice a1 (S.length) c1) (.slice b1 (F1.length) d1) (S.set k H) F1) := HT.out.same (fun q h1 _ => s2 q (by omega))
      replace HB : Hid (Below w.heap.size w w5) := s4 _ _ (by have := HBV.out.2; omega) HB.out
      replace LB : Hid (g + 1 + 1 + 1 ≤ w5.heap.size) := by unfold Hid; rw [s3]; exact LB.out
      replace br := s1
      clear s1 s2 s3 s4
      have zr0 : w5.cell? ⟨g + 1 + 1, 0, none⟩ = some (.slice a1 (S.length) c1) := (cell_of_block br 0).trans rfl
      have zr1 : w5.cell? ⟨g + 1 + 1, 1, none⟩ = some (.slice b1 (F1.length) d1) := (cell_of_block br 1).trans rfl
      go_wp2
      exact bodyPost_ret (v := .tuple #[.agg #[.slice a1 (S.length) c1, .slice b1 (F1.length) d1], .int .i64 (k : Int), .int .i64 0]) (by simp [results, Try.results6, go_sem, zr0, zr1]) rfl ⟨_, _, rfl, HT.out.base (by have := HBV.out.2; omega), HB.out⟩
    · have h41 := HG.out.1
      have FU := implFull (g + 1 + 1 + 1) y m v S [] w2 HO true (by unfold Hid; simp [h40])
      have pq0x3 : w2.cell? ⟨g + 1, 0, none⟩ = some (.bool H.u) := (cell_of_block bq 0).trans rfl
      have pq1x3 : w2.cell? ⟨g + 1, 1, none⟩ = some (.int .i64 H.r) := (cell_of_block bq 1).trans rfl
      have pq2x3 : w2.cell? ⟨g + 1, 2, none⟩ = some (.int .i64 H.p) := (cell_of_block bq 2).trans rfl
      have pq3x3 : w2.cell? ⟨g + 1, 3, none⟩ = some (.bool H.o) := (cell_of_block bq 3).trans rfl
      have pq4x3 : w2.cell? ⟨g + 1, 4, none⟩ = some (.int .i64 H.l) := (cell_of_block bq 4).trans rfl
      have pq5x3 : w2.cell? ⟨g + 1, 5, none⟩ = some (.int .i64 H.s) := (cell_of_block bq 5).trans rfl
      go_wp2_with fail
      clear pq0x3 pq1x3 pq2x3 pq3x3 pq4x3 pq5x3
      refine (FU).mono ?_
      rintro e w' ⟨rfl, hw⟩
      obtain rfl := hw.symm
      clear hw
      clear FU
      clear h40
      have TO := implTold (g + 1 + 1 + 1) y m _ S ([] : List Int) w2 HO (by simp)
      go_wp2_with fail
      refine (TO).mono ?_
      rintro e w3 ⟨v1, u1, rfl, HT, hb⟩
      replace bt := (hb.block (g) (lt_of_block bt)).trans bt
      replace bq := (hb.block (g + 1) (lt_of_block bq)).trans bq
      replace br := (hb.block (g + 1 + 1) (lt_of_block br)).trans br
      replace HO : Hid (OT (g + 1 + 1 + 1) w3 y m S [] v) := HO.out.below hb
      replace HB : Hid (Below w.heap.size w w3) := bel_step HB.out hb
      replace LB : Hid (g + 1 + 1 + 1 ≤ w3.heap.size) := Nat.le_trans LB.out hb.size
      clear hb
      clear TO
      obtain ⟨a1, c1, b1, d1, rfl, rfl, _, _, _⟩ := HT.out.shape2
      replace HT : Hid (TabO (g + 1 + 1 + 1) w3 (.slice a1 (S.length) c1) (.slice b1 (0) d1) S ([] : List Int)) := by have h' := HT; exact h'
      clear HO
      have pr0x4 : w3.cell? ⟨g + 1 + 1, 0, none⟩ = some (.slice none 0 0) := (cell_of_block br 0).trans rfl
      have pr1x4 : w3.cell? ⟨g + 1 + 1, 1, none⟩ = some (.slice none 0 0) := (cell_of_block br 1).trans rfl
      have fr0x4 := free_of_block br 0
      have fr1x4 := free_of_block br 1
      obtain ⟨w4, hNw4⟩ : ∃ G, ((w3.setCell ⟨g + 1 + 1, 0, none⟩ (.slice a1 (S.length) c1)).setCell ⟨g + 1 + 1, 1, none⟩ (.slice b1 (0) d1)) = G := ⟨_, rfl⟩
      obtain ⟨s1, s2, s3, s4⟩ := set2T br _ _ hNw4
      replace bt := (s2 (g) (by omega)).trans bt
      replace bq := (s2 (g + 1) (by omega)).trans bq
      replace HT : Hid (TabO (g + 1 + 1 + 1) w4 (.slice a1 (S.length) c1) (.slice b1 (0) d1) S ([] : List Int)) := HT.out.same (fun q h1 _ => s2 q (by omega))
      replace HB : Hid (Below w.heap.size w w4) := s4 _ _ (by have := HBV.out.2; omega) HB.out
      replace LB : Hid (g + 1 + 1 + 1 ≤ w4.heap.size) := by unfold Hid; rw [s3]; exact LB.out
      replace br := s1
      clear s1 s2 s3 s4
      have zr0 : w4.cell? ⟨g + 1 + 1, 0, none⟩ = some (.slice a1 (S.length) c1) := (cell_of_block br 0).trans rfl
      have zr1 : w4.cell? ⟨g + 1 + 1, 1, none⟩ = some (.slice b1 (0) d1) := (cell_of_block br 1).trans rfl
      go_wp2
      exact bodyPost_ret (v := .tuple #[.agg #[.slice a1 (S.length) c1, .slice b1 (0) d1], .int .i64 0, .int .i64 5]) (by simp [results, Try.results6, go_sem, zr0, zr1]) rfl ⟨_, _, rfl, HT.out.base (by have := HBV.out.2; omega), HB.out⟩
    · have h41 := HG.out.1
      have FU := implFull (g + 1 + 1 + 1) y m v S [] w2 HO false (by unfold Hid; simp [h40])
      have pq0x3 : w2.cell? ⟨g + 1, 0, none⟩ = some (.bool H.u) := (cell_of_block bq 0).trans rfl
      have pq1x3 : w2.cell? ⟨g + 1, 1, none⟩ = some (.int .i64 H.r) := (cell_of_block bq 1).trans rfl
      have pq2x3 : w2.cell? ⟨g + 1, 2, none⟩ = some (.int .i64 H.p) := (cell_of_block bq 2).trans rfl
      have pq3x3 : w2.cell? ⟨g + 1, 3, none⟩ = some (.bool H.o) := (cell_of_block bq 3).trans rfl
      have pq4x3 : w2.cell? ⟨g + 1, 4, none⟩ = some (.int .i64 H.l) := (cell_of_block bq 4).trans rfl
      have pq5x3 : w2.cell? ⟨g + 1, 5, none⟩ = some (.int .i64 H.s) := (cell_of_block bq 5).trans rfl
      go_wp2_with fail
      clear pq0x3 pq1x3 pq2x3 pq3x3 pq4x3 pq5x3
      refine (FU).mono ?_
      rintro e w' ⟨rfl, hw⟩
      obtain rfl := hw.symm
      clear hw
      clear FU
      clear h40
      have PU := implPutA (g + 1 + 1 + 1) y m v S H w2 HO (by omega)
      unfold hdV at PU
      have pq0x4 : w2.cell? ⟨g + 1, 0, none⟩ = some (.bool H.u) := (cell_of_block bq 0).trans rfl
      have pq1x4 : w2.cell? ⟨g + 1, 1, none⟩ = some (.int .i64 H.r) := (cell_of_block bq 1).trans rfl
      have pq2x4 : w2.cell? ⟨g + 1, 2, none⟩ = some (.int .i64 H.p) := (cell_of_block bq 2).trans rfl
      have pq3x4 : w2.cell? ⟨g + 1, 3, none⟩ = some (.bool H.o) := (cell_of_block bq 3).trans rfl
      have pq4x4 : w2.cell? ⟨g + 1, 4, none⟩ = some (.int .i64 H.l) := (cell_of_block bq 4).trans rfl
      have pq5x4 : w2.cell? ⟨g + 1, 5, none⟩ = some (.int .i64 H.s) := (cell_of_block bq 5).trans rfl
      go_wp2_with fail
      clear pq0x4 pq1x4 pq2x4 pq3x4 pq4x4 pq5x4
      refine PU.mono ?_
      rintro e w3 ⟨rfl, v', HO2, hb⟩
      replace bt := (hb.block (g) (by omega)).trans bt
      replace bq := (hb.block (g + 1) (by omega)).trans bq
      replace br := (hb.block (g + 1 + 1) (by omega)).trans br
      replace HB : Hid (Below w.heap.size w w3) := HB.out.trans (hb.mono (by have := HBV.out.2; omega))
      replace LB : Hid (g + 1 + 1 + 1 ≤ w3.heap.size) := Nat.le_trans LB.out hb.size
      clear HO PU hb
      have HO : Hid (OT (g + 1 + 1 + 1) w3 y m (S ++ [H]) ([] : List Int) v') := HO2
      clear HO2
      have TO := implTold (g + 1 + 1 + 1) y m _ (S ++ [H]) ([] : List Int) w3 HO (by first | omega | (simp; done) | (simp; omega))
      go_wp2_with fail
      refine (TO).mono ?_
      rintro e w4 ⟨v1, u1, rfl, HT, hb⟩
      replace bt := (hb.block (g) (lt_of_block bt)).trans bt
      replace bq := (hb.block (g + 1) (lt_of_block bq)).trans bq
      replace br := (hb.block (g + 1 + 1) (lt_of_block br)).trans br
      replace HO : Hid (OT (g + 1 + 1 + 1) w4 y m (S ++ [H]) ([] : List Int) v') := HO.out.below hb
      replace HB : Hid (Below w.heap.size w w4) := bel_step HB.out hb
      replace LB : Hid (g + 1 + 1 + 1 ≤ w4.heap.size) := Nat.le_trans LB.out hb.size
      clear hb
      clear TO
      obtain ⟨a1, c1, b1, d1, rfl, rfl, _, _, _⟩ := HT.out.shape2
      replace HT : Hid (TabO (g + 1 + 1 + 1) w4 (.slice a1 (S.length + 1) c1) (.slice b1 (0) d1) (S ++ [H]) ([] : List Int)) := by have h' := HT; rw [List.length_append] at h'; exact h'
      clear HO
      have pr0x5 : w4.cell? ⟨g + 1 + 1, 0, none⟩ = some (.slice none 0 0) := (cell_of_block br 0).trans rfl
      have pr1x5 : w4.cell? ⟨g + 1 + 1, 1, none⟩ = some (.slice none 0 0) := (cell_of_block br 1).trans rfl
      have fr0x5 := free_of_block br 0
      have fr1x5 := free_of_block br 1
      obtain ⟨w5, hNw5⟩ : ∃ G, ((w4.setCell ⟨g + 1 + 1, 0, none⟩ (.slice a1 (S.length + 1) c1)).setCell ⟨g + 1 + 1, 1, none⟩ (.slice b1 (0) d1)) = G := ⟨_, rfl⟩
      obtain ⟨s1, s2, s3, s4⟩ := set2T br _ _ hNw5
      replace bt := (s2 (g) (by omega)).trans bt
      replace bq := (s2 (g + 1) (by omega)).trans bq
      replace HT : Hid (TabO (g + 1 + 1 + 1) w5 (.slice a1 (S.length + 1) c1) (.slice b1 (0) d1) (S ++ [H]) ([] : List Int)) := HT.out.same (fun q h1 _ => s2 q (by omega))
      replace HB : Hid (Below w.heap.size w w5) := s4 _ _ (by have := HBV.out.2; omega) HB.out
      replace LB : Hid (g + 1 + 1 + 1 ≤ w5.heap.size) := by unfold Hid; rw [s3]; exact LB.out
      replace br := s1
      clear s1 s2 s3 s4
      have zr0 : w5.cell? ⟨g + 1 + 1, 0, none⟩ = some (.slice a1 (S.length + 1) c1) := (cell_of_block br 0).trans rfl
      have zr1 : w5.cell? ⟨g + 1 + 1, 1, none⟩ = some (.slice b1 (0) d1) := (cell_of_block br 1).trans rfl
      go_wp2
      exact bodyPost_ret (v := .tuple #[.agg #[.slice a1 (S.length + 1) c1, .slice b1 (0) d1], .int .i64 (S.length : Int), .int .i64 0]) (by simp [results, Try.results6, go_sem, zr0, zr1]) rfl ⟨_, _, rfl, HT.out.base (by have := HBV.out.2; omega), HB.out⟩


end Go.Proofs.Ytjielcilcningaa
