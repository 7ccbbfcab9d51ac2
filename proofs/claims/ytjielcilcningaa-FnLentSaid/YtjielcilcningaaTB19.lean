/-
  A handle is given back: both sides, and the law. (Made by a generator.)
-/
import Derived.Test.YtjielcilcningaaTB18
namespace Go.Proofs.Ytjielcilcningaa
open Go.ChangeShapes Go.WideShapes Go.ChangeAt Go.RowKit Go.Maps

theorem used_ok {S : List Hd} {x : Int} {H : Hd} (h : UsedIs S x H 0) : ∃ k, ∃ h : k < S.length, x = (k : Int) ∧ S[k] = H ∧ H.u = true := by
  rcases h with ⟨_, _, h⟩ | ⟨k, f, hk, hx, hf, ⟨_, _, h⟩ | ⟨h1, rfl, _⟩⟩
  · cases h
  · cases h
  · exact ⟨k, hk, hx, hf, h1⟩
theorem used_no2 {S : List Hd} {x : Int} {H : Hd} {C : Int} (h : UsedIs S x H C) (hc : C ≠ 0) : C = 2 ∧ (¬ (0 ≤ x ∧ x ≤ (S.length : Int) - 1) ∨ ∃ k f, ∃ h : k < S.length, x = (k : Int) ∧ S[k] = f ∧ f.u = false) := by
  rcases h with ⟨h0, _, h⟩ | ⟨k, f, hk, hx, hf, ⟨h1, _, h⟩ | ⟨h1, rfl, h⟩⟩
  · exact ⟨h, .inl h0⟩
  · exact ⟨h, .inr ⟨k, f, hk, hx, hf, h1⟩⟩
  · exact absurd h hc
/-- What ReturnHandle tells. -/
def RetR (S : List Hd) (F : List Int) (x : Int) (S1 : List Hd) (F1 : List Int) (C1 : Int) : Prop :=
  (¬ GoodT S F ∧ S1 = [] ∧ F1 = [] ∧ C1 = 1) ∨ (GoodT S F ∧ F = F1 ∧ ∃ H0 C0, UsedIs S x H0 C0 ∧ ((C0 ≠ 0 ∧ S = S1 ∧ C1 = C0) ∨ (C0 = 0 ∧ H0.l = 0 ∧ S = S1 ∧ C1 = 4) ∨ (C0 = 0 ∧ H0.l ≠ 0 ∧ C1 = 0 ∧ ∃ k, ∃ h : k < S.length, x = (k : Int) ∧ S[k] = H0 ∧ H0.u = true ∧ S1 = S.set k (lendH H0 (H0.l - 1)))))
theorem ret_r (S : List Hd) (F : List Int) (x : Int) : ∃ S1 F1 C1, RetR S F x S1 F1 C1 := by
  rcases Classical.em (GoodT S F) with hG | hG
  · obtain ⟨H0, C0, hf⟩ := used_is S x
    by_cases h0 : C0 = 0
    · subst h0
      obtain ⟨k, hk, hx, hs, hu⟩ := used_ok hf
      by_cases h1 : H0.l = 0
      · exact ⟨S, F, 4, .inr ⟨hG, rfl, H0, 0, hf, .inr (.inl ⟨rfl, h1, rfl, rfl⟩)⟩⟩
      · exact ⟨_, F, 0, .inr ⟨hG, rfl, H0, 0, hf, .inr (.inr ⟨rfl, h1, rfl, k, hk, hx, hs, hu, rfl⟩)⟩⟩
    · exact ⟨S, F, C0, .inr ⟨hG, rfl, H0, C0, hf, .inl ⟨h0, rfl, rfl⟩⟩⟩
  · exact ⟨[], [], 1, .inl ⟨hG, rfl, rfl, rfl⟩⟩
theorem ret_len {S : List Hd} {F : List Int} {x : Int} {S1 : List Hd} {F1 : List Int} {C1 : Int} (h : RetR S F x S1 F1 C1) (lS : S.length ≤ 1048576) (lF : F.length ≤ 1048576) : S1.length ≤ 1048576 ∧ F1.length ≤ 1048576 := by
  rcases h with ⟨_, rfl, rfl, _⟩ | ⟨_, rfl, H0, C0, _, ⟨_, rfl, _⟩ | ⟨_, _, rfl, _⟩ | ⟨_, _, _, k, _, _, _, _, rfl⟩⟩
  · simp
  · exact ⟨lS, lF⟩
  · exact ⟨lS, lF⟩
  · rw [List.length_set]; exact ⟨lS, lF⟩

set_option maxRecDepth 100000 in
set_option maxHeartbeats 3200000 in
theorem implRet (a b : Option Addr) (c d : Nat) (S : List Hd) (F : List Int) (x : Int) (S1 : List Hd) (F1 : List Int) (C1 : Int) (w : World) (hS : Hid (Hds w a S)) (hF : Hid (Ints w b F)) (lS : S.length ≤ 1048576) (lF : F.length ≤ 1048576) (okF : Hid (∀ x ∈ F, -9223372036854775808 ≤ x ∧ x ≤ 9223372036854775807)) (hf : RetR S F x S1 F1 C1) :
    Calls Try.prog 17 #[tabV a S.length c b F.length d, .int .i64 x] w fun e w' => ∃ v u, e = .returned (.tuple #[.agg #[v, u], .int .i64 C1]) ∧ Hid (TabO w.heap.size w' v u S1 F1) ∧ Below w.heap.size w w' := by
  obtain ⟨g, hg⟩ : ∃ g, w.heap.size = g := ⟨_, rfl⟩
  obtain ⟨V, hV⟩ : ∃ W, ((w.alloc (.cells #[.slice a S.length c, .slice b F.length d] 26)).alloc (.cells #[.slice none 0 0, .slice none 0 0] 26)) = W := ⟨_, rfl⟩
  have hbV : Below w.heap.size w V := by rw [← hV]; exact (bel_alloc (bel_alloc (Below.refl _ _) _) _)
  have hzV : V.heap.size = g + 1 + 1 := by rw [← hV, ← hg]; simp
  have bt : V.heap[g]? = some (.cells #[.slice a S.length c, .slice b F.length d] 26 (0, 0)) := by
    have h := heap_alloc_new w (.cells #[.slice a S.length c, .slice b F.length d] 26)
    have e : w.heap.size = g := by exact hg
    rw [e] at h
    rw [← hV]
    replace h := (Below.heap_alloc _ (.cells #[.slice none 0 0, .slice none 0 0] 26) _ (lt_of_block h)).trans h
    exact h
  have br : V.heap[g + 1]? = some (.cells #[.slice none 0 0, .slice none 0 0] 26 (0, 0)) := by
    have h := heap_alloc_new (w.alloc (.cells #[.slice a S.length c, .slice b F.length d] 26)) (.cells #[.slice none 0 0, .slice none 0 0] 26)
    have e : (w.alloc (.cells #[.slice a S.length c, .slice b F.length d] 26)).heap.size = g + 1 := by simp [hg]
    rw [e] at h
    rw [← hV]
    exact h
  have HBV : Hid (Below w.heap.size w V ∧ w.heap.size = g) := ⟨hbV, hg⟩
  have HB : Hid (Below w.heap.size w V) := hbV
  have LB : Hid (g + 1 + 1 ≤ V.heap.size) := Nat.le_of_eq hzV.symm
  have OP := implOpen a b c d S F V (hS.out.below hbV) (hF.out.below hbV) lS lF okF
  have HZV : Hid (V.heap.size = g + 1 + 1) := hzV
  unfold tabV at OP ⊢
  clear hbV hzV hS hF okF
  have pt0x1 : V.cell? ⟨g, 0, none⟩ = some (.slice a S.length c) := (cell_of_block bt 0).trans rfl
  have pt1x1 : V.cell? ⟨g, 1, none⟩ = some (.slice b F.length d) := (cell_of_block bt 1).trans rfl
  go_enter Try.func17, Try.ntmps17
  go_wp2_with fail
  clear hV hg pt0x1 pt1x1
  refine (OP).mono ?_
  rintro e w1 ⟨hb, y, m, h⟩
  replace bt := (hb.block (g) (lt_of_block bt)).trans bt
  replace br := (hb.block (g + 1) (lt_of_block br)).trans br
  replace HB : Hid (Below w.heap.size w w1) := bel_step HB.out hb
  replace LB : Hid (g + 1 + 1 ≤ w1.heap.size) := Nat.le_trans LB.out hb.size
  clear hb
  clear OP
  rcases hf with ⟨hG, rfl, rfl, rfl⟩ | ⟨hG, rfl, H0, C0, hfi, hf⟩
  · obtain ⟨rfl, HO⟩ : e = .returned (.tuple #[.pointer (some ⟨y, 0, none⟩), .bool false]) ∧ Hid (OT (g + 1 + 1) w1 y m [] [] (.slice none 0 0)) := by
      rcases h with ⟨_, h, _⟩ | ⟨he, _, h⟩
      · exact absurd h hG
      · rw [HZV.out] at h; exact ⟨he, h⟩
    clear h hG
    have TO := implTold (g + 1 + 1) y m _ ([] : List Hd) ([] : List Int) w1 HO (by simp)
    go_wp2_with fail
    refine (TO).mono ?_
    rintro e w2 ⟨v1, u1, rfl, HT, hb⟩
    replace bt := (hb.block (g) (lt_of_block bt)).trans bt
    replace br := (hb.block (g + 1) (lt_of_block br)).trans br
    replace HO : Hid (OT (g + 1 + 1) w2 y m [] [] (.slice none 0 0)) := HO.out.below hb
    replace HB : Hid (Below w.heap.size w w2) := bel_step HB.out hb
    replace LB : Hid (g + 1 + 1 ≤ w2.heap.size) := Nat.le_trans LB.out hb.size
    clear hb
    clear TO
    obtain ⟨a1, c1, b1, d1, rfl, rfl, _, _, _⟩ := HT.out.shape2
    replace HT : Hid (TabO (g + 1 + 1) w2 (.slice a1 0 c1) (.slice b1 0 d1) ([] : List Hd) ([] : List Int)) := HT
    clear HO
    have pr0x2 : w2.cell? ⟨g + 1, 0, none⟩ = some (.slice none 0 0) := (cell_of_block br 0).trans rfl
    have pr1x2 : w2.cell? ⟨g + 1, 1, none⟩ = some (.slice none 0 0) := (cell_of_block br 1).trans rfl
    have fr0x2 := free_of_block br 0
    have fr1x2 := free_of_block br 1
    obtain ⟨w3, hNw3⟩ : ∃ G, ((w2.setCell ⟨g + 1, 0, none⟩ (.slice a1 0 c1)).setCell ⟨g + 1, 1, none⟩ (.slice b1 0 d1)) = G := ⟨_, rfl⟩
    obtain ⟨s1, s2, s3, s4⟩ := set2T br _ _ hNw3
    replace bt := (s2 (g) (by omega)).trans bt
    replace HT : Hid (TabO (g + 1 + 1) w3 (.slice a1 0 c1) (.slice b1 0 d1) ([] : List Hd) ([] : List Int)) := HT.out.same (fun q h1 _ => s2 q (by omega))
    replace HB : Hid (Below w.heap.size w w3) := s4 _ _ (by have := HBV.out.2; omega) HB.out
    replace LB : Hid (g + 1 + 1 ≤ w3.heap.size) := by unfold Hid; rw [s3]; exact LB.out
    replace br := s1
    clear s1 s2 s3 s4
    have zr0 : w3.cell? ⟨g + 1, 0, none⟩ = some (.slice a1 0 c1) := (cell_of_block br 0).trans rfl
    have zr1 : w3.cell? ⟨g + 1, 1, none⟩ = some (.slice b1 0 d1) := (cell_of_block br 1).trans rfl
    go_wp2
    exact bodyPost_ret (v := .tuple #[.agg #[.slice a1 0 c1, .slice b1 0 d1], .int .i64 1]) (by simp [results, Try.results17, go_sem, zr0, zr1]) rfl ⟨_, _, rfl, HT.out.base (by have := HBV.out.2; omega), HB.out⟩
  · obtain ⟨v, rfl, HO⟩ : ∃ v, e = .returned (.tuple #[.pointer (some ⟨y, 0, none⟩), .bool true]) ∧ Hid (OT (g + 1 + 1) w1 y m S F v) := by
      rcases h with ⟨he, _, v, h⟩ | ⟨_, h, _⟩
      · rw [HZV.out] at h; exact ⟨v, he, h⟩
      · exact absurd hG h
    have HG : Hid (GoodT S F) := hG
    clear h hG
    have US := implUsed (g + 1 + 1) y m v S F x H0 C0 w1 HO HG hfi
    unfold hdV at US
    clear hfi
    go_wp2_with fail
    refine (US).mono ?_
    rintro e w2 ⟨rfl, hb⟩
    replace bt := (hb.block (g) (lt_of_block bt)).trans bt
    replace br := (hb.block (g + 1) (lt_of_block br)).trans br
    replace HO : Hid (OT (g + 1 + 1) w2 y m S F v) := HO.out.below hb
    replace HB : Hid (Below w.heap.size w w2) := bel_step HB.out hb
    replace LB : Hid (g + 1 + 1 ≤ w2.heap.size) := Nat.le_trans LB.out hb.size
    clear hb
    clear US
    rcases hf with ⟨hc, rfl, rfl⟩ | ⟨rfl, hl, rfl, rfl⟩ | ⟨rfl, hl, rfl, k, hk, rfl, hs, hu, rfl⟩
    · obtain ⟨yk, hyk⟩ : ∃ z, w2.heap.size = z := ⟨_, rfl⟩
      obtain ⟨w3, hNw3⟩ : ∃ W, w2.alloc (.cells #[.bool H0.u, .int .i64 H0.r, .int .i64 H0.p, .bool H0.o, .int .i64 H0.l, .int .i64 H0.s] 28) = W := ⟨_, rfl⟩
      have hb : Below w2.heap.size w2 w3 := by rw [← hNw3]; exact bel_alloc (Below.refl _ _) _
      have hleyk : Hid (g + 1 + 1 ≤ yk) := by unfold Hid; rw [← hyk]; exact LB.out
      replace bt := (hb.block (g) (lt_of_block bt)).trans bt
      replace br := (hb.block (g + 1) (lt_of_block br)).trans br
      replace HO : Hid (OT (g + 1 + 1) w3 y m S F v) := HO.out.below hb
      replace HB : Hid (Below w.heap.size w w3) := bel_step HB.out hb
      replace LB : Hid (g + 1 + 1 ≤ w3.heap.size) := Nat.le_trans LB.out hb.size
      have bk : w3.heap[yk]? = some (.cells #[.bool H0.u, .int .i64 H0.r, .int .i64 H0.p, .bool H0.o, .int .i64 H0.l, .int .i64 H0.s] 28 (0, 0)) := by rw [← hNw3, ← hyk]; exact heap_alloc_new _ _
      clear hb
      have hc2 : (C1 == 0) = false := by simpa using hc
      clear hc
      have pk0x2 : w3.cell? ⟨yk, 0, none⟩ = some (.bool H0.u) := (cell_of_block bk 0).trans rfl
      have pk1x2 : w3.cell? ⟨yk, 1, none⟩ = some (.int .i64 H0.r) := (cell_of_block bk 1).trans rfl
      have pk2x2 : w3.cell? ⟨yk, 2, none⟩ = some (.int .i64 H0.p) := (cell_of_block bk 2).trans rfl
      have pk3x2 : w3.cell? ⟨yk, 3, none⟩ = some (.bool H0.o) := (cell_of_block bk 3).trans rfl
      have pk4x2 : w3.cell? ⟨yk, 4, none⟩ = some (.int .i64 H0.l) := (cell_of_block bk 4).trans rfl
      have pk5x2 : w3.cell? ⟨yk, 5, none⟩ = some (.int .i64 H0.s) := (cell_of_block bk 5).trans rfl
      have TO := implTold (g + 1 + 1) y m _ S F w3 HO (lF)
      go_wp2_with fail
      clear hNw3 hyk pk0x2 pk1x2 pk2x2 pk3x2 pk4x2 pk5x2
      refine (TO).mono ?_
      rintro e w4 ⟨v1, u1, rfl, HT, hb⟩
      replace bt := (hb.block (g) (lt_of_block bt)).trans bt
      replace br := (hb.block (g + 1) (lt_of_block br)).trans br
      replace bk := (hb.block (yk) (lt_of_block bk)).trans bk
      replace HO : Hid (OT (g + 1 + 1) w4 y m S F v) := HO.out.below hb
      replace HB : Hid (Below w.heap.size w w4) := bel_step HB.out hb
      replace LB : Hid (g + 1 + 1 ≤ w4.heap.size) := Nat.le_trans LB.out hb.size
      clear hb
      clear TO
      obtain ⟨a1, c1, b1, d1, rfl, rfl, _, _, _⟩ := HT.out.shape2
      replace HT : Hid (TabO (g + 1 + 1) w4 (.slice a1 S.length c1) (.slice b1 F.length d1) S F) := HT
      clear HO
      have pr0x3 : w4.cell? ⟨g + 1, 0, none⟩ = some (.slice none 0 0) := (cell_of_block br 0).trans rfl
      have pr1x3 : w4.cell? ⟨g + 1, 1, none⟩ = some (.slice none 0 0) := (cell_of_block br 1).trans rfl
      have fr0x3 := free_of_block br 0
      have fr1x3 := free_of_block br 1
      obtain ⟨w5, hNw5⟩ : ∃ G, ((w4.setCell ⟨g + 1, 0, none⟩ (.slice a1 S.length c1)).setCell ⟨g + 1, 1, none⟩ (.slice b1 F.length d1)) = G := ⟨_, rfl⟩
      obtain ⟨s1, s2, s3, s4⟩ := set2T br _ _ hNw5
      replace bt := (s2 (g) (by omega)).trans bt
      replace bk := (s2 (yk) (by have := hleyk.out; omega)).trans bk
      replace HT : Hid (TabO (g + 1 + 1) w5 (.slice a1 S.length c1) (.slice b1 F.length d1) S F) := HT.out.same (fun q h1 _ => s2 q (by omega))
      replace HB : Hid (Below w.heap.size w w5) := s4 _ _ (by have := HBV.out.2; omega) HB.out
      replace LB : Hid (g + 1 + 1 ≤ w5.heap.size) := by unfold Hid; rw [s3]; exact LB.out
      replace br := s1
      clear s1 s2 s3 s4
      have zr0 : w5.cell? ⟨g + 1, 0, none⟩ = some (.slice a1 S.length c1) := (cell_of_block br 0).trans rfl
      have zr1 : w5.cell? ⟨g + 1, 1, none⟩ = some (.slice b1 F.length d1) := (cell_of_block br 1).trans rfl
      go_wp2
      exact bodyPost_ret (v := .tuple #[.agg #[.slice a1 S.length c1, .slice b1 F.length d1], .int .i64 C1]) (by simp [results, Try.results17, go_sem, zr0, zr1]) rfl ⟨_, _, rfl, HT.out.base (by have := HBV.out.2; omega), HB.out⟩
    · obtain ⟨yk, hyk⟩ : ∃ z, w2.heap.size = z := ⟨_, rfl⟩
      obtain ⟨w3, hNw3⟩ : ∃ W, w2.alloc (.cells #[.bool H0.u, .int .i64 H0.r, .int .i64 H0.p, .bool H0.o, .int .i64 H0.l, .int .i64 H0.s] 28) = W := ⟨_, rfl⟩
      have hb : Below w2.heap.size w2 w3 := by rw [← hNw3]; exact bel_alloc (Below.refl _ _) _
      have hleyk : Hid (g + 1 + 1 ≤ yk) := by unfold Hid; rw [← hyk]; exact LB.out
      replace bt := (hb.block (g) (lt_of_block bt)).trans bt
      replace br := (hb.block (g + 1) (lt_of_block br)).trans br
      replace HO : Hid (OT (g + 1 + 1) w3 y m S F v) := HO.out.below hb
      replace HB : Hid (Below w.heap.size w w3) := bel_step HB.out hb
      replace LB : Hid (g + 1 + 1 ≤ w3.heap.size) := Nat.le_trans LB.out hb.size
      have bk : w3.heap[yk]? = some (.cells #[.bool H0.u, .int .i64 H0.r, .int .i64 H0.p, .bool H0.o, .int .i64 H0.l, .int .i64 H0.s] 28 (0, 0)) := by rw [← hNw3, ← hyk]; exact heap_alloc_new _ _
      clear hb
      have hl2 : (H0.l == 0) = true := by simpa using hl
      clear hl
      have pk0x2 : w3.cell? ⟨yk, 0, none⟩ = some (.bool H0.u) := (cell_of_block bk 0).trans rfl
      have pk1x2 : w3.cell? ⟨yk, 1, none⟩ = some (.int .i64 H0.r) := (cell_of_block bk 1).trans rfl
      have pk2x2 : w3.cell? ⟨yk, 2, none⟩ = some (.int .i64 H0.p) := (cell_of_block bk 2).trans rfl
      have pk3x2 : w3.cell? ⟨yk, 3, none⟩ = some (.bool H0.o) := (cell_of_block bk 3).trans rfl
      have pk4x2 : w3.cell? ⟨yk, 4, none⟩ = some (.int .i64 H0.l) := (cell_of_block bk 4).trans rfl
      have pk5x2 : w3.cell? ⟨yk, 5, none⟩ = some (.int .i64 H0.s) := (cell_of_block bk 5).trans rfl
      have TO := implTold (g + 1 + 1) y m _ S F w3 HO (lF)
      go_wp2_with fail
      clear hNw3 hyk pk0x2 pk1x2 pk2x2 pk3x2 pk4x2 pk5x2
      refine (TO).mono ?_
      rintro e w4 ⟨v1, u1, rfl, HT, hb⟩
      replace bt := (hb.block (g) (lt_of_block bt)).trans bt
      replace br := (hb.block (g + 1) (lt_of_block br)).trans br
      replace bk := (hb.block (yk) (lt_of_block bk)).trans bk
      replace HO : Hid (OT (g + 1 + 1) w4 y m S F v) := HO.out.below hb
      replace HB : Hid (Below w.heap.size w w4) := bel_step HB.out hb
      replace LB : Hid (g + 1 + 1 ≤ w4.heap.size) := Nat.le_trans LB.out hb.size
      clear hb
      clear TO
      obtain ⟨a1, c1, b1, d1, rfl, rfl, _, _, _⟩ := HT.out.shape2
      replace HT : Hid (TabO (g + 1 + 1) w4 (.slice a1 S.length c1) (.slice b1 F.length d1) S F) := HT
      clear HO
      have pr0x3 : w4.cell? ⟨g + 1, 0, none⟩ = some (.slice none 0 0) := (cell_of_block br 0).trans rfl
      have pr1x3 : w4.cell? ⟨g + 1, 1, none⟩ = some (.slice none 0 0) := (cell_of_block br 1).trans rfl
      have fr0x3 := free_of_block br 0
      have fr1x3 := free_of_block br 1
      obtain ⟨w5, hNw5⟩ : ∃ G, ((w4.setCell ⟨g + 1, 0, none⟩ (.slice a1 S.length c1)).setCell ⟨g + 1, 1, none⟩ (.slice b1 F.length d1)) = G := ⟨_, rfl⟩
      obtain ⟨s1, s2, s3, s4⟩ := set2T br _ _ hNw5
      replace bt := (s2 (g) (by omega)).trans bt
      replace bk := (s2 (yk) (by have := hleyk.out; omega)).trans bk
      replace HT : Hid (TabO (g + 1 + 1) w5 (.slice a1 S.length c1) (.slice b1 F.length d1) S F) := HT.out.same (fun q h1 _ => s2 q (by omega))
      replace HB : Hid (Below w.heap.size w w5) := s4 _ _ (by have := HBV.out.2; omega) HB.out
      replace LB : Hid (g + 1 + 1 ≤ w5.heap.size) := by unfold Hid; rw [s3]; exact LB.out
      replace br := s1
      clear s1 s2 s3 s4
      have zr0 : w5.cell? ⟨g + 1, 0, none⟩ = some (.slice a1 S.length c1) := (cell_of_block br 0).trans rfl
      have zr1 : w5.cell? ⟨g + 1, 1, none⟩ = some (.slice b1 F.length d1) := (cell_of_block br 1).trans rfl
      go_wp2
      exact bodyPost_ret (v := .tuple #[.agg #[.slice a1 S.length c1, .slice b1 F.length d1], .int .i64 4]) (by simp [results, Try.results17, go_sem, zr0, zr1]) rfl ⟨_, _, rfl, HT.out.base (by have := HBV.out.2; omega), HB.out⟩
    · obtain ⟨av, cv, rfl, _, _⟩ := own_hds HO.out.row
      clear hu
      obtain ⟨q, rfl, hq1, hq2⟩ := row_pos HO.out.row (by omega)
      obtain ⟨yk, hyk⟩ : ∃ z, w2.heap.size = z := ⟨_, rfl⟩
      obtain ⟨w3, hNw3⟩ : ∃ W, w2.alloc (.cells #[.bool H0.u, .int .i64 H0.r, .int .i64 H0.p, .bool H0.o, .int .i64 H0.l, .int .i64 H0.s] 28) = W := ⟨_, rfl⟩
      have hb : Below w2.heap.size w2 w3 := by rw [← hNw3]; exact bel_alloc (Below.refl _ _) _
      have hleyk : Hid (g + 1 + 1 ≤ yk) := by unfold Hid; rw [← hyk]; exact LB.out
      replace bt := (hb.block (g) (lt_of_block bt)).trans bt
      replace br := (hb.block (g + 1) (lt_of_block br)).trans br
      replace HO : Hid (OT (g + 1 + 1) w3 y m S F (.slice (some ⟨q, 0, none⟩) S.length cv)) := HO.out.below hb
      replace HB : Hid (Below w.heap.size w w3) := bel_step HB.out hb
      replace LB : Hid (g + 1 + 1 ≤ w3.heap.size) := Nat.le_trans LB.out hb.size
      have bk : w3.heap[yk]? = some (.cells #[.bool H0.u, .int .i64 H0.r, .int .i64 H0.p, .bool H0.o, .int .i64 H0.l, .int .i64 H0.s] 28 (0, 0)) := by rw [← hNw3, ← hyk]; exact heap_alloc_new _ _
      clear hb
      have HQ : Hid (q < yk) := by unfold Hid; rw [← hyk]; exact hq2
      have hl2 : (H0.l == 0) = false := by simpa using hl
      have hlb : 0 ≤ H0.l ∧ H0.l ≤ 1000 := by have h := good_lends HG.out k hk; rw [hs] at h; exact h
      have pk0x2 : w3.cell? ⟨yk, 0, none⟩ = some (.bool H0.u) := (cell_of_block bk 0).trans rfl
      have pk1x2 : w3.cell? ⟨yk, 1, none⟩ = some (.int .i64 H0.r) := (cell_of_block bk 1).trans rfl
      have pk2x2 : w3.cell? ⟨yk, 2, none⟩ = some (.int .i64 H0.p) := (cell_of_block bk 2).trans rfl
      have pk3x2 : w3.cell? ⟨yk, 3, none⟩ = some (.bool H0.o) := (cell_of_block bk 3).trans rfl
      have pk4x2 : w3.cell? ⟨yk, 4, none⟩ = some (.int .i64 H0.l) := (cell_of_block bk 4).trans rfl
      have pk5x2 : w3.cell? ⟨yk, 5, none⟩ = some (.int .i64 H0.s) := (cell_of_block bk 5).trans rfl
      have py0 : w3.cell? ⟨y, 0, none⟩ = some (.slice (some ⟨q, 0, none⟩) S.length cv) := (cell_of_block HO.out.xb 0).trans rfl
      have pq : w3.cell? ⟨q, k * 6 + 4, none⟩ = some (.int .i64 H0.l) := (own_cell HO.out.row ((hv_at S k hk 4 (by omega)).trans (by rw [hs]; rfl))).1
      have fq : w3.frozen? ⟨q, k * 6 + 4, none⟩ = false := (own_cell HO.out.row ((hv_at S k hk 4 (by omega)).trans (by rw [hs]; rfl))).2
      obtain ⟨w4, hNw4⟩ : ∃ G, w3.setCell ⟨q, k * 6 + 4, none⟩ (.int .i64 (H0.l - 1)) = G := ⟨_, rfl⟩
      replace bt : w4.heap[g]? = some (.cells #[.slice a S.length c, .slice b F.length d] 26 (0, 0)) := by rw [← hNw4]; exact (heap_setCell_other _ ⟨q, _, none⟩ (g) _ (show g ≠ q by omega)).trans bt
      replace br : w4.heap[g + 1]? = some (.cells #[.slice none 0 0, .slice none 0 0] 26 (0, 0)) := by rw [← hNw4]; exact (heap_setCell_other _ ⟨q, _, none⟩ (g + 1) _ (show g + 1 ≠ q by omega)).trans br
      replace bk : w4.heap[yk]? = some (.cells #[.bool H0.u, .int .i64 H0.r, .int .i64 H0.p, .bool H0.o, .int .i64 H0.l, .int .i64 H0.s] 28 (0, 0)) := by rw [← hNw4]; exact (heap_setCell_other _ ⟨q, _, none⟩ (yk) _ (show yk ≠ q by have := HQ.out; omega)).trans bk
      replace HO : Hid (OT (g + 1 + 1) w4 y m (S.set k (lendH H0 (H0.l - 1))) F (.slice (some ⟨q, 0, none⟩) S.length cv)) := by unfold Hid; rw [← hNw4]; have h := HO.out.setL rfl k hk (H0.l - 1); rw [hs] at h; exact h
      replace HB : Hid (Below w.heap.size w w4) := by unfold Hid; rw [← hNw4]; exact HB.out.setCell (by have := HBV.out.2; show w.heap.size ≤ q; omega) _
      replace LB : Hid (g + 1 + 1 ≤ w4.heap.size) := by unfold Hid; rw [← hNw4]; simpa using LB.out
      have TO := implTold (g + 1 + 1) y m _ (S.set k (lendH H0 (H0.l - 1))) F w4 HO (lF)
      go_wp2_with fail
      clear hNw3 hyk pk0x2 pk1x2 pk2x2 pk3x2 pk4x2 pk5x2 py0 pq fq hl2 hl hNw4
      refine (TO).mono ?_
      rintro e w5 ⟨v1, u1, rfl, HT, hb⟩
      replace bt := (hb.block (g) (lt_of_block bt)).trans bt
      replace br := (hb.block (g + 1) (lt_of_block br)).trans br
      replace bk := (hb.block (yk) (lt_of_block bk)).trans bk
      replace HO : Hid (OT (g + 1 + 1) w5 y m (S.set k (lendH H0 (H0.l - 1))) F (.slice (some ⟨q, 0, none⟩) S.length cv)) := HO.out.below hb
      replace HB : Hid (Below w.heap.size w w5) := bel_step HB.out hb
      replace LB : Hid (g + 1 + 1 ≤ w5.heap.size) := Nat.le_trans LB.out hb.size
      clear hb
      clear TO
      obtain ⟨a1, c1, b1, d1, rfl, rfl, _, _, _⟩ := HT.out.shape2
      rw [List.length_set] at HT
      replace HT : Hid (TabO (g + 1 + 1) w5 (.slice a1 S.length c1) (.slice b1 F.length d1) (S.set k (lendH H0 (H0.l - 1))) F) := HT
      clear HO
      have pr0x3 : w5.cell? ⟨g + 1, 0, none⟩ = some (.slice none 0 0) := (cell_of_block br 0).trans rfl
      have pr1x3 : w5.cell? ⟨g + 1, 1, none⟩ = some (.slice none 0 0) := (cell_of_block br 1).trans rfl
      have fr0x3 := free_of_block br 0
      have fr1x3 := free_of_block br 1
      obtain ⟨w6, hNw6⟩ : ∃ G, ((w5.setCell ⟨g + 1, 0, none⟩ (.slice a1 S.length c1)).setCell ⟨g + 1, 1, none⟩ (.slice b1 F.length d1)) = G := ⟨_, rfl⟩
      obtain ⟨s1, s2, s3, s4⟩ := set2T br _ _ hNw6
      replace bt := (s2 (g) (by omega)).trans bt
      replace bk := (s2 (yk) (by have := hleyk.out; omega)).trans bk
      replace HT : Hid (TabO (g + 1 + 1) w6 (.slice a1 S.length c1) (.slice b1 F.length d1) (S.set k (lendH H0 (H0.l - 1))) F) := HT.out.same (fun q h1 _ => s2 q (by omega))
      replace HB : Hid (Below w.heap.size w w6) := s4 _ _ (by have := HBV.out.2; omega) HB.out
      replace LB : Hid (g + 1 + 1 ≤ w6.heap.size) := by unfold Hid; rw [s3]; exact LB.out
      replace br := s1
      clear s1 s2 s3 s4
      have zr0 : w6.cell? ⟨g + 1, 0, none⟩ = some (.slice a1 S.length c1) := (cell_of_block br 0).trans rfl
      have zr1 : w6.cell? ⟨g + 1, 1, none⟩ = some (.slice b1 F.length d1) := (cell_of_block br 1).trans rfl
      go_wp2
      exact bodyPost_ret (v := .tuple #[.agg #[.slice a1 S.length c1, .slice b1 F.length d1], .int .i64 0]) (by simp [results, Try.results17, go_sem, zr0, zr1]) rfl ⟨_, _, rfl, HT.out.base (by have := HBV.out.2; omega), HB.out⟩

end Go.Proofs.Ytjielcilcningaa
