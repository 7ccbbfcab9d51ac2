/-
  A handle is dropped: both sides, and the law. (Made by a generator.)
-/
import Derived.Test.YtjielcilcningaaTB20
namespace Go.Proofs.Ytjielcilcningaa
open Go.ChangeShapes Go.WideShapes Go.ChangeAt Go.RowKit Go.Maps

/-- What is told where a handle is taken out (own: an own one alone). -/
def OutR (own : Bool) (S : List Hd) (F : List Int) (x res : Int) (S1 : List Hd) (F1 : List Int) (H1 : Hd) (C1 : Int) : Prop :=
  (¬ GoodT S F ∧ S1 = [] ∧ F1 = [] ∧ H1 = zH ∧ C1 = 1) ∨ (GoodT S F ∧ ∃ H0 C0, FindIs S x res H0 C0 ∧ ((C0 ≠ 0 ∧ S = S1 ∧ F = F1 ∧ H1 = zH ∧ C1 = C0) ∨ (C0 = 0 ∧ (own = true ∧ H0.o = false) ∧ S = S1 ∧ F = F1 ∧ H1 = zH ∧ C1 = 6) ∨ (C0 = 0 ∧ (own && !H0.o) = false ∧ H0.l ≠ 0 ∧ S = S1 ∧ F = F1 ∧ H1 = zH ∧ C1 = 4) ∨ (C0 = 0 ∧ (own && !H0.o) = false ∧ H0.l = 0 ∧ H1 = H0 ∧ C1 = 0 ∧ ∃ k, ∃ h : k < S.length, x = (k : Int) ∧ S[k] = H0 ∧ (k : Int) ∉ F ∧ S1 = S.set k zH ∧ F1 = F ++ [(k : Int)])))
theorem out_r (own : Bool) (S : List Hd) (F : List Int) (x res : Int) : ∃ S1 F1 H1 C1, OutR own S F x res S1 F1 H1 C1 := by
  rcases Classical.em (GoodT S F) with hG | hG
  · obtain ⟨H0, C0, hf⟩ := find_is S x res
    by_cases h0 : C0 = 0
    · subst h0
      obtain ⟨k, hk, hx, hs, hu⟩ := find_ok hf
      have hm : (k : Int) ∉ F := (hG.used k hk).1 (by rw [hs]; exact hu)
      rcases ho : (own && !H0.o) with _ | _
      · by_cases h1 : H0.l = 0
        · exact ⟨_, _, H0, 0, .inr ⟨hG, H0, 0, hf, .inr (.inr (.inr ⟨rfl, ho, h1, rfl, rfl, k, hk, hx, hs, hm, rfl, rfl⟩))⟩⟩
        · exact ⟨S, F, zH, 4, .inr ⟨hG, H0, 0, hf, .inr (.inr (.inl ⟨rfl, ho, h1, rfl, rfl, rfl, rfl⟩))⟩⟩
      · exact ⟨S, F, zH, 6, .inr ⟨hG, H0, 0, hf, .inr (.inl ⟨rfl, by simpa using ho, rfl, rfl, rfl, rfl⟩)⟩⟩
    · exact ⟨S, F, zH, C0, .inr ⟨hG, H0, C0, hf, .inl ⟨h0, rfl, rfl, rfl, rfl⟩⟩⟩
  · exact ⟨[], [], zH, 1, .inl ⟨hG, rfl, rfl, rfl, rfl⟩⟩
theorem out_len {own : Bool} {S : List Hd} {F : List Int} {x res : Int} {S1 : List Hd} {F1 : List Int} {H1 : Hd} {C1 : Int} (h : OutR own S F x res S1 F1 H1 C1) (lS : S.length ≤ 1048576) (lF : F.length ≤ 1048576) : S1.length ≤ 1048576 ∧ F1.length ≤ 1048576 := by
  rcases h with ⟨_, rfl, rfl, _⟩ | ⟨hG, H0, C0, _, ⟨_, rfl, rfl, _⟩ | ⟨_, _, rfl, rfl, _⟩ | ⟨_, _, _, rfl, rfl, _⟩ | ⟨_, _, _, _, _, k, _, _, _, _, rfl, rfl⟩⟩
  · simp
  · exact ⟨lS, lF⟩
  · exact ⟨lS, lF⟩
  · exact ⟨lS, lF⟩
  · have := hG.flen
    rw [List.length_set, List.length_append]
    exact ⟨lS, by simp; omega⟩
theorem appI1 (W : World) (base : Nat) (v : Value) (F : List Int) (hown : W.ownsRow base 3 1 v F.length (iv F)) (x : Int) (z : Nat) (hc : W.cell? ⟨z, 0, none⟩ = some (.int .i64 x)) (hl : F.length ≤ 1048576) (hb : base ≤ W.heap.size) (ty : TypeId) :
    ∃ v' w', (Builtin.append_ #[24, 24] ty #[v, .slice (some ⟨z, 0, none⟩) 1 1]).run Try.prog W = .ok v' w' ∧ w'.ownsRow base 3 1 v' (F ++ [x]).length (iv (F ++ [x])) ∧ W.grownBy w' v.ownBlock := by
  obtain ⟨i0, i0i, i00, i01, i02⟩ := info_parts Try.info3
  obtain ⟨v', w', hr, h2, h3, _⟩ := run_append_own (P := Try.prog) W base 24 ty 3 i0 (.int .i64 0) 1 8 Try.underlying24 i0i i00 i01 i02 rfl (by decide) v F.length (iv F) hown ⟨z, 0, none⟩ 1 1 [.int .i64 x] rfl (fun j u hu => by
    have hj : j = 0 := by rcases j with _ | j; rfl; simp at hu
    subst hj
    simp at hu
    subst hu
    rw [Addr.add_lit]
    exact hc) (by simp [Value.oneCell']) (by unfold maxLen; omega) (by omega) hb
  refine ⟨v', w', hr, ?_, h3⟩
  rw [List.length_append, ← iv_app]
  exact h2

set_option maxRecDepth 100000 in
set_option maxHeartbeats 3200000 in
theorem implDrop (a b : Option Addr) (c d : Nat) (S : List Hd) (F : List Int) (x res : Int) (S1 : List Hd) (F1 : List Int) (H1 : Hd) (C1 : Int) (w : World) (hS : Hid (Hds w a S)) (hF : Hid (Ints w b F)) (lS : S.length ≤ 1048576) (lF : F.length ≤ 1048576) (okF : Hid (∀ x ∈ F, -9223372036854775808 ≤ x ∧ x ≤ 9223372036854775807)) (hf : OutR false S F x res S1 F1 H1 C1) :
    Calls Try.prog 12 #[tabV a S.length c b F.length d, .int .i64 x, .int .i64 res] w fun e w' => ∃ v u, e = .returned (.tuple #[.agg #[v, u], hdV H1, .int .i64 C1]) ∧ Hid (TabO w.heap.size w' v u S1 F1) ∧ Below w.heap.size w w' := by
  obtain ⟨g, hg⟩ : ∃ g, w.heap.size = g := ⟨_, rfl⟩
  obtain ⟨V, hV⟩ : ∃ W, (((w.alloc (.cells #[.slice a S.length c, .slice b F.length d] 26)).alloc (.cells #[.slice none 0 0, .slice none 0 0] 26)).alloc (.cells #[.bool false, .int .i64 0, .int .i64 0, .bool false, .int .i64 0, .int .i64 0] 28)) = W := ⟨_, rfl⟩
  have hbV : Below w.heap.size w V := by rw [← hV]; exact (bel_alloc (bel_alloc (bel_alloc (Below.refl _ _) _) _) _)
  have hzV : V.heap.size = g + 1 + 1 + 1 := by rw [← hV, ← hg]; simp
  have bt : V.heap[g]? = some (.cells #[.slice a S.length c, .slice b F.length d] 26 (0, 0)) := by
    have h := heap_alloc_new w (.cells #[.slice a S.length c, .slice b F.length d] 26)
    have e : w.heap.size = g := by exact hg
    rw [e] at h
    rw [← hV]
    replace h := (Below.heap_alloc _ (.cells #[.slice none 0 0, .slice none 0 0] 26) _ (lt_of_block h)).trans h
    replace h := (Below.heap_alloc _ (.cells #[.bool false, .int .i64 0, .int .i64 0, .bool false, .int .i64 0, .int .i64 0] 28) _ (lt_of_block h)).trans h
    exact h
  have br : V.heap[g + 1]? = some (.cells #[.slice none 0 0, .slice none 0 0] 26 (0, 0)) := by
    have h := heap_alloc_new (w.alloc (.cells #[.slice a S.length c, .slice b F.length d] 26)) (.cells #[.slice none 0 0, .slice none 0 0] 26)
    have e : (w.alloc (.cells #[.slice a S.length c, .slice b F.length d] 26)).heap.size = g + 1 := by simp [hg]
    rw [e] at h
    rw [← hV]
    replace h := (Below.heap_alloc _ (.cells #[.bool false, .int .i64 0, .int .i64 0, .bool false, .int .i64 0, .int .i64 0] 28) _ (lt_of_block h)).trans h
    exact h
  have bh : V.heap[g + 1 + 1]? = some (.cells #[.bool false, .int .i64 0, .int .i64 0, .bool false, .int .i64 0, .int .i64 0] 28 (0, 0)) := by
    have h := heap_alloc_new ((w.alloc (.cells #[.slice a S.length c, .slice b F.length d] 26)).alloc (.cells #[.slice none 0 0, .slice none 0 0] 26)) (.cells #[.bool false, .int .i64 0, .int .i64 0, .bool false, .int .i64 0, .int .i64 0] 28)
    have e : ((w.alloc (.cells #[.slice a S.length c, .slice b F.length d] 26)).alloc (.cells #[.slice none 0 0, .slice none 0 0] 26)).heap.size = g + 1 + 1 := by simp [hg]
    rw [e] at h
    rw [← hV]
    exact h
  have HBV : Hid (Below w.heap.size w V ∧ w.heap.size = g) := ⟨hbV, hg⟩
  have HB : Hid (Below w.heap.size w V) := hbV
  have LB : Hid (g + 1 + 1 + 1 ≤ V.heap.size) := Nat.le_of_eq hzV.symm
  have HOF : Hid (∀ H0 C0, FindR S F x res H0 C0 → Calls Try.prog 29 #[tabV a S.length c b F.length d, .int .i64 x, .int .i64 res] V fun e w' => HofPost V S F x res H0 C0 e w') := fun H0 C0 h => implHof a b c d S F x res H0 C0 V (hS.out.below hbV) (hF.out.below hbV) lS lF okF h
  have HZV : Hid (V.heap.size = g + 1 + 1 + 1) := hzV
  unfold tabV at HOF ⊢
  unfold hdV
  clear hbV hzV hS hF okF
  rcases hf with ⟨hG, rfl, rfl, rfl, rfl⟩ | ⟨hG, H0, C0, hfi, hf⟩
  · have OP := HOF.out zH 1 (.inr ⟨hG, rfl, rfl⟩)
    have HN : Hid (¬ GoodT S F) := hG
    clear HOF hG
    have pt0x1 : V.cell? ⟨g, 0, none⟩ = some (.slice a S.length c) := (cell_of_block bt 0).trans rfl
    have pt1x1 : V.cell? ⟨g, 1, none⟩ = some (.slice b F.length d) := (cell_of_block bt 1).trans rfl
    go_enter Try.func12, Try.ntmps12
    go_wp2_with fail
    clear hV hg pt0x1 pt1x1
    refine (OP).mono ?_
    rintro e w1 ⟨hb, y, m, rfl, h⟩
    replace bt := (hb.block (g) (lt_of_block bt)).trans bt
    replace br := (hb.block (g + 1) (lt_of_block br)).trans br
    replace bh := (hb.block (g + 1 + 1) (lt_of_block bh)).trans bh
    replace HB : Hid (Below w.heap.size w w1) := bel_step HB.out hb
    replace LB : Hid (g + 1 + 1 + 1 ≤ w1.heap.size) := Nat.le_trans LB.out hb.size
    clear hb
    clear OP
    have HO : Hid (OT (g + 1 + 1 + 1) w1 y m [] [] (.slice none 0 0)) := by
      rcases h with ⟨h, _⟩ | ⟨_, _, _, h⟩
      · exact absurd h HN.out
      · rw [HZV.out] at h; exact h
    clear h
    unfold hdV
    obtain ⟨yk, hyk⟩ : ∃ z, w1.heap.size = z := ⟨_, rfl⟩
    obtain ⟨w2, hNw2⟩ : ∃ W, w1.alloc (.cells #[.bool zH.u, .int .i64 zH.r, .int .i64 zH.p, .bool zH.o, .int .i64 zH.l, .int .i64 zH.s] 28) = W := ⟨_, rfl⟩
    have hb : Below w1.heap.size w1 w2 := by rw [← hNw2]; exact bel_alloc (Below.refl _ _) _
    have hleyk : Hid (g + 1 + 1 + 1 ≤ yk) := by unfold Hid; rw [← hyk]; exact LB.out
    replace bt := (hb.block (g) (lt_of_block bt)).trans bt
    replace br := (hb.block (g + 1) (lt_of_block br)).trans br
    replace bh := (hb.block (g + 1 + 1) (lt_of_block bh)).trans bh
    replace HO : Hid (OT (g + 1 + 1 + 1) w2 y m [] [] (.slice none 0 0)) := HO.out.below hb
    replace HB : Hid (Below w.heap.size w w2) := bel_step HB.out hb
    replace LB : Hid (g + 1 + 1 + 1 ≤ w2.heap.size) := Nat.le_trans LB.out hb.size
    have bk : w2.heap[yk]? = some (.cells #[.bool zH.u, .int .i64 zH.r, .int .i64 zH.p, .bool zH.o, .int .i64 zH.l, .int .i64 zH.s] 28 (0, 0)) := by rw [← hNw2, ← hyk]; exact heap_alloc_new _ _
    clear hb
    have TO := implTold (g + 1 + 1 + 1) y m _ ([] : List Hd) ([] : List Int) w2 HO (by simp)
    go_wp2_with fail
    clear hNw2 hyk
    refine (TO).mono ?_
    rintro e w3 ⟨v1, u1, rfl, HT, hb⟩
    replace bt := (hb.block (g) (lt_of_block bt)).trans bt
    replace br := (hb.block (g + 1) (lt_of_block br)).trans br
    replace bh := (hb.block (g + 1 + 1) (lt_of_block bh)).trans bh
    replace bk := (hb.block (yk) (lt_of_block bk)).trans bk
    replace HO : Hid (OT (g + 1 + 1 + 1) w3 y m [] [] (.slice none 0 0)) := HO.out.below hb
    replace HB : Hid (Below w.heap.size w w3) := bel_step HB.out hb
    replace LB : Hid (g + 1 + 1 + 1 ≤ w3.heap.size) := Nat.le_trans LB.out hb.size
    clear hb
    clear TO
    obtain ⟨a1, c1, b1, d1, rfl, rfl, _, _, _⟩ := HT.out.shape2
    replace HT : Hid (TabO (g + 1 + 1 + 1) w3 (.slice a1 0 c1) (.slice b1 0 d1) ([] : List Hd) ([] : List Int)) := HT
    clear HO
    have pr0x2 : w3.cell? ⟨g + 1, 0, none⟩ = some (.slice none 0 0) := (cell_of_block br 0).trans rfl
    have pr1x2 : w3.cell? ⟨g + 1, 1, none⟩ = some (.slice none 0 0) := (cell_of_block br 1).trans rfl
    have fr0x2 := free_of_block br 0
    have fr1x2 := free_of_block br 1
    obtain ⟨w4, hNw4⟩ : ∃ G, ((w3.setCell ⟨g + 1, 0, none⟩ (.slice a1 0 c1)).setCell ⟨g + 1, 1, none⟩ (.slice b1 0 d1)) = G := ⟨_, rfl⟩
    obtain ⟨s1, s2, s3, s4⟩ := set2T br _ _ hNw4
    replace bt := (s2 (g) (by omega)).trans bt
    replace bh := (s2 (g + 1 + 1) (by omega)).trans bh
    replace bk := (s2 (yk) (by have := hleyk.out; omega)).trans bk
    replace HT : Hid (TabO (g + 1 + 1 + 1) w4 (.slice a1 0 c1) (.slice b1 0 d1) ([] : List Hd) ([] : List Int)) := HT.out.same (fun q h1 _ => s2 q (by omega))
    replace HB : Hid (Below w.heap.size w w4) := s4 _ _ (by have := HBV.out.2; omega) HB.out
    replace LB : Hid (g + 1 + 1 + 1 ≤ w4.heap.size) := by unfold Hid; rw [s3]; exact LB.out
    replace br := s1
    clear s1 s2 s3 s4
    have ph0x3 : w4.cell? ⟨g + 1 + 1, 0, none⟩ = some (.bool false) := (cell_of_block bh 0).trans rfl
    have ph1x3 : w4.cell? ⟨g + 1 + 1, 1, none⟩ = some (.int .i64 0) := (cell_of_block bh 1).trans rfl
    have ph2x3 : w4.cell? ⟨g + 1 + 1, 2, none⟩ = some (.int .i64 0) := (cell_of_block bh 2).trans rfl
    have ph3x3 : w4.cell? ⟨g + 1 + 1, 3, none⟩ = some (.bool false) := (cell_of_block bh 3).trans rfl
    have ph4x3 : w4.cell? ⟨g + 1 + 1, 4, none⟩ = some (.int .i64 0) := (cell_of_block bh 4).trans rfl
    have ph5x3 : w4.cell? ⟨g + 1 + 1, 5, none⟩ = some (.int .i64 0) := (cell_of_block bh 5).trans rfl
    have fh0x3 := free_of_block bh 0
    have fh1x3 := free_of_block bh 1
    have fh2x3 := free_of_block bh 2
    have fh3x3 := free_of_block bh 3
    have fh4x3 := free_of_block bh 4
    have fh5x3 := free_of_block bh 5
    obtain ⟨w5, hNw5⟩ : ∃ G, ((((((w4.setCell ⟨g + 1 + 1, 0, none⟩ (.bool false)).setCell ⟨g + 1 + 1, 1, none⟩ (.int .i64 0)).setCell ⟨g + 1 + 1, 2, none⟩ (.int .i64 0)).setCell ⟨g + 1 + 1, 3, none⟩ (.bool false)).setCell ⟨g + 1 + 1, 4, none⟩ (.int .i64 0)).setCell ⟨g + 1 + 1, 5, none⟩ (.int .i64 0)) = G := ⟨_, rfl⟩
    obtain ⟨s1, s2, s3, s4⟩ := set6T bh _ _ _ _ _ _ hNw5
    replace bt := (s2 (g) (by omega)).trans bt
    replace br := (s2 (g + 1) (by omega)).trans br
    replace bk := (s2 (yk) (by have := hleyk.out; omega)).trans bk
    replace HT : Hid (TabO (g + 1 + 1 + 1) w5 (.slice a1 0 c1) (.slice b1 0 d1) ([] : List Hd) ([] : List Int)) := HT.out.same (fun q h1 _ => s2 q (by omega))
    replace HB : Hid (Below w.heap.size w w5) := s4 _ _ (by have := HBV.out.2; omega) HB.out
    replace LB : Hid (g + 1 + 1 + 1 ≤ w5.heap.size) := by unfold Hid; rw [s3]; exact LB.out
    replace bh := s1
    clear s1 s2 s3 s4
    have zr0 : w5.cell? ⟨g + 1, 0, none⟩ = some (.slice a1 0 c1) := (cell_of_block br 0).trans rfl
    have zr1 : w5.cell? ⟨g + 1, 1, none⟩ = some (.slice b1 0 d1) := (cell_of_block br 1).trans rfl
    have zh0 : w5.cell? ⟨g + 1 + 1, 0, none⟩ = some (.bool false) := (cell_of_block bh 0).trans rfl
    have zh1 : w5.cell? ⟨g + 1 + 1, 1, none⟩ = some (.int .i64 0) := (cell_of_block bh 1).trans rfl
    have zh2 : w5.cell? ⟨g + 1 + 1, 2, none⟩ = some (.int .i64 0) := (cell_of_block bh 2).trans rfl
    have zh3 : w5.cell? ⟨g + 1 + 1, 3, none⟩ = some (.bool false) := (cell_of_block bh 3).trans rfl
    have zh4 : w5.cell? ⟨g + 1 + 1, 4, none⟩ = some (.int .i64 0) := (cell_of_block bh 4).trans rfl
    have zh5 : w5.cell? ⟨g + 1 + 1, 5, none⟩ = some (.int .i64 0) := (cell_of_block bh 5).trans rfl
    go_wp2
    exact bodyPost_ret (v := .tuple #[.agg #[.slice a1 0 c1, .slice b1 0 d1], .agg #[.bool false, .int .i64 0, .int .i64 0, .bool false, .int .i64 0, .int .i64 0], .int .i64 1]) (by simp [results, Try.results12, go_sem, zr0, zr1, zh0, zh1, zh2, zh3, zh4, zh5]) rfl ⟨_, _, rfl, HT.out.base (by have := HBV.out.2; omega), HB.out⟩
  · have OP := HOF.out H0 C0 (.inl ⟨hG, hfi⟩)
    have HG : Hid (GoodT S F) := hG
    clear HOF hG hfi
    have pt0x1 : V.cell? ⟨g, 0, none⟩ = some (.slice a S.length c) := (cell_of_block bt 0).trans rfl
    have pt1x1 : V.cell? ⟨g, 1, none⟩ = some (.slice b F.length d) := (cell_of_block bt 1).trans rfl
    go_enter Try.func12, Try.ntmps12
    go_wp2_with fail
    clear hV hg pt0x1 pt1x1
    refine (OP).mono ?_
    rintro e w1 ⟨hb, y, m, rfl, h⟩
    replace bt := (hb.block (g) (lt_of_block bt)).trans bt
    replace br := (hb.block (g + 1) (lt_of_block br)).trans br
    replace bh := (hb.block (g + 1 + 1) (lt_of_block bh)).trans bh
    replace HB : Hid (Below w.heap.size w w1) := bel_step HB.out hb
    replace LB : Hid (g + 1 + 1 + 1 ≤ w1.heap.size) := Nat.le_trans LB.out hb.size
    clear hb
    clear OP
    obtain ⟨v, HO⟩ : ∃ v, Hid (OT (g + 1 + 1 + 1) w1 y m S F v) := by
      rcases h with ⟨_, _, v, h⟩ | ⟨h, _⟩
      · rw [HZV.out] at h; exact ⟨v, h⟩
      · exact absurd HG.out h
    clear h
    unfold hdV
    rcases hf with ⟨hc, rfl, rfl, rfl, rfl⟩ | ⟨_, ⟨ho, _⟩, _⟩ | ⟨rfl, _, hl, rfl, rfl, rfl, rfl⟩ | ⟨rfl, _, hl, rfl, rfl, k, hk, rfl, hs, hm, rfl, rfl⟩
    · obtain ⟨yk, hyk⟩ : ∃ z, w1.heap.size = z := ⟨_, rfl⟩
      obtain ⟨w2, hNw2⟩ : ∃ W, w1.alloc (.cells #[.bool H0.u, .int .i64 H0.r, .int .i64 H0.p, .bool H0.o, .int .i64 H0.l, .int .i64 H0.s] 28) = W := ⟨_, rfl⟩
      have hb : Below w1.heap.size w1 w2 := by rw [← hNw2]; exact bel_alloc (Below.refl _ _) _
      have hleyk : Hid (g + 1 + 1 + 1 ≤ yk) := by unfold Hid; rw [← hyk]; exact LB.out
      replace bt := (hb.block (g) (lt_of_block bt)).trans bt
      replace br := (hb.block (g + 1) (lt_of_block br)).trans br
      replace bh := (hb.block (g + 1 + 1) (lt_of_block bh)).trans bh
      replace HO : Hid (OT (g + 1 + 1 + 1) w2 y m S F v) := HO.out.below hb
      replace HB : Hid (Below w.heap.size w w2) := bel_step HB.out hb
      replace LB : Hid (g + 1 + 1 + 1 ≤ w2.heap.size) := Nat.le_trans LB.out hb.size
      have bk : w2.heap[yk]? = some (.cells #[.bool H0.u, .int .i64 H0.r, .int .i64 H0.p, .bool H0.o, .int .i64 H0.l, .int .i64 H0.s] 28 (0, 0)) := by rw [← hNw2, ← hyk]; exact heap_alloc_new _ _
      clear hb
      have hc2 : (C1 == 0) = false := by simpa using hc
      clear hc
      have pk0x2 : w2.cell? ⟨yk, 0, none⟩ = some (.bool H0.u) := (cell_of_block bk 0).trans rfl
      have pk1x2 : w2.cell? ⟨yk, 1, none⟩ = some (.int .i64 H0.r) := (cell_of_block bk 1).trans rfl
      have pk2x2 : w2.cell? ⟨yk, 2, none⟩ = some (.int .i64 H0.p) := (cell_of_block bk 2).trans rfl
      have pk3x2 : w2.cell? ⟨yk, 3, none⟩ = some (.bool H0.o) := (cell_of_block bk 3).trans rfl
      have pk4x2 : w2.cell? ⟨yk, 4, none⟩ = some (.int .i64 H0.l) := (cell_of_block bk 4).trans rfl
      have pk5x2 : w2.cell? ⟨yk, 5, none⟩ = some (.int .i64 H0.s) := (cell_of_block bk 5).trans rfl
      have TO := implTold (g + 1 + 1 + 1) y m _ S F w2 HO (lF)
      go_wp2_with fail
      clear hNw2 hyk pk0x2 pk1x2 pk2x2 pk3x2 pk4x2 pk5x2
      refine (TO).mono ?_
      rintro e w3 ⟨v1, u1, rfl, HT, hb⟩
      replace bt := (hb.block (g) (lt_of_block bt)).trans bt
      replace br := (hb.block (g + 1) (lt_of_block br)).trans br
      replace bh := (hb.block (g + 1 + 1) (lt_of_block bh)).trans bh
      replace bk := (hb.block (yk) (lt_of_block bk)).trans bk
      replace HO : Hid (OT (g + 1 + 1 + 1) w3 y m S F v) := HO.out.below hb
      replace HB : Hid (Below w.heap.size w w3) := bel_step HB.out hb
      replace LB : Hid (g + 1 + 1 + 1 ≤ w3.heap.size) := Nat.le_trans LB.out hb.size
      clear hb
      clear TO
      obtain ⟨a1, c1, b1, d1, rfl, rfl, _, _, _⟩ := HT.out.shape2
      replace HT : Hid (TabO (g + 1 + 1 + 1) w3 (.slice a1 S.length c1) (.slice b1 F.length d1) S F) := HT
      clear HO
      have pr0x3 : w3.cell? ⟨g + 1, 0, none⟩ = some (.slice none 0 0) := (cell_of_block br 0).trans rfl
      have pr1x3 : w3.cell? ⟨g + 1, 1, none⟩ = some (.slice none 0 0) := (cell_of_block br 1).trans rfl
      have fr0x3 := free_of_block br 0
      have fr1x3 := free_of_block br 1
      obtain ⟨w4, hNw4⟩ : ∃ G, ((w3.setCell ⟨g + 1, 0, none⟩ (.slice a1 S.length c1)).setCell ⟨g + 1, 1, none⟩ (.slice b1 F.length d1)) = G := ⟨_, rfl⟩
      obtain ⟨s1, s2, s3, s4⟩ := set2T br _ _ hNw4
      replace bt := (s2 (g) (by omega)).trans bt
      replace bh := (s2 (g + 1 + 1) (by omega)).trans bh
      replace bk := (s2 (yk) (by have := hleyk.out; omega)).trans bk
      replace HT : Hid (TabO (g + 1 + 1 + 1) w4 (.slice a1 S.length c1) (.slice b1 F.length d1) S F) := HT.out.same (fun q h1 _ => s2 q (by omega))
      replace HB : Hid (Below w.heap.size w w4) := s4 _ _ (by have := HBV.out.2; omega) HB.out
      replace LB : Hid (g + 1 + 1 + 1 ≤ w4.heap.size) := by unfold Hid; rw [s3]; exact LB.out
      replace br := s1
      clear s1 s2 s3 s4
      have ph0x4 : w4.cell? ⟨g + 1 + 1, 0, none⟩ = some (.bool false) := (cell_of_block bh 0).trans rfl
      have ph1x4 : w4.cell? ⟨g + 1 + 1, 1, none⟩ = some (.int .i64 0) := (cell_of_block bh 1).trans rfl
      have ph2x4 : w4.cell? ⟨g + 1 + 1, 2, none⟩ = some (.int .i64 0) := (cell_of_block bh 2).trans rfl
      have ph3x4 : w4.cell? ⟨g + 1 + 1, 3, none⟩ = some (.bool false) := (cell_of_block bh 3).trans rfl
      have ph4x4 : w4.cell? ⟨g + 1 + 1, 4, none⟩ = some (.int .i64 0) := (cell_of_block bh 4).trans rfl
      have ph5x4 : w4.cell? ⟨g + 1 + 1, 5, none⟩ = some (.int .i64 0) := (cell_of_block bh 5).trans rfl
      have fh0x4 := free_of_block bh 0
      have fh1x4 := free_of_block bh 1
      have fh2x4 := free_of_block bh 2
      have fh3x4 := free_of_block bh 3
      have fh4x4 := free_of_block bh 4
      have fh5x4 := free_of_block bh 5
      obtain ⟨w5, hNw5⟩ : ∃ G, ((((((w4.setCell ⟨g + 1 + 1, 0, none⟩ (.bool false)).setCell ⟨g + 1 + 1, 1, none⟩ (.int .i64 0)).setCell ⟨g + 1 + 1, 2, none⟩ (.int .i64 0)).setCell ⟨g + 1 + 1, 3, none⟩ (.bool false)).setCell ⟨g + 1 + 1, 4, none⟩ (.int .i64 0)).setCell ⟨g + 1 + 1, 5, none⟩ (.int .i64 0)) = G := ⟨_, rfl⟩
      obtain ⟨s1, s2, s3, s4⟩ := set6T bh _ _ _ _ _ _ hNw5
      replace bt := (s2 (g) (by omega)).trans bt
      replace br := (s2 (g + 1) (by omega)).trans br
      replace bk := (s2 (yk) (by have := hleyk.out; omega)).trans bk
      replace HT : Hid (TabO (g + 1 + 1 + 1) w5 (.slice a1 S.length c1) (.slice b1 F.length d1) S F) := HT.out.same (fun q h1 _ => s2 q (by omega))
      replace HB : Hid (Below w.heap.size w w5) := s4 _ _ (by have := HBV.out.2; omega) HB.out
      replace LB : Hid (g + 1 + 1 + 1 ≤ w5.heap.size) := by unfold Hid; rw [s3]; exact LB.out
      replace bh := s1
      clear s1 s2 s3 s4
      have zr0 : w5.cell? ⟨g + 1, 0, none⟩ = some (.slice a1 S.length c1) := (cell_of_block br 0).trans rfl
      have zr1 : w5.cell? ⟨g + 1, 1, none⟩ = some (.slice b1 F.length d1) := (cell_of_block br 1).trans rfl
      have zh0 : w5.cell? ⟨g + 1 + 1, 0, none⟩ = some (.bool false) := (cell_of_block bh 0).trans rfl
      have zh1 : w5.cell? ⟨g + 1 + 1, 1, none⟩ = some (.int .i64 0) := (cell_of_block bh 1).trans rfl
      have zh2 : w5.cell? ⟨g + 1 + 1, 2, none⟩ = some (.int .i64 0) := (cell_of_block bh 2).trans rfl
      have zh3 : w5.cell? ⟨g + 1 + 1, 3, none⟩ = some (.bool false) := (cell_of_block bh 3).trans rfl
      have zh4 : w5.cell? ⟨g + 1 + 1, 4, none⟩ = some (.int .i64 0) := (cell_of_block bh 4).trans rfl
      have zh5 : w5.cell? ⟨g + 1 + 1, 5, none⟩ = some (.int .i64 0) := (cell_of_block bh 5).trans rfl
      go_wp2
      exact bodyPost_ret (v := .tuple #[.agg #[.slice a1 S.length c1, .slice b1 F.length d1], .agg #[.bool false, .int .i64 0, .int .i64 0, .bool false, .int .i64 0, .int .i64 0], .int .i64 C1]) (by simp [results, Try.results12, go_sem, zr0, zr1, zh0, zh1, zh2, zh3, zh4, zh5]) rfl ⟨_, _, rfl, HT.out.base (by have := HBV.out.2; omega), HB.out⟩
    · cases ho
    · obtain ⟨yk, hyk⟩ : ∃ z, w1.heap.size = z := ⟨_, rfl⟩
      obtain ⟨w2, hNw2⟩ : ∃ W, w1.alloc (.cells #[.bool H0.u, .int .i64 H0.r, .int .i64 H0.p, .bool H0.o, .int .i64 H0.l, .int .i64 H0.s] 28) = W := ⟨_, rfl⟩
      have hb : Below w1.heap.size w1 w2 := by rw [← hNw2]; exact bel_alloc (Below.refl _ _) _
      have hleyk : Hid (g + 1 + 1 + 1 ≤ yk) := by unfold Hid; rw [← hyk]; exact LB.out
      replace bt := (hb.block (g) (lt_of_block bt)).trans bt
      replace br := (hb.block (g + 1) (lt_of_block br)).trans br
      replace bh := (hb.block (g + 1 + 1) (lt_of_block bh)).trans bh
      replace HO : Hid (OT (g + 1 + 1 + 1) w2 y m S F v) := HO.out.below hb
      replace HB : Hid (Below w.heap.size w w2) := bel_step HB.out hb
      replace LB : Hid (g + 1 + 1 + 1 ≤ w2.heap.size) := Nat.le_trans LB.out hb.size
      have bk : w2.heap[yk]? = some (.cells #[.bool H0.u, .int .i64 H0.r, .int .i64 H0.p, .bool H0.o, .int .i64 H0.l, .int .i64 H0.s] 28 (0, 0)) := by rw [← hNw2, ← hyk]; exact heap_alloc_new _ _
      clear hb
      have hl2 : (H0.l == 0) = false := by simpa using hl
      clear hl
      have pk0x2 : w2.cell? ⟨yk, 0, none⟩ = some (.bool H0.u) := (cell_of_block bk 0).trans rfl
      have pk1x2 : w2.cell? ⟨yk, 1, none⟩ = some (.int .i64 H0.r) := (cell_of_block bk 1).trans rfl
      have pk2x2 : w2.cell? ⟨yk, 2, none⟩ = some (.int .i64 H0.p) := (cell_of_block bk 2).trans rfl
      have pk3x2 : w2.cell? ⟨yk, 3, none⟩ = some (.bool H0.o) := (cell_of_block bk 3).trans rfl
      have pk4x2 : w2.cell? ⟨yk, 4, none⟩ = some (.int .i64 H0.l) := (cell_of_block bk 4).trans rfl
      have pk5x2 : w2.cell? ⟨yk, 5, none⟩ = some (.int .i64 H0.s) := (cell_of_block bk 5).trans rfl
      have TO := implTold (g + 1 + 1 + 1) y m _ S F w2 HO (lF)
      go_wp2_with fail
      clear hNw2 hyk pk0x2 pk1x2 pk2x2 pk3x2 pk4x2 pk5x2
      refine (TO).mono ?_
      rintro e w3 ⟨v1, u1, rfl, HT, hb⟩
      replace bt := (hb.block (g) (lt_of_block bt)).trans bt
      replace br := (hb.block (g + 1) (lt_of_block br)).trans br
      replace bh := (hb.block (g + 1 + 1) (lt_of_block bh)).trans bh
      replace bk := (hb.block (yk) (lt_of_block bk)).trans bk
      replace HO : Hid (OT (g + 1 + 1 + 1) w3 y m S F v) := HO.out.below hb
      replace HB : Hid (Below w.heap.size w w3) := bel_step HB.out hb
      replace LB : Hid (g + 1 + 1 + 1 ≤ w3.heap.size) := Nat.le_trans LB.out hb.size
      clear hb
      clear TO
      obtain ⟨a1, c1, b1, d1, rfl, rfl, _, _, _⟩ := HT.out.shape2
      replace HT : Hid (TabO (g + 1 + 1 + 1) w3 (.slice a1 S.length c1) (.slice b1 F.length d1) S F) := HT
      clear HO
      have pr0x3 : w3.cell? ⟨g + 1, 0, none⟩ = some (.slice none 0 0) := (cell_of_block br 0).trans rfl
      have pr1x3 : w3.cell? ⟨g + 1, 1, none⟩ = some (.slice none 0 0) := (cell_of_block br 1).trans rfl
      have fr0x3 := free_of_block br 0
      have fr1x3 := free_of_block br 1
      obtain ⟨w4, hNw4⟩ : ∃ G, ((w3.setCell ⟨g + 1, 0, none⟩ (.slice a1 S.length c1)).setCell ⟨g + 1, 1, none⟩ (.slice b1 F.length d1)) = G := ⟨_, rfl⟩
      obtain ⟨s1, s2, s3, s4⟩ := set2T br _ _ hNw4
      replace bt := (s2 (g) (by omega)).trans bt
      replace bh := (s2 (g + 1 + 1) (by omega)).trans bh
      replace bk := (s2 (yk) (by have := hleyk.out; omega)).trans bk
      replace HT : Hid (TabO (g + 1 + 1 + 1) w4 (.slice a1 S.length c1) (.slice b1 F.length d1) S F) := HT.out.same (fun q h1 _ => s2 q (by omega))
      replace HB : Hid (Below w.heap.size w w4) := s4 _ _ (by have := HBV.out.2; omega) HB.out
      replace LB : Hid (g + 1 + 1 + 1 ≤ w4.heap.size) := by unfold Hid; rw [s3]; exact LB.out
      replace br := s1
      clear s1 s2 s3 s4
      have ph0x4 : w4.cell? ⟨g + 1 + 1, 0, none⟩ = some (.bool false) := (cell_of_block bh 0).trans rfl
      have ph1x4 : w4.cell? ⟨g + 1 + 1, 1, none⟩ = some (.int .i64 0) := (cell_of_block bh 1).trans rfl
      have ph2x4 : w4.cell? ⟨g + 1 + 1, 2, none⟩ = some (.int .i64 0) := (cell_of_block bh 2).trans rfl
      have ph3x4 : w4.cell? ⟨g + 1 + 1, 3, none⟩ = some (.bool false) := (cell_of_block bh 3).trans rfl
      have ph4x4 : w4.cell? ⟨g + 1 + 1, 4, none⟩ = some (.int .i64 0) := (cell_of_block bh 4).trans rfl
      have ph5x4 : w4.cell? ⟨g + 1 + 1, 5, none⟩ = some (.int .i64 0) := (cell_of_block bh 5).trans rfl
      have fh0x4 := free_of_block bh 0
      have fh1x4 := free_of_block bh 1
      have fh2x4 := free_of_block bh 2
      have fh3x4 := free_of_block bh 3
      have fh4x4 := free_of_block bh 4
      have fh5x4 := free_of_block bh 5
      obtain ⟨w5, hNw5⟩ : ∃ G, ((((((w4.setCell ⟨g + 1 + 1, 0, none⟩ (.bool false)).setCell ⟨g + 1 + 1, 1, none⟩ (.int .i64 0)).setCell ⟨g + 1 + 1, 2, none⟩ (.int .i64 0)).setCell ⟨g + 1 + 1, 3, none⟩ (.bool false)).setCell ⟨g + 1 + 1, 4, none⟩ (.int .i64 0)).setCell ⟨g + 1 + 1, 5, none⟩ (.int .i64 0)) = G := ⟨_, rfl⟩
      obtain ⟨s1, s2, s3, s4⟩ := set6T bh _ _ _ _ _ _ hNw5
      replace bt := (s2 (g) (by omega)).trans bt
      replace br := (s2 (g + 1) (by omega)).trans br
      replace bk := (s2 (yk) (by have := hleyk.out; omega)).trans bk
      replace HT : Hid (TabO (g + 1 + 1 + 1) w5 (.slice a1 S.length c1) (.slice b1 F.length d1) S F) := HT.out.same (fun q h1 _ => s2 q (by omega))
      replace HB : Hid (Below w.heap.size w w5) := s4 _ _ (by have := HBV.out.2; omega) HB.out
      replace LB : Hid (g + 1 + 1 + 1 ≤ w5.heap.size) := by unfold Hid; rw [s3]; exact LB.out
      replace bh := s1
      clear s1 s2 s3 s4
      have zr0 : w5.cell? ⟨g + 1, 0, none⟩ = some (.slice a1 S.length c1) := (cell_of_block br 0).trans rfl
      have zr1 : w5.cell? ⟨g + 1, 1, none⟩ = some (.slice b1 F.length d1) := (cell_of_block br 1).trans rfl
      have zh0 : w5.cell? ⟨g + 1 + 1, 0, none⟩ = some (.bool false) := (cell_of_block bh 0).trans rfl
      have zh1 : w5.cell? ⟨g + 1 + 1, 1, none⟩ = some (.int .i64 0) := (cell_of_block bh 1).trans rfl
      have zh2 : w5.cell? ⟨g + 1 + 1, 2, none⟩ = some (.int .i64 0) := (cell_of_block bh 2).trans rfl
      have zh3 : w5.cell? ⟨g + 1 + 1, 3, none⟩ = some (.bool false) := (cell_of_block bh 3).trans rfl
      have zh4 : w5.cell? ⟨g + 1 + 1, 4, none⟩ = some (.int .i64 0) := (cell_of_block bh 4).trans rfl
      have zh5 : w5.cell? ⟨g + 1 + 1, 5, none⟩ = some (.int .i64 0) := (cell_of_block bh 5).trans rfl
      go_wp2
      exact bodyPost_ret (v := .tuple #[.agg #[.slice a1 S.length c1, .slice b1 F.length d1], .agg #[.bool false, .int .i64 0, .int .i64 0, .bool false, .int .i64 0, .int .i64 0], .int .i64 4]) (by simp [results, Try.results12, go_sem, zr0, zr1, zh0, zh1, zh2, zh3, zh4, zh5]) rfl ⟨_, _, rfl, HT.out.base (by have := HBV.out.2; omega), HB.out⟩
    · obtain ⟨av, cv, rfl, _, _⟩ := own_hds HO.out.row
      obtain ⟨q, rfl, hq1, hq2⟩ := row_pos HO.out.row (by omega)
      have hm2 := HO.out.free.lt
      obtain ⟨yk, hyk⟩ : ∃ z, w1.heap.size = z := ⟨_, rfl⟩
      obtain ⟨w2, hNw2⟩ : ∃ W, w1.alloc (.cells #[.bool H1.u, .int .i64 H1.r, .int .i64 H1.p, .bool H1.o, .int .i64 H1.l, .int .i64 H1.s] 28) = W := ⟨_, rfl⟩
      have hb : Below w1.heap.size w1 w2 := by rw [← hNw2]; exact bel_alloc (Below.refl _ _) _
      have hleyk : Hid (g + 1 + 1 + 1 ≤ yk) := by unfold Hid; rw [← hyk]; exact LB.out
      replace bt := (hb.block (g) (lt_of_block bt)).trans bt
      replace br := (hb.block (g + 1) (lt_of_block br)).trans br
      replace bh := (hb.block (g + 1 + 1) (lt_of_block bh)).trans bh
      replace HO : Hid (OT (g + 1 + 1 + 1) w2 y m S F (.slice (some ⟨q, 0, none⟩) S.length cv)) := HO.out.below hb
      replace HB : Hid (Below w.heap.size w w2) := bel_step HB.out hb
      replace LB : Hid (g + 1 + 1 + 1 ≤ w2.heap.size) := Nat.le_trans LB.out hb.size
      have bk : w2.heap[yk]? = some (.cells #[.bool H1.u, .int .i64 H1.r, .int .i64 H1.p, .bool H1.o, .int .i64 H1.l, .int .i64 H1.s] 28 (0, 0)) := by rw [← hNw2, ← hyk]; exact heap_alloc_new _ _
      clear hb
      have HQ : Hid (q < yk ∧ m < yk) := by unfold Hid; rw [← hyk]; exact ⟨hq2, hm2⟩
      have hl2 : (H1.l == 0) = true := by simpa using hl
      clear hm2 hl
      have pk0x2 : w2.cell? ⟨yk, 0, none⟩ = some (.bool H1.u) := (cell_of_block bk 0).trans rfl
      have pk1x2 : w2.cell? ⟨yk, 1, none⟩ = some (.int .i64 H1.r) := (cell_of_block bk 1).trans rfl
      have pk2x2 : w2.cell? ⟨yk, 2, none⟩ = some (.int .i64 H1.p) := (cell_of_block bk 2).trans rfl
      have pk3x2 : w2.cell? ⟨yk, 3, none⟩ = some (.bool H1.o) := (cell_of_block bk 3).trans rfl
      have pk4x2 : w2.cell? ⟨yk, 4, none⟩ = some (.int .i64 H1.l) := (cell_of_block bk 4).trans rfl
      have pk5x2 : w2.cell? ⟨yk, 5, none⟩ = some (.int .i64 H1.s) := (cell_of_block bk 5).trans rfl
      have RM := implRemove (g + 1 + 1 + 1) y m q cv k S F w2 HO hk hm lS lF
      go_wp2_with fail
      clear hNw2 hyk pk0x2 pk1x2 pk2x2 pk3x2 pk4x2 pk5x2
      refine RM.mono ?_
      rintro e w3 ⟨rfl, HO2, HK2, hb⟩
      replace bt := (hb.block (g) (by omega)).trans bt
      replace br := (hb.block (g + 1) (by omega)).trans br
      replace bh := (hb.block (g + 1 + 1) (by omega)).trans bh
      replace bk := (HK2.out yk (lt_of_block bk) (by have := HQ.out; omega) (by have := HQ.out; omega)).trans bk
      replace HO : Hid (OT (g + 1 + 1 + 1) w3 y m (S.set k zH) (F ++ [(k : Int)]) (.slice (some ⟨q, 0, none⟩) S.length cv)) := HO2
      replace HB : Hid (Below w.heap.size w w3) := HB.out.trans (hb.mono (by have := HBV.out.2; omega))
      replace LB : Hid (g + 1 + 1 + 1 ≤ w3.heap.size) := Nat.le_trans LB.out hb.size
      clear HO2 HK2 hb RM hl2
      go_wp2
      refine wh_begin (fun w' : World => w'.heap[yk]? = some (.cells #[.bool H1.u, .int .i64 H1.r, .int .i64 H1.p, .bool H1.o, .int .i64 H1.l, .int .i64 H1.s] 28 (0, 0))) (by kernel_rfl) ?_
      obtain ⟨w4, hD⟩ : ∃ W, w3.drew = W := ⟨_, rfl⟩
      have hb : Below w3.heap.size w3 w4 := by rw [← hD]; exact (Below.refl _ _).drew
      rw [hD]
      replace bt := (hb.block (g) (lt_of_block bt)).trans bt
      replace br := (hb.block (g + 1) (lt_of_block br)).trans br
      replace bh := (hb.block (g + 1 + 1) (lt_of_block bh)).trans bh
      replace bk := (hb.block (yk) (lt_of_block bk)).trans bk
      replace HO : Hid (OT (g + 1 + 1 + 1) w4 y m (S.set k zH) (F ++ [(k : Int)]) (.slice (some ⟨q, 0, none⟩) S.length cv)) := HO.out.below hb
      replace HB : Hid (Below w.heap.size w w4) := bel_step HB.out hb
      replace LB : Hid (g + 1 + 1 + 1 ≤ w4.heap.size) := Nat.le_trans LB.out hb.size
      clear hb hD
      refine wh_take 0 (some 35) (.pointer (some ⟨y, 0, none⟩)) rfl rfl (by kernel_rfl) (by kernel_rfl) (by kernel_rfl) (fun _ _ _ h => h) bk (by rfl) (fun _ _ => by kernel_rfl) ?_
      simp only [Act.put, List.setIfInBounds_toArray, List.set_cons_zero, List.set_cons_succ]
      refine wh_take 2 (some 37) (.agg #[.bool H1.u, .int .i64 H1.r, .int .i64 H1.p, .bool H1.o, .int .i64 H1.l, .int .i64 H1.s]) rfl rfl (by kernel_rfl) (by kernel_rfl) (by kernel_rfl) (fun _ _ _ h => h) bk (by rfl) (fun w' hS => by have hq : w'.heap[yk]? = some (.cells #[.bool H1.u, .int .i64 H1.r, .int .i64 H1.p, .bool H1.o, .int .i64 H1.l, .int .i64 H1.s] 28 (0, 0)) := hS; have q0 : w'.cell? ⟨yk, 0, none⟩ = some (.bool H1.u) := (cell_of_block hq 0).trans rfl; have q1 : w'.cell? ⟨yk, 1, none⟩ = some (.int .i64 H1.r) := (cell_of_block hq 1).trans rfl; have q2 : w'.cell? ⟨yk, 2, none⟩ = some (.int .i64 H1.p) := (cell_of_block hq 2).trans rfl; have q3 : w'.cell? ⟨yk, 3, none⟩ = some (.bool H1.o) := (cell_of_block hq 3).trans rfl; have q4 : w'.cell? ⟨yk, 4, none⟩ = some (.int .i64 H1.l) := (cell_of_block hq 4).trans rfl; have q5 : w'.cell? ⟨yk, 5, none⟩ = some (.int .i64 H1.s) := (cell_of_block hq 5).trans rfl; clear hq hS; go_simp) ?_
      simp only [Act.put, List.setIfInBounds_toArray, List.set_cons_zero, List.set_cons_succ]
      have TO := implTold (g + 1 + 1 + 1) y m _ (S.set k zH) (F ++ [(k : Int)]) w4 HO (by have := HG.out.flen; simp; omega)
      refine wh_call 1 (some 36) 22 #[.pointer (some ⟨y, 0, none⟩)] (by kernel_rfl) rfl rfl (by rfl) (by kernel_rfl) ?_
      refine (TO).mono ?_
      rintro e w5 ⟨v1, u1, rfl, HT, hb⟩
      obtain ⟨a1, c1, b1, d1, rfl, rfl, _, _, _⟩ := HT.out.shape2
      replace bt := (hb.block (g) (lt_of_block bt)).trans bt
      replace br := (hb.block (g + 1) (lt_of_block br)).trans br
      replace bh := (hb.block (g + 1 + 1) (lt_of_block bh)).trans bh
      replace bk := (hb.block (yk) (lt_of_block bk)).trans bk
      replace HO : Hid (OT (g + 1 + 1 + 1) w5 y m (S.set k zH) (F ++ [(k : Int)]) (.slice (some ⟨q, 0, none⟩) S.length cv)) := HO.out.below hb
      replace HB : Hid (Below w.heap.size w w5) := bel_step HB.out hb
      replace LB : Hid (g + 1 + 1 + 1 ≤ w5.heap.size) := Nat.le_trans LB.out hb.size
      clear hb
      refine ⟨_, rfl, bk, ?_⟩
      simp only [Act.put, List.setIfInBounds_toArray, List.set_cons_zero, List.set_cons_succ]
      clear HO TO
      have pr0x3 : w5.cell? ⟨g + 1, 0, none⟩ = some (.slice none 0 0) := (cell_of_block br 0).trans rfl
      have pr1x3 : w5.cell? ⟨g + 1, 1, none⟩ = some (.slice none 0 0) := (cell_of_block br 1).trans rfl
      have fr0x3 := free_of_block br 0
      have fr1x3 := free_of_block br 1
      obtain ⟨w6, hNw6⟩ : ∃ G, ((w5.setCell ⟨g + 1, 0, none⟩ (.slice a1 (S.set k zH).length c1)).setCell ⟨g + 1, 1, none⟩ (.slice b1 (F ++ [(k : Int)]).length d1)) = G := ⟨_, rfl⟩
      obtain ⟨s1, s2, s3, s4⟩ := set2T br _ _ hNw6
      replace bt := (s2 (g) (by omega)).trans bt
      replace bh := (s2 (g + 1 + 1) (by omega)).trans bh
      replace bk := (s2 (yk) (by have := hleyk.out; omega)).trans bk
      replace HT : Hid (TabO (g + 1 + 1 + 1) w6 (.slice a1 (S.set k zH).length c1) (.slice b1 (F ++ [(k : Int)]).length d1) (S.set k zH) (F ++ [(k : Int)])) := HT.out.same (fun q h1 _ => s2 q (by omega))
      replace HB : Hid (Below w.heap.size w w6) := s4 _ _ (by have := HBV.out.2; omega) HB.out
      replace LB : Hid (g + 1 + 1 + 1 ≤ w6.heap.size) := by unfold Hid; rw [s3]; exact LB.out
      replace br := s1
      clear s1 s2 s3 s4
      refine wh_skip 3 none w6 (by kernel_rfl) rfl rfl (by rfl) (by rw [← hNw6]; go_simp) bk ?_
      simp only [Act.put]
      clear pr0x3 pr1x3 fr0x3 fr1x3 hNw6
      have ph0x4 : w6.cell? ⟨g + 1 + 1, 0, none⟩ = some (.bool false) := (cell_of_block bh 0).trans rfl
      have ph1x4 : w6.cell? ⟨g + 1 + 1, 1, none⟩ = some (.int .i64 0) := (cell_of_block bh 1).trans rfl
      have ph2x4 : w6.cell? ⟨g + 1 + 1, 2, none⟩ = some (.int .i64 0) := (cell_of_block bh 2).trans rfl
      have ph3x4 : w6.cell? ⟨g + 1 + 1, 3, none⟩ = some (.bool false) := (cell_of_block bh 3).trans rfl
      have ph4x4 : w6.cell? ⟨g + 1 + 1, 4, none⟩ = some (.int .i64 0) := (cell_of_block bh 4).trans rfl
      have ph5x4 : w6.cell? ⟨g + 1 + 1, 5, none⟩ = some (.int .i64 0) := (cell_of_block bh 5).trans rfl
      have fh0x4 := free_of_block bh 0
      have fh1x4 := free_of_block bh 1
      have fh2x4 := free_of_block bh 2
      have fh3x4 := free_of_block bh 3
      have fh4x4 := free_of_block bh 4
      have fh5x4 := free_of_block bh 5
      obtain ⟨w7, hNw7⟩ : ∃ G, ((((((w6.setCell ⟨g + 1 + 1, 0, none⟩ (.bool H1.u)).setCell ⟨g + 1 + 1, 1, none⟩ (.int .i64 H1.r)).setCell ⟨g + 1 + 1, 2, none⟩ (.int .i64 H1.p)).setCell ⟨g + 1 + 1, 3, none⟩ (.bool H1.o)).setCell ⟨g + 1 + 1, 4, none⟩ (.int .i64 H1.l)).setCell ⟨g + 1 + 1, 5, none⟩ (.int .i64 H1.s)) = G := ⟨_, rfl⟩
      obtain ⟨s1, s2, s3, s4⟩ := set6T bh _ _ _ _ _ _ hNw7
      replace bt := (s2 (g) (by omega)).trans bt
      replace br := (s2 (g + 1) (by omega)).trans br
      replace bk := (s2 (yk) (by have := hleyk.out; omega)).trans bk
      replace HT : Hid (TabO (g + 1 + 1 + 1) w7 (.slice a1 (S.set k zH).length c1) (.slice b1 (F ++ [(k : Int)]).length d1) (S.set k zH) (F ++ [(k : Int)])) := HT.out.same (fun q h1 _ => s2 q (by omega))
      replace HB : Hid (Below w.heap.size w w7) := s4 _ _ (by have := HBV.out.2; omega) HB.out
      replace LB : Hid (g + 1 + 1 + 1 ≤ w7.heap.size) := by unfold Hid; rw [s3]; exact LB.out
      replace bh := s1
      clear s1 s2 s3 s4
      refine wh_skip 4 none w7 (by kernel_rfl) rfl rfl (by rfl) (by rw [← hNw7]; go_simp) bk ?_
      simp only [Act.put]
      clear ph0x4 ph1x4 ph2x4 ph3x4 ph4x4 ph5x4 fh0x4 fh1x4 fh2x4 fh3x4 fh4x4 fh5x4 hNw7
      refine wh_val 5 (some 8) (.int .i64 0) w7 (by kernel_rfl) rfl rfl (by rfl) (by rfl) bk ?_
      simp only [Act.put, List.setIfInBounds_toArray, List.set_cons_zero, List.set_cons_succ]
      refine wh_done (by kernel_rfl) ?_
      have zr0 : w7.cell? ⟨g + 1, 0, none⟩ = some (.slice a1 (S.set k zH).length c1) := (cell_of_block br 0).trans rfl
      have zr1 : w7.cell? ⟨g + 1, 1, none⟩ = some (.slice b1 (F ++ [(k : Int)]).length d1) := (cell_of_block br 1).trans rfl
      have zh0 : w7.cell? ⟨g + 1 + 1, 0, none⟩ = some (.bool H1.u) := (cell_of_block bh 0).trans rfl
      have zh1 : w7.cell? ⟨g + 1 + 1, 1, none⟩ = some (.int .i64 H1.r) := (cell_of_block bh 1).trans rfl
      have zh2 : w7.cell? ⟨g + 1 + 1, 2, none⟩ = some (.int .i64 H1.p) := (cell_of_block bh 2).trans rfl
      have zh3 : w7.cell? ⟨g + 1 + 1, 3, none⟩ = some (.bool H1.o) := (cell_of_block bh 3).trans rfl
      have zh4 : w7.cell? ⟨g + 1 + 1, 4, none⟩ = some (.int .i64 H1.l) := (cell_of_block bh 4).trans rfl
      have zh5 : w7.cell? ⟨g + 1 + 1, 5, none⟩ = some (.int .i64 H1.s) := (cell_of_block bh 5).trans rfl
      go_wp2
      exact bodyPost_ret (v := .tuple #[.agg #[.slice a1 (S.set k zH).length c1, .slice b1 (F ++ [(k : Int)]).length d1], .agg #[.bool H1.u, .int .i64 H1.r, .int .i64 H1.p, .bool H1.o, .int .i64 H1.l, .int .i64 H1.s], .int .i64 0]) (by simp [results, Try.results12, go_sem, zr0, zr1, zh0, zh1, zh2, zh3, zh4, zh5]) rfl ⟨_, _, rfl, HT.out.base (by have := HBV.out.2; omega), HB.out⟩

set_option maxRecDepth 100000 in
set_option maxHeartbeats 6400000 in
theorem specOut (own : Bool) (a b : Option Addr) (c d : Nat) (S : List Hd) (F : List Int) (x res : Int) (S1 : List Hd) (F1 : List Int) (H1 : Hd) (C1 : Int) (w : World) (hS : Hid (Hds w a S)) (hF : Hid (Ints w b F)) (lS : S.length ≤ 1048576) (lF : F.length ≤ 1048576) (hd : F.length ≤ d) (hf : OutR own S F x res S1 F1 H1 C1) :
    Calls Try.prog 45 #[tabV a S.length c b F.length d, .int .i64 x, .int .i64 res, .bool own] w fun e w' => ∃ v u, e = .returned (.tuple #[.agg #[v, u], hdV H1, .int .i64 C1]) ∧ Hid (TabO w.heap.size w' v u S1 F1) ∧ Below w.heap.size w w' := by
  obtain ⟨g, hg⟩ : ∃ g, w.heap.size = g := ⟨_, rfl⟩
  obtain ⟨V, hV⟩ : ∃ W, (((w.alloc (.cells #[.slice a S.length c, .slice b F.length d] 26)).alloc (.cells #[.slice none 0 0, .slice none 0 0] 26)).alloc (.cells #[.bool false, .int .i64 0, .int .i64 0, .bool false, .int .i64 0, .int .i64 0] 28)) = W := ⟨_, rfl⟩
  have hbV : Below w.heap.size w V := by rw [← hV]; exact (bel_alloc (bel_alloc (bel_alloc (Below.refl _ _) _) _) _)
  have hzV : V.heap.size = g + 1 + 1 + 1 := by rw [← hV, ← hg]; simp
  have bt : V.heap[g]? = some (.cells #[.slice a S.length c, .slice b F.length d] 26 (0, 0)) := by
    have h := heap_alloc_new w (.cells #[.slice a S.length c, .slice b F.length d] 26)
    have e : w.heap.size = g := by exact hg
    rw [e] at h
    rw [← hV]
    replace h := (Below.heap_alloc _ (.cells #[.slice none 0 0, .slice none 0 0] 26) _ (lt_of_block h)).trans h
    replace h := (Below.heap_alloc _ (.cells #[.bool false, .int .i64 0, .int .i64 0, .bool false, .int .i64 0, .int .i64 0] 28) _ (lt_of_block h)).trans h
    exact h
  have br : V.heap[g + 1]? = some (.cells #[.slice none 0 0, .slice none 0 0] 26 (0, 0)) := by
    have h := heap_alloc_new (w.alloc (.cells #[.slice a S.length c, .slice b F.length d] 26)) (.cells #[.slice none 0 0, .slice none 0 0] 26)
    have e : (w.alloc (.cells #[.slice a S.length c, .slice b F.length d] 26)).heap.size = g + 1 := by simp [hg]
    rw [e] at h
    rw [← hV]
    replace h := (Below.heap_alloc _ (.cells #[.bool false, .int .i64 0, .int .i64 0, .bool false, .int .i64 0, .int .i64 0] 28) _ (lt_of_block h)).trans h
    exact h
  have bh : V.heap[g + 1 + 1]? = some (.cells #[.bool false, .int .i64 0, .int .i64 0, .bool false, .int .i64 0, .int .i64 0] 28 (0, 0)) := by
    have h := heap_alloc_new ((w.alloc (.cells #[.slice a S.length c, .slice b F.length d] 26)).alloc (.cells #[.slice none 0 0, .slice none 0 0] 26)) (.cells #[.bool false, .int .i64 0, .int .i64 0, .bool false, .int .i64 0, .int .i64 0] 28)
    have e : ((w.alloc (.cells #[.slice a S.length c, .slice b F.length d] 26)).alloc (.cells #[.slice none 0 0, .slice none 0 0] 26)).heap.size = g + 1 + 1 := by simp [hg]
    rw [e] at h
    rw [← hV]
    exact h
  have HBV : Hid (Below w.heap.size w V ∧ w.heap.size = g) := ⟨hbV, hg⟩
  have HB : Hid (Below w.heap.size w V) := hbV
  have LB : Hid (g + 1 + 1 + 1 ≤ V.heap.size) := Nat.le_of_eq hzV.symm
  have GT := specGoodT a b c d S F V (hS.out.below hbV) (hF.out.below hbV) lS lF hd
  have OW : Hid (∀ w', Below w.heap.size w w' → Calls Try.prog 26 #[tabV a S.length c b F.length d] w' fun e w'' => ∃ v u, e = .returned (.agg #[v, u]) ∧ Hid (TabO w'.heap.size w'' v u S F) ∧ Below w'.heap.size w' w'') := fun w' hb => specOwn a b c d S F w' (hS.out.below hb) (hF.out.below hb) lS lF
  unfold tabV at GT OW ⊢
  unfold hdV
  clear hbV hzV hS hF hd
  have pt0x1 : V.cell? ⟨g, 0, none⟩ = some (.slice a S.length c) := (cell_of_block bt 0).trans rfl
  have pt1x1 : V.cell? ⟨g, 1, none⟩ = some (.slice b F.length d) := (cell_of_block bt 1).trans rfl
  go_enter Try.func45, Try.ntmps45
  go_wp2_with fail
  clear hV hg pt0x1 pt1x1
  refine (GT).mono ?_
  rintro e w1 ⟨ht, hb⟩
  replace bt := (hb.block (g) (lt_of_block bt)).trans bt
  replace br := (hb.block (g + 1) (lt_of_block br)).trans br
  replace bh := (hb.block (g + 1 + 1) (lt_of_block bh)).trans bh
  replace HB : Hid (Below w.heap.size w w1) := bel_step HB.out hb
  replace LB : Hid (g + 1 + 1 + 1 ≤ w1.heap.size) := Nat.le_trans LB.out hb.size
  clear hb
  clear GT
  rcases hf with ⟨hG, rfl, rfl, rfl, rfl⟩ | ⟨hG, H0, C0, hfi, hf⟩
  · obtain rfl := ht.no hG
    clear ht hG OW
    have pr0x2 : w1.cell? ⟨g + 1, 0, none⟩ = some (.slice none 0 0) := (cell_of_block br 0).trans rfl
    have pr1x2 : w1.cell? ⟨g + 1, 1, none⟩ = some (.slice none 0 0) := (cell_of_block br 1).trans rfl
    have fr0x2 := free_of_block br 0
    have fr1x2 := free_of_block br 1
    obtain ⟨w2, hNw2⟩ : ∃ G, ((w1.setCell ⟨g + 1, 0, none⟩ (.slice none 0 0)).setCell ⟨g + 1, 1, none⟩ (.slice none 0 0)) = G := ⟨_, rfl⟩
    obtain ⟨s1, s2, s3, s4⟩ := set2T br _ _ hNw2
    replace bt := (s2 (g) (by omega)).trans bt
    replace bh := (s2 (g + 1 + 1) (by omega)).trans bh
    replace HB : Hid (Below w.heap.size w w2) := s4 _ _ (by have := HBV.out.2; omega) HB.out
    replace LB : Hid (g + 1 + 1 + 1 ≤ w2.heap.size) := by unfold Hid; rw [s3]; exact LB.out
    replace br := s1
    clear s1 s2 s3 s4
    have ph0x3 : w2.cell? ⟨g + 1 + 1, 0, none⟩ = some (.bool false) := (cell_of_block bh 0).trans rfl
    have ph1x3 : w2.cell? ⟨g + 1 + 1, 1, none⟩ = some (.int .i64 0) := (cell_of_block bh 1).trans rfl
    have ph2x3 : w2.cell? ⟨g + 1 + 1, 2, none⟩ = some (.int .i64 0) := (cell_of_block bh 2).trans rfl
    have ph3x3 : w2.cell? ⟨g + 1 + 1, 3, none⟩ = some (.bool false) := (cell_of_block bh 3).trans rfl
    have ph4x3 : w2.cell? ⟨g + 1 + 1, 4, none⟩ = some (.int .i64 0) := (cell_of_block bh 4).trans rfl
    have ph5x3 : w2.cell? ⟨g + 1 + 1, 5, none⟩ = some (.int .i64 0) := (cell_of_block bh 5).trans rfl
    have fh0x3 := free_of_block bh 0
    have fh1x3 := free_of_block bh 1
    have fh2x3 := free_of_block bh 2
    have fh3x3 := free_of_block bh 3
    have fh4x3 := free_of_block bh 4
    have fh5x3 := free_of_block bh 5
    obtain ⟨w3, hNw3⟩ : ∃ G, ((((((w2.setCell ⟨g + 1 + 1, 0, none⟩ (.bool false)).setCell ⟨g + 1 + 1, 1, none⟩ (.int .i64 0)).setCell ⟨g + 1 + 1, 2, none⟩ (.int .i64 0)).setCell ⟨g + 1 + 1, 3, none⟩ (.bool false)).setCell ⟨g + 1 + 1, 4, none⟩ (.int .i64 0)).setCell ⟨g + 1 + 1, 5, none⟩ (.int .i64 0)) = G := ⟨_, rfl⟩
    obtain ⟨s1, s2, s3, s4⟩ := set6T bh _ _ _ _ _ _ hNw3
    replace bt := (s2 (g) (by omega)).trans bt
    replace br := (s2 (g + 1) (by omega)).trans br
    replace HB : Hid (Below w.heap.size w w3) := s4 _ _ (by have := HBV.out.2; omega) HB.out
    replace LB : Hid (g + 1 + 1 + 1 ≤ w3.heap.size) := by unfold Hid; rw [s3]; exact LB.out
    replace bh := s1
    clear s1 s2 s3 s4
    have zr0 : w3.cell? ⟨g + 1, 0, none⟩ = some (.slice none 0 0) := (cell_of_block br 0).trans rfl
    have zr1 : w3.cell? ⟨g + 1, 1, none⟩ = some (.slice none 0 0) := (cell_of_block br 1).trans rfl
    have zh0 : w3.cell? ⟨g + 1 + 1, 0, none⟩ = some (.bool false) := (cell_of_block bh 0).trans rfl
    have zh1 : w3.cell? ⟨g + 1 + 1, 1, none⟩ = some (.int .i64 0) := (cell_of_block bh 1).trans rfl
    have zh2 : w3.cell? ⟨g + 1 + 1, 2, none⟩ = some (.int .i64 0) := (cell_of_block bh 2).trans rfl
    have zh3 : w3.cell? ⟨g + 1 + 1, 3, none⟩ = some (.bool false) := (cell_of_block bh 3).trans rfl
    have zh4 : w3.cell? ⟨g + 1 + 1, 4, none⟩ = some (.int .i64 0) := (cell_of_block bh 4).trans rfl
    have zh5 : w3.cell? ⟨g + 1 + 1, 5, none⟩ = some (.int .i64 0) := (cell_of_block bh 5).trans rfl
    go_wp2
    exact bodyPost_ret (v := .tuple #[.agg #[.slice none 0 0, .slice none 0 0], .agg #[.bool false, .int .i64 0, .int .i64 0, .bool false, .int .i64 0, .int .i64 0], .int .i64 1]) (by simp [results, Try.results45, go_sem, zr0, zr1, zh0, zh1, zh2, zh3, zh4, zh5]) rfl ⟨_, _, rfl, ⟨World.ownsRow_nil _ _ _ _, World.ownsRow_nil _ _ _ _⟩, HB.out⟩
  · obtain rfl := ht.yes hG
    have HG : Hid (GoodT S F) := hG
    clear ht hG
    have OC := OW.out w1 HB.out
    have pt0x2 : w1.cell? ⟨g, 0, none⟩ = some (.slice a S.length c) := (cell_of_block bt 0).trans rfl
    have pt1x2 : w1.cell? ⟨g, 1, none⟩ = some (.slice b F.length d) := (cell_of_block bt 1).trans rfl
    go_wp2_with fail
    clear pt0x2 pt1x2
    refine (OC).mono ?_
    rintro e w2 ⟨v, u, rfl, HT, hb⟩
    replace HT := HT.out.base LB.out
    replace bt := (hb.block (g) (lt_of_block bt)).trans bt
    replace br := (hb.block (g + 1) (lt_of_block br)).trans br
    replace bh := (hb.block (g + 1 + 1) (lt_of_block bh)).trans bh
    replace HB : Hid (Below w.heap.size w w2) := bel_step HB.out hb
    replace LB : Hid (g + 1 + 1 + 1 ≤ w2.heap.size) := Nat.le_trans LB.out hb.size
    clear hb
    obtain ⟨at_, ct, bt_, dt, rfl, rfl, _, _, _⟩ := HT.shape2
    replace HT : Hid (TabO (g + 1 + 1 + 1) w2 (.slice at_ S.length ct) (.slice bt_ F.length dt) S F) := HT
    clear OC OW
    have pt0x3 : w2.cell? ⟨g, 0, none⟩ = some (.slice a S.length c) := (cell_of_block bt 0).trans rfl
    have pt1x3 : w2.cell? ⟨g, 1, none⟩ = some (.slice b F.length d) := (cell_of_block bt 1).trans rfl
    have ft0x3 := free_of_block bt 0
    have ft1x3 := free_of_block bt 1
    obtain ⟨w3, hNw3⟩ : ∃ G, ((w2.setCell ⟨g, 0, none⟩ (.slice at_ S.length ct)).setCell ⟨g, 1, none⟩ (.slice bt_ F.length dt)) = G := ⟨_, rfl⟩
    obtain ⟨s1, s2, s3, s4⟩ := set2T bt _ _ hNw3
    replace br := (s2 (g + 1) (by omega)).trans br
    replace bh := (s2 (g + 1 + 1) (by omega)).trans bh
    replace HT : Hid (TabO (g + 1 + 1 + 1) w3 (.slice at_ S.length ct) (.slice bt_ F.length dt) S F) := HT.out.same (fun q h1 _ => s2 q (by omega))
    replace HB : Hid (Below w.heap.size w w3) := s4 _ _ (by have := HBV.out.2; omega) HB.out
    replace LB : Hid (g + 1 + 1 + 1 ≤ w3.heap.size) := by unfold Hid; rw [s3]; exact LB.out
    replace bt := s1
    clear s1 s2 s3 s4
    have pt0x4 : w3.cell? ⟨g, 0, none⟩ = some (.slice at_ S.length ct) := (cell_of_block bt 0).trans rfl
    have pt1x4 : w3.cell? ⟨g, 1, none⟩ = some (.slice bt_ F.length dt) := (cell_of_block bt 1).trans rfl
    have FC := specFind at_ bt_ ct F.length dt S x res H0 C0 w3 (by obtain ⟨_, _, _, _, e1, _, h1, _⟩ := HT.out.shape2; simp only [Value.slice.injEq] at e1; unfold Hid; rw [e1.1]; exact h1) lS hfi
    unfold tabV hdV at FC
    go_wp2_with fail
    clear pt0x3 pt1x3 ft0x3 ft1x3 hNw3 pt0x4 pt1x4
    refine (FC).mono ?_
    rintro e w4 ⟨rfl, hb⟩
    replace bt := (hb.block (g) (lt_of_block bt)).trans bt
    replace br := (hb.block (g + 1) (lt_of_block br)).trans br
    replace bh := (hb.block (g + 1 + 1) (lt_of_block bh)).trans bh
    replace HT : Hid (TabO (g + 1 + 1 + 1) w4 (.slice at_ S.length ct) (.slice bt_ F.length dt) S F) := HT.out.below hb
    replace HB : Hid (Below w.heap.size w w4) := bel_step HB.out hb
    replace LB : Hid (g + 1 + 1 + 1 ≤ w4.heap.size) := Nat.le_trans LB.out hb.size
    clear hb
    clear FC hfi
    rcases hf with ⟨hc, rfl, rfl, rfl, rfl⟩ | ⟨rfl, ⟨rfl, ho⟩, rfl, rfl, rfl, rfl⟩ | ⟨rfl, ho, hl, rfl, rfl, rfl, rfl⟩ | ⟨rfl, ho, hl, rfl, rfl, k, hk, rfl, hs, hm, rfl, rfl⟩
    · obtain ⟨yk, hyk⟩ : ∃ z, w4.heap.size = z := ⟨_, rfl⟩
      obtain ⟨w5, hNw5⟩ : ∃ W, w4.alloc (.cells #[.bool H0.u, .int .i64 H0.r, .int .i64 H0.p, .bool H0.o, .int .i64 H0.l, .int .i64 H0.s] 28) = W := ⟨_, rfl⟩
      have hb : Below w4.heap.size w4 w5 := by rw [← hNw5]; exact bel_alloc (Below.refl _ _) _
      have hleyk : Hid (g + 1 + 1 + 1 ≤ yk) := by unfold Hid; rw [← hyk]; exact LB.out
      replace bt := (hb.block (g) (lt_of_block bt)).trans bt
      replace br := (hb.block (g + 1) (lt_of_block br)).trans br
      replace bh := (hb.block (g + 1 + 1) (lt_of_block bh)).trans bh
      replace HT : Hid (TabO (g + 1 + 1 + 1) w5 (.slice at_ S.length ct) (.slice bt_ F.length dt) S F) := HT.out.below hb
      replace HB : Hid (Below w.heap.size w w5) := bel_step HB.out hb
      replace LB : Hid (g + 1 + 1 + 1 ≤ w5.heap.size) := Nat.le_trans LB.out hb.size
      have bk : w5.heap[yk]? = some (.cells #[.bool H0.u, .int .i64 H0.r, .int .i64 H0.p, .bool H0.o, .int .i64 H0.l, .int .i64 H0.s] 28 (0, 0)) := by rw [← hNw5, ← hyk]; exact heap_alloc_new _ _
      clear hb
      have hc2 : (C1 == 0) = false := by simpa using hc
      clear hc
      have pk0x5 : w5.cell? ⟨yk, 0, none⟩ = some (.bool H0.u) := (cell_of_block bk 0).trans rfl
      have pk1x5 : w5.cell? ⟨yk, 1, none⟩ = some (.int .i64 H0.r) := (cell_of_block bk 1).trans rfl
      have pk2x5 : w5.cell? ⟨yk, 2, none⟩ = some (.int .i64 H0.p) := (cell_of_block bk 2).trans rfl
      have pk3x5 : w5.cell? ⟨yk, 3, none⟩ = some (.bool H0.o) := (cell_of_block bk 3).trans rfl
      have pk4x5 : w5.cell? ⟨yk, 4, none⟩ = some (.int .i64 H0.l) := (cell_of_block bk 4).trans rfl
      have pk5x5 : w5.cell? ⟨yk, 5, none⟩ = some (.int .i64 H0.s) := (cell_of_block bk 5).trans rfl
      have pt0x6 : w5.cell? ⟨g, 0, none⟩ = some (.slice at_ S.length ct) := (cell_of_block bt 0).trans rfl
      have pt1x6 : w5.cell? ⟨g, 1, none⟩ = some (.slice bt_ F.length dt) := (cell_of_block bt 1).trans rfl
      have pr0x7 : w5.cell? ⟨g + 1, 0, none⟩ = some (.slice none 0 0) := (cell_of_block br 0).trans rfl
      have pr1x7 : w5.cell? ⟨g + 1, 1, none⟩ = some (.slice none 0 0) := (cell_of_block br 1).trans rfl
      have fr0x7 := free_of_block br 0
      have fr1x7 := free_of_block br 1
      obtain ⟨w6, hNw6⟩ : ∃ G, ((w5.setCell ⟨g + 1, 0, none⟩ (.slice at_ S.length ct)).setCell ⟨g + 1, 1, none⟩ (.slice bt_ F.length dt)) = G := ⟨_, rfl⟩
      obtain ⟨s1, s2, s3, s4⟩ := set2T br _ _ hNw6
      replace bt := (s2 (g) (by omega)).trans bt
      replace bh := (s2 (g + 1 + 1) (by omega)).trans bh
      replace bk := (s2 (yk) (by have := hleyk.out; omega)).trans bk
      replace HT : Hid (TabO (g + 1 + 1 + 1) w6 (.slice at_ S.length ct) (.slice bt_ F.length dt) S F) := HT.out.same (fun q h1 _ => s2 q (by omega))
      replace HB : Hid (Below w.heap.size w w6) := s4 _ _ (by have := HBV.out.2; omega) HB.out
      replace LB : Hid (g + 1 + 1 + 1 ≤ w6.heap.size) := by unfold Hid; rw [s3]; exact LB.out
      replace br := s1
      clear s1 s2 s3 s4
      have ph0x8 : w6.cell? ⟨g + 1 + 1, 0, none⟩ = some (.bool false) := (cell_of_block bh 0).trans rfl
      have ph1x8 : w6.cell? ⟨g + 1 + 1, 1, none⟩ = some (.int .i64 0) := (cell_of_block bh 1).trans rfl
      have ph2x8 : w6.cell? ⟨g + 1 + 1, 2, none⟩ = some (.int .i64 0) := (cell_of_block bh 2).trans rfl
      have ph3x8 : w6.cell? ⟨g + 1 + 1, 3, none⟩ = some (.bool false) := (cell_of_block bh 3).trans rfl
      have ph4x8 : w6.cell? ⟨g + 1 + 1, 4, none⟩ = some (.int .i64 0) := (cell_of_block bh 4).trans rfl
      have ph5x8 : w6.cell? ⟨g + 1 + 1, 5, none⟩ = some (.int .i64 0) := (cell_of_block bh 5).trans rfl
      have fh0x8 := free_of_block bh 0
      have fh1x8 := free_of_block bh 1
      have fh2x8 := free_of_block bh 2
      have fh3x8 := free_of_block bh 3
      have fh4x8 := free_of_block bh 4
      have fh5x8 := free_of_block bh 5
      obtain ⟨w7, hNw7⟩ : ∃ G, ((((((w6.setCell ⟨g + 1 + 1, 0, none⟩ (.bool false)).setCell ⟨g + 1 + 1, 1, none⟩ (.int .i64 0)).setCell ⟨g + 1 + 1, 2, none⟩ (.int .i64 0)).setCell ⟨g + 1 + 1, 3, none⟩ (.bool false)).setCell ⟨g + 1 + 1, 4, none⟩ (.int .i64 0)).setCell ⟨g + 1 + 1, 5, none⟩ (.int .i64 0)) = G := ⟨_, rfl⟩
      obtain ⟨s1, s2, s3, s4⟩ := set6T bh _ _ _ _ _ _ hNw7
      replace bt := (s2 (g) (by omega)).trans bt
      replace br := (s2 (g + 1) (by omega)).trans br
      replace bk := (s2 (yk) (by have := hleyk.out; omega)).trans bk
      replace HT : Hid (TabO (g + 1 + 1 + 1) w7 (.slice at_ S.length ct) (.slice bt_ F.length dt) S F) := HT.out.same (fun q h1 _ => s2 q (by omega))
      replace HB : Hid (Below w.heap.size w w7) := s4 _ _ (by have := HBV.out.2; omega) HB.out
      replace LB : Hid (g + 1 + 1 + 1 ≤ w7.heap.size) := by unfold Hid; rw [s3]; exact LB.out
      replace bh := s1
      clear s1 s2 s3 s4
      have zr0 : w7.cell? ⟨g + 1, 0, none⟩ = some (.slice at_ S.length ct) := (cell_of_block br 0).trans rfl
      have zr1 : w7.cell? ⟨g + 1, 1, none⟩ = some (.slice bt_ F.length dt) := (cell_of_block br 1).trans rfl
      have zh0 : w7.cell? ⟨g + 1 + 1, 0, none⟩ = some (.bool false) := (cell_of_block bh 0).trans rfl
      have zh1 : w7.cell? ⟨g + 1 + 1, 1, none⟩ = some (.int .i64 0) := (cell_of_block bh 1).trans rfl
      have zh2 : w7.cell? ⟨g + 1 + 1, 2, none⟩ = some (.int .i64 0) := (cell_of_block bh 2).trans rfl
      have zh3 : w7.cell? ⟨g + 1 + 1, 3, none⟩ = some (.bool false) := (cell_of_block bh 3).trans rfl
      have zh4 : w7.cell? ⟨g + 1 + 1, 4, none⟩ = some (.int .i64 0) := (cell_of_block bh 4).trans rfl
      have zh5 : w7.cell? ⟨g + 1 + 1, 5, none⟩ = some (.int .i64 0) := (cell_of_block bh 5).trans rfl
      go_wp2
      exact bodyPost_ret (v := .tuple #[.agg #[.slice at_ S.length ct, .slice bt_ F.length dt], .agg #[.bool false, .int .i64 0, .int .i64 0, .bool false, .int .i64 0, .int .i64 0], .int .i64 C1]) (by simp [results, Try.results45, go_sem, zr0, zr1, zh0, zh1, zh2, zh3, zh4, zh5]) rfl ⟨_, _, rfl, HT.out.base (by have := HBV.out.2; omega), HB.out⟩
    · obtain ⟨u0, r0, p0, o0, l0, s0⟩ := H0
      simp only at ho
      subst ho
      obtain ⟨yk, hyk⟩ : ∃ z, w4.heap.size = z := ⟨_, rfl⟩
      obtain ⟨w5, hNw5⟩ : ∃ W, w4.alloc (.cells #[.bool u0, .int .i64 r0, .int .i64 p0, .bool false, .int .i64 l0, .int .i64 s0] 28) = W := ⟨_, rfl⟩
      have hb : Below w4.heap.size w4 w5 := by rw [← hNw5]; exact bel_alloc (Below.refl _ _) _
      have hleyk : Hid (g + 1 + 1 + 1 ≤ yk) := by unfold Hid; rw [← hyk]; exact LB.out
      replace bt := (hb.block (g) (lt_of_block bt)).trans bt
      replace br := (hb.block (g + 1) (lt_of_block br)).trans br
      replace bh := (hb.block (g + 1 + 1) (lt_of_block bh)).trans bh
      replace HT : Hid (TabO (g + 1 + 1 + 1) w5 (.slice at_ S.length ct) (.slice bt_ F.length dt) S F) := HT.out.below hb
      replace HB : Hid (Below w.heap.size w w5) := bel_step HB.out hb
      replace LB : Hid (g + 1 + 1 + 1 ≤ w5.heap.size) := Nat.le_trans LB.out hb.size
      have bk : w5.heap[yk]? = some (.cells #[.bool u0, .int .i64 r0, .int .i64 p0, .bool false, .int .i64 l0, .int .i64 s0] 28 (0, 0)) := by rw [← hNw5, ← hyk]; exact heap_alloc_new _ _
      clear hb
      have pk0x5 : w5.cell? ⟨yk, 0, none⟩ = some (.bool u0) := (cell_of_block bk 0).trans rfl
      have pk1x5 : w5.cell? ⟨yk, 1, none⟩ = some (.int .i64 r0) := (cell_of_block bk 1).trans rfl
      have pk2x5 : w5.cell? ⟨yk, 2, none⟩ = some (.int .i64 p0) := (cell_of_block bk 2).trans rfl
      have pk3x5 : w5.cell? ⟨yk, 3, none⟩ = some (.bool false) := (cell_of_block bk 3).trans rfl
      have pk4x5 : w5.cell? ⟨yk, 4, none⟩ = some (.int .i64 l0) := (cell_of_block bk 4).trans rfl
      have pk5x5 : w5.cell? ⟨yk, 5, none⟩ = some (.int .i64 s0) := (cell_of_block bk 5).trans rfl
      have pt0x6 : w5.cell? ⟨g, 0, none⟩ = some (.slice at_ S.length ct) := (cell_of_block bt 0).trans rfl
      have pt1x6 : w5.cell? ⟨g, 1, none⟩ = some (.slice bt_ F.length dt) := (cell_of_block bt 1).trans rfl
      have pr0x7 : w5.cell? ⟨g + 1, 0, none⟩ = some (.slice none 0 0) := (cell_of_block br 0).trans rfl
      have pr1x7 : w5.cell? ⟨g + 1, 1, none⟩ = some (.slice none 0 0) := (cell_of_block br 1).trans rfl
      have fr0x7 := free_of_block br 0
      have fr1x7 := free_of_block br 1
      obtain ⟨w6, hNw6⟩ : ∃ G, ((w5.setCell ⟨g + 1, 0, none⟩ (.slice at_ S.length ct)).setCell ⟨g + 1, 1, none⟩ (.slice bt_ F.length dt)) = G := ⟨_, rfl⟩
      obtain ⟨s1, s2, s3, s4⟩ := set2T br _ _ hNw6
      replace bt := (s2 (g) (by omega)).trans bt
      replace bh := (s2 (g + 1 + 1) (by omega)).trans bh
      replace bk := (s2 (yk) (by have := hleyk.out; omega)).trans bk
      replace HT : Hid (TabO (g + 1 + 1 + 1) w6 (.slice at_ S.length ct) (.slice bt_ F.length dt) S F) := HT.out.same (fun q h1 _ => s2 q (by omega))
      replace HB : Hid (Below w.heap.size w w6) := s4 _ _ (by have := HBV.out.2; omega) HB.out
      replace LB : Hid (g + 1 + 1 + 1 ≤ w6.heap.size) := by unfold Hid; rw [s3]; exact LB.out
      replace br := s1
      clear s1 s2 s3 s4
      have ph0x8 : w6.cell? ⟨g + 1 + 1, 0, none⟩ = some (.bool false) := (cell_of_block bh 0).trans rfl
      have ph1x8 : w6.cell? ⟨g + 1 + 1, 1, none⟩ = some (.int .i64 0) := (cell_of_block bh 1).trans rfl
      have ph2x8 : w6.cell? ⟨g + 1 + 1, 2, none⟩ = some (.int .i64 0) := (cell_of_block bh 2).trans rfl
      have ph3x8 : w6.cell? ⟨g + 1 + 1, 3, none⟩ = some (.bool false) := (cell_of_block bh 3).trans rfl
      have ph4x8 : w6.cell? ⟨g + 1 + 1, 4, none⟩ = some (.int .i64 0) := (cell_of_block bh 4).trans rfl
      have ph5x8 : w6.cell? ⟨g + 1 + 1, 5, none⟩ = some (.int .i64 0) := (cell_of_block bh 5).trans rfl
      have fh0x8 := free_of_block bh 0
      have fh1x8 := free_of_block bh 1
      have fh2x8 := free_of_block bh 2
      have fh3x8 := free_of_block bh 3
      have fh4x8 := free_of_block bh 4
      have fh5x8 := free_of_block bh 5
      obtain ⟨w7, hNw7⟩ : ∃ G, ((((((w6.setCell ⟨g + 1 + 1, 0, none⟩ (.bool false)).setCell ⟨g + 1 + 1, 1, none⟩ (.int .i64 0)).setCell ⟨g + 1 + 1, 2, none⟩ (.int .i64 0)).setCell ⟨g + 1 + 1, 3, none⟩ (.bool false)).setCell ⟨g + 1 + 1, 4, none⟩ (.int .i64 0)).setCell ⟨g + 1 + 1, 5, none⟩ (.int .i64 0)) = G := ⟨_, rfl⟩
      obtain ⟨s1, s2, s3, s4⟩ := set6T bh _ _ _ _ _ _ hNw7
      replace bt := (s2 (g) (by omega)).trans bt
      replace br := (s2 (g + 1) (by omega)).trans br
      replace bk := (s2 (yk) (by have := hleyk.out; omega)).trans bk
      replace HT : Hid (TabO (g + 1 + 1 + 1) w7 (.slice at_ S.length ct) (.slice bt_ F.length dt) S F) := HT.out.same (fun q h1 _ => s2 q (by omega))
      replace HB : Hid (Below w.heap.size w w7) := s4 _ _ (by have := HBV.out.2; omega) HB.out
      replace LB : Hid (g + 1 + 1 + 1 ≤ w7.heap.size) := by unfold Hid; rw [s3]; exact LB.out
      replace bh := s1
      clear s1 s2 s3 s4
      have zr0 : w7.cell? ⟨g + 1, 0, none⟩ = some (.slice at_ S.length ct) := (cell_of_block br 0).trans rfl
      have zr1 : w7.cell? ⟨g + 1, 1, none⟩ = some (.slice bt_ F.length dt) := (cell_of_block br 1).trans rfl
      have zh0 : w7.cell? ⟨g + 1 + 1, 0, none⟩ = some (.bool false) := (cell_of_block bh 0).trans rfl
      have zh1 : w7.cell? ⟨g + 1 + 1, 1, none⟩ = some (.int .i64 0) := (cell_of_block bh 1).trans rfl
      have zh2 : w7.cell? ⟨g + 1 + 1, 2, none⟩ = some (.int .i64 0) := (cell_of_block bh 2).trans rfl
      have zh3 : w7.cell? ⟨g + 1 + 1, 3, none⟩ = some (.bool false) := (cell_of_block bh 3).trans rfl
      have zh4 : w7.cell? ⟨g + 1 + 1, 4, none⟩ = some (.int .i64 0) := (cell_of_block bh 4).trans rfl
      have zh5 : w7.cell? ⟨g + 1 + 1, 5, none⟩ = some (.int .i64 0) := (cell_of_block bh 5).trans rfl
      go_wp2
      exact bodyPost_ret (v := .tuple #[.agg #[.slice at_ S.length ct, .slice bt_ F.length dt], .agg #[.bool false, .int .i64 0, .int .i64 0, .bool false, .int .i64 0, .int .i64 0], .int .i64 6]) (by simp [results, Try.results45, go_sem, zr0, zr1, zh0, zh1, zh2, zh3, zh4, zh5]) rfl ⟨_, _, rfl, HT.out.base (by have := HBV.out.2; omega), HB.out⟩
    · obtain ⟨u0, r0, p0, o0, l0, s0⟩ := H0
      simp only at ho hl
      cases own
      · clear ho
        obtain ⟨yk, hyk⟩ : ∃ z, w4.heap.size = z := ⟨_, rfl⟩
        obtain ⟨w5, hNw5⟩ : ∃ W, w4.alloc (.cells #[.bool u0, .int .i64 r0, .int .i64 p0, .bool o0, .int .i64 l0, .int .i64 s0] 28) = W := ⟨_, rfl⟩
        have hb : Below w4.heap.size w4 w5 := by rw [← hNw5]; exact bel_alloc (Below.refl _ _) _
        have hleyk : Hid (g + 1 + 1 + 1 ≤ yk) := by unfold Hid; rw [← hyk]; exact LB.out
        replace bt := (hb.block (g) (lt_of_block bt)).trans bt
        replace br := (hb.block (g + 1) (lt_of_block br)).trans br
        replace bh := (hb.block (g + 1 + 1) (lt_of_block bh)).trans bh
        replace HT : Hid (TabO (g + 1 + 1 + 1) w5 (.slice at_ S.length ct) (.slice bt_ F.length dt) S F) := HT.out.below hb
        replace HB : Hid (Below w.heap.size w w5) := bel_step HB.out hb
        replace LB : Hid (g + 1 + 1 + 1 ≤ w5.heap.size) := Nat.le_trans LB.out hb.size
        have bk : w5.heap[yk]? = some (.cells #[.bool u0, .int .i64 r0, .int .i64 p0, .bool o0, .int .i64 l0, .int .i64 s0] 28 (0, 0)) := by rw [← hNw5, ← hyk]; exact heap_alloc_new _ _
        clear hb
        have hl2 : (l0 == 0) = false := by simpa using hl
        clear hl
        have pk0x5 : w5.cell? ⟨yk, 0, none⟩ = some (.bool u0) := (cell_of_block bk 0).trans rfl
        have pk1x5 : w5.cell? ⟨yk, 1, none⟩ = some (.int .i64 r0) := (cell_of_block bk 1).trans rfl
        have pk2x5 : w5.cell? ⟨yk, 2, none⟩ = some (.int .i64 p0) := (cell_of_block bk 2).trans rfl
        have pk3x5 : w5.cell? ⟨yk, 3, none⟩ = some (.bool o0) := (cell_of_block bk 3).trans rfl
        have pk4x5 : w5.cell? ⟨yk, 4, none⟩ = some (.int .i64 l0) := (cell_of_block bk 4).trans rfl
        have pk5x5 : w5.cell? ⟨yk, 5, none⟩ = some (.int .i64 s0) := (cell_of_block bk 5).trans rfl
        have pt0x6 : w5.cell? ⟨g, 0, none⟩ = some (.slice at_ S.length ct) := (cell_of_block bt 0).trans rfl
        have pt1x6 : w5.cell? ⟨g, 1, none⟩ = some (.slice bt_ F.length dt) := (cell_of_block bt 1).trans rfl
        have pr0x7 : w5.cell? ⟨g + 1, 0, none⟩ = some (.slice none 0 0) := (cell_of_block br 0).trans rfl
        have pr1x7 : w5.cell? ⟨g + 1, 1, none⟩ = some (.slice none 0 0) := (cell_of_block br 1).trans rfl
        have fr0x7 := free_of_block br 0
        have fr1x7 := free_of_block br 1
        obtain ⟨w6, hNw6⟩ : ∃ G, ((w5.setCell ⟨g + 1, 0, none⟩ (.slice at_ S.length ct)).setCell ⟨g + 1, 1, none⟩ (.slice bt_ F.length dt)) = G := ⟨_, rfl⟩
        obtain ⟨s1, s2, s3, s4⟩ := set2T br _ _ hNw6
        replace bt := (s2 (g) (by omega)).trans bt
        replace bh := (s2 (g + 1 + 1) (by omega)).trans bh
        replace bk := (s2 (yk) (by have := hleyk.out; omega)).trans bk
        replace HT : Hid (TabO (g + 1 + 1 + 1) w6 (.slice at_ S.length ct) (.slice bt_ F.length dt) S F) := HT.out.same (fun q h1 _ => s2 q (by omega))
        replace HB : Hid (Below w.heap.size w w6) := s4 _ _ (by have := HBV.out.2; omega) HB.out
        replace LB : Hid (g + 1 + 1 + 1 ≤ w6.heap.size) := by unfold Hid; rw [s3]; exact LB.out
        replace br := s1
        clear s1 s2 s3 s4
        have ph0x8 : w6.cell? ⟨g + 1 + 1, 0, none⟩ = some (.bool false) := (cell_of_block bh 0).trans rfl
        have ph1x8 : w6.cell? ⟨g + 1 + 1, 1, none⟩ = some (.int .i64 0) := (cell_of_block bh 1).trans rfl
        have ph2x8 : w6.cell? ⟨g + 1 + 1, 2, none⟩ = some (.int .i64 0) := (cell_of_block bh 2).trans rfl
        have ph3x8 : w6.cell? ⟨g + 1 + 1, 3, none⟩ = some (.bool false) := (cell_of_block bh 3).trans rfl
        have ph4x8 : w6.cell? ⟨g + 1 + 1, 4, none⟩ = some (.int .i64 0) := (cell_of_block bh 4).trans rfl
        have ph5x8 : w6.cell? ⟨g + 1 + 1, 5, none⟩ = some (.int .i64 0) := (cell_of_block bh 5).trans rfl
        have fh0x8 := free_of_block bh 0
        have fh1x8 := free_of_block bh 1
        have fh2x8 := free_of_block bh 2
        have fh3x8 := free_of_block bh 3
        have fh4x8 := free_of_block bh 4
        have fh5x8 := free_of_block bh 5
        obtain ⟨w7, hNw7⟩ : ∃ G, ((((((w6.setCell ⟨g + 1 + 1, 0, none⟩ (.bool false)).setCell ⟨g + 1 + 1, 1, none⟩ (.int .i64 0)).setCell ⟨g + 1 + 1, 2, none⟩ (.int .i64 0)).setCell ⟨g + 1 + 1, 3, none⟩ (.bool false)).setCell ⟨g + 1 + 1, 4, none⟩ (.int .i64 0)).setCell ⟨g + 1 + 1, 5, none⟩ (.int .i64 0)) = G := ⟨_, rfl⟩
        obtain ⟨s1, s2, s3, s4⟩ := set6T bh _ _ _ _ _ _ hNw7
        replace bt := (s2 (g) (by omega)).trans bt
        replace br := (s2 (g + 1) (by omega)).trans br
        replace bk := (s2 (yk) (by have := hleyk.out; omega)).trans bk
        replace HT : Hid (TabO (g + 1 + 1 + 1) w7 (.slice at_ S.length ct) (.slice bt_ F.length dt) S F) := HT.out.same (fun q h1 _ => s2 q (by omega))
        replace HB : Hid (Below w.heap.size w w7) := s4 _ _ (by have := HBV.out.2; omega) HB.out
        replace LB : Hid (g + 1 + 1 + 1 ≤ w7.heap.size) := by unfold Hid; rw [s3]; exact LB.out
        replace bh := s1
        clear s1 s2 s3 s4
        have zr0 : w7.cell? ⟨g + 1, 0, none⟩ = some (.slice at_ S.length ct) := (cell_of_block br 0).trans rfl
        have zr1 : w7.cell? ⟨g + 1, 1, none⟩ = some (.slice bt_ F.length dt) := (cell_of_block br 1).trans rfl
        have zh0 : w7.cell? ⟨g + 1 + 1, 0, none⟩ = some (.bool false) := (cell_of_block bh 0).trans rfl
        have zh1 : w7.cell? ⟨g + 1 + 1, 1, none⟩ = some (.int .i64 0) := (cell_of_block bh 1).trans rfl
        have zh2 : w7.cell? ⟨g + 1 + 1, 2, none⟩ = some (.int .i64 0) := (cell_of_block bh 2).trans rfl
        have zh3 : w7.cell? ⟨g + 1 + 1, 3, none⟩ = some (.bool false) := (cell_of_block bh 3).trans rfl
        have zh4 : w7.cell? ⟨g + 1 + 1, 4, none⟩ = some (.int .i64 0) := (cell_of_block bh 4).trans rfl
        have zh5 : w7.cell? ⟨g + 1 + 1, 5, none⟩ = some (.int .i64 0) := (cell_of_block bh 5).trans rfl
        go_wp2
        exact bodyPost_ret (v := .tuple #[.agg #[.slice at_ S.length ct, .slice bt_ F.length dt], .agg #[.bool false, .int .i64 0, .int .i64 0, .bool false, .int .i64 0, .int .i64 0], .int .i64 4]) (by simp [results, Try.results45, go_sem, zr0, zr1, zh0, zh1, zh2, zh3, zh4, zh5]) rfl ⟨_, _, rfl, HT.out.base (by have := HBV.out.2; omega), HB.out⟩
      · simp only [Bool.true_and, Bool.not_eq_false'] at ho
        subst ho
        obtain ⟨yk, hyk⟩ : ∃ z, w4.heap.size = z := ⟨_, rfl⟩
        obtain ⟨w5, hNw5⟩ : ∃ W, w4.alloc (.cells #[.bool u0, .int .i64 r0, .int .i64 p0, .bool true, .int .i64 l0, .int .i64 s0] 28) = W := ⟨_, rfl⟩
        have hb : Below w4.heap.size w4 w5 := by rw [← hNw5]; exact bel_alloc (Below.refl _ _) _
        have hleyk : Hid (g + 1 + 1 + 1 ≤ yk) := by unfold Hid; rw [← hyk]; exact LB.out
        replace bt := (hb.block (g) (lt_of_block bt)).trans bt
        replace br := (hb.block (g + 1) (lt_of_block br)).trans br
        replace bh := (hb.block (g + 1 + 1) (lt_of_block bh)).trans bh
        replace HT : Hid (TabO (g + 1 + 1 + 1) w5 (.slice at_ S.length ct) (.slice bt_ F.length dt) S F) := HT.out.below hb
        replace HB : Hid (Below w.heap.size w w5) := bel_step HB.out hb
        replace LB : Hid (g + 1 + 1 + 1 ≤ w5.heap.size) := Nat.le_trans LB.out hb.size
        have bk : w5.heap[yk]? = some (.cells #[.bool u0, .int .i64 r0, .int .i64 p0, .bool true, .int .i64 l0, .int .i64 s0] 28 (0, 0)) := by rw [← hNw5, ← hyk]; exact heap_alloc_new _ _
        clear hb
        have hl2 : (l0 == 0) = false := by simpa using hl
        clear hl
        have pk0x5 : w5.cell? ⟨yk, 0, none⟩ = some (.bool u0) := (cell_of_block bk 0).trans rfl
        have pk1x5 : w5.cell? ⟨yk, 1, none⟩ = some (.int .i64 r0) := (cell_of_block bk 1).trans rfl
        have pk2x5 : w5.cell? ⟨yk, 2, none⟩ = some (.int .i64 p0) := (cell_of_block bk 2).trans rfl
        have pk3x5 : w5.cell? ⟨yk, 3, none⟩ = some (.bool true) := (cell_of_block bk 3).trans rfl
        have pk4x5 : w5.cell? ⟨yk, 4, none⟩ = some (.int .i64 l0) := (cell_of_block bk 4).trans rfl
        have pk5x5 : w5.cell? ⟨yk, 5, none⟩ = some (.int .i64 s0) := (cell_of_block bk 5).trans rfl
        have pt0x6 : w5.cell? ⟨g, 0, none⟩ = some (.slice at_ S.length ct) := (cell_of_block bt 0).trans rfl
        have pt1x6 : w5.cell? ⟨g, 1, none⟩ = some (.slice bt_ F.length dt) := (cell_of_block bt 1).trans rfl
        have pr0x7 : w5.cell? ⟨g + 1, 0, none⟩ = some (.slice none 0 0) := (cell_of_block br 0).trans rfl
        have pr1x7 : w5.cell? ⟨g + 1, 1, none⟩ = some (.slice none 0 0) := (cell_of_block br 1).trans rfl
        have fr0x7 := free_of_block br 0
        have fr1x7 := free_of_block br 1
        obtain ⟨w6, hNw6⟩ : ∃ G, ((w5.setCell ⟨g + 1, 0, none⟩ (.slice at_ S.length ct)).setCell ⟨g + 1, 1, none⟩ (.slice bt_ F.length dt)) = G := ⟨_, rfl⟩
        obtain ⟨s1, s2, s3, s4⟩ := set2T br _ _ hNw6
        replace bt := (s2 (g) (by omega)).trans bt
        replace bh := (s2 (g + 1 + 1) (by omega)).trans bh
        replace bk := (s2 (yk) (by have := hleyk.out; omega)).trans bk
        replace HT : Hid (TabO (g + 1 + 1 + 1) w6 (.slice at_ S.length ct) (.slice bt_ F.length dt) S F) := HT.out.same (fun q h1 _ => s2 q (by omega))
        replace HB : Hid (Below w.heap.size w w6) := s4 _ _ (by have := HBV.out.2; omega) HB.out
        replace LB : Hid (g + 1 + 1 + 1 ≤ w6.heap.size) := by unfold Hid; rw [s3]; exact LB.out
        replace br := s1
        clear s1 s2 s3 s4
        have ph0x8 : w6.cell? ⟨g + 1 + 1, 0, none⟩ = some (.bool false) := (cell_of_block bh 0).trans rfl
        have ph1x8 : w6.cell? ⟨g + 1 + 1, 1, none⟩ = some (.int .i64 0) := (cell_of_block bh 1).trans rfl
        have ph2x8 : w6.cell? ⟨g + 1 + 1, 2, none⟩ = some (.int .i64 0) := (cell_of_block bh 2).trans rfl
        have ph3x8 : w6.cell? ⟨g + 1 + 1, 3, none⟩ = some (.bool false) := (cell_of_block bh 3).trans rfl
        have ph4x8 : w6.cell? ⟨g + 1 + 1, 4, none⟩ = some (.int .i64 0) := (cell_of_block bh 4).trans rfl
        have ph5x8 : w6.cell? ⟨g + 1 + 1, 5, none⟩ = some (.int .i64 0) := (cell_of_block bh 5).trans rfl
        have fh0x8 := free_of_block bh 0
        have fh1x8 := free_of_block bh 1
        have fh2x8 := free_of_block bh 2
        have fh3x8 := free_of_block bh 3
        have fh4x8 := free_of_block bh 4
        have fh5x8 := free_of_block bh 5
        obtain ⟨w7, hNw7⟩ : ∃ G, ((((((w6.setCell ⟨g + 1 + 1, 0, none⟩ (.bool false)).setCell ⟨g + 1 + 1, 1, none⟩ (.int .i64 0)).setCell ⟨g + 1 + 1, 2, none⟩ (.int .i64 0)).setCell ⟨g + 1 + 1, 3, none⟩ (.bool false)).setCell ⟨g + 1 + 1, 4, none⟩ (.int .i64 0)).setCell ⟨g + 1 + 1, 5, none⟩ (.int .i64 0)) = G := ⟨_, rfl⟩
        obtain ⟨s1, s2, s3, s4⟩ := set6T bh _ _ _ _ _ _ hNw7
        replace bt := (s2 (g) (by omega)).trans bt
        replace br := (s2 (g + 1) (by omega)).trans br
        replace bk := (s2 (yk) (by have := hleyk.out; omega)).trans bk
        replace HT : Hid (TabO (g + 1 + 1 + 1) w7 (.slice at_ S.length ct) (.slice bt_ F.length dt) S F) := HT.out.same (fun q h1 _ => s2 q (by omega))
        replace HB : Hid (Below w.heap.size w w7) := s4 _ _ (by have := HBV.out.2; omega) HB.out
        replace LB : Hid (g + 1 + 1 + 1 ≤ w7.heap.size) := by unfold Hid; rw [s3]; exact LB.out
        replace bh := s1
        clear s1 s2 s3 s4
        have zr0 : w7.cell? ⟨g + 1, 0, none⟩ = some (.slice at_ S.length ct) := (cell_of_block br 0).trans rfl
        have zr1 : w7.cell? ⟨g + 1, 1, none⟩ = some (.slice bt_ F.length dt) := (cell_of_block br 1).trans rfl
        have zh0 : w7.cell? ⟨g + 1 + 1, 0, none⟩ = some (.bool false) := (cell_of_block bh 0).trans rfl
        have zh1 : w7.cell? ⟨g + 1 + 1, 1, none⟩ = some (.int .i64 0) := (cell_of_block bh 1).trans rfl
        have zh2 : w7.cell? ⟨g + 1 + 1, 2, none⟩ = some (.int .i64 0) := (cell_of_block bh 2).trans rfl
        have zh3 : w7.cell? ⟨g + 1 + 1, 3, none⟩ = some (.bool false) := (cell_of_block bh 3).trans rfl
        have zh4 : w7.cell? ⟨g + 1 + 1, 4, none⟩ = some (.int .i64 0) := (cell_of_block bh 4).trans rfl
        have zh5 : w7.cell? ⟨g + 1 + 1, 5, none⟩ = some (.int .i64 0) := (cell_of_block bh 5).trans rfl
        go_wp2
        exact bodyPost_ret (v := .tuple #[.agg #[.slice at_ S.length ct, .slice bt_ F.length dt], .agg #[.bool false, .int .i64 0, .int .i64 0, .bool false, .int .i64 0, .int .i64 0], .int .i64 4]) (by simp [results, Try.results45, go_sem, zr0, zr1, zh0, zh1, zh2, zh3, zh4, zh5]) rfl ⟨_, _, rfl, HT.out.base (by have := HBV.out.2; omega), HB.out⟩
    · obtain ⟨u0, r0, p0, o0, l0, s0⟩ := H1
      simp only at ho hl hs
      subst hl
      obtain ⟨q, rfl, hq1, hq2⟩ := row_pos HT.out.hds (by omega)
      cases own
      · clear ho
        obtain ⟨yk, hyk⟩ : ∃ z, w4.heap.size = z := ⟨_, rfl⟩
        obtain ⟨w5, hNw5⟩ : ∃ W, w4.alloc (.cells #[.bool u0, .int .i64 r0, .int .i64 p0, .bool o0, .int .i64 0, .int .i64 s0] 28) = W := ⟨_, rfl⟩
        have hb : Below w4.heap.size w4 w5 := by rw [← hNw5]; exact bel_alloc (Below.refl _ _) _
        have hleyk : Hid (g + 1 + 1 + 1 ≤ yk) := by unfold Hid; rw [← hyk]; exact LB.out
        replace bt := (hb.block (g) (lt_of_block bt)).trans bt
        replace br := (hb.block (g + 1) (lt_of_block br)).trans br
        replace bh := (hb.block (g + 1 + 1) (lt_of_block bh)).trans bh
        replace HT : Hid (TabO (g + 1 + 1 + 1) w5 (.slice (some ⟨q, 0, none⟩) S.length ct) (.slice bt_ F.length dt) S F) := HT.out.below hb
        replace HB : Hid (Below w.heap.size w w5) := bel_step HB.out hb
        replace LB : Hid (g + 1 + 1 + 1 ≤ w5.heap.size) := Nat.le_trans LB.out hb.size
        have bk : w5.heap[yk]? = some (.cells #[.bool u0, .int .i64 r0, .int .i64 p0, .bool o0, .int .i64 0, .int .i64 s0] 28 (0, 0)) := by rw [← hNw5, ← hyk]; exact heap_alloc_new _ _
        clear hb
        have HQ : Hid (q < yk) := by unfold Hid; rw [← hyk]; exact hq2
        have pk0x5 : w5.cell? ⟨yk, 0, none⟩ = some (.bool u0) := (cell_of_block bk 0).trans rfl
        have pk1x5 : w5.cell? ⟨yk, 1, none⟩ = some (.int .i64 r0) := (cell_of_block bk 1).trans rfl
        have pk2x5 : w5.cell? ⟨yk, 2, none⟩ = some (.int .i64 p0) := (cell_of_block bk 2).trans rfl
        have pk3x5 : w5.cell? ⟨yk, 3, none⟩ = some (.bool o0) := (cell_of_block bk 3).trans rfl
        have pk4x5 : w5.cell? ⟨yk, 4, none⟩ = some (.int .i64 0) := (cell_of_block bk 4).trans rfl
        have pk5x5 : w5.cell? ⟨yk, 5, none⟩ = some (.int .i64 s0) := (cell_of_block bk 5).trans rfl
        have pt0x6 : w5.cell? ⟨g, 0, none⟩ = some (.slice (some ⟨q, 0, none⟩) S.length ct) := (cell_of_block bt 0).trans rfl
        have pt1x6 : w5.cell? ⟨g, 1, none⟩ = some (.slice bt_ F.length dt) := (cell_of_block bt 1).trans rfl
        obtain ⟨⟨c0, c1, c2, c3, c4, c5⟩, hfz⟩ := row_six HT.out.hds rfl k hk
        have fz0 := hfz 0 (by omega)
        have fz1 := hfz 1 (by omega)
        have fz2 := hfz 2 (by omega)
        have fz3 := hfz 3 (by omega)
        have fz4 := hfz 4 (by omega)
        have fz5 := hfz 5 (by omega)
        rw [Nat.add_zero] at fz0
        clear hfz
        obtain ⟨w6, hNw6⟩ : ∃ G, ((((((w5.setCell ⟨q, k * 6, none⟩ (.bool false)).setCell ⟨q, k * 6 + 1, none⟩ (.int .i64 0)).setCell ⟨q, k * 6 + 2, none⟩ (.int .i64 0)).setCell ⟨q, k * 6 + 3, none⟩ (.bool false)).setCell ⟨q, k * 6 + 4, none⟩ (.int .i64 0)).setCell ⟨q, k * 6 + 5, none⟩ (.int .i64 0)) = G := ⟨_, rfl⟩
        obtain ⟨r1, r2, r3, r4⟩ := row_set6 HT.out.hds rfl k hk zH hNw6
        replace HT : Hid (TabO (g + 1 + 1 + 1) w6 (.slice (some ⟨q, 0, none⟩) S.length ct) (.slice bt_ F.length dt) (S.set k zH) F) := ⟨r1, own_keep HT.out.ints (fun j hj => r2 j (fun e => by obtain ⟨cur, hc, _⟩ := own_at HT.out.ints hj; obtain ⟨cur2, hc2, _⟩ := own_at HT.out.hds (g := q) rfl; rw [e, hc2] at hc; simp at hc))⟩
        replace bt := (r2 (g) (by omega)).trans bt
        replace br := (r2 (g + 1) (by omega)).trans br
        replace bh := (r2 (g + 1 + 1) (by omega)).trans bh
        replace bk := (r2 (yk) (by have := HQ.out; omega)).trans bk
        replace HB : Hid (Below w.heap.size w w6) := r4 _ _ (by have := HBV.out.2; omega) HB.out
        replace LB : Hid (g + 1 + 1 + 1 ≤ w6.heap.size) := by unfold Hid; rw [r3]; exact LB.out
        clear r1 r2 r3 r4
        have pt0x7 : w6.cell? ⟨g, 0, none⟩ = some (.slice (some ⟨q, 0, none⟩) S.length ct) := (cell_of_block bt 0).trans rfl
        have pt1x7 : w6.cell? ⟨g, 1, none⟩ = some (.slice bt_ F.length dt) := (cell_of_block bt 1).trans rfl
        obtain ⟨yn, hyn⟩ : ∃ z, w6.heap.size = z := ⟨_, rfl⟩
        obtain ⟨w7, hNw7⟩ : ∃ W, w6.alloc (.cells #[.int .i64 (k : Int)] 3) = W := ⟨_, rfl⟩
        have hb : Below w6.heap.size w6 w7 := by rw [← hNw7]; exact bel_alloc (Below.refl _ _) _
        have hleyn : Hid (g + 1 + 1 + 1 ≤ yn) := by unfold Hid; rw [← hyn]; exact LB.out
        replace bt := (hb.block (g) (lt_of_block bt)).trans bt
        replace br := (hb.block (g + 1) (lt_of_block br)).trans br
        replace bh := (hb.block (g + 1 + 1) (lt_of_block bh)).trans bh
        replace bk := (hb.block (yk) (lt_of_block bk)).trans bk
        replace HT : Hid (TabO (g + 1 + 1 + 1) w7 (.slice (some ⟨q, 0, none⟩) S.length ct) (.slice bt_ F.length dt) (S.set k zH) F) := HT.out.below hb
        replace HB : Hid (Below w.heap.size w w7) := bel_step HB.out hb
        replace LB : Hid (g + 1 + 1 + 1 ≤ w7.heap.size) := Nat.le_trans LB.out hb.size
        have bn : w7.heap[yn]? = some (.cells #[.int .i64 (k : Int)] 3 (0, 0)) := by rw [← hNw7, ← hyn]; exact heap_alloc_new _ _
        clear hb
        obtain ⟨i0, i0i, i00, i01, i02⟩ := info_parts Try.info3
        have hcn : w7.cell? ⟨yn, 0, none⟩ = some (.int .i64 (k : Int)) := (cell_of_block bn 0).trans rfl
        go_wp2_with (at_builtin; refine wpList_append_own _ rfl _ _ 24 rfl (g + 1 + 1 + 1) 3 i0 (.int .i64 0) 1 8 Try.underlying24 i0i i00 i01 i02 rfl (by decide) _ _ _ rfl HT.out.ints ⟨yn, 0, none⟩ 1 _ [.int .i64 (k : Int)] rfl rfl ?qc2 ?qc3 ?qc4 ?qc5 ?qc6 ?_)
        case qc2 =>
          intro j u hu
          have hj : j = 0 := by rcases j with _ | j; rfl; simp at hu
          subst hj
          simp at hu
          subst hu
          rw [Addr.add_lit]
          exact hcn
        case qc3 => simp [Value.oneCell']
        case qc4 => unfold maxLen; omega
        case qc5 => omega
        case qc6 => exact LB.out
        clear hNw5 hyk pk0x5 pk1x5 pk2x5 pk3x5 pk4x5 pk5x5 pt0x6 pt1x6 hNw6 fz0 fz1 fz2 fz3 fz4 fz5 c0 c1 c2 c3 c4 c5 pt0x7 pt1x7 hNw7 hyn
        intro v' wA hown hgr _
        clear hcn i0i i00 i01 i02
        obtain ⟨bA, dA, rfl, _⟩ := ownT_shape hown
        have hbA : Below (g + 1 + 1 + 1) w7 wA := (Below.refl _ _).grown hgr LB.out (fun j hj => (HT.out.ints.lt j hj).1)
        have hneI : ∀ (j : Nat) (arr : Array Value) (T : TypeId), w7.heap[j]? = some (.cells arr T (0, 0)) → T ≠ 3 → wA.heap[j]? = some (.cells arr T (0, 0)) := fun j arr T hj hT => (hgr.block j (lt_of_block hj) (fun e => by obtain ⟨cur, hc, _⟩ := own_at HT.out.ints e.symm; rw [hj] at hc; simp at hc; exact hT hc.2)).trans hj
        replace HT : Hid (TabO (g + 1 + 1 + 1) wA (.slice (some ⟨q, 0, none⟩) S.length ct) (.slice bA (F.length + 1) dA) (S.set k zH) (F ++ [(k : Int)])) := ⟨other_row HT.out.ints hgr HT.out.hds (by decide), by rw [List.length_append, ← iv_app]; exact hown⟩
        clear bn
        replace bt := hneI _ _ _ bt (by decide)
        replace br := hneI _ _ _ br (by decide)
        replace bh := hneI _ _ _ bh (by decide)
        replace bk := hneI _ _ _ bk (by decide)
        replace HB : Hid (Below w.heap.size w wA) := HB.out.trans (hbA.mono (by have := HBV.out.2; omega))
        replace LB : Hid (g + 1 + 1 + 1 ≤ wA.heap.size) := Nat.le_trans LB.out hbA.size
        clear hbA hneI hgr hown
        have pt0x8 : wA.cell? ⟨g, 0, none⟩ = some (.slice (some ⟨q, 0, none⟩) S.length ct) := (cell_of_block bt 0).trans rfl
        have pt1x8 : wA.cell? ⟨g, 1, none⟩ = some (.slice bt_ F.length dt) := (cell_of_block bt 1).trans rfl
        have ft0x8 := free_of_block bt 0
        have ft1x8 := free_of_block bt 1
        obtain ⟨w8, hNw8⟩ : ∃ G, wA.setCell ⟨g, 1, none⟩ (.slice bA (F.length + 1) dA) = G := ⟨_, rfl⟩
        have s2 : ∀ j, j ≠ g → w8.heap[j]? = wA.heap[j]? := fun j hj => by rw [← hNw8]; exact heap_setCell_other _ ⟨g, 1, none⟩ j _ hj
        replace bt : w8.heap[g]? = some (.cells #[.slice (some ⟨q, 0, none⟩) S.length ct, .slice bA (F.length + 1) dA] 26 (0, 0)) := by rw [← hNw8]; exact heap_setCell_same _ _ _ _ _ _ bt
        replace br := (s2 (g + 1) (by omega)).trans br
        replace bh := (s2 (g + 1 + 1) (by omega)).trans bh
        replace bk := (s2 (yk) (by have := hleyk.out; omega)).trans bk
        replace HT : Hid (TabO (g + 1 + 1 + 1) w8 (.slice (some ⟨q, 0, none⟩) S.length ct) (.slice bA (F.length + 1) dA) (S.set k zH) (F ++ [(k : Int)])) := HT.out.same (fun q h1 _ => s2 q (by omega))
        replace HB : Hid (Below w.heap.size w w8) := by unfold Hid; rw [← hNw8]; exact HB.out.setCell (by have := HBV.out.2; show w.heap.size ≤ g; omega) _
        replace LB : Hid (g + 1 + 1 + 1 ≤ w8.heap.size) := by unfold Hid; rw [← hNw8]; simpa using LB.out
        clear s2
        go_wp2
        clear pt0x8 pt1x8 ft0x8 ft1x8 hNw8
        refine wh_begin (fun w' : World => w'.heap[g]? = some (.cells #[.slice (some ⟨q, 0, none⟩) S.length ct, .slice bA (F.length + 1) dA] 26 (0, 0)) ∧ w'.heap[yk]? = some (.cells #[.bool u0, .int .i64 r0, .int .i64 p0, .bool o0, .int .i64 0, .int .i64 s0] 28 (0, 0))) (by kernel_rfl) ?_
        obtain ⟨w9, hD⟩ : ∃ W, w8.drew = W := ⟨_, rfl⟩
        have hb : Below w8.heap.size w8 w9 := by rw [← hD]; exact (Below.refl _ _).drew
        rw [hD]
        replace bt := (hb.block (g) (lt_of_block bt)).trans bt
        replace br := (hb.block (g + 1) (lt_of_block br)).trans br
        replace bh := (hb.block (g + 1 + 1) (lt_of_block bh)).trans bh
        replace bk := (hb.block (yk) (lt_of_block bk)).trans bk
        replace HT : Hid (TabO (g + 1 + 1 + 1) w9 (.slice (some ⟨q, 0, none⟩) S.length ct) (.slice bA (F.length + 1) dA) (S.set k zH) (F ++ [(k : Int)])) := HT.out.below hb
        replace HB : Hid (Below w.heap.size w w9) := bel_step HB.out hb
        replace LB : Hid (g + 1 + 1 + 1 ≤ w9.heap.size) := Nat.le_trans LB.out hb.size
        clear hb hD
        refine wh_take 0 (some 59) (.agg #[.slice (some ⟨q, 0, none⟩) S.length ct, .slice bA (F.length + 1) dA]) rfl rfl (by kernel_rfl) (by kernel_rfl) (by kernel_rfl) (fun _ _ _ h => h) ⟨bt, bk⟩ (by rfl) (fun w' hS => by have hq : w'.heap[g]? = some (.cells #[.slice (some ⟨q, 0, none⟩) S.length ct, .slice bA (F.length + 1) dA] 26 (0, 0)) := hS.1; have q0 : w'.cell? ⟨g, 0, none⟩ = some (.slice (some ⟨q, 0, none⟩) S.length ct) := (cell_of_block hq 0).trans rfl; have q1 : w'.cell? ⟨g, 1, none⟩ = some (.slice bA (F.length + 1) dA) := (cell_of_block hq 1).trans rfl; clear hq hS; go_simp) ?_
        simp only [Act.put, List.setIfInBounds_toArray, List.set_cons_zero, List.set_cons_succ]
        refine wh_take 1 (some 60) (.agg #[.bool u0, .int .i64 r0, .int .i64 p0, .bool o0, .int .i64 0, .int .i64 s0]) rfl rfl (by kernel_rfl) (by kernel_rfl) (by kernel_rfl) (fun _ _ _ h => h) ⟨bt, bk⟩ (by rfl) (fun w' hS => by have hq : w'.heap[yk]? = some (.cells #[.bool u0, .int .i64 r0, .int .i64 p0, .bool o0, .int .i64 0, .int .i64 s0] 28 (0, 0)) := hS.2; have q0 : w'.cell? ⟨yk, 0, none⟩ = some (.bool u0) := (cell_of_block hq 0).trans rfl; have q1 : w'.cell? ⟨yk, 1, none⟩ = some (.int .i64 r0) := (cell_of_block hq 1).trans rfl; have q2 : w'.cell? ⟨yk, 2, none⟩ = some (.int .i64 p0) := (cell_of_block hq 2).trans rfl; have q3 : w'.cell? ⟨yk, 3, none⟩ = some (.bool o0) := (cell_of_block hq 3).trans rfl; have q4 : w'.cell? ⟨yk, 4, none⟩ = some (.int .i64 0) := (cell_of_block hq 4).trans rfl; have q5 : w'.cell? ⟨yk, 5, none⟩ = some (.int .i64 s0) := (cell_of_block hq 5).trans rfl; clear hq hS; go_simp) ?_
        simp only [Act.put, List.setIfInBounds_toArray, List.set_cons_zero, List.set_cons_succ]
        have pr0x9 : w9.cell? ⟨g + 1, 0, none⟩ = some (.slice none 0 0) := (cell_of_block br 0).trans rfl
        have pr1x9 : w9.cell? ⟨g + 1, 1, none⟩ = some (.slice none 0 0) := (cell_of_block br 1).trans rfl
        have fr0x9 := free_of_block br 0
        have fr1x9 := free_of_block br 1
        obtain ⟨w10, hNw10⟩ : ∃ G, ((w9.setCell ⟨g + 1, 0, none⟩ (.slice (some ⟨q, 0, none⟩) S.length ct)).setCell ⟨g + 1, 1, none⟩ (.slice bA (F.length + 1) dA)) = G := ⟨_, rfl⟩
        obtain ⟨s1, s2, s3, s4⟩ := set2T br _ _ hNw10
        replace bt := (s2 (g) (by omega)).trans bt
        replace bh := (s2 (g + 1 + 1) (by omega)).trans bh
        replace bk := (s2 (yk) (by have := hleyk.out; omega)).trans bk
        replace HT : Hid (TabO (g + 1 + 1 + 1) w10 (.slice (some ⟨q, 0, none⟩) S.length ct) (.slice bA (F.length + 1) dA) (S.set k zH) (F ++ [(k : Int)])) := HT.out.same (fun q h1 _ => s2 q (by omega))
        replace HB : Hid (Below w.heap.size w w10) := s4 _ _ (by have := HBV.out.2; omega) HB.out
        replace LB : Hid (g + 1 + 1 + 1 ≤ w10.heap.size) := by unfold Hid; rw [s3]; exact LB.out
        replace br := s1
        clear s1 s2 s3 s4
        refine wh_skip 2 none w10 (by kernel_rfl) rfl rfl (by rfl) (by rw [← hNw10]; go_simp) ⟨bt, bk⟩ ?_
        simp only [Act.put]
        clear pr0x9 pr1x9 fr0x9 fr1x9 hNw10
        have ph0x10 : w10.cell? ⟨g + 1 + 1, 0, none⟩ = some (.bool false) := (cell_of_block bh 0).trans rfl
        have ph1x10 : w10.cell? ⟨g + 1 + 1, 1, none⟩ = some (.int .i64 0) := (cell_of_block bh 1).trans rfl
        have ph2x10 : w10.cell? ⟨g + 1 + 1, 2, none⟩ = some (.int .i64 0) := (cell_of_block bh 2).trans rfl
        have ph3x10 : w10.cell? ⟨g + 1 + 1, 3, none⟩ = some (.bool false) := (cell_of_block bh 3).trans rfl
        have ph4x10 : w10.cell? ⟨g + 1 + 1, 4, none⟩ = some (.int .i64 0) := (cell_of_block bh 4).trans rfl
        have ph5x10 : w10.cell? ⟨g + 1 + 1, 5, none⟩ = some (.int .i64 0) := (cell_of_block bh 5).trans rfl
        have fh0x10 := free_of_block bh 0
        have fh1x10 := free_of_block bh 1
        have fh2x10 := free_of_block bh 2
        have fh3x10 := free_of_block bh 3
        have fh4x10 := free_of_block bh 4
        have fh5x10 := free_of_block bh 5
        obtain ⟨w11, hNw11⟩ : ∃ G, ((((((w10.setCell ⟨g + 1 + 1, 0, none⟩ (.bool u0)).setCell ⟨g + 1 + 1, 1, none⟩ (.int .i64 r0)).setCell ⟨g + 1 + 1, 2, none⟩ (.int .i64 p0)).setCell ⟨g + 1 + 1, 3, none⟩ (.bool o0)).setCell ⟨g + 1 + 1, 4, none⟩ (.int .i64 0)).setCell ⟨g + 1 + 1, 5, none⟩ (.int .i64 s0)) = G := ⟨_, rfl⟩
        obtain ⟨s1, s2, s3, s4⟩ := set6T bh _ _ _ _ _ _ hNw11
        replace bt := (s2 (g) (by omega)).trans bt
        replace br := (s2 (g + 1) (by omega)).trans br
        replace bk := (s2 (yk) (by have := hleyk.out; omega)).trans bk
        replace HT : Hid (TabO (g + 1 + 1 + 1) w11 (.slice (some ⟨q, 0, none⟩) S.length ct) (.slice bA (F.length + 1) dA) (S.set k zH) (F ++ [(k : Int)])) := HT.out.same (fun q h1 _ => s2 q (by omega))
        replace HB : Hid (Below w.heap.size w w11) := s4 _ _ (by have := HBV.out.2; omega) HB.out
        replace LB : Hid (g + 1 + 1 + 1 ≤ w11.heap.size) := by unfold Hid; rw [s3]; exact LB.out
        replace bh := s1
        clear s1 s2 s3 s4
        refine wh_skip 3 none w11 (by kernel_rfl) rfl rfl (by rfl) (by rw [← hNw11]; go_simp) ⟨bt, bk⟩ ?_
        simp only [Act.put]
        clear ph0x10 ph1x10 ph2x10 ph3x10 ph4x10 ph5x10 fh0x10 fh1x10 fh2x10 fh3x10 fh4x10 fh5x10 hNw11
        refine wh_val 4 (some 10) (.int .i64 0) w11 (by kernel_rfl) rfl rfl (by rfl) (by rfl) ⟨bt, bk⟩ ?_
        simp only [Act.put, List.setIfInBounds_toArray, List.set_cons_zero, List.set_cons_succ]
        refine wh_done (by kernel_rfl) ?_
        have zr0 : w11.cell? ⟨g + 1, 0, none⟩ = some (.slice (some ⟨q, 0, none⟩) S.length ct) := (cell_of_block br 0).trans rfl
        have zr1 : w11.cell? ⟨g + 1, 1, none⟩ = some (.slice bA (F.length + 1) dA) := (cell_of_block br 1).trans rfl
        have zh0 : w11.cell? ⟨g + 1 + 1, 0, none⟩ = some (.bool u0) := (cell_of_block bh 0).trans rfl
        have zh1 : w11.cell? ⟨g + 1 + 1, 1, none⟩ = some (.int .i64 r0) := (cell_of_block bh 1).trans rfl
        have zh2 : w11.cell? ⟨g + 1 + 1, 2, none⟩ = some (.int .i64 p0) := (cell_of_block bh 2).trans rfl
        have zh3 : w11.cell? ⟨g + 1 + 1, 3, none⟩ = some (.bool o0) := (cell_of_block bh 3).trans rfl
        have zh4 : w11.cell? ⟨g + 1 + 1, 4, none⟩ = some (.int .i64 0) := (cell_of_block bh 4).trans rfl
        have zh5 : w11.cell? ⟨g + 1 + 1, 5, none⟩ = some (.int .i64 s0) := (cell_of_block bh 5).trans rfl
        go_wp2
        exact bodyPost_ret (v := .tuple #[.agg #[.slice (some ⟨q, 0, none⟩) S.length ct, .slice bA (F.length + 1) dA], .agg #[.bool u0, .int .i64 r0, .int .i64 p0, .bool o0, .int .i64 0, .int .i64 s0], .int .i64 0]) (by simp [results, Try.results45, go_sem, zr0, zr1, zh0, zh1, zh2, zh3, zh4, zh5]) rfl ⟨_, _, rfl, HT.out.base (by have := HBV.out.2; omega), HB.out⟩
      · simp only [Bool.true_and, Bool.not_eq_false'] at ho
        subst ho
        obtain ⟨yk, hyk⟩ : ∃ z, w4.heap.size = z := ⟨_, rfl⟩
        obtain ⟨w5, hNw5⟩ : ∃ W, w4.alloc (.cells #[.bool u0, .int .i64 r0, .int .i64 p0, .bool true, .int .i64 0, .int .i64 s0] 28) = W := ⟨_, rfl⟩
        have hb : Below w4.heap.size w4 w5 := by rw [← hNw5]; exact bel_alloc (Below.refl _ _) _
        have hleyk : Hid (g + 1 + 1 + 1 ≤ yk) := by unfold Hid; rw [← hyk]; exact LB.out
        replace bt := (hb.block (g) (lt_of_block bt)).trans bt
        replace br := (hb.block (g + 1) (lt_of_block br)).trans br
        replace bh := (hb.block (g + 1 + 1) (lt_of_block bh)).trans bh
        replace HT : Hid (TabO (g + 1 + 1 + 1) w5 (.slice (some ⟨q, 0, none⟩) S.length ct) (.slice bt_ F.length dt) S F) := HT.out.below hb
        replace HB : Hid (Below w.heap.size w w5) := bel_step HB.out hb
        replace LB : Hid (g + 1 + 1 + 1 ≤ w5.heap.size) := Nat.le_trans LB.out hb.size
        have bk : w5.heap[yk]? = some (.cells #[.bool u0, .int .i64 r0, .int .i64 p0, .bool true, .int .i64 0, .int .i64 s0] 28 (0, 0)) := by rw [← hNw5, ← hyk]; exact heap_alloc_new _ _
        clear hb
        have HQ : Hid (q < yk) := by unfold Hid; rw [← hyk]; exact hq2
        have pk0x5 : w5.cell? ⟨yk, 0, none⟩ = some (.bool u0) := (cell_of_block bk 0).trans rfl
        have pk1x5 : w5.cell? ⟨yk, 1, none⟩ = some (.int .i64 r0) := (cell_of_block bk 1).trans rfl
        have pk2x5 : w5.cell? ⟨yk, 2, none⟩ = some (.int .i64 p0) := (cell_of_block bk 2).trans rfl
        have pk3x5 : w5.cell? ⟨yk, 3, none⟩ = some (.bool true) := (cell_of_block bk 3).trans rfl
        have pk4x5 : w5.cell? ⟨yk, 4, none⟩ = some (.int .i64 0) := (cell_of_block bk 4).trans rfl
        have pk5x5 : w5.cell? ⟨yk, 5, none⟩ = some (.int .i64 s0) := (cell_of_block bk 5).trans rfl
        have pt0x6 : w5.cell? ⟨g, 0, none⟩ = some (.slice (some ⟨q, 0, none⟩) S.length ct) := (cell_of_block bt 0).trans rfl
        have pt1x6 : w5.cell? ⟨g, 1, none⟩ = some (.slice bt_ F.length dt) := (cell_of_block bt 1).trans rfl
        obtain ⟨⟨c0, c1, c2, c3, c4, c5⟩, hfz⟩ := row_six HT.out.hds rfl k hk
        have fz0 := hfz 0 (by omega)
        have fz1 := hfz 1 (by omega)
        have fz2 := hfz 2 (by omega)
        have fz3 := hfz 3 (by omega)
        have fz4 := hfz 4 (by omega)
        have fz5 := hfz 5 (by omega)
        rw [Nat.add_zero] at fz0
        clear hfz
        obtain ⟨w6, hNw6⟩ : ∃ G, ((((((w5.setCell ⟨q, k * 6, none⟩ (.bool false)).setCell ⟨q, k * 6 + 1, none⟩ (.int .i64 0)).setCell ⟨q, k * 6 + 2, none⟩ (.int .i64 0)).setCell ⟨q, k * 6 + 3, none⟩ (.bool false)).setCell ⟨q, k * 6 + 4, none⟩ (.int .i64 0)).setCell ⟨q, k * 6 + 5, none⟩ (.int .i64 0)) = G := ⟨_, rfl⟩
        obtain ⟨r1, r2, r3, r4⟩ := row_set6 HT.out.hds rfl k hk zH hNw6
        replace HT : Hid (TabO (g + 1 + 1 + 1) w6 (.slice (some ⟨q, 0, none⟩) S.length ct) (.slice bt_ F.length dt) (S.set k zH) F) := ⟨r1, own_keep HT.out.ints (fun j hj => r2 j (fun e => by obtain ⟨cur, hc, _⟩ := own_at HT.out.ints hj; obtain ⟨cur2, hc2, _⟩ := own_at HT.out.hds (g := q) rfl; rw [e, hc2] at hc; simp at hc))⟩
        replace bt := (r2 (g) (by omega)).trans bt
        replace br := (r2 (g + 1) (by omega)).trans br
        replace bh := (r2 (g + 1 + 1) (by omega)).trans bh
        replace bk := (r2 (yk) (by have := HQ.out; omega)).trans bk
        replace HB : Hid (Below w.heap.size w w6) := r4 _ _ (by have := HBV.out.2; omega) HB.out
        replace LB : Hid (g + 1 + 1 + 1 ≤ w6.heap.size) := by unfold Hid; rw [r3]; exact LB.out
        clear r1 r2 r3 r4
        have pt0x7 : w6.cell? ⟨g, 0, none⟩ = some (.slice (some ⟨q, 0, none⟩) S.length ct) := (cell_of_block bt 0).trans rfl
        have pt1x7 : w6.cell? ⟨g, 1, none⟩ = some (.slice bt_ F.length dt) := (cell_of_block bt 1).trans rfl
        obtain ⟨yn, hyn⟩ : ∃ z, w6.heap.size = z := ⟨_, rfl⟩
        obtain ⟨w7, hNw7⟩ : ∃ W, w6.alloc (.cells #[.int .i64 (k : Int)] 3) = W := ⟨_, rfl⟩
        have hb : Below w6.heap.size w6 w7 := by rw [← hNw7]; exact bel_alloc (Below.refl _ _) _
        have hleyn : Hid (g + 1 + 1 + 1 ≤ yn) := by unfold Hid; rw [← hyn]; exact LB.out
        replace bt := (hb.block (g) (lt_of_block bt)).trans bt
        replace br := (hb.block (g + 1) (lt_of_block br)).trans br
        replace bh := (hb.block (g + 1 + 1) (lt_of_block bh)).trans bh
        replace bk := (hb.block (yk) (lt_of_block bk)).trans bk
        replace HT : Hid (TabO (g + 1 + 1 + 1) w7 (.slice (some ⟨q, 0, none⟩) S.length ct) (.slice bt_ F.length dt) (S.set k zH) F) := HT.out.below hb
        replace HB : Hid (Below w.heap.size w w7) := bel_step HB.out hb
        replace LB : Hid (g + 1 + 1 + 1 ≤ w7.heap.size) := Nat.le_trans LB.out hb.size
        have bn : w7.heap[yn]? = some (.cells #[.int .i64 (k : Int)] 3 (0, 0)) := by rw [← hNw7, ← hyn]; exact heap_alloc_new _ _
        clear hb
        obtain ⟨i0, i0i, i00, i01, i02⟩ := info_parts Try.info3
        have hcn : w7.cell? ⟨yn, 0, none⟩ = some (.int .i64 (k : Int)) := (cell_of_block bn 0).trans rfl
        go_wp2_with (at_builtin; refine wpList_append_own _ rfl _ _ 24 rfl (g + 1 + 1 + 1) 3 i0 (.int .i64 0) 1 8 Try.underlying24 i0i i00 i01 i02 rfl (by decide) _ _ _ rfl HT.out.ints ⟨yn, 0, none⟩ 1 _ [.int .i64 (k : Int)] rfl rfl ?qc2 ?qc3 ?qc4 ?qc5 ?qc6 ?_)
        case qc2 =>
          intro j u hu
          have hj : j = 0 := by rcases j with _ | j; rfl; simp at hu
          subst hj
          simp at hu
          subst hu
          rw [Addr.add_lit]
          exact hcn
        case qc3 => simp [Value.oneCell']
        case qc4 => unfold maxLen; omega
        case qc5 => omega
        case qc6 => exact LB.out
        clear hNw5 hyk pk0x5 pk1x5 pk2x5 pk3x5 pk4x5 pk5x5 pt0x6 pt1x6 hNw6 fz0 fz1 fz2 fz3 fz4 fz5 c0 c1 c2 c3 c4 c5 pt0x7 pt1x7 hNw7 hyn
        intro v' wA hown hgr _
        clear hcn i0i i00 i01 i02
        obtain ⟨bA, dA, rfl, _⟩ := ownT_shape hown
        have hbA : Below (g + 1 + 1 + 1) w7 wA := (Below.refl _ _).grown hgr LB.out (fun j hj => (HT.out.ints.lt j hj).1)
        have hneI : ∀ (j : Nat) (arr : Array Value) (T : TypeId), w7.heap[j]? = some (.cells arr T (0, 0)) → T ≠ 3 → wA.heap[j]? = some (.cells arr T (0, 0)) := fun j arr T hj hT => (hgr.block j (lt_of_block hj) (fun e => by obtain ⟨cur, hc, _⟩ := own_at HT.out.ints e.symm; rw [hj] at hc; simp at hc; exact hT hc.2)).trans hj
        replace HT : Hid (TabO (g + 1 + 1 + 1) wA (.slice (some ⟨q, 0, none⟩) S.length ct) (.slice bA (F.length + 1) dA) (S.set k zH) (F ++ [(k : Int)])) := ⟨other_row HT.out.ints hgr HT.out.hds (by decide), by rw [List.length_append, ← iv_app]; exact hown⟩
        clear bn
        replace bt := hneI _ _ _ bt (by decide)
        replace br := hneI _ _ _ br (by decide)
        replace bh := hneI _ _ _ bh (by decide)
        replace bk := hneI _ _ _ bk (by decide)
        replace HB : Hid (Below w.heap.size w wA) := HB.out.trans (hbA.mono (by have := HBV.out.2; omega))
        replace LB : Hid (g + 1 + 1 + 1 ≤ wA.heap.size) := Nat.le_trans LB.out hbA.size
        clear hbA hneI hgr hown
        have pt0x8 : wA.cell? ⟨g, 0, none⟩ = some (.slice (some ⟨q, 0, none⟩) S.length ct) := (cell_of_block bt 0).trans rfl
        have pt1x8 : wA.cell? ⟨g, 1, none⟩ = some (.slice bt_ F.length dt) := (cell_of_block bt 1).trans rfl
        have ft0x8 := free_of_block bt 0
        have ft1x8 := free_of_block bt 1
        obtain ⟨w8, hNw8⟩ : ∃ G, wA.setCell ⟨g, 1, none⟩ (.slice bA (F.length + 1) dA) = G := ⟨_, rfl⟩
        have s2 : ∀ j, j ≠ g → w8.heap[j]? = wA.heap[j]? := fun j hj => by rw [← hNw8]; exact heap_setCell_other _ ⟨g, 1, none⟩ j _ hj
        replace bt : w8.heap[g]? = some (.cells #[.slice (some ⟨q, 0, none⟩) S.length ct, .slice bA (F.length + 1) dA] 26 (0, 0)) := by rw [← hNw8]; exact heap_setCell_same _ _ _ _ _ _ bt
        replace br := (s2 (g + 1) (by omega)).trans br
        replace bh := (s2 (g + 1 + 1) (by omega)).trans bh
        replace bk := (s2 (yk) (by have := hleyk.out; omega)).trans bk
        replace HT : Hid (TabO (g + 1 + 1 + 1) w8 (.slice (some ⟨q, 0, none⟩) S.length ct) (.slice bA (F.length + 1) dA) (S.set k zH) (F ++ [(k : Int)])) := HT.out.same (fun q h1 _ => s2 q (by omega))
        replace HB : Hid (Below w.heap.size w w8) := by unfold Hid; rw [← hNw8]; exact HB.out.setCell (by have := HBV.out.2; show w.heap.size ≤ g; omega) _
        replace LB : Hid (g + 1 + 1 + 1 ≤ w8.heap.size) := by unfold Hid; rw [← hNw8]; simpa using LB.out
        clear s2
        go_wp2
        clear pt0x8 pt1x8 ft0x8 ft1x8 hNw8
        refine wh_begin (fun w' : World => w'.heap[g]? = some (.cells #[.slice (some ⟨q, 0, none⟩) S.length ct, .slice bA (F.length + 1) dA] 26 (0, 0)) ∧ w'.heap[yk]? = some (.cells #[.bool u0, .int .i64 r0, .int .i64 p0, .bool true, .int .i64 0, .int .i64 s0] 28 (0, 0))) (by kernel_rfl) ?_
        obtain ⟨w9, hD⟩ : ∃ W, w8.drew = W := ⟨_, rfl⟩
        have hb : Below w8.heap.size w8 w9 := by rw [← hD]; exact (Below.refl _ _).drew
        rw [hD]
        replace bt := (hb.block (g) (lt_of_block bt)).trans bt
        replace br := (hb.block (g + 1) (lt_of_block br)).trans br
        replace bh := (hb.block (g + 1 + 1) (lt_of_block bh)).trans bh
        replace bk := (hb.block (yk) (lt_of_block bk)).trans bk
        replace HT : Hid (TabO (g + 1 + 1 + 1) w9 (.slice (some ⟨q, 0, none⟩) S.length ct) (.slice bA (F.length + 1) dA) (S.set k zH) (F ++ [(k : Int)])) := HT.out.below hb
        replace HB : Hid (Below w.heap.size w w9) := bel_step HB.out hb
        replace LB : Hid (g + 1 + 1 + 1 ≤ w9.heap.size) := Nat.le_trans LB.out hb.size
        clear hb hD
        refine wh_take 0 (some 59) (.agg #[.slice (some ⟨q, 0, none⟩) S.length ct, .slice bA (F.length + 1) dA]) rfl rfl (by kernel_rfl) (by kernel_rfl) (by kernel_rfl) (fun _ _ _ h => h) ⟨bt, bk⟩ (by rfl) (fun w' hS => by have hq : w'.heap[g]? = some (.cells #[.slice (some ⟨q, 0, none⟩) S.length ct, .slice bA (F.length + 1) dA] 26 (0, 0)) := hS.1; have q0 : w'.cell? ⟨g, 0, none⟩ = some (.slice (some ⟨q, 0, none⟩) S.length ct) := (cell_of_block hq 0).trans rfl; have q1 : w'.cell? ⟨g, 1, none⟩ = some (.slice bA (F.length + 1) dA) := (cell_of_block hq 1).trans rfl; clear hq hS; go_simp) ?_
        simp only [Act.put, List.setIfInBounds_toArray, List.set_cons_zero, List.set_cons_succ]
        refine wh_take 1 (some 60) (.agg #[.bool u0, .int .i64 r0, .int .i64 p0, .bool true, .int .i64 0, .int .i64 s0]) rfl rfl (by kernel_rfl) (by kernel_rfl) (by kernel_rfl) (fun _ _ _ h => h) ⟨bt, bk⟩ (by rfl) (fun w' hS => by have hq : w'.heap[yk]? = some (.cells #[.bool u0, .int .i64 r0, .int .i64 p0, .bool true, .int .i64 0, .int .i64 s0] 28 (0, 0)) := hS.2; have q0 : w'.cell? ⟨yk, 0, none⟩ = some (.bool u0) := (cell_of_block hq 0).trans rfl; have q1 : w'.cell? ⟨yk, 1, none⟩ = some (.int .i64 r0) := (cell_of_block hq 1).trans rfl; have q2 : w'.cell? ⟨yk, 2, none⟩ = some (.int .i64 p0) := (cell_of_block hq 2).trans rfl; have q3 : w'.cell? ⟨yk, 3, none⟩ = some (.bool true) := (cell_of_block hq 3).trans rfl; have q4 : w'.cell? ⟨yk, 4, none⟩ = some (.int .i64 0) := (cell_of_block hq 4).trans rfl; have q5 : w'.cell? ⟨yk, 5, none⟩ = some (.int .i64 s0) := (cell_of_block hq 5).trans rfl; clear hq hS; go_simp) ?_
        simp only [Act.put, List.setIfInBounds_toArray, List.set_cons_zero, List.set_cons_succ]
        have pr0x9 : w9.cell? ⟨g + 1, 0, none⟩ = some (.slice none 0 0) := (cell_of_block br 0).trans rfl
        have pr1x9 : w9.cell? ⟨g + 1, 1, none⟩ = some (.slice none 0 0) := (cell_of_block br 1).trans rfl
        have fr0x9 := free_of_block br 0
        have fr1x9 := free_of_block br 1
        obtain ⟨w10, hNw10⟩ : ∃ G, ((w9.setCell ⟨g + 1, 0, none⟩ (.slice (some ⟨q, 0, none⟩) S.length ct)).setCell ⟨g + 1, 1, none⟩ (.slice bA (F.length + 1) dA)) = G := ⟨_, rfl⟩
        obtain ⟨s1, s2, s3, s4⟩ := set2T br _ _ hNw10
        replace bt := (s2 (g) (by omega)).trans bt
        replace bh := (s2 (g + 1 + 1) (by omega)).trans bh
        replace bk := (s2 (yk) (by have := hleyk.out; omega)).trans bk
        replace HT : Hid (TabO (g + 1 + 1 + 1) w10 (.slice (some ⟨q, 0, none⟩) S.length ct) (.slice bA (F.length + 1) dA) (S.set k zH) (F ++ [(k : Int)])) := HT.out.same (fun q h1 _ => s2 q (by omega))
        replace HB : Hid (Below w.heap.size w w10) := s4 _ _ (by have := HBV.out.2; omega) HB.out
        replace LB : Hid (g + 1 + 1 + 1 ≤ w10.heap.size) := by unfold Hid; rw [s3]; exact LB.out
        replace br := s1
        clear s1 s2 s3 s4
        refine wh_skip 2 none w10 (by kernel_rfl) rfl rfl (by rfl) (by rw [← hNw10]; go_simp) ⟨bt, bk⟩ ?_
        simp only [Act.put]
        clear pr0x9 pr1x9 fr0x9 fr1x9 hNw10
        have ph0x10 : w10.cell? ⟨g + 1 + 1, 0, none⟩ = some (.bool false) := (cell_of_block bh 0).trans rfl
        have ph1x10 : w10.cell? ⟨g + 1 + 1, 1, none⟩ = some (.int .i64 0) := (cell_of_block bh 1).trans rfl
        have ph2x10 : w10.cell? ⟨g + 1 + 1, 2, none⟩ = some (.int .i64 0) := (cell_of_block bh 2).trans rfl
        have ph3x10 : w10.cell? ⟨g + 1 + 1, 3, none⟩ = some (.bool false) := (cell_of_block bh 3).trans rfl
        have ph4x10 : w10.cell? ⟨g + 1 + 1, 4, none⟩ = some (.int .i64 0) := (cell_of_block bh 4).trans rfl
        have ph5x10 : w10.cell? ⟨g + 1 + 1, 5, none⟩ = some (.int .i64 0) := (cell_of_block bh 5).trans rfl
        have fh0x10 := free_of_block bh 0
        have fh1x10 := free_of_block bh 1
        have fh2x10 := free_of_block bh 2
        have fh3x10 := free_of_block bh 3
        have fh4x10 := free_of_block bh 4
        have fh5x10 := free_of_block bh 5
        obtain ⟨w11, hNw11⟩ : ∃ G, ((((((w10.setCell ⟨g + 1 + 1, 0, none⟩ (.bool u0)).setCell ⟨g + 1 + 1, 1, none⟩ (.int .i64 r0)).setCell ⟨g + 1 + 1, 2, none⟩ (.int .i64 p0)).setCell ⟨g + 1 + 1, 3, none⟩ (.bool true)).setCell ⟨g + 1 + 1, 4, none⟩ (.int .i64 0)).setCell ⟨g + 1 + 1, 5, none⟩ (.int .i64 s0)) = G := ⟨_, rfl⟩
        obtain ⟨s1, s2, s3, s4⟩ := set6T bh _ _ _ _ _ _ hNw11
        replace bt := (s2 (g) (by omega)).trans bt
        replace br := (s2 (g + 1) (by omega)).trans br
        replace bk := (s2 (yk) (by have := hleyk.out; omega)).trans bk
        replace HT : Hid (TabO (g + 1 + 1 + 1) w11 (.slice (some ⟨q, 0, none⟩) S.length ct) (.slice bA (F.length + 1) dA) (S.set k zH) (F ++ [(k : Int)])) := HT.out.same (fun q h1 _ => s2 q (by omega))
        replace HB : Hid (Below w.heap.size w w11) := s4 _ _ (by have := HBV.out.2; omega) HB.out
        replace LB : Hid (g + 1 + 1 + 1 ≤ w11.heap.size) := by unfold Hid; rw [s3]; exact LB.out
        replace bh := s1
        clear s1 s2 s3 s4
        refine wh_skip 3 none w11 (by kernel_rfl) rfl rfl (by rfl) (by rw [← hNw11]; go_simp) ⟨bt, bk⟩ ?_
        simp only [Act.put]
        clear ph0x10 ph1x10 ph2x10 ph3x10 ph4x10 ph5x10 fh0x10 fh1x10 fh2x10 fh3x10 fh4x10 fh5x10 hNw11
        refine wh_val 4 (some 10) (.int .i64 0) w11 (by kernel_rfl) rfl rfl (by rfl) (by rfl) ⟨bt, bk⟩ ?_
        simp only [Act.put, List.setIfInBounds_toArray, List.set_cons_zero, List.set_cons_succ]
        refine wh_done (by kernel_rfl) ?_
        have zr0 : w11.cell? ⟨g + 1, 0, none⟩ = some (.slice (some ⟨q, 0, none⟩) S.length ct) := (cell_of_block br 0).trans rfl
        have zr1 : w11.cell? ⟨g + 1, 1, none⟩ = some (.slice bA (F.length + 1) dA) := (cell_of_block br 1).trans rfl
        have zh0 : w11.cell? ⟨g + 1 + 1, 0, none⟩ = some (.bool u0) := (cell_of_block bh 0).trans rfl
        have zh1 : w11.cell? ⟨g + 1 + 1, 1, none⟩ = some (.int .i64 r0) := (cell_of_block bh 1).trans rfl
        have zh2 : w11.cell? ⟨g + 1 + 1, 2, none⟩ = some (.int .i64 p0) := (cell_of_block bh 2).trans rfl
        have zh3 : w11.cell? ⟨g + 1 + 1, 3, none⟩ = some (.bool true) := (cell_of_block bh 3).trans rfl
        have zh4 : w11.cell? ⟨g + 1 + 1, 4, none⟩ = some (.int .i64 0) := (cell_of_block bh 4).trans rfl
        have zh5 : w11.cell? ⟨g + 1 + 1, 5, none⟩ = some (.int .i64 s0) := (cell_of_block bh 5).trans rfl
        go_wp2
        exact bodyPost_ret (v := .tuple #[.agg #[.slice (some ⟨q, 0, none⟩) S.length ct, .slice bA (F.length + 1) dA], .agg #[.bool u0, .int .i64 r0, .int .i64 p0, .bool true, .int .i64 0, .int .i64 s0], .int .i64 0]) (by simp [results, Try.results45, go_sem, zr0, zr1, zh0, zh1, zh2, zh3, zh4, zh5]) rfl ⟨_, _, rfl, HT.out.base (by have := HBV.out.2; omega), HB.out⟩

end Go.Proofs.Ytjielcilcningaa
