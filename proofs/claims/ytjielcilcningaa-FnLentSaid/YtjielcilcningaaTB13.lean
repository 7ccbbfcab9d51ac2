/-
  A table's copy, on the law's side. (Made by a generator.)
-/
import Derived.Test.YtjielcilcningaaTB12
namespace Go.Proofs.Ytjielcilcningaa
open Go.ChangeShapes Go.WideShapes Go.ChangeAt Go.RowKit

theorem run_append_noneT (w : World) (base : Nat) (t ty e : TypeId) (i : TypeInfo) (size c : Nat) (ht : Try.prog.underlying t = some (.slice e)) (hi : Try.prog.info? e = some i) (v : Value) (n : Nat) (xs : List Value) (hown : w.ownsRow base e size v n xs) :
    (Builtin.append_ #[t, t] ty #[v, .slice none 0 c]).run Try.prog w = .ok v w := by
  rcases hown.2 with ⟨rfl, rfl⟩ | ⟨g, cap, cur, rfl, _, _, hnc, _⟩
  · simp [Builtin.append_, run_underlying ht, sizeOf, typeInfo, hi, Builtin.lenOf, Builtin.firstCells]
  · simp [Builtin.append_, run_underlying ht, sizeOf, typeInfo, hi, Builtin.lenOf, Builtin.firstCells, hnc, storeCells]

theorem appH (W : World) (base : Nat) (v : Value) (hown : W.ownsRow base 28 6 v 0 []) (a : Option Addr) (c : Nat) (S : List Hd) (hS : Hds W a S) (hl : S.length ≤ 1048576) (hb : base ≤ W.heap.size) (ty : TypeId) :
    ∃ v' w', (Builtin.append_ #[23, 23] ty #[v, .slice a S.length c]).run Try.prog W = .ok v' w' ∧ w'.ownsRow base 28 6 v' S.length (hv S) ∧ W.grownBy w' v.ownBlock := by
  obtain ⟨i0, i0i, i00, i01, i02⟩ := info_parts Try.infoHd
  cases a with
  | none =>
    have h0 : S = [] := by
      rcases hn : S with _ | ⟨y, r⟩
      · rfl
      · obtain ⟨b, off, h, _⟩ := hS (by rw [hn]; simp)
        simp at h
    subst h0
    exact ⟨v, W, run_append_noneT W base 23 ty 28 i0 6 c Try.underlying23 i0i v _ _ hown, hown, World.grownBy.refl _ _⟩
  | some ad =>
    have HC : ∀ j u, (hv S)[j]? = some u → W.cell? (ad.add j) = some u := by
      by_cases he : S = []
      · rw [he]; intro j u hu; simp [hv] at hu
      · obtain ⟨b, off, h, hb, hc⟩ := hS he
        simp at h
        subst h
        exact hds_news hc
    obtain ⟨v', w', hr, h2, h3, _⟩ := run_append_own (P := Try.prog) W base 23 ty 28 i0 (.agg #[.bool false, .int .i64 0, .int .i64 0, .bool false, .int .i64 0, .int .i64 0]) 6 48 Try.underlying23 i0i i00 i01 i02 rfl (by decide) v 0 [] hown ad S.length c (hv S) (hv_len S) HC (hv_one S) (by unfold maxLen; omega) (by omega) hb
    rw [Nat.zero_add, List.nil_append] at h2
    exact ⟨v', w', hr, h2, h3⟩
theorem ints_newsT {w : World} {b off : Nat} {L : List Int} (hc : ∀ i (h : i < L.length), w.cell? ⟨b, off + i, none⟩ = some (.int .i64 L[i])) : ∀ j u, (iv L)[j]? = some u → w.cell? ((⟨b, off, none⟩ : Addr).add j) = some u := fun j u hu => by
  rw [Addr.add_lit]
  have hj : j < L.length := by
    rcases Nat.lt_or_ge j (iv L).length with h | h
    · rw [iv_len] at h; exact h
    · rw [List.getElem?_eq_none h] at hu; simp at hu
  rw [hc j hj]
  simp [iv, hj] at hu
  rw [hu]
theorem appI (W : World) (base : Nat) (v : Value) (hown : W.ownsRow base 3 1 v 0 []) (a : Option Addr) (c : Nat) (F : List Int) (hF : Ints W a F) (hl : F.length ≤ 1048576) (hb : base ≤ W.heap.size) (ty : TypeId) :
    ∃ v' w', (Builtin.append_ #[24, 24] ty #[v, .slice a F.length c]).run Try.prog W = .ok v' w' ∧ w'.ownsRow base 3 1 v' F.length (iv F) ∧ W.grownBy w' v.ownBlock := by
  obtain ⟨i0, i0i, i00, i01, i02⟩ := info_parts Try.info3
  cases a with
  | none =>
    have h0 : F = [] := by
      rcases hn : F with _ | ⟨y, r⟩
      · rfl
      · obtain ⟨b, off, h, _⟩ := hF (by rw [hn]; simp)
        simp at h
    subst h0
    exact ⟨v, W, run_append_noneT W base 24 ty 3 i0 1 c Try.underlying24 i0i v _ _ hown, hown, World.grownBy.refl _ _⟩
  | some ad =>
    have HC : ∀ j u, (iv F)[j]? = some u → W.cell? (ad.add j) = some u := by
      by_cases he : F = []
      · rw [he]; intro j u hu; simp [iv] at hu
      · obtain ⟨b, off, h, hb, hc⟩ := hF he
        simp at h
        subst h
        exact ints_newsT hc
    obtain ⟨v', w', hr, h2, h3, _⟩ := run_append_own (P := Try.prog) W base 24 ty 3 i0 (.int .i64 0) 1 8 Try.underlying24 i0i i00 i01 i02 rfl (by decide) v 0 [] hown ad F.length c (iv F) (by rw [iv_len, Nat.mul_one]) HC (iv_one F) (by unfold maxLen; omega) (by omega) hb
    rw [Nat.zero_add, List.nil_append] at h2
    exact ⟨v', w', hr, h2, h3⟩
/-- Rows of other types stay where one grows. -/
theorem other_row {w w' : World} {B B' : Nat} {e e' : TypeId} {s s' n n' : Nat} {v u : Value} {xs ys : List Value} (h : w.ownsRow B e s v n xs) (hg : w.grownBy w' v.ownBlock) (k : w.ownsRow B' e' s' u n' ys) (hne : e ≠ e') : w'.ownsRow B' e' s' u n' ys :=
  own_keep k (fun g hgg => by
    obtain ⟨cur, hc, _⟩ := own_at k hgg
    refine hg.block g (lt_of_block hc) (fun e0 => ?_)
    obtain ⟨cur', hc', _⟩ := own_at h e0.symm
    rw [hc] at hc'
    simp at hc'
    exact hne hc'.2.symm)

set_option maxRecDepth 100000 in
set_option maxHeartbeats 3200000 in
theorem specOwn (a b : Option Addr) (c d : Nat) (S : List Hd) (F : List Int) (w : World) (hS : Hid (Hds w a S)) (hF : Hid (Ints w b F)) (lS : S.length ≤ 1048576) (lF : F.length ≤ 1048576) :
    Calls Try.prog 26 #[tabV a S.length c b F.length d] w fun e w' => ∃ v u, e = .returned (.agg #[v, u]) ∧ Hid (TabO w.heap.size w' v u S F) ∧ Below w.heap.size w w' := by
  unfold tabV
  obtain ⟨g, hg⟩ : ∃ g, w.heap.size = g := ⟨_, rfl⟩
  obtain ⟨n, hn⟩ : ∃ n, S.length = n := ⟨_, rfl⟩
  obtain ⟨m, hm⟩ : ∃ m, F.length = m := ⟨_, rfl⟩
  obtain ⟨V, hV⟩ : ∃ W, (w.alloc (.cells #[.slice a n c, .slice b m d] 26)).alloc (.cells #[.slice none 0 0, .slice none 0 0] 26) = W := ⟨_, rfl⟩
  have hbV : Below w.heap.size w V := by rw [← hV]; exact bel_alloc (bel_alloc (Below.refl _ _) _) _
  have hzV : V.heap.size = g + 1 + 1 := by rw [← hV, ← hg]; simp
  have hxV : V.heap[g]? = some (.cells #[.slice a n c, .slice b m d] 26 (0, 0)) := by rw [← hV, ← hg]; exact (Below.heap_alloc _ _ _ (by simp)).trans (heap_alloc_new _ _)
  have hrV : V.heap[g + 1]? = some (.cells #[.slice none 0 0, .slice none 0 0] 26 (0, 0)) := by
    have h := heap_alloc_new (w.alloc (.cells #[.slice a n c, .slice b m d] 26)) (.cells #[.slice none 0 0, .slice none 0 0] 26)
    rw [← hV, ← hg]; simpa using h
  have AH : Hid (∀ W base v ty, Below w.heap.size w W → W.ownsRow base 28 6 v 0 [] → base ≤ W.heap.size → ∃ v' w', (Builtin.append_ #[23, 23] ty #[v, .slice a n c]).run Try.prog W = .ok v' w' ∧ w'.ownsRow base 28 6 v' n (hv S) ∧ W.grownBy w' v.ownBlock) := fun W base v ty hb ho hbs => by rw [← hn]; exact appH W base v ho a c S (hS.out.below hb) lS hbs ty
  have AI : Hid (∀ W base v ty, Below w.heap.size w W → W.ownsRow base 3 1 v 0 [] → base ≤ W.heap.size → ∃ v' w', (Builtin.append_ #[24, 24] ty #[v, .slice b m d]).run Try.prog W = .ok v' w' ∧ w'.ownsRow base 3 1 v' m (iv F) ∧ W.grownBy w' v.ownBlock) := fun W base v ty hb ho hbs => by rw [← hm]; exact appI W base v ho b d F (hF.out.below hb) lF hbs ty
  have HN : Hid (S.length = n ∧ F.length = m) := ⟨hn, hm⟩
  have HG : Hid (w.heap.size = g) := hg
  have HBV : Hid (Below w.heap.size w V) := hbV
  rw [hn, hm]
  clear hbV hn hm hS hF
  go_enter Try.func26, Try.ntmps26
  go_wp2
  clear hV hg
  have kx0 : ∀ w', Below (g + 1) V w' → w'.cell? ⟨g, 0, none⟩ = some (.slice a n c) := fun w' h => (h.cell (p := ⟨g, 0, none⟩) (Nat.lt_succ_self _)).trans ((cell_of_block hxV 0).trans rfl)
  have kx1 : ∀ w', Below (g + 1) V w' → w'.cell? ⟨g, 1, none⟩ = some (.slice b m d) := fun w' h => (h.cell (p := ⟨g, 1, none⟩) (Nat.lt_succ_self _)).trans ((cell_of_block hxV 1).trans rfl)
  refine wh_begin (Below (g + 1) V) (by kernel_rfl) ?_
  have hS0 : Below (g + 1) V V.drew := (Below.refl _ _).drew
  refine wh_take 1 (some 4) (.pointer (some ⟨g, 0, none⟩)) rfl rfl (by kernel_rfl) (by kernel_rfl) (by kernel_rfl) (fun _ _ _ h => h) hS0 (by rfl) (fun _ _ => by kernel_rfl) ?_
  simp only [Act.put, List.setIfInBounds_toArray, List.set_cons_zero, List.set_cons_succ]
  refine wh_take 2 (some 5) (.slice a n c) rfl rfl (by kernel_rfl) (by kernel_rfl) (by kernel_rfl) (fun _ _ _ h => h) hS0 (by rfl) (fun w' hS => by have q0 := kx0 _ hS; go_simp) ?_
  simp only [Act.put, List.setIfInBounds_toArray, List.set_cons_zero, List.set_cons_succ]
  refine wh_take 5 (some 8) (.pointer (some ⟨g, 1, none⟩)) rfl rfl (by kernel_rfl) (by kernel_rfl) (by kernel_rfl) (fun _ _ _ h => h) hS0 (by rfl) (fun _ _ => by kernel_rfl) ?_
  simp only [Act.put, List.setIfInBounds_toArray, List.set_cons_zero, List.set_cons_succ]
  refine wh_take 6 (some 9) (.slice b m d) rfl rfl (by kernel_rfl) (by kernel_rfl) (by kernel_rfl) (fun _ _ _ h => h) hS0 (by rfl) (fun w' hS => by have q0 := kx1 _ hS; go_simp) ?_
  simp only [Act.put, List.setIfInBounds_toArray, List.set_cons_zero, List.set_cons_succ]
  have hr0 : V.drew.heap[g + 1]? = some (.cells #[.slice none 0 0, .slice none 0 0] 26 (0, 0)) := hrV
  have hz0 : g + 1 + 1 ≤ V.drew.heap.size := by show g + 1 + 1 ≤ V.heap.size; omega
  obtain ⟨W0, hW⟩ : ∃ W, V.drew = W := ⟨_, rfl⟩
  rw [hW] at hS0 hr0 hz0 ⊢
  clear hW kx0 kx1 hrV hxV hzV
  refine wh_two 0 4 (by kernel_rfl) ?_ ?_
  · obtain ⟨y1, hy1⟩ : ∃ y, W0.heap.size = y := ⟨_, rfl⟩
    have hS1 : Below (g + 1) V (W0.alloc (.cells #[] 28)) := hS0.alloc (by omega) _
    refine wo_val (some 3) (.slice (some ⟨W0.heap.size, 0, none⟩) 0 0) (W0.alloc (.cells #[] 28)) rfl rfl (by rfl) (by go_simp) hS1 ?_
    simp only [Act.put, List.setIfInBounds_toArray, List.set_cons_zero, List.set_cons_succ]
    have hr1 : (W0.alloc (.cells #[] 28)).heap[g + 1]? = some (.cells #[.slice none 0 0, .slice none 0 0] 26 (0, 0)) := (Below.heap_alloc _ _ _ (lt_of_block hr0)).trans hr0
    have hz1 : g + 1 + 1 ≤ (W0.alloc (.cells #[] 28)).heap.size := by simp; omega
    have RA : (W0.alloc (.cells #[] 28)).ownsRow (g + 1 + 1) 28 6 (.slice (some ⟨W0.heap.size, 0, none⟩) 0 0) 0 [] := World.ownsRow_made W0 #[] 0 hz0 (by simp [maxLen]) (by simp)
    rw [hy1] at RA ⊢
    obtain ⟨W1, hW⟩ : ∃ W, W0.alloc (.cells #[] 28) = W := ⟨_, rfl⟩
    rw [hW] at hS1 hr1 hz1 RA ⊢
    clear hW hy1
    refine wh_two 3 4 (by kernel_rfl) ?_ ?_
    · obtain ⟨vA, W2, hrun, RA2, hgr⟩ := AH.out W1 (g + 1 + 1) _ 23 (HBV.out.trans (hS1.mono (by have := HG.out; omega))) RA hz1
      have hS2 : Below (g + 1) V W2 := hS1.grown hgr (by omega) (fun q hq => by have := (RA.lt q hq).1; omega)
      refine wo_val (some 6) vA W2 rfl rfl (by rfl) (by simp [execOp, resolve, invoke, builtin, Act.eval, hrun, Result.andThen]) hS2 ?_
      simp only [Act.put, List.setIfInBounds_toArray, List.set_cons_zero, List.set_cons_succ]
      have hr2 : W2.heap[g + 1]? = some (.cells #[.slice none 0 0, .slice none 0 0] 26 (0, 0)) := (hgr.block (g + 1) (lt_of_block hr1) (fun e => by have := (RA.lt (g + 1) e.symm).1; omega)).trans hr1
      have hz2 : g + 1 + 1 ≤ W2.heap.size := Nat.le_trans hz1 hgr.size
      replace RA := RA2
      clear hgr hrun
      obtain ⟨y3, hy3⟩ : ∃ y, W2.heap.size = y := ⟨_, rfl⟩
      have hS3 : Below (g + 1) V (W2.alloc (.cells #[] 3)) := hS2.alloc (by omega) _
      refine wh_val 4 (some 7) (.slice (some ⟨W2.heap.size, 0, none⟩) 0 0) (W2.alloc (.cells #[] 3)) (by kernel_rfl) rfl rfl (by rfl) (by go_simp) hS3 ?_
      simp only [Act.put, List.setIfInBounds_toArray, List.set_cons_zero, List.set_cons_succ]
      have hr3 : (W2.alloc (.cells #[] 3)).heap[g + 1]? = some (.cells #[.slice none 0 0, .slice none 0 0] 26 (0, 0)) := (Below.heap_alloc _ _ _ (lt_of_block hr2)).trans hr2
      have hz3 : g + 1 + 1 ≤ (W2.alloc (.cells #[] 3)).heap.size := by simp; omega
      have RB : (W2.alloc (.cells #[] 3)).ownsRow (g + 1 + 1) 3 1 (.slice (some ⟨W2.heap.size, 0, none⟩) 0 0) 0 [] := World.ownsRow_made W2 #[] 0 hz2 (by simp [maxLen]) (by simp)
      replace RA := RA.alloc (.cells #[] 3)
      rw [hy3] at RB ⊢
      obtain ⟨W3, hW⟩ : ∃ W, W2.alloc (.cells #[] 3) = W := ⟨_, rfl⟩
      rw [hW] at hS3 hr3 hz3 RB RA ⊢
      clear hW hy3
      obtain ⟨vB, W4, hrun, RB2, hgr⟩ := AI.out W3 (g + 1 + 1) _ 24 (HBV.out.trans (hS3.mono (by have := HG.out; omega))) RB hz3
      have hS4 : Below (g + 1) V W4 := hS3.grown hgr (by omega) (fun q hq => by have := (RB.lt q hq).1; omega)
      refine wh_val 7 (some 10) vB W4 (by kernel_rfl) rfl rfl (by rfl) (by simp [execOp, resolve, invoke, builtin, Act.eval, hrun, Result.andThen]) hS4 ?_
      simp only [Act.put, List.setIfInBounds_toArray, List.set_cons_zero, List.set_cons_succ]
      have hr4 : W4.heap[g + 1]? = some (.cells #[.slice none 0 0, .slice none 0 0] 26 (0, 0)) := (hgr.block (g + 1) (lt_of_block hr3) (fun e => by have := (RB.lt (g + 1) e.symm).1; omega)).trans hr3
      have hz4 : g + 1 + 1 ≤ W4.heap.size := Nat.le_trans hz3 hgr.size
      replace RA := other_row RB hgr RA (by decide)
      replace RB := RB2
      clear hgr hrun
      obtain ⟨av, cv, rfl, _⟩ := ownT_shape RA
      obtain ⟨bu, du, rfl, _⟩ := ownT_shape RB
      refine wh_val 8 (some 11) (.agg #[.slice av n cv, .slice bu m du]) W4 (by kernel_rfl) rfl rfl (by rfl) (by first | rfl | (go_simp; rfl) | go_simp) hS4 ?_
      simp only [Act.put, List.setIfInBounds_toArray, List.set_cons_zero, List.set_cons_succ]
      have q0 : W4.cell? ⟨g + 1, 0, none⟩ = some (.slice none 0 0) := (cell_of_block hr4 0).trans rfl
      have q1 : W4.cell? ⟨g + 1, 1, none⟩ = some (.slice none 0 0) := (cell_of_block hr4 1).trans rfl
      have k0 := free_of_block hr4 0
      have k1 := free_of_block hr4 1
      have hSe : Below (g + 1) V ((W4.setCell ⟨g + 1, 0, none⟩ (.slice av n cv)).setCell ⟨g + 1, 1, none⟩ (.slice bu m du)) := (hS4.setCell (Nat.le_refl _) _).setCell (Nat.le_refl _) _
      have hre : ((W4.setCell ⟨g + 1, 0, none⟩ (.slice av n cv)).setCell ⟨g + 1, 1, none⟩ (.slice bu m du)).heap[g + 1]? = some (.cells #[.slice av n cv, .slice bu m du] 26 (0, 0)) := heap_setCell_same _ _ _ _ _ _ (heap_setCell_same _ _ _ _ _ _ hr4)
      refine wh_skip 9 none ((W4.setCell ⟨g + 1, 0, none⟩ (.slice av n cv)).setCell ⟨g + 1, 1, none⟩ (.slice bu m du)) (by kernel_rfl) rfl rfl (by rfl) (by go_simp) hSe ?_
      simp only [Act.put]
      refine wh_done (by kernel_rfl) ?_
      have HT : Hid (TabO w.heap.size ((W4.setCell ⟨g + 1, 0, none⟩ (.slice av n cv)).setCell ⟨g + 1, 1, none⟩ (.slice bu m du)) (.slice av n cv) (.slice bu m du) S F) := by
        have hle : w.heap.size ≤ g + 1 + 1 := by have := HG.out; omega
        have hk : ∀ q, g + 1 + 1 ≤ q → ((W4.setCell ⟨g + 1, 0, none⟩ (.slice av n cv)).setCell ⟨g + 1, 1, none⟩ (.slice bu m du)).heap[q]? = W4.heap[q]? := fun q hq => (heap_setCell_other _ ⟨g + 1, 1, none⟩ q _ (show q ≠ g + 1 by omega)).trans (heap_setCell_other _ ⟨g + 1, 0, none⟩ q _ (show q ≠ g + 1 by omega))
        refine ⟨?_, ?_⟩
        · rw [HN.out.1]; exact ownT_base (own_keep RA (fun q hq => hk q (RA.lt q hq).1)) hle
        · rw [HN.out.2]; exact ownT_base (own_keep RB (fun q hq => hk q (RB.lt q hq).1)) hle
      have HBe : Hid (Below w.heap.size w ((W4.setCell ⟨g + 1, 0, none⟩ (.slice av n cv)).setCell ⟨g + 1, 1, none⟩ (.slice bu m du))) := HBV.out.trans (hSe.mono (by have := HG.out; omega))
      generalize ((W4.setCell ⟨g + 1, 0, none⟩ (.slice av n cv)).setCell ⟨g + 1, 1, none⟩ (.slice bu m du)) = G at hre HT HBe ⊢
      have g0 : G.cell? ⟨g + 1, 0, none⟩ = some (.slice av n cv) := (cell_of_block hre 0).trans rfl
      have g1 : G.cell? ⟨g + 1, 1, none⟩ = some (.slice bu m du) := (cell_of_block hre 1).trans rfl
      clear hre hr4 hS4 hz4 q0 q1 k0 k1 RA RB AH AI
      go_wp2
      exact bodyPost_ret (v := .agg #[.slice av n cv, .slice bu m du]) (by simp [results, Try.results26, go_sem, g0, g1]) rfl ⟨_, _, rfl, HT, HBe.out⟩
    · obtain ⟨y5, hy5⟩ : ∃ y, W1.heap.size = y := ⟨_, rfl⟩
      have hS5 : Below (g + 1) V (W1.alloc (.cells #[] 3)) := hS1.alloc (by omega) _
      refine wo_val (some 7) (.slice (some ⟨W1.heap.size, 0, none⟩) 0 0) (W1.alloc (.cells #[] 3)) rfl rfl (by rfl) (by go_simp) hS5 ?_
      simp only [Act.put, List.setIfInBounds_toArray, List.set_cons_zero, List.set_cons_succ]
      have hr5 : (W1.alloc (.cells #[] 3)).heap[g + 1]? = some (.cells #[.slice none 0 0, .slice none 0 0] 26 (0, 0)) := (Below.heap_alloc _ _ _ (lt_of_block hr1)).trans hr1
      have hz5 : g + 1 + 1 ≤ (W1.alloc (.cells #[] 3)).heap.size := by simp; omega
      have RB : (W1.alloc (.cells #[] 3)).ownsRow (g + 1 + 1) 3 1 (.slice (some ⟨W1.heap.size, 0, none⟩) 0 0) 0 [] := World.ownsRow_made W1 #[] 0 hz1 (by simp [maxLen]) (by simp)
      replace RA := RA.alloc (.cells #[] 3)
      rw [hy5] at RB ⊢
      obtain ⟨W5, hW⟩ : ∃ W, W1.alloc (.cells #[] 3) = W := ⟨_, rfl⟩
      rw [hW] at hS5 hr5 hz5 RB RA ⊢
      clear hW hy5
      obtain ⟨vA, W6, hrun, RA2, hgr⟩ := AH.out W5 (g + 1 + 1) _ 23 (HBV.out.trans (hS5.mono (by have := HG.out; omega))) RA hz5
      have hS6 : Below (g + 1) V W6 := hS5.grown hgr (by omega) (fun q hq => by have := (RA.lt q hq).1; omega)
      refine wh_val 3 (some 6) vA W6 (by kernel_rfl) rfl rfl (by rfl) (by simp [execOp, resolve, invoke, builtin, Act.eval, hrun, Result.andThen]) hS6 ?_
      simp only [Act.put, List.setIfInBounds_toArray, List.set_cons_zero, List.set_cons_succ]
      have hr6 : W6.heap[g + 1]? = some (.cells #[.slice none 0 0, .slice none 0 0] 26 (0, 0)) := (hgr.block (g + 1) (lt_of_block hr5) (fun e => by have := (RA.lt (g + 1) e.symm).1; omega)).trans hr5
      have hz6 : g + 1 + 1 ≤ W6.heap.size := Nat.le_trans hz5 hgr.size
      replace RB := other_row RA hgr RB (by decide)
      replace RA := RA2
      clear hgr hrun
      obtain ⟨vB, W7, hrun, RB2, hgr⟩ := AI.out W6 (g + 1 + 1) _ 24 (HBV.out.trans (hS6.mono (by have := HG.out; omega))) RB hz6
      have hS7 : Below (g + 1) V W7 := hS6.grown hgr (by omega) (fun q hq => by have := (RB.lt q hq).1; omega)
      refine wh_val 7 (some 10) vB W7 (by kernel_rfl) rfl rfl (by rfl) (by simp [execOp, resolve, invoke, builtin, Act.eval, hrun, Result.andThen]) hS7 ?_
      simp only [Act.put, List.setIfInBounds_toArray, List.set_cons_zero, List.set_cons_succ]
      have hr7 : W7.heap[g + 1]? = some (.cells #[.slice none 0 0, .slice none 0 0] 26 (0, 0)) := (hgr.block (g + 1) (lt_of_block hr6) (fun e => by have := (RB.lt (g + 1) e.symm).1; omega)).trans hr6
      have hz7 : g + 1 + 1 ≤ W7.heap.size := Nat.le_trans hz6 hgr.size
      replace RA := other_row RB hgr RA (by decide)
      replace RB := RB2
      clear hgr hrun
      obtain ⟨av, cv, rfl, _⟩ := ownT_shape RA
      obtain ⟨bu, du, rfl, _⟩ := ownT_shape RB
      refine wh_val 8 (some 11) (.agg #[.slice av n cv, .slice bu m du]) W7 (by kernel_rfl) rfl rfl (by rfl) (by first | rfl | (go_simp; rfl) | go_simp) hS7 ?_
      simp only [Act.put, List.setIfInBounds_toArray, List.set_cons_zero, List.set_cons_succ]
      have q0 : W7.cell? ⟨g + 1, 0, none⟩ = some (.slice none 0 0) := (cell_of_block hr7 0).trans rfl
      have q1 : W7.cell? ⟨g + 1, 1, none⟩ = some (.slice none 0 0) := (cell_of_block hr7 1).trans rfl
      have k0 := free_of_block hr7 0
      have k1 := free_of_block hr7 1
      have hSe : Below (g + 1) V ((W7.setCell ⟨g + 1, 0, none⟩ (.slice av n cv)).setCell ⟨g + 1, 1, none⟩ (.slice bu m du)) := (hS7.setCell (Nat.le_refl _) _).setCell (Nat.le_refl _) _
      have hre : ((W7.setCell ⟨g + 1, 0, none⟩ (.slice av n cv)).setCell ⟨g + 1, 1, none⟩ (.slice bu m du)).heap[g + 1]? = some (.cells #[.slice av n cv, .slice bu m du] 26 (0, 0)) := heap_setCell_same _ _ _ _ _ _ (heap_setCell_same _ _ _ _ _ _ hr7)
      refine wh_skip 9 none ((W7.setCell ⟨g + 1, 0, none⟩ (.slice av n cv)).setCell ⟨g + 1, 1, none⟩ (.slice bu m du)) (by kernel_rfl) rfl rfl (by rfl) (by go_simp) hSe ?_
      simp only [Act.put]
      refine wh_done (by kernel_rfl) ?_
      have HT : Hid (TabO w.heap.size ((W7.setCell ⟨g + 1, 0, none⟩ (.slice av n cv)).setCell ⟨g + 1, 1, none⟩ (.slice bu m du)) (.slice av n cv) (.slice bu m du) S F) := by
        have hle : w.heap.size ≤ g + 1 + 1 := by have := HG.out; omega
        have hk : ∀ q, g + 1 + 1 ≤ q → ((W7.setCell ⟨g + 1, 0, none⟩ (.slice av n cv)).setCell ⟨g + 1, 1, none⟩ (.slice bu m du)).heap[q]? = W7.heap[q]? := fun q hq => (heap_setCell_other _ ⟨g + 1, 1, none⟩ q _ (show q ≠ g + 1 by omega)).trans (heap_setCell_other _ ⟨g + 1, 0, none⟩ q _ (show q ≠ g + 1 by omega))
        refine ⟨?_, ?_⟩
        · rw [HN.out.1]; exact ownT_base (own_keep RA (fun q hq => hk q (RA.lt q hq).1)) hle
        · rw [HN.out.2]; exact ownT_base (own_keep RB (fun q hq => hk q (RB.lt q hq).1)) hle
      have HBe : Hid (Below w.heap.size w ((W7.setCell ⟨g + 1, 0, none⟩ (.slice av n cv)).setCell ⟨g + 1, 1, none⟩ (.slice bu m du))) := HBV.out.trans (hSe.mono (by have := HG.out; omega))
      generalize ((W7.setCell ⟨g + 1, 0, none⟩ (.slice av n cv)).setCell ⟨g + 1, 1, none⟩ (.slice bu m du)) = G at hre HT HBe ⊢
      have g0 : G.cell? ⟨g + 1, 0, none⟩ = some (.slice av n cv) := (cell_of_block hre 0).trans rfl
      have g1 : G.cell? ⟨g + 1, 1, none⟩ = some (.slice bu m du) := (cell_of_block hre 1).trans rfl
      clear hre hr7 hS7 hz7 q0 q1 k0 k1 RA RB AH AI
      go_wp2
      exact bodyPost_ret (v := .agg #[.slice av n cv, .slice bu m du]) (by simp [results, Try.results26, go_sem, g0, g1]) rfl ⟨_, _, rfl, HT, HBe.out⟩
  · obtain ⟨y8, hy8⟩ : ∃ y, W0.heap.size = y := ⟨_, rfl⟩
    have hS8 : Below (g + 1) V (W0.alloc (.cells #[] 3)) := hS0.alloc (by omega) _
    refine wo_val (some 7) (.slice (some ⟨W0.heap.size, 0, none⟩) 0 0) (W0.alloc (.cells #[] 3)) rfl rfl (by rfl) (by go_simp) hS8 ?_
    simp only [Act.put, List.setIfInBounds_toArray, List.set_cons_zero, List.set_cons_succ]
    have hr8 : (W0.alloc (.cells #[] 3)).heap[g + 1]? = some (.cells #[.slice none 0 0, .slice none 0 0] 26 (0, 0)) := (Below.heap_alloc _ _ _ (lt_of_block hr0)).trans hr0
    have hz8 : g + 1 + 1 ≤ (W0.alloc (.cells #[] 3)).heap.size := by simp; omega
    have RB : (W0.alloc (.cells #[] 3)).ownsRow (g + 1 + 1) 3 1 (.slice (some ⟨W0.heap.size, 0, none⟩) 0 0) 0 [] := World.ownsRow_made W0 #[] 0 hz0 (by simp [maxLen]) (by simp)
    rw [hy8] at RB ⊢
    obtain ⟨W8, hW⟩ : ∃ W, W0.alloc (.cells #[] 3) = W := ⟨_, rfl⟩
    rw [hW] at hS8 hr8 hz8 RB ⊢
    clear hW hy8
    obtain ⟨y9, hy9⟩ : ∃ y, W8.heap.size = y := ⟨_, rfl⟩
    have hS9 : Below (g + 1) V (W8.alloc (.cells #[] 28)) := hS8.alloc (by omega) _
    refine wh_val 0 (some 3) (.slice (some ⟨W8.heap.size, 0, none⟩) 0 0) (W8.alloc (.cells #[] 28)) (by kernel_rfl) rfl rfl (by rfl) (by go_simp) hS9 ?_
    simp only [Act.put, List.setIfInBounds_toArray, List.set_cons_zero, List.set_cons_succ]
    have hr9 : (W8.alloc (.cells #[] 28)).heap[g + 1]? = some (.cells #[.slice none 0 0, .slice none 0 0] 26 (0, 0)) := (Below.heap_alloc _ _ _ (lt_of_block hr8)).trans hr8
    have hz9 : g + 1 + 1 ≤ (W8.alloc (.cells #[] 28)).heap.size := by simp; omega
    have RA : (W8.alloc (.cells #[] 28)).ownsRow (g + 1 + 1) 28 6 (.slice (some ⟨W8.heap.size, 0, none⟩) 0 0) 0 [] := World.ownsRow_made W8 #[] 0 hz8 (by simp [maxLen]) (by simp)
    replace RB := RB.alloc (.cells #[] 28)
    rw [hy9] at RA ⊢
    obtain ⟨W9, hW⟩ : ∃ W, W8.alloc (.cells #[] 28) = W := ⟨_, rfl⟩
    rw [hW] at hS9 hr9 hz9 RA RB ⊢
    clear hW hy9
    obtain ⟨vA, W10, hrun, RA2, hgr⟩ := AH.out W9 (g + 1 + 1) _ 23 (HBV.out.trans (hS9.mono (by have := HG.out; omega))) RA hz9
    have hS10 : Below (g + 1) V W10 := hS9.grown hgr (by omega) (fun q hq => by have := (RA.lt q hq).1; omega)
    refine wh_val 3 (some 6) vA W10 (by kernel_rfl) rfl rfl (by rfl) (by simp [execOp, resolve, invoke, builtin, Act.eval, hrun, Result.andThen]) hS10 ?_
    simp only [Act.put, List.setIfInBounds_toArray, List.set_cons_zero, List.set_cons_succ]
    have hr10 : W10.heap[g + 1]? = some (.cells #[.slice none 0 0, .slice none 0 0] 26 (0, 0)) := (hgr.block (g + 1) (lt_of_block hr9) (fun e => by have := (RA.lt (g + 1) e.symm).1; omega)).trans hr9
    have hz10 : g + 1 + 1 ≤ W10.heap.size := Nat.le_trans hz9 hgr.size
    replace RB := other_row RA hgr RB (by decide)
    replace RA := RA2
    clear hgr hrun
    obtain ⟨vB, W11, hrun, RB2, hgr⟩ := AI.out W10 (g + 1 + 1) _ 24 (HBV.out.trans (hS10.mono (by have := HG.out; omega))) RB hz10
    have hS11 : Below (g + 1) V W11 := hS10.grown hgr (by omega) (fun q hq => by have := (RB.lt q hq).1; omega)
    refine wh_val 7 (some 10) vB W11 (by kernel_rfl) rfl rfl (by rfl) (by simp [execOp, resolve, invoke, builtin, Act.eval, hrun, Result.andThen]) hS11 ?_
    simp only [Act.put, List.setIfInBounds_toArray, List.set_cons_zero, List.set_cons_succ]
    have hr11 : W11.heap[g + 1]? = some (.cells #[.slice none 0 0, .slice none 0 0] 26 (0, 0)) := (hgr.block (g + 1) (lt_of_block hr10) (fun e => by have := (RB.lt (g + 1) e.symm).1; omega)).trans hr10
    have hz11 : g + 1 + 1 ≤ W11.heap.size := Nat.le_trans hz10 hgr.size
    replace RA := other_row RB hgr RA (by decide)
    replace RB := RB2
    clear hgr hrun
    obtain ⟨av, cv, rfl, _⟩ := ownT_shape RA
    obtain ⟨bu, du, rfl, _⟩ := ownT_shape RB
    refine wh_val 8 (some 11) (.agg #[.slice av n cv, .slice bu m du]) W11 (by kernel_rfl) rfl rfl (by rfl) (by first | rfl | (go_simp; rfl) | go_simp) hS11 ?_
    simp only [Act.put, List.setIfInBounds_toArray, List.set_cons_zero, List.set_cons_succ]
    have q0 : W11.cell? ⟨g + 1, 0, none⟩ = some (.slice none 0 0) := (cell_of_block hr11 0).trans rfl
    have q1 : W11.cell? ⟨g + 1, 1, none⟩ = some (.slice none 0 0) := (cell_of_block hr11 1).trans rfl
    have k0 := free_of_block hr11 0
    have k1 := free_of_block hr11 1
    have hSe : Below (g + 1) V ((W11.setCell ⟨g + 1, 0, none⟩ (.slice av n cv)).setCell ⟨g + 1, 1, none⟩ (.slice bu m du)) := (hS11.setCell (Nat.le_refl _) _).setCell (Nat.le_refl _) _
    have hre : ((W11.setCell ⟨g + 1, 0, none⟩ (.slice av n cv)).setCell ⟨g + 1, 1, none⟩ (.slice bu m du)).heap[g + 1]? = some (.cells #[.slice av n cv, .slice bu m du] 26 (0, 0)) := heap_setCell_same _ _ _ _ _ _ (heap_setCell_same _ _ _ _ _ _ hr11)
    refine wh_skip 9 none ((W11.setCell ⟨g + 1, 0, none⟩ (.slice av n cv)).setCell ⟨g + 1, 1, none⟩ (.slice bu m du)) (by kernel_rfl) rfl rfl (by rfl) (by go_simp) hSe ?_
    simp only [Act.put]
    refine wh_done (by kernel_rfl) ?_
    have HT : Hid (TabO w.heap.size ((W11.setCell ⟨g + 1, 0, none⟩ (.slice av n cv)).setCell ⟨g + 1, 1, none⟩ (.slice bu m du)) (.slice av n cv) (.slice bu m du) S F) := by
      have hle : w.heap.size ≤ g + 1 + 1 := by have := HG.out; omega
      have hk : ∀ q, g + 1 + 1 ≤ q → ((W11.setCell ⟨g + 1, 0, none⟩ (.slice av n cv)).setCell ⟨g + 1, 1, none⟩ (.slice bu m du)).heap[q]? = W11.heap[q]? := fun q hq => (heap_setCell_other _ ⟨g + 1, 1, none⟩ q _ (show q ≠ g + 1 by omega)).trans (heap_setCell_other _ ⟨g + 1, 0, none⟩ q _ (show q ≠ g + 1 by omega))
      refine ⟨?_, ?_⟩
      · rw [HN.out.1]; exact ownT_base (own_keep RA (fun q hq => hk q (RA.lt q hq).1)) hle
      · rw [HN.out.2]; exact ownT_base (own_keep RB (fun q hq => hk q (RB.lt q hq).1)) hle
    have HBe : Hid (Below w.heap.size w ((W11.setCell ⟨g + 1, 0, none⟩ (.slice av n cv)).setCell ⟨g + 1, 1, none⟩ (.slice bu m du))) := HBV.out.trans (hSe.mono (by have := HG.out; omega))
    generalize ((W11.setCell ⟨g + 1, 0, none⟩ (.slice av n cv)).setCell ⟨g + 1, 1, none⟩ (.slice bu m du)) = G at hre HT HBe ⊢
    have g0 : G.cell? ⟨g + 1, 0, none⟩ = some (.slice av n cv) := (cell_of_block hre 0).trans rfl
    have g1 : G.cell? ⟨g + 1, 1, none⟩ = some (.slice bu m du) := (cell_of_block hre 1).trans rfl
    clear hre hr11 hS11 hz11 q0 q1 k0 k1 RA RB AH AI
    go_wp2
    exact bodyPost_ret (v := .agg #[.slice av n cv, .slice bu m du]) (by simp [results, Try.results26, go_sem, g0, g1]) rfl ⟨_, _, rfl, HT, HBe.out⟩

end Go.Proofs.Ytjielcilcningaa
