/-
  Where the parts of a type begin, and its room: the program's switch over kinds.
-/
import Derived.Test.YtnoajihlkjeknaaDoorYRmD
namespace Go.Proofs.YtnoajihlkjeknaaDoor
open Go.ChangeShapes Go.WideShapes Go.ChangeAt Go.RowKit
open Go.Maps (Keyed IsMap)

theorem laid_end {L : List Nd} {w V : World} {B n : Nat} (s a : Int) (h0 : V.heap[w.heap.size]? = some (.cells #[.int .i64 0, .int .i64 0] 57 (0, 0))) (hB : B < w.heap.size) (hK : Known L V B n) (hg : w.grownBy V (some B)) :
    ((V.setCell ⟨w.heap.size, 0, none⟩ (.int .i64 s)).setCell ⟨w.heap.size, 1, none⟩ (.int .i64 a)).heap[w.heap.size]? = some (.cells #[.int .i64 s, .int .i64 a] 57 (0, 0)) ∧
    Known L ((V.setCell ⟨w.heap.size, 0, none⟩ (.int .i64 s)).setCell ⟨w.heap.size, 1, none⟩ (.int .i64 a)) B n ∧ w.grownBy ((V.setCell ⟨w.heap.size, 0, none⟩ (.int .i64 s)).setCell ⟨w.heap.size, 1, none⟩ (.int .i64 a)) (some B) := by
  have hgF : V.grownBy ((V.setCell ⟨w.heap.size, 0, none⟩ (.int .i64 s)).setCell ⟨w.heap.size, 1, none⟩ (.int .i64 a)) (some w.heap.size) := ⟨rfl, rfl, rfl, by simp, fun k _ hk => (heap_setCell_other _ _ _ _ (by simp at hk ⊢; omega)).trans (heap_setCell_other _ _ _ _ (by simp at hk ⊢; omega))⟩
  refine ⟨?_, hK.kept hgF (by simp; omega), hg.andThen hgF (fun j hj => by simp at hj; omega)⟩
  rw [heap_setCell_same _ _ _ _ _ _ (heap_setCell_same _ _ _ _ _ _ h0)]
  rfl

theorem krow_leaf (i : Nat) (h : i < krow.length) (h0 : i ≠ 0) (hx : i ≠ 14 ∧ i ≠ 15 ∧ i ≠ 16 ∧ i ≠ 17 ∧ i ≠ 18 ∧ i ≠ 19) (n : Int) : krow[i].2.2.2.2.2.1 = ((leafR i n).1 : Int) ∧ krow[i].2.2.2.2.2.2 = ((leafR i n).2 : Int) := by
  have e : leafR (i : Int) n = leafR (i : Int) 0 := by
    unfold leafR
    rw [if_neg (show ¬ (i : Int) = 16 by omega), if_neg (show ¬ (i : Int) = 19 by omega), if_neg (show ¬ (i : Int) = 16 by omega), if_neg (show ¬ (i : Int) = 19 by omega)]
  rw [e]
  have H : ∀ j : Fin 22, j.val ≠ 0 → (j.val ≠ 14 ∧ j.val ≠ 15 ∧ j.val ≠ 16 ∧ j.val ≠ 17 ∧ j.val ≠ 18 ∧ j.val ≠ 19) → krow[j].2.2.2.2.2.1 = ((leafR (j.val : Int) 0).1 : Int) ∧ krow[j].2.2.2.2.2.2 = ((leafR (j.val : Int) 0).2 : Int) := by decide +kernel
  exact H ⟨i, h⟩ h0 hx

theorem good_kidsR {L : List Nd} (h : goodT L = true) {k : Nat} (hk : k < L.length) (hx : kdAt L k = 14 ∨ kdAt L k = 15 ∨ kdAt L k = 17 ∨ kdAt L k = 18) : 0 < (kidsOf L k).length := by
  have := good_node h hk
  unfold nodeOk at this
  simp at this
  obtain ⟨⟨⟨⟨⟨_, _⟩, h3⟩, h4⟩, _⟩, _⟩ := this
  have e2 : (L[k]?.getD (0, 0, -1)).fst = kdAt L k := by unfold kdAt; rw [List.getD_eq_getElem?_getD]
  rw [e2] at h3 h4
  rcases hx with hx | hx | hx | hx
  all_goals
    rw [hx] at h3 h4
    simp [shp4] at h3 h4
    omega

set_option maxRecDepth 100000 in
set_option maxHeartbeats 1600000 in
theorem laidRow (L : List Nd) (hG : goodT L = true) (p e : Nat) (he : isEnd L p e) (IHK : ∀ i (h : i < (kidsOf L p).length), OfI L (kidsOf L p)[i] (endAt (kidsOf L p) e i)) (h14 : kdAt L p = 14) : LaidI L p e := by
  intro w b off cap B n hb hbB hL hT hBT hK hn
  have hU := ups_good hG
  have hpl : p < L.length := by have h1 := he.1; have h2 := he.2.1; omega
  have hpe := he.1
  have hlen := segL_len (L := L) he.1
  have hBl := hK.out.lt
  obtain ⟨c0, c1, c2⟩ := hL.out 0 (by omega)
  rw [segL_zero] at c0 c1 c2
  simp only [Nat.zero_mul, Nat.add_zero] at c0 c1 c2
  have hkd := good_kind hG hpl
  have HAL : Hid (∀ o1 o2, Below w.heap.size w ((w.alloc o1).alloc o2) ∧ ((w.alloc o1).alloc o2).heap.size = w.heap.size + 2 ∧ ((w.alloc o1).alloc o2).heap[w.heap.size]? = (w.alloc o1).heap[w.heap.size]?) := fun o1 o2 => ⟨((Below.refl w.heap.size w).alloc (Nat.le_refl _) o1).alloc (by simp) o2, by simp, Below.heap_alloc _ _ _ (by simp)⟩
  have HPO : Hid (∀ W : World, Below w.heap.size w W → Calls Tryd.prog 70 #[.slice (some ⟨b, off, none⟩) (segL L p e).length cap] W fun r w' => ∃ v, r = .returned v ∧ PartsAt L W.heap.size w'.heap.size w' p e v ∧ Below W.heap.size W w') := fun W hW =>
    implParts L hU p e he b off cap W (Nat.lt_of_lt_of_le hb hW.size) (hL.out.below hW hb)
  have HSG : Hid ((segL L p e).length = e - p) := hlen
  obtain ⟨sl, hsl⟩ : ∃ x, (segL L p e).length = x := ⟨_, rfl⟩
  rw [hsl] at HPO hlen ⊢
  have hsl1 : 0 < sl := by omega
  clear hsl hlen HSG
  have hK0 := good_kidsR hG hpl (Or.inl h14)
  have HROW : Hid (∀ (W : World) (v : Value) (lo hi : Nat), PartsAt L lo hi W p e v → hi ≤ W.heap.size → B < lo → Tabs W → Known L W B n → Calls Tryd.prog 69 #[.map (some B), v] W fun r w' => ∃ pl, r = .returned (.tuple #[pl, roomV (recE (recF L L.length (kidsOf L p)))]) ∧ Known L w' B (n + (e - p) - 1) ∧ W.grownBy w' (some B)) := fun W v lo hi h1 h2 h3 h4 h5 =>
    implRow L hG p e he hK0 IHK W B n lo hi v h1 h2 (Or.inl h3) h4 hBT h5 hn
  rw [rm_rec hpl h14]
  rw [h14] at c0
  obtain ⟨⟨s, a⟩, hR⟩ : ∃ R, recE (recF L L.length (kidsOf L p)) = R := ⟨_, rfl⟩
  rw [hR] at HROW ⊢
  have HROW' : Hid (∀ (W : World) (v : Value) (lo hi : Nat), PartsAt L lo hi W p e v → hi ≤ W.heap.size → B < lo → Tabs W → Known L W B n → Calls Tryd.prog 69 #[.map (some B), v] W fun r w' => ∃ pl, r = .returned (.tuple #[pl, .agg #[.int .i64 (s : Int), .int .i64 (a : Int)]]) ∧ Known L w' B (n + (e - p) - 1) ∧ W.grownBy w' (some B)) := HROW
  show Calls _ _ _ _ fun r w' => ∃ v, r = .returned (.tuple #[v, .agg #[.int .i64 (s : Int), .int .i64 (a : Int)]]) ∧ Known L w' B (n + (e - p) - 1) ∧ w.grownBy w' (some B)
  clear HROW
  obtain ⟨y, hy⟩ : ∃ y, nAt L p = y := ⟨_, rfl⟩
  rw [hy] at c1
  clear hR hy IHK hK0 h14 hkd
  go_enter Tryd.func58, Tryd.ntmps58
  go_wp2_with fail
  obtain ⟨W, hW⟩ : ∃ W, (w.alloc (.cells #[.int .i64 0, .int .i64 0] 57)).alloc (.cells #[.int .i64 14, .int .i64 y, .int .i64 (-1)] 53) = W := ⟨_, rfl⟩
  obtain ⟨a1, a2, a3⟩ := HAL.out (.cells #[.int .i64 0, .int .i64 0] 57) (.cells #[.int .i64 14, .int .i64 y, .int .i64 (-1)] 53)
  rw [hW] at a1 a2 a3 ⊢
  have hz : W.heap[w.heap.size]? = some (.cells #[.int .i64 0, .int .i64 0] 57 (0, 0)) := a3.trans (heap_alloc_new _ _)
  clear hW a3
  refine (HPO.out W a1).mono ?_
  rintro r w3 ⟨v, rfl, hpa, hb3⟩
  have hb03 := below2 a1 hb3
  have hz3 := (hb3.block _ (by omega)).trans hz
  have HC := HROW'.out w3 v _ _ hpa (Nat.le_refl _) (by omega) (hT.out.below hb03 (Nat.le_refl _)) (hK.out.kept (grown_below hb03 (Nat.le_refl _) none) (by simp))
  clear hpa hz hb3 HPO HROW'
  go_wp2_with fail
  refine HC.mono ?_
  rintro r w4 ⟨pl, rfl, hk4, hg4⟩
  have hz4 := (hg4.block _ (lt_of_block hz3) (by simp; omega)).trans hz3
  have hgw : w.grownBy w4 (some B) := (grown_below hb03 (Nat.le_refl _) _).trans hg4
  obtain ⟨E1, E2, E3⟩ := laid_end (s : Int) (a : Int) hz4 hBl hk4 hgw
  have EE : Hid (Known L ((w4.setCell ⟨w.heap.size, 0, none⟩ (.int .i64 (s : Int))).setCell ⟨w.heap.size, 1, none⟩ (.int .i64 (a : Int))) B (n + (e - p) - 1) ∧ w.grownBy ((w4.setCell ⟨w.heap.size, 0, none⟩ (.int .i64 (s : Int))).setCell ⟨w.heap.size, 1, none⟩ (.int .i64 (a : Int))) (some B)) := ⟨E2, E3⟩
  have k0 := (cell_of_block E1 0).trans rfl
  have k1 := (cell_of_block E1 1).trans rfl
  have q0 := (cell_of_block hz4 0).trans rfl
  have q1 := (cell_of_block hz4 1).trans rfl
  have f0 := free_of_block hz4 0
  have f1 := free_of_block hz4 1
  clear HC hg4 hk4 hgw E1 E2 E3 hz3 hb03
  go_wp2
  refine bodyPost_ret (v := .tuple #[pl, roomV (s, a)]) ?_ rfl (by first | exact ⟨_, rfl, EE.out.1, EE.out.2⟩ | exact ⟨⟨_, rfl⟩, EE.out.1, EE.out.2⟩)
  simp [results, Tryd.results58, go_sem, roomV, k0, k1]

set_option maxRecDepth 100000 in
set_option maxHeartbeats 1600000 in
theorem laidVar (L : List Nd) (hG : goodT L = true) (p e : Nat) (he : isEnd L p e) (IHK : ∀ i (h : i < (kidsOf L p).length), OfI L (kidsOf L p)[i] (endAt (kidsOf L p) e i)) (hv : kdAt L p = 15 ∨ kdAt L p = 17 ∨ kdAt L p = 18) : LaidI L p e := by
  intro w b off cap B n hb hbB hL hT hBT hK hn
  have hU := ups_good hG
  have hpl : p < L.length := by have h1 := he.1; have h2 := he.2.1; omega
  have hpe := he.1
  have hlen := segL_len (L := L) he.1
  have hBl := hK.out.lt
  obtain ⟨c0, c1, c2⟩ := hL.out 0 (by omega)
  rw [segL_zero] at c0 c1 c2
  simp only [Nat.zero_mul, Nat.add_zero] at c0 c1 c2
  have hkd := good_kind hG hpl
  have HAL : Hid (∀ o1 o2, Below w.heap.size w ((w.alloc o1).alloc o2) ∧ ((w.alloc o1).alloc o2).heap.size = w.heap.size + 2 ∧ ((w.alloc o1).alloc o2).heap[w.heap.size]? = (w.alloc o1).heap[w.heap.size]?) := fun o1 o2 => ⟨((Below.refl w.heap.size w).alloc (Nat.le_refl _) o1).alloc (by simp) o2, by simp, Below.heap_alloc _ _ _ (by simp)⟩
  have HPO : Hid (∀ W : World, Below w.heap.size w W → Calls Tryd.prog 70 #[.slice (some ⟨b, off, none⟩) (segL L p e).length cap] W fun r w' => ∃ v, r = .returned v ∧ PartsAt L W.heap.size w'.heap.size w' p e v ∧ Below W.heap.size W w') := fun W hW =>
    implParts L hU p e he b off cap W (Nat.lt_of_lt_of_le hb hW.size) (hL.out.below hW hb)
  have HSG : Hid ((segL L p e).length = e - p) := hlen
  obtain ⟨sl, hsl⟩ : ∃ x, (segL L p e).length = x := ⟨_, rfl⟩
  rw [hsl] at HPO hlen ⊢
  have hsl1 : 0 < sl := by omega
  clear hsl hlen HSG
  have hK0 := good_kidsR hG hpl (Or.inr hv)
  have HROW : Hid (∀ (W : World) (v : Value) (lo hi : Nat), PartsAt L lo hi W p e v → hi ≤ W.heap.size → B < lo → Tabs W → Known L W B n → Calls Tryd.prog 71 #[.map (some B), v] W fun r w' => ∃ pl, r = .returned (.tuple #[pl, roomV (varE (varF L L.length (kidsOf L p)))]) ∧ Known L w' B (n + (e - p) - 1) ∧ W.grownBy w' (some B)) := fun W v lo hi h1 h2 h3 h4 h5 =>
    implPlace L hG p e he hK0 IHK W B n lo hi v h1 h2 (Or.inl h3) h4 hBT h5 hn
  rw [rm_var hpl hv]
  obtain ⟨⟨s, a⟩, hR⟩ : ∃ R, varE (varF L L.length (kidsOf L p)) = R := ⟨_, rfl⟩
  rw [hR] at HROW ⊢
  have HROW' : Hid (∀ (W : World) (v : Value) (lo hi : Nat), PartsAt L lo hi W p e v → hi ≤ W.heap.size → B < lo → Tabs W → Known L W B n → Calls Tryd.prog 71 #[.map (some B), v] W fun r w' => ∃ pl, r = .returned (.tuple #[pl, .agg #[.int .i64 (s : Int), .int .i64 (a : Int)]]) ∧ Known L w' B (n + (e - p) - 1) ∧ W.grownBy w' (some B)) := HROW
  show Calls _ _ _ _ fun r w' => ∃ v, r = .returned (.tuple #[v, .agg #[.int .i64 (s : Int), .int .i64 (a : Int)]]) ∧ Known L w' B (n + (e - p) - 1) ∧ w.grownBy w' (some B)
  clear HROW
  obtain ⟨y, hy⟩ : ∃ y, nAt L p = y := ⟨_, rfl⟩
  rw [hy] at c1
  obtain ⟨x, hx⟩ : ∃ x, kdAt L p = x := ⟨_, rfl⟩
  rw [hx] at c0 hv
  clear hR hy IHK hK0 hkd hx
  rcases hv with rfl | rfl | rfl
  all_goals
    go_enter Tryd.func58, Tryd.ntmps58
    go_wp2_with fail
    generalize hW : (w.alloc (.cells #[.int .i64 0, .int .i64 0] 57)).alloc _ = W
    have a1 : Below w.heap.size w W := by rw [← hW]; exact (HAL.out _ _).1
    have a2 : W.heap.size = w.heap.size + 2 := by rw [← hW]; exact (HAL.out _ _).2.1
    have hz : W.heap[w.heap.size]? = some (.cells #[.int .i64 0, .int .i64 0] 57 (0, 0)) := by rw [← hW]; exact (HAL.out _ _).2.2.trans (heap_alloc_new _ _)
    clear hW
    refine (HPO.out W a1).mono ?_
    rintro r w3 ⟨v, rfl, hpa, hb3⟩
    have hb03 := below2 a1 hb3
    have hz3 := (hb3.block _ (by omega)).trans hz
    have HC := HROW'.out w3 v _ _ hpa (Nat.le_refl _) (by omega) (hT.out.below hb03 (Nat.le_refl _)) (hK.out.kept (grown_below hb03 (Nat.le_refl _) none) (by simp))
    clear hpa hz hb3 HPO HROW'
    go_wp2_with fail
    refine HC.mono ?_
    rintro r w4 ⟨pl, rfl, hk4, hg4⟩
    have hz4 := (hg4.block _ (lt_of_block hz3) (by simp; omega)).trans hz3
    have hgw : w.grownBy w4 (some B) := (grown_below hb03 (Nat.le_refl _) _).trans hg4
    obtain ⟨E1, E2, E3⟩ := laid_end (s : Int) (a : Int) hz4 hBl hk4 hgw
    have EE : Hid (Known L ((w4.setCell ⟨w.heap.size, 0, none⟩ (.int .i64 (s : Int))).setCell ⟨w.heap.size, 1, none⟩ (.int .i64 (a : Int))) B (n + (e - p) - 1) ∧ w.grownBy ((w4.setCell ⟨w.heap.size, 0, none⟩ (.int .i64 (s : Int))).setCell ⟨w.heap.size, 1, none⟩ (.int .i64 (a : Int))) (some B)) := ⟨E2, E3⟩
    have k0 := (cell_of_block E1 0).trans rfl
    have k1 := (cell_of_block E1 1).trans rfl
    have q0 := (cell_of_block hz4 0).trans rfl
    have q1 := (cell_of_block hz4 1).trans rfl
    have f0 := free_of_block hz4 0
    have f1 := free_of_block hz4 1
    clear HC hg4 hk4 hgw E1 E2 E3 hz3 hb03
    go_wp2
    refine bodyPost_ret (v := .tuple #[pl, roomV (s, a)]) ?_ rfl (by first | exact ⟨_, rfl, EE.out.1, EE.out.2⟩ | exact ⟨⟨_, rfl⟩, EE.out.1, EE.out.2⟩)
    simp [results, Tryd.results58, go_sem, roomV, k0, k1]

set_option maxRecDepth 100000 in
set_option maxHeartbeats 1600000 in
theorem laidNum (L : List Nd) (hG : goodT L = true) (p e : Nat) (he : isEnd L p e) (hv' : kdAt L p ≠ 14 ∧ kdAt L p ≠ 15 ∧ kdAt L p ≠ 17 ∧ kdAt L p ≠ 18) (h16 : kdAt L p = 16 ∨ kdAt L p = 19) : LaidI L p e := by
  intro w b off cap B n hb hbB hL hT hBT hK hn
  have hU := ups_good hG
  have hpl : p < L.length := by have h1 := he.1; have h2 := he.2.1; omega
  have hpe := he.1
  have hlen := segL_len (L := L) he.1
  have hBl := hK.out.lt
  obtain ⟨c0, c1, c2⟩ := hL.out 0 (by omega)
  rw [segL_zero] at c0 c1 c2
  simp only [Nat.zero_mul, Nat.add_zero] at c0 c1 c2
  have hkd := good_kind hG hpl
  have HAL : Hid (∀ o1 o2, Below w.heap.size w ((w.alloc o1).alloc o2) ∧ ((w.alloc o1).alloc o2).heap.size = w.heap.size + 2 ∧ ((w.alloc o1).alloc o2).heap[w.heap.size]? = (w.alloc o1).heap[w.heap.size]?) := fun o1 o2 => ⟨((Below.refl w.heap.size w).alloc (Nat.le_refl _) o1).alloc (by simp) o2, by simp, Below.heap_alloc _ _ _ (by simp)⟩
  have HPO : Hid (∀ W : World, Below w.heap.size w W → Calls Tryd.prog 70 #[.slice (some ⟨b, off, none⟩) (segL L p e).length cap] W fun r w' => ∃ v, r = .returned v ∧ PartsAt L W.heap.size w'.heap.size w' p e v ∧ Below W.heap.size W w') := fun W hW =>
    implParts L hU p e he b off cap W (Nat.lt_of_lt_of_le hb hW.size) (hL.out.below hW hb)
  have HSG : Hid ((segL L p e).length = e - p) := hlen
  obtain ⟨sl, hsl⟩ : ∃ x, (segL L p e).length = x := ⟨_, rfl⟩
  rw [hsl] at HPO hlen ⊢
  have hsl1 : 0 < sl := by omega
  clear hsl hlen HSG
  rw [rm_leaf hpl hv']
  obtain ⟨y, hy⟩ : ∃ y, nAt L p = y := ⟨_, rfl⟩
  rw [hy] at c1 ⊢
  obtain ⟨x, hx⟩ : ∃ x, kdAt L p = x := ⟨_, rfl⟩
  rw [hx] at c0 hv' hkd h16 ⊢
  clear hy hx HPO
  have HFL : Hid (x = 16 → ∀ W, Calls Tryd.prog 72 #[.int .i64 y] W fun e w' => e = .returned (.agg #[.int .i64 ((leafR x y).1 : Int), .int .i64 ((leafR x y).2 : Int)]) ∧ Below W.heap.size W w') := fun h W => by subst h; exact implFlags y W
  have HEN : Hid (x = 19 → ∀ W, Calls Tryd.prog 73 #[.int .i64 y] W fun e w' => e = .returned (.agg #[.int .i64 ((leafR x y).1 : Int), .int .i64 ((leafR x y).2 : Int)]) ∧ Below W.heap.size W w') := fun h W => by subst h; exact implEnum y W
  obtain ⟨⟨s, a⟩, hR⟩ : ∃ R, leafR x y = R := ⟨_, rfl⟩
  rw [hR] at HFL HEN ⊢
  clear hR hv' hkd
  rcases h16 with rfl | rfl
  all_goals
    go_enter Tryd.func58, Tryd.ntmps58
    go_wp2_with fail
    generalize hW : (w.alloc (.cells #[.int .i64 0, .int .i64 0] 57)).alloc _ = W
    have a1 : Below w.heap.size w W := by rw [← hW]; exact (HAL.out _ _).1
    have a2 : W.heap.size = w.heap.size + 2 := by rw [← hW]; exact (HAL.out _ _).2.1
    have hz : W.heap[w.heap.size]? = some (.cells #[.int .i64 0, .int .i64 0] 57 (0, 0)) := by rw [← hW]; exact (HAL.out _ _).2.2.trans (heap_alloc_new _ _)
    clear hW
    first | refine (HFL.out (by trivial) W).mono ?_ | refine (HEN.out (by trivial) W).mono ?_
    rintro r w4 ⟨rfl, hb3⟩
    have hb03 := below2 a1 hb3
    have hz4 := (hb3.block _ (by omega)).trans hz
    have hgw : w.grownBy w4 (some B) := grown_below hb03 (Nat.le_refl _) _
    have hk4 : Known L w4 B (n + (e - p) - 1) := (hK.out.kept (grown_below hb03 (Nat.le_refl _) none) (by simp)).mono (by omega)
    obtain ⟨E1, E2, E3⟩ := laid_end (s : Int) (a : Int) hz4 hBl hk4 hgw
    have EE : Hid (Known L ((w4.setCell ⟨w.heap.size, 0, none⟩ (.int .i64 (s : Int))).setCell ⟨w.heap.size, 1, none⟩ (.int .i64 (a : Int))) B (n + (e - p) - 1) ∧ w.grownBy ((w4.setCell ⟨w.heap.size, 0, none⟩ (.int .i64 (s : Int))).setCell ⟨w.heap.size, 1, none⟩ (.int .i64 (a : Int))) (some B)) := ⟨E2, E3⟩
    have k0 := (cell_of_block E1 0).trans rfl
    have k1 := (cell_of_block E1 1).trans rfl
    have q0 := (cell_of_block hz4 0).trans rfl
    have q1 := (cell_of_block hz4 1).trans rfl
    have f0 := free_of_block hz4 0
    have f1 := free_of_block hz4 1
    clear hb3 hk4 hgw E1 E2 E3 hb03 hz
    go_wp2
    refine bodyPost_ret (v := .tuple #[.slice none 0 0, roomV (s, a)]) ?_ rfl (by first | exact ⟨_, rfl, EE.out.1, EE.out.2⟩ | exact ⟨⟨_, rfl⟩, EE.out.1, EE.out.2⟩ | exact ⟨EE.out.1, EE.out.2⟩)
    simp [results, Tryd.results58, go_sem, roomV, k0, k1]

set_option maxRecDepth 100000 in
set_option maxHeartbeats 1600000 in
theorem laidLeaf (L : List Nd) (hG : goodT L = true) (p e : Nat) (he : isEnd L p e) (hv' : kdAt L p ≠ 14 ∧ kdAt L p ≠ 15 ∧ kdAt L p ≠ 17 ∧ kdAt L p ≠ 18) (h16 : ¬ (kdAt L p = 16 ∨ kdAt L p = 19)) : LaidI L p e := by
  intro w b off cap B n hb hbB hL hT hBT hK hn
  have hU := ups_good hG
  have hpl : p < L.length := by have h1 := he.1; have h2 := he.2.1; omega
  have hpe := he.1
  have hlen := segL_len (L := L) he.1
  have hBl := hK.out.lt
  obtain ⟨c0, c1, c2⟩ := hL.out 0 (by omega)
  rw [segL_zero] at c0 c1 c2
  simp only [Nat.zero_mul, Nat.add_zero] at c0 c1 c2
  have hkd := good_kind hG hpl
  have HAL : Hid (∀ o1 o2, Below w.heap.size w ((w.alloc o1).alloc o2) ∧ ((w.alloc o1).alloc o2).heap.size = w.heap.size + 2 ∧ ((w.alloc o1).alloc o2).heap[w.heap.size]? = (w.alloc o1).heap[w.heap.size]?) := fun o1 o2 => ⟨((Below.refl w.heap.size w).alloc (Nat.le_refl _) o1).alloc (by simp) o2, by simp, Below.heap_alloc _ _ _ (by simp)⟩
  have HPO : Hid (∀ W : World, Below w.heap.size w W → Calls Tryd.prog 70 #[.slice (some ⟨b, off, none⟩) (segL L p e).length cap] W fun r w' => ∃ v, r = .returned v ∧ PartsAt L W.heap.size w'.heap.size w' p e v ∧ Below W.heap.size W w') := fun W hW =>
    implParts L hU p e he b off cap W (Nat.lt_of_lt_of_le hb hW.size) (hL.out.below hW hb)
  have HSG : Hid ((segL L p e).length = e - p) := hlen
  obtain ⟨sl, hsl⟩ : ∃ x, (segL L p e).length = x := ⟨_, rfl⟩
  rw [hsl] at HPO hlen ⊢
  have hsl1 : 0 < sl := by omega
  clear hsl hlen HSG
  rw [rm_leaf hpl hv']
  obtain ⟨y, hy⟩ : ∃ y, nAt L p = y := ⟨_, rfl⟩
  rw [hy] at c1 ⊢
  obtain ⟨x, hx⟩ : ∃ x, kdAt L p = x := ⟨_, rfl⟩
  rw [hx] at c0 hv' hkd h16 ⊢
  clear hy hx HPO
  obtain ⟨k, hk⟩ : ∃ k : Nat, x = (k : Int) := ⟨x.toNat, by omega⟩
  subst hk
  have hk22 : k < krow.length := by have : krow.length = 22 := rfl
                                    omega
  have HLF := krow_leaf k hk22 (by omega) ⟨by omega, by omega, by omega, by omega, by omega, by omega⟩ y
  obtain ⟨⟨s, a⟩, hR⟩ : ∃ R, leafR (k : Int) y = R := ⟨_, rfl⟩
  rw [hR] at HLF ⊢
  have e14 : ((k : Int) == 14) = false := by simp; omega
  have e15 : ((k : Int) == 15) = false := by simp; omega
  have e16 : ((k : Int) == 16) = false := by simp; omega
  have e17 : ((k : Int) == 17) = false := by simp; omega
  have e18 : ((k : Int) == 18) = false := by simp; omega
  have e19 : ((k : Int) == 19) = false := by simp; omega
  obtain ⟨hg, hcs⟩ := hT.out
  obtain ⟨_, _, _, _, _, t5, t6⟩ := hcs k hk22
  rw [HLF.1] at t5
  rw [HLF.2] at t6
  have hk22' : (k : Int) < 22 := by have : krow.length = 22 := rfl
                                    omega
  clear hR HLF hcs hv' h16 hkd
  go_enter Tryd.func58, Tryd.ntmps58
  go_wp2_with fail
  generalize hW : (w.alloc (.cells #[.int .i64 0, .int .i64 0] 57)).alloc _ = W
  have a1 : Below w.heap.size w W := by rw [← hW]; exact (HAL.out _ _).1
  have a2 : W.heap.size = w.heap.size + 2 := by rw [← hW]; exact (HAL.out _ _).2.1
  have hz : W.heap[w.heap.size]? = some (.cells #[.int .i64 0, .int .i64 0] 57 (0, 0)) := by rw [← hW]; exact (HAL.out _ _).2.2.trans (heap_alloc_new _ _)
  have hx : W.cell? ⟨w.heap.size + 1, 0, none⟩ = some (.int .i64 (k : Int)) := by
    rw [← hW]
    have e9 : w.heap.size + 1 = (w.alloc (.cells #[.int .i64 0, .int .i64 0] 57)).heap.size := by simp
    rw [e9]
    exact newCell rfl rfl
  clear hW
  have u5 : W.cell? ⟨0, k * 7 + 5, none⟩ = some (.int .i64 (s : Int)) := (a1.cell (p := ⟨0, k * 7 + 5, none⟩) hg).trans t5
  have u6 : W.cell? ⟨0, k * 7 + 5 + 1, none⟩ = some (.int .i64 (a : Int)) := (a1.cell (p := ⟨0, k * 7 + 6, none⟩) hg).trans t6
  have q0 : W.cell? ⟨w.heap.size, 0, none⟩ = some (.int .i64 0) := (cell_of_block hz 0).trans rfl
  have q1 : W.cell? ⟨w.heap.size, 1, none⟩ = some (.int .i64 0) := (cell_of_block hz 1).trans rfl
  have f0 := free_of_block hz 0
  have f1 := free_of_block hz 1
  have hgw : w.grownBy W (some B) := grown_below a1 (Nat.le_refl _) _
  have hk4 : Known L W B (n + (e - p) - 1) := (hK.out.kept (grown_below a1 (Nat.le_refl _) none) (by simp)).mono (by omega)
  obtain ⟨E1, E2, E3⟩ := laid_end (s : Int) (a : Int) hz hBl hk4 hgw
  go_region
  obtain ⟨G, hG9⟩ : ∃ G, ((W.setCell ⟨w.heap.size, 0, none⟩ (.int .i64 (s : Int))).setCell ⟨w.heap.size, 1, none⟩ (.int .i64 (a : Int))).drew = G := ⟨_, rfl⟩
  have hgd : ((W.setCell ⟨w.heap.size, 0, none⟩ (.int .i64 (s : Int))).setCell ⟨w.heap.size, 1, none⟩ (.int .i64 (a : Int))).grownBy G none := by rw [← hG9]; exact ⟨rfl, rfl, rfl, Nat.le_refl _, fun _ _ _ => rfl⟩
  have EE : Hid (Known L G B (n + (e - p) - 1) ∧ w.grownBy G (some B)) := ⟨E2.kept hgd (by simp), E3.andThen hgd (fun j hj => by simp at hj)⟩
  have E9 := (hgd.block _ (lt_of_block E1) (by simp)).trans E1
  have k0 := (cell_of_block E9 0).trans rfl
  have k1 := (cell_of_block E9 1).trans rfl
  rw [hG9]
  clear E1 E2 E3 hgd hG9 hk4 hgw q0 q1 f0 f1 u5 u6 hx
  go_wp2
  refine bodyPost_ret (v := .tuple #[.slice none 0 0, roomV (s, a)]) ?_ rfl (by first | exact ⟨_, rfl, EE.out.1, EE.out.2⟩ | exact ⟨⟨_, rfl⟩, EE.out.1, EE.out.2⟩ | exact ⟨EE.out.1, EE.out.2⟩)
  simp [results, Tryd.results58, go_sem, roomV, k0, k1]

/-- Both, at every node. -/
theorem implRooms (L : List Nd) (hG : goodT L = true) : ∀ (f p e : Nat), L.length - p ≤ f → isEnd L p e → OfI L p e
  | 0, p, e, hf, he => by have h1 := he.1; have h2 := he.2.1; omega
  | f + 1, p, e, hf, he => by
    have hU := ups_good hG
    have IHK : ∀ i (h : i < (kidsOf L p).length), OfI L (kidsOf L p)[i] (endAt (kidsOf L p) e i) := fun i h => implRooms L hG f _ _ (by have := kids_mem (List.getElem_mem h); omega) (parts_end hU he i h)
    refine implOf L hG p e he ?_
    by_cases h14 : kdAt L p = 14
    · exact laidRow L hG p e he IHK h14
    · by_cases hv : kdAt L p = 15 ∨ kdAt L p = 17 ∨ kdAt L p = 18
      · exact laidVar L hG p e he IHK hv
      · have hv' : kdAt L p ≠ 14 ∧ kdAt L p ≠ 15 ∧ kdAt L p ≠ 17 ∧ kdAt L p ≠ 18 := ⟨h14, fun h => hv (Or.inl h), fun h => hv (Or.inr (Or.inl h)), fun h => hv (Or.inr (Or.inr h))⟩
        by_cases h16 : kdAt L p = 16 ∨ kdAt L p = 19
        · exact laidNum L hG p e he hv' h16
        · exact laidLeaf L hG p e he hv' h16

end Go.Proofs.YtnoajihlkjeknaaDoor
