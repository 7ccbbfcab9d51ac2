/-
  Rooms of records: the program's side.
-/
import Derived.Test.YtnoajihlkjeknaaDoorYRmB
import Derived.Test.YtnoajihlkjeknaaDoorYRm6
namespace Go.Proofs.YtnoajihlkjeknaaDoor
open Go.ChangeShapes Go.WideShapes Go.ChangeAt Go.RowKit
open Go.Maps (Keyed IsMap)

theorem rm_all {L : List Nd} {p : Nat} (hp : p < L.length) : rm L L.length p = rm L (L.length + 1) p := rm_fuel L _ _ p (by omega) (by omega) hp
theorem rm_rec {L : List Nd} {p : Nat} (hp : p < L.length) (hx : kdAt L p = 14) : rm L L.length p = recE (recF L L.length (kidsOf L p)) := by
  rw [rm_all hp]
  conv => lhs; unfold rm
  rw [if_pos hx]; rfl
theorem rm_var {L : List Nd} {p : Nat} (hp : p < L.length) (hx : kdAt L p = 15 ∨ kdAt L p = 17 ∨ kdAt L p = 18) : rm L L.length p = varE (varF L L.length (kidsOf L p)) := by
  rw [rm_all hp]
  conv => lhs; unfold rm
  rw [if_neg (by omega), if_pos hx]; rfl
theorem rm_leaf {L : List Nd} {p : Nat} (hp : p < L.length) (hx : kdAt L p ≠ 14 ∧ kdAt L p ≠ 15 ∧ kdAt L p ≠ 17 ∧ kdAt L p ≠ 18) : rm L L.length p = leafR (kdAt L p) (nAt L p) := by
  rw [rm_all hp]
  conv => lhs; unfold rm
  rw [if_neg hx.1, if_neg (by omega)]
theorem end_le {L : List Nd} (hU : ups L) {p e : Nat} (he : isEnd L p e) (i : Nat) (hi : i < (kidsOf L p).length) : endAt (kidsOf L p) e i ≤ e := by
  unfold endAt
  by_cases h4 : i + 1 < (kidsOf L p).length
  · rw [List.getD_eq_getElem?_getD, List.getElem?_eq_getElem h4, Option.getD_some]
    exact Nat.le_of_lt (kids_in hU he _ (List.getElem_mem h4))
  · rw [List.getD_eq_getElem?_getD, List.getElem?_eq_none (by omega), Option.getD_none]
    exact Nat.le_refl _
theorem news_one (W : World) (g : Nat) (x : Value) (t : TypeId) (h : W.heap.size = g) : ∀ j v, [x][j]? = some v → (W.alloc (.cells #[x] t)).cell? ((⟨g, 0, none⟩ : Addr).add j) = some v := by
  subst h
  intro j v hj
  match j, hj with
  | 0, hj => simp at hj; subst hj; simp [Addr.add]

set_option maxRecDepth 100000 in
set_option maxHeartbeats 12800000 in
theorem implRow (L : List Nd) (hG : goodT L = true) (p e : Nat) (he : isEnd L p e) (hK0 : 0 < (kidsOf L p).length) (IHK : ∀ i (h : i < (kidsOf L p).length), OfI L (kidsOf L p)[i] (endAt (kidsOf L p) e i))
    (w : World) (B n lo hi : Nat) (v : Value) (hpa : PartsAt L lo hi w p e v) (hhi : hi ≤ w.heap.size) (hBo : B < lo ∨ hi ≤ B) (hT : Hid (Tabs w)) (hBT : B ≠ 0) (hKn : Hid (Known L w B n)) (hn : n + (e - p) ≤ 1000) :
    Calls Tryd.prog 69 #[.map (some B), v] w fun r w' => ∃ pl, r = .returned (.tuple #[pl, roomV (recE (recF L L.length (kidsOf L p)))]) ∧ Known L w' B (n + (e - p) - 1) ∧ w.grownBy w' (some B) := by
  have hU := ups_good hG
  obtain ⟨i0, hi0, hz0, hz1, hz2⟩ := info_parts Tryd.infoY
  have hBl := hKn.out.lt
  have HKP : Hid (∀ i (h : i < (kidsOf L p).length), ((rm L L.length (kidsOf L p)[i]).1 ≤ 640 ∧ 1 ≤ (rm L L.length (kidsOf L p)[i]).2 ∧ (rm L L.length (kidsOf L p)[i]).2 ≤ 8) ∧ p < (kidsOf L p)[i] ∧ (kidsOf L p)[i] < endAt (kidsOf L p) e i ∧ endAt (kidsOf L p) e i ≤ e) := fun i h =>
    ⟨(rm_kids hU L.length he).1 _ (List.getElem_mem h), (kids_mem (List.getElem_mem h)).1, (parts_end hU he i h).1, end_le hU he i h⟩
  have HB : Hid (∀ m, (recF L L.length ((kidsOf L p).take m)).1 ≤ 640 ∧ 1 ≤ (recF L L.length ((kidsOf L p).take m)).2 ∧ (recF L L.length ((kidsOf L p).take m)).2 ≤ 8) := fun m => recF_bound hU L.length he m
  have hKL : (kidsOf L p).length ≤ 40 := Nat.le_trans (kids_le L p) hU.2.1
  have hpe := he.1
  obtain ⟨pa, pc, rfl, hpa⟩ := hpa
  have HPA : Hid (∀ i (h : i < (kidsOf L p).length), ∃ g gi ci, pa = some ⟨g, 0, none⟩ ∧ g < w.heap.size ∧ g ≠ B ∧ gi < w.heap.size ∧ gi ≠ B ∧ w.cell? ⟨g, i, none⟩ = some (.slice (some ⟨gi, 0, none⟩) (segL L (kidsOf L p)[i] (endAt (kidsOf L p) e i)).length ci) ∧ ndAt w gi 0 (segL L (kidsOf L p)[i] (endAt (kidsOf L p) e i))) := by
    intro i h
    obtain ⟨g, gi, ci, x1, x2, x3, x4, x5, x6, x7⟩ := hpa i h
    exact ⟨g, gi, ci, x1, by omega, by omega, by omega, by omega, x6, x7⟩
  have IH : Hid (∀ i (h : i < (kidsOf L p).length), OfI L (kidsOf L p)[i] (endAt (kidsOf L p) e i)) := IHK
  obtain ⟨⟨S1, S2⟩, hR⟩ : ∃ R, recE (recF L L.length (kidsOf L p)) = R := ⟨_, rfl⟩
  have HR : Hid (recE (recF L L.length (kidsOf L p)) = (S1, S2)) := hR
  rw [hR]
  have h0K := (kids_mem (List.getElem_mem hK0)).1
  have hst : n + (e - (kidsOf L p).getD 0 e) ≤ n + (e - p) - 1 := by
    rw [List.getD_eq_getElem?_getD, List.getElem?_eq_getElem hK0, Option.getD_some]; omega
  obtain ⟨K, hK⟩ : ∃ K, kidsOf L p = K := ⟨_, rfl⟩
  rw [hK] at IH HPA HKP HB HR hst hKL ⊢
  clear hpa hK IHK hR hK0 h0K hBo hhi
  have ha0 := fun o1 o2 => ((Below.refl w.heap.size w).alloc (Nat.le_refl _) o1).alloc (by simp) o2
  have hq0 : ∀ o1 o2, ((w.alloc o1).alloc o2).heap[w.heap.size]? = (w.alloc o1).heap[w.heap.size]? := fun o1 o2 => Below.heap_alloc _ _ _ (by simp)
  have HA0 : Hid (∀ o1 o2, (∀ row, w.grownBy ((w.alloc o1).alloc o2) row) ∧ ((w.alloc o1).alloc o2).heap.size = w.heap.size + 2) := fun o1 o2 => ⟨fun row => grown_below (ha0 o1 o2) (Nat.le_refl _) row, by simp⟩
  clear ha0 hq0
  go_enter Tryd.func69, Tryd.ntmps69
  go_wp2
  go_loopw [6, 15] (fun v6 i wr => ∃ (m s a nn : Nat) (xs : List Value), m ≤ K.length ∧ i = .int .i64 (m : Int) ∧ Hid (recF L L.length (K.take m) = (s, a)) ∧ wr.heap[w.heap.size]? = some (.cells #[.int .i64 0, .int .i64 0] 57 (0, 0)) ∧ wr.heap[w.heap.size + 1]? = some (.cells #[.int .i64 (s : Int), .int .i64 (a : Int)] 57 (0, 0)) ∧
    wr.ownsRow (w.heap.size + 2) 3 1 v6 m xs ∧ Hid (Known L wr B nn) ∧ nn + (e - K.getD m e) ≤ n + (e - p) - 1 ∧ w.grownBy wr (some B)) (fun _ i _ => K.length - (intOf i).toNat)
  case atStart =>
    refine ⟨0, 0, 1, n, [], by omega, rfl, rfl, ?_, ?_, World.ownsRow_nil _ _ _ _, hKn.out.kept ((HA0.out _ _).1 none) ?_, hst, (HA0.out _ _).1 _⟩
    · first | (rw [Below.heap_alloc _ _ _ (by simp)]; exact heap_alloc_new _ _) | exact (Below.heap_alloc _ _ _ (by simp)).trans (heap_alloc_new _ _)
    · have e9 : ∀ o, w.heap.size + 1 = (w.alloc o).heap.size := fun o => by simp
      first | (rw [e9 (.cells #[.int .i64 0, .int .i64 0] 57)]; exact heap_alloc_new _ _)
    · simp
  case round =>
    obtain ⟨m, s, a, nn, xs, hm, rfl, HS, hc0, hc1, hrow, hkw, hnn, hgw⟩ := hrel
    obtain ⟨ca, cc, rfl⟩ := ownsRow_shape hrow
    have hsz := hgw.size
    have hl1 := lt_of_block hc1
    have hb3 := HB.out m
    rw [HS.out] at hb3
    obtain ⟨b1, b2, b3⟩ := hb3
    simp only at b1 b2 b3
    by_cases hlt : m < K.length
    · obtain ⟨ga, gi, ci, rfl, y1, y2, y3, y4, y5, y6⟩ := HPA.out m hlt
      obtain ⟨q2, q8, q3, q4⟩ := HKP.out m hlt
      have hgd : K.getD m e = K[m] := by rw [List.getD_eq_getElem?_getD, List.getElem?_eq_getElem hlt, Option.getD_some]
      have hge : K.getD (m + 1) e = endAt K e m := rfl
      rw [hgd] at hnn
      have HC := IH.out m hlt wr gi 0 ci B nn (by omega) y4 (nd_grown y6 hgw y3 (by simpa using y4)) (tabs_grown hT.out hgw (by simpa using Ne.symm hBT)) hBT hkw (by omega)
      have HS2 := recF_succ L L.length hlt
      rw [HS.out] at HS2
      have d0 : wr.cell? ⟨ga, m, none⟩ = some (.slice (some ⟨gi, 0, none⟩) (segL L K[m] (endAt K e m)).length ci) := (cell_heap (hgw.block ga y1 (by simpa using y2)) _).trans y5
      obtain ⟨⟨n1, a1⟩, hD⟩ : ∃ D, rm L L.length K[m] = D := ⟨_, rfl⟩
      rw [hD] at HC HS2 q2
      simp only [recS] at HS2 q2
      obtain ⟨q5, q6, q7⟩ := q2
      have hnn2 : nn + (endAt K e m - K[m]) + (e - K.getD (m + 1) e) ≤ n + (e - p) - 1 := by rw [hge]; omega
      obtain ⟨n2, hn2⟩ : ∃ x, nn + (endAt K e m - K[m]) = x := ⟨_, rfl⟩
      rw [hn2] at HC hnn2
      obtain ⟨ql, hql⟩ : ∃ x, (segL L K[m] (endAt K e m)).length = x := ⟨_, rfl⟩
      rw [hql] at HC d0
      have HC' : Hid (Calls Tryd.prog 35 #[.map (some B), .slice (some ⟨gi, 0, none⟩) ql ci] wr fun r w' => r = .returned (.agg #[.int .i64 (n1 : Int), .int .i64 (a1 : Int)]) ∧ Known L w' B n2 ∧ wr.grownBy w' (some B)) := HC
      have hul := up_le s a1
      have HU := implUp s a1 (by omega) q6 q7
      obtain ⟨u, hu⟩ : ∃ u, up s a1 = u := ⟨_, rfl⟩
      rw [hu] at HS2 hul HU
      have H2 : Hid (recF L L.length (K.take (m + 1)) = (u + n1, max a a1)) := HS2
      have hun : u ≤ 647 := by omega
      clear HC hD hu hul hn2 hql q3 q4 q8 HS2 y5 y6 hgd hge
      go_wp2_with fail
      refine HC'.out.mono ?_
      rintro r w2 ⟨rfl, hk2, hg2⟩
      clear HC' d0
      have c0' := (hg2.block _ (lt_of_block hc0) (by simp; omega)).trans hc0
      have c1' := (hg2.block _ hl1 (by simp; omega)).trans hc1
      have hrow2 : w2.ownsRow (w.heap.size + 2) 3 1 (.slice ca m cc) m xs := own_keep hrow fun g hg => by
        obtain ⟨cu, hcu, h2⟩ := own_at hrow hg
        exact hg2.block g (lt_of_block hcu) (by simp; omega)
      have hgw2 : w.grownBy w2 (some B) := hgw.trans hg2
      have hl2 : w.heap.size + 1 < w2.heap.size := Nat.lt_of_lt_of_le hl1 hg2.size
      have HK2 : Hid (Known L w2 B n2) := hk2
      clear hg2 hk2 hkw hgw hrow hc0 hc1
      have t0 := (cell_of_block c1' 0).trans rfl
      have t1 := (cell_of_block c1' 1).trans rfl
      go_wp2_with (first | (go_at_call 84; refine (HU _).mono ?_; rintro e w1 ⟨rfl, hw⟩; obtain rfl := hw.symm) | (at_builtin; refine wpList_append_own _ rfl _ _ 92 rfl (w.heap.size + 2) 3 i0 (.int .i64 0) 1 8 Tryd.underlying92 hi0 hz0 hz1 hz2 rfl (by decide) _ _ _ rfl ((hrow2.alloc _).alloc _) ⟨w2.heap.size + 1, 0, none⟩ 1 1 [.int .i64 (u : Int)] rfl rfl (news_one _ _ _ _ (by simp)) (by intro x hx; simp at hx; subst hx; rfl) (by unfold maxLen; omega) (by omega) (by simp; omega) ?_))
      intro v' w3 hown3 hgrow3 _
      have hcl : ∀ c, (Value.slice ca m cc).ownBlock = some c → w.heap.size + 2 ≤ c ∧ c < w2.heap.size := fun c hc => by
        obtain ⟨cu, hcu, h2⟩ := own_at hrow2 hc
        exact ⟨h2, lt_of_block hcu⟩
      have hal : ∀ o1 o2 row, w2.grownBy ((w2.alloc o1).alloc o2) row := fun o1 o2 row => grown_below (((Below.refl w2.heap.size w2).alloc (Nat.le_refl _) o1).alloc (by simp) o2) (Nat.le_refl _) row
      have K3 : ∀ g, g < w2.heap.size → g < w.heap.size + 2 → w3.heap[g]? = w2.heap[g]? := fun g h1 h2 => (hgrow3.block g (by simp; omega) (fun e => by have := (hcl g e.symm).1; omega)).trans ((hal _ _ none).block g h1 (by simp))
      have c0'' := (K3 _ (by omega) (by omega)).trans c0'
      have c1'' := (K3 _ hl2 (by omega)).trans c1'
      have ct : w3.heap[w2.heap.size]? = some (.cells #[.int .i64 (n1 : Int), .int .i64 (a1 : Int)] 57 (0, 0)) := (hgrow3.block _ (by simp; omega) (fun e => by have := (hcl _ e.symm).2; omega)).trans ((Below.heap_alloc _ _ _ (by simp)).trans (heap_alloc_new _ _))
      have hgw3 : w.grownBy w3 (some B) := (hgw2.trans (hal _ _ _)).andThen hgrow3 (fun j hj => by have := (hcl j hj).1; omega)
      have HK3 : Hid (Known L w3 B n2) := (HK2.out.kept (hal _ _ none) (by simp)).kept hgrow3 (fun e => by have := (hcl B e.symm).1; omega)
      obtain ⟨va, vc, rfl⟩ := ownsRow_shape hown3
      have HO3 : Hid (w3.ownsRow (w.heap.size + 2) 3 1 (.slice va (m + 1) vc) (m + 1) (xs ++ [.int .i64 (u : Int)])) := hown3
      obtain ⟨z10, hz10⟩ : ∃ z, w2.heap.size = z := ⟨_, rfl⟩
      rw [hz10] at ct
      clear t0 t1 hrow2 hcl K3 hal hgrow3 hown3 hgw2 HK2 c0' c1' hl2
      rw [hz10]
      clear hz10
      have t0 := (cell_of_block c1'' 0).trans rfl
      have t1 := (cell_of_block c1'' 1).trans rfl
      have f0 := free_of_block c1'' 0
      have f1 := free_of_block c1'' 1
      have x0 := (cell_of_block ct 0).trans rfl
      have x1 := (cell_of_block ct 1).trans rfl
      have HW : Hid (∀ v1 v2 : Value, w3.grownBy ((w3.setCell ⟨w.heap.size + 1, 0, none⟩ v1).setCell ⟨w.heap.size + 1, 1, none⟩ v2) (some (w.heap.size + 1)) ∧ ((w3.setCell ⟨w.heap.size + 1, 0, none⟩ v1).setCell ⟨w.heap.size + 1, 1, none⟩ v2).heap[w.heap.size + 1]? = some (.cells #[v1, v2] 57 (0, 0))) := fun v1 v2 => ⟨⟨rfl, rfl, rfl, by simp, fun k _ hk => (heap_setCell_other _ _ _ _ (by simp at hk ⊢; omega)).trans (heap_setCell_other _ _ _ _ (by simp at hk ⊢; omega))⟩, by
        rw [heap_setCell_same _ _ _ _ _ _ (heap_setCell_same _ _ _ _ _ _ c1'')]
        rfl⟩
      have e1 : ((u + n1 : Nat) : Int) = (u : Int) + (n1 : Int) := by omega
      have e2 : ((max a a1 : Nat) : Int) = max (a : Int) (a1 : Int) := by omega
      have HE : Hid (((u + n1 : Nat) : Int) = (u : Int) + (n1 : Int) ∧ ((max a a1 : Nat) : Int) = max (a : Int) (a1 : Int)) := ⟨e1, e2⟩
      clear e1 e2
      go_wp2
      go_roundw
      case rel =>
        have hb := (HW.out (.int .i64 ((u : Int) + (n1 : Int))) (.int .i64 (max (a : Int) (a1 : Int))))
        refine ⟨m + 1, u + n1, max a a1, n2, _, by omega, by go_num, H2, (hb.1.block _ (lt_of_block c0'') (by simp)).trans c0'', by rw [HE.out.1, HE.out.2]; exact hb.2, own_keep HO3.out fun g hg => ?_, HK3.out.kept hb.1 (by simp; omega), hnn2, hgw3.andThen hb.1 (fun j hj => by simp at hj; omega)⟩
        obtain ⟨cu, hcu, h2⟩ := own_at HO3.out hg
        exact hb.1.block g (lt_of_block hcu) (by simp; omega)
      case measure => simp [intOf]; omega
    · obtain rfl : m = K.length := by omega
      rw [List.take_length] at HS
      have HU := implUp s a (by omega) b2 b3
      have hr := HR.out
      rw [HS.out] at hr
      simp only [recE, Prod.mk.injEq] at hr
      obtain ⟨hr1, rfl⟩ := hr
      rw [hr1] at HU
      clear hr1
      have t0 := (cell_of_block hc1 0).trans rfl
      have t1 := (cell_of_block hc1 1).trans rfl
      have f0 := free_of_block hc1 0
      have y0 := (cell_of_block hc0 0).trans rfl
      have y1 := (cell_of_block hc0 1).trans rfl
      have g0 := free_of_block hc0 0
      have g1 := free_of_block hc0 1
      have hne : w.heap.size ≠ w.heap.size + 1 := by omega
      have HKw : Hid (Known L wr B nn) := hkw
      have hgd : K.getD K.length e = e := by rw [List.getD_eq_getElem?_getD, List.getElem?_eq_none (by omega), Option.getD_none]
      rw [hgd] at hnn
      go_wp2_with (go_at_call 84; refine (HU _).mono ?_; rintro e w1 ⟨rfl, hw⟩; obtain rfl := hw.symm)
      obtain ⟨w5, hw5⟩ : ∃ x, wr.setCell ⟨w.heap.size + 1, 0, none⟩ (.int .i64 (S1 : Int)) = x := ⟨_, rfl⟩
      have e1 : w5.heap[w.heap.size + 1]? = some (.cells #[.int .i64 (S1 : Int), .int .i64 (a : Int)] 57 (0, 0)) := by
        rw [← hw5, heap_setCell_same _ _ _ _ _ _ hc1]; rfl
      have hg5 : wr.grownBy w5 (some (w.heap.size + 1)) := by
        rw [← hw5]
        exact ⟨rfl, rfl, rfl, by simp, fun k _ hk => heap_setCell_other _ _ _ _ (by simp at hk ⊢; omega)⟩
      have e0 := (hg5.block _ (lt_of_block hc0) (by simp)).trans hc0
      have hgw5 : w.grownBy w5 (some B) := hgw.andThen hg5 (fun j hj => by simp at hj; omega)
      have HK5 : Hid (Known L w5 B nn) := HKw.out.kept hg5 (by simp; omega)
      rw [hw5]
      clear hw5 hg5 hc0 hc1 t0 t1 f0 y0 y1 g0 g1 hkw HKw hgw hrow
      have x0 := (cell_of_block e1 0).trans rfl
      have x1 := (cell_of_block e1 1).trans rfl
      have y0 := (cell_of_block e0 0).trans rfl
      have y1 := (cell_of_block e0 1).trans rfl
      have g0 := free_of_block e0 0
      have g1 := free_of_block e0 1
      have hgF : w5.grownBy ((w5.setCell ⟨w.heap.size, 0, none⟩ (.int .i64 (S1 : Int))).setCell ⟨w.heap.size, 1, none⟩ (.int .i64 (a : Int))).drew (some w.heap.size) := ⟨rfl, rfl, rfl, by simp, fun k _ hk => (heap_setCell_other _ _ _ _ (by simp at hk ⊢; omega)).trans (heap_setCell_other _ _ _ _ (by simp at hk ⊢; omega))⟩
      have Z9 : ((w5.setCell ⟨w.heap.size, 0, none⟩ (.int .i64 (S1 : Int))).setCell ⟨w.heap.size, 1, none⟩ (.int .i64 (a : Int))).drew.heap[w.heap.size]? = some (.cells #[.int .i64 (S1 : Int), .int .i64 (a : Int)] 57 (0, 0)) := by
        show ((w5.setCell ⟨w.heap.size, 0, none⟩ (.int .i64 (S1 : Int))).setCell ⟨w.heap.size, 1, none⟩ (.int .i64 (a : Int))).heap[w.heap.size]? = _
        rw [heap_setCell_same _ _ _ _ _ _ (heap_setCell_same _ _ _ _ _ _ e0)]
        rfl
      have HF : Hid (Known L ((w5.setCell ⟨w.heap.size, 0, none⟩ (.int .i64 (S1 : Int))).setCell ⟨w.heap.size, 1, none⟩ (.int .i64 (a : Int))).drew B (n + (e - p) - 1) ∧ w.grownBy ((w5.setCell ⟨w.heap.size, 0, none⟩ (.int .i64 (S1 : Int))).setCell ⟨w.heap.size, 1, none⟩ (.int .i64 (a : Int))).drew (some B)) := ⟨(HK5.out.kept hgF (by simp; omega)).mono (by omega), hgw5.andThen hgF (fun j hj => by simp at hj; omega)⟩
      have k0 := (cell_of_block Z9 0).trans rfl
      have k1 := (cell_of_block Z9 1).trans rfl
      have KK : Hid (_ ∧ _) := ⟨k0, k1⟩
      clear k0 k1 Z9 hgF
      go_region
      obtain ⟨k0, k1⟩ := KK.out
      go_wp2
      refine bodyPost_ret (v := .tuple #[.slice ca K.length cc, roomV (S1, a)]) ?_ rfl ⟨_, rfl, HF.out.1, HF.out.2⟩
      simp [results, Tryd.results69, go_sem, roomV, k0, k1]

end Go.Proofs.YtnoajihlkjeknaaDoor
