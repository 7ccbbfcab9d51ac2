/-
  Rooms of what has a number ahead: the program's side.
-/
import Derived.Test.YtnoajihlkjeknaaDoorYRmC
import Derived.Test.YtnoajihlkjeknaaDoorQPick
namespace Go.Proofs.YtnoajihlkjeknaaDoor
open Go.ChangeShapes Go.WideShapes Go.ChangeAt Go.RowKit
open Go.Maps (Keyed IsMap)

set_option maxRecDepth 100000 in
set_option maxHeartbeats 12800000 in
theorem implPlace (L : List Nd) (hG : goodT L = true) (p e : Nat) (he : isEnd L p e) (hK0 : 0 < (kidsOf L p).length) (IHK : ∀ i (h : i < (kidsOf L p).length), OfI L (kidsOf L p)[i] (endAt (kidsOf L p) e i))
    (w : World) (B n lo hi : Nat) (v : Value) (hpa : PartsAt L lo hi w p e v) (hhi : hi ≤ w.heap.size) (hBo : B < lo ∨ hi ≤ B) (hT : Hid (Tabs w)) (hBT : B ≠ 0) (hKn : Hid (Known L w B n)) (hn : n + (e - p) ≤ 1000) :
    Calls Tryd.prog 71 #[.map (some B), v] w fun r w' => ∃ pl, r = .returned (.tuple #[pl, roomV (varE (varF L L.length (kidsOf L p)))]) ∧ Known L w' B (n + (e - p) - 1) ∧ w.grownBy w' (some B) := by
  have hU := ups_good hG
  obtain ⟨i0, hi0, hz0, hz1, hz2⟩ := info_parts Tryd.infoY
  have hBl := hKn.out.lt
  have HKP : Hid (∀ i (h : i < (kidsOf L p).length), ((rm L L.length (kidsOf L p)[i]).1 ≤ 640 ∧ 1 ≤ (rm L L.length (kidsOf L p)[i]).2 ∧ (rm L L.length (kidsOf L p)[i]).2 ≤ 8) ∧ p < (kidsOf L p)[i] ∧ (kidsOf L p)[i] < endAt (kidsOf L p) e i ∧ endAt (kidsOf L p) e i ≤ e) := fun i h =>
    ⟨(rm_kids hU L.length he).1 _ (List.getElem_mem h), (kids_mem (List.getElem_mem h)).1, (parts_end hU he i h).1, end_le hU he i h⟩
  have HB : Hid (∀ m, (varF L L.length ((kidsOf L p).take m)).1 ≤ 640 ∧ 1 ≤ (varF L L.length ((kidsOf L p).take m)).2 ∧ (varF L L.length ((kidsOf L p).take m)).2 ≤ 8) := fun m => varF_le (rm L L.length) 640 _ (0, 1) (by simp) (by simp) (by simp) (fun c hc => (rm_kids hU L.length he).1 c (List.mem_of_mem_take hc))
  have hKL : (kidsOf L p).length ≤ 40 := Nat.le_trans (kids_le L p) hU.2.1
  have hpe := he.1
  obtain ⟨pa, pc, rfl, hpa⟩ := hpa
  have HPA : Hid (∀ i (h : i < (kidsOf L p).length), ∃ g gi ci, pa = some ⟨g, 0, none⟩ ∧ g < w.heap.size ∧ g ≠ B ∧ gi < w.heap.size ∧ gi ≠ B ∧ w.cell? ⟨g, i, none⟩ = some (.slice (some ⟨gi, 0, none⟩) (segL L (kidsOf L p)[i] (endAt (kidsOf L p) e i)).length ci) ∧ ndAt w gi 0 (segL L (kidsOf L p)[i] (endAt (kidsOf L p) e i))) := by
    intro i h
    obtain ⟨g, gi, ci, x1, x2, x3, x4, x5, x6, x7⟩ := hpa i h
    exact ⟨g, gi, ci, x1, by omega, by omega, by omega, by omega, x6, x7⟩
  have IH : Hid (∀ i (h : i < (kidsOf L p).length), OfI L (kidsOf L p)[i] (endAt (kidsOf L p) e i)) := IHK
  obtain ⟨⟨S1, S2⟩, hR⟩ : ∃ R, varE (varF L L.length (kidsOf L p)) = R := ⟨_, rfl⟩
  have HR : Hid (varE (varF L L.length (kidsOf L p)) = (S1, S2)) := hR
  rw [hR]
  have h0K := (kids_mem (List.getElem_mem hK0)).1
  have hst : n + (e - (kidsOf L p).getD 0 e) ≤ n + (e - p) - 1 := by
    rw [List.getD_eq_getElem?_getD, List.getElem?_eq_getElem hK0, Option.getD_some]; omega
  obtain ⟨K, hK⟩ : ∃ K, kidsOf L p = K := ⟨_, rfl⟩
  rw [hK] at IH HPA HKP HB HR hst hKL ⊢
  clear hpa hK IHK hR hK0 h0K hBo hhi
  have ha0 := fun o1 o2 => ((Below.refl w.heap.size w).alloc (Nat.le_refl _) o1).alloc (by simp) o2
  have hq0 : ∀ o1 o2, ((w.alloc o1).alloc o2).heap[w.heap.size]? = (w.alloc o1).heap[w.heap.size]? := fun o1 o2 => Below.heap_alloc _ _ _ (by simp)
  have HA0 : Hid (∀ o1 o2, (∀ row, w.grownBy ((w.alloc o1).alloc o2) row) ∧ ((w.alloc o1).alloc o2).heap.size = w.heap.size + 2) := fun o1 o2 => ⟨fun row => grown_below (ha0 o1 o2) (Nat.le_refl _) row, by simp⟩
  clear ha0 hq0
  go_enter Tryd.func71, Tryd.ntmps71
  go_wp2
  go_loopw [14] (fun i wr => ∃ (m s a nn : Nat), m ≤ K.length ∧ i = .int .i64 (m : Int) ∧ Hid (varF L L.length (K.take m) = (s, a)) ∧ wr.heap[w.heap.size]? = some (.cells #[.int .i64 0, .int .i64 0] 57 (0, 0)) ∧ wr.heap[w.heap.size + 1]? = some (.cells #[.int .i64 (s : Int), .int .i64 (a : Int)] 57 (0, 0)) ∧
    Hid (Known L wr B nn) ∧ nn + (e - K.getD m e) ≤ n + (e - p) - 1 ∧ w.grownBy wr (some B)) (fun i _ => K.length - (intOf i).toNat)
  case atStart =>
    refine ⟨0, 0, 1, n, by omega, rfl, rfl, ?_, ?_, hKn.out.kept ((HA0.out _ _).1 none) ?_, hst, (HA0.out _ _).1 _⟩
    · first | (rw [Below.heap_alloc _ _ _ (by simp)]; exact heap_alloc_new _ _) | exact (Below.heap_alloc _ _ _ (by simp)).trans (heap_alloc_new _ _)
    · have e9 : ∀ o, w.heap.size + 1 = (w.alloc o).heap.size := fun o => by simp
      first | (rw [e9 (.cells #[.int .i64 0, .int .i64 0] 57)]; exact heap_alloc_new _ _)
    · simp
  case round =>
    obtain ⟨m, s, a, nn, hm, rfl, HS, hc0, hc1, hkw, hnn, hgw⟩ := hrel
    have hsz := hgw.size
    have hl1 := lt_of_block hc1
    have hb3 := HB.out m
    rw [HS.out] at hb3
    obtain ⟨b1, b2, b3⟩ := hb3
    simp only at b1 b2 b3
    by_cases hlt : m < K.length
    · obtain ⟨ga, gi, ci, rfl, y1, y2, y3, y4, y5, y6⟩ := HPA.out m hlt
      obtain ⟨q2, q8, q3, q4⟩ := HKP.out m hlt
      have hgd : K.getD m e = K[m] := by rw [List.getD_eq_getElem?_getD, List.getElem?_eq_getElem hlt, Option.getD_some]
      have hge : K.getD (m + 1) e = endAt K e m := rfl
      rw [hgd] at hnn
      have HC := IH.out m hlt wr gi 0 ci B nn (by omega) y4 (nd_grown y6 hgw y3 (by simpa using y4)) (tabs_grown hT.out hgw (by simpa using Ne.symm hBT)) hBT hkw (by omega)
      have HS2 := varF_succ L L.length hlt
      rw [HS.out] at HS2
      have d0 : wr.cell? ⟨ga, m, none⟩ = some (.slice (some ⟨gi, 0, none⟩) (segL L K[m] (endAt K e m)).length ci) := (cell_heap (hgw.block ga y1 (by simpa using y2)) _).trans y5
      obtain ⟨⟨n1, a1⟩, hD⟩ : ∃ D, rm L L.length K[m] = D := ⟨_, rfl⟩
      rw [hD] at HC HS2 q2
      simp only [varS] at HS2 q2
      obtain ⟨q5, q6, q7⟩ := q2
      have hnn2 : nn + (endAt K e m - K[m]) + (e - K.getD (m + 1) e) ≤ n + (e - p) - 1 := by rw [hge]; omega
      obtain ⟨n2, hn2⟩ : ∃ x, nn + (endAt K e m - K[m]) = x := ⟨_, rfl⟩
      rw [hn2] at HC hnn2
      obtain ⟨ql, hql⟩ : ∃ x, (segL L K[m] (endAt K e m)).length = x := ⟨_, rfl⟩
      rw [hql] at HC d0
      have HC' : Hid (Calls Tryd.prog 35 #[.map (some B), .slice (some ⟨gi, 0, none⟩) ql ci] wr fun r w' => r = .returned (.agg #[.int .i64 (n1 : Int), .int .i64 (a1 : Int)]) ∧ Known L w' B n2 ∧ wr.grownBy w' (some B)) := HC
      have H2 : Hid (varF L L.length (K.take (m + 1)) = (max s n1, max a a1)) := HS2
      clear HC hD hn2 hql q3 q4 q8 HS2 y5 y6 hgd hge
      go_wp2_with fail
      refine HC'.out.mono ?_
      rintro r w2 ⟨rfl, hk2, hg2⟩
      clear HC' d0
      have c0' := (hg2.block _ (lt_of_block hc0) (by simp; omega)).trans hc0
      have c1' := (hg2.block _ hl1 (by simp; omega)).trans hc1
      have hgw2 : w.grownBy w2 (some B) := hgw.trans hg2
      have hl2 : w.heap.size + 1 < w2.heap.size := Nat.lt_of_lt_of_le hl1 hg2.size
      have HK2 : Hid (Known L w2 B n2) := hk2
      clear hg2 hk2 hkw hgw hc0 hc1
      have t0 := (cell_of_block c1' 0).trans rfl
      have t1 := (cell_of_block c1' 1).trans rfl
      have f0 := free_of_block c1' 0
      have f1 := free_of_block c1' 1
      have HE : Hid (((max s n1 : Nat) : Int) = max (s : Int) (n1 : Int) ∧ ((max a a1 : Nat) : Int) = max (a : Int) (a1 : Int)) := ⟨by omega, by omega⟩
      have HW : Hid (∀ (o : Obj) (v1 v2 : Value), w2.grownBy (((w2.setCell ⟨w.heap.size + 1, 0, none⟩ v1).setCell ⟨w.heap.size + 1, 1, none⟩ v2).alloc o) (some (w.heap.size + 1)) ∧ (((w2.setCell ⟨w.heap.size + 1, 0, none⟩ v1).setCell ⟨w.heap.size + 1, 1, none⟩ v2).alloc o).heap[w.heap.size + 1]? = some (.cells #[v1, v2] 57 (0, 0))) := fun o v1 v2 => by
        have hs : ((w2.setCell ⟨w.heap.size + 1, 0, none⟩ v1).setCell ⟨w.heap.size + 1, 1, none⟩ v2).heap.size = w2.heap.size := by simp
        refine ⟨⟨rfl, rfl, rfl, by simp, fun k hk hk2 => (Below.heap_alloc _ _ _ (by rw [hs]; exact hk)).trans ((heap_setCell_other _ _ _ _ (by simp at hk2 ⊢; omega)).trans (heap_setCell_other _ _ _ _ (by simp at hk2 ⊢; omega)))⟩, ?_⟩
        rw [Below.heap_alloc _ _ _ (by rw [hs]; exact hl2), heap_setCell_same _ _ _ _ _ _ (heap_setCell_same _ _ _ _ _ _ c1')]
        rfl
      go_wp2
      go_roundw
      case rel =>
        have hb := (HW.out (.cells #[.int .i64 (n1 : Int), .int .i64 (a1 : Int)] 57) (.int .i64 (max (s : Int) (n1 : Int))) (.int .i64 (max (a : Int) (a1 : Int))))
        refine ⟨m + 1, max s n1, max a a1, n2, by omega, by go_num, H2, (hb.1.block _ (lt_of_block c0') (by simp)).trans c0', by rw [HE.out.1, HE.out.2]; exact hb.2, HK2.out.kept hb.1 (by simp; omega), hnn2, hgw2.andThen hb.1 (fun j hj => by simp at hj; omega)⟩
      case measure => simp [intOf]; omega
    · obtain rfl : m = K.length := by omega
      rw [List.take_length] at HS
      have HU1 : Hid (∀ X : Int, X = 1 → ∀ w, Calls Tryd.prog 84 #[.int .i64 X, .int .i64 (a : Int)] w fun e w' => e = .returned (.int .i64 ((up 1 a : Nat) : Int)) ∧ w' = w) := fun X hX w => by subst hX; exact implUp 1 a (by omega) b2 b3 w
      have hul := up_le 1 a
      have hr := HR.out
      rw [HS.out] at hr
      simp only [varE, Prod.mk.injEq] at hr
      obtain ⟨hr1, rfl⟩ := hr
      obtain ⟨u, hu⟩ : ∃ u, up 1 a = u := ⟨_, rfl⟩
      rw [hu] at HU1 hul hr1
      have HU2 : Hid (∀ X : Int, X = ((u + s : Nat) : Int) → ∀ w, Calls Tryd.prog 84 #[.int .i64 X, .int .i64 (a : Int)] w fun e w' => e = .returned (.int .i64 ((S1 : Nat) : Int)) ∧ w' = w) := fun X hX w => by subst hX; have := implUp (u + s) a (by omega) b2 b3 w; rw [hr1] at this; exact this
      have hu9 : u ≤ 9 := by omega
      clear hr1 hu hul
      have x0 := (cell_of_block hc1 0).trans rfl
      have x1 := (cell_of_block hc1 1).trans rfl
      have y0 := (cell_of_block hc0 0).trans rfl
      have y1 := (cell_of_block hc0 1).trans rfl
      have g0 := free_of_block hc0 0
      have g1 := free_of_block hc0 1
      have hl0 := lt_of_block hc0
      have HKw : Hid (Known L wr B nn) := hkw
      have hgd : K.getD K.length e = e := by rw [List.getD_eq_getElem?_getD, List.getElem?_eq_none (by omega), Option.getD_none]
      rw [hgd] at hnn
      go_wp2_with fail
      refine (HU1.out _ (by go_num) _).mono ?_
      rintro e w1 ⟨rfl, hw⟩
      obtain rfl := hw.symm
      clear HU1
      go_wp2_with fail
      have hWX : IntKind.i64.wrap ((u : Int) + (s : Int)) = ((u + s : Nat) : Int) := by
        rw [IntKind.wrap_i64]; omega
      refine wh_begin (fun w' => w'.heap[w.heap.size + 1]? = some (.cells #[.int .i64 (s : Int), .int .i64 (a : Int)] 57 (0, 0))) (by kernel_rfl) ?_
      have hS0 : wr.drew.heap[w.heap.size + 1]? = some (.cells #[.int .i64 (s : Int), .int .i64 (a : Int)] 57 (0, 0)) := hc1
      refine wh_take 0 (some 36) (.int .i64 (u : Int)) rfl rfl (by kernel_rfl) (by kernel_rfl) (by kernel_rfl) (fun _ _ _ h => h) hS0 (by rfl) (fun w' hS => by first | rfl | (go_simp; done)) ?_
      simp only [Act.put, List.setIfInBounds_toArray, List.set_cons_zero, List.set_cons_succ]
      refine wh_take 2 (some 38) (.int .i64 (u : Int)) rfl rfl (by kernel_rfl) (by kernel_rfl) (by kernel_rfl) (fun _ _ _ h => h) hS0 (by rfl) (fun w' hS => by first | rfl | (go_simp; done)) ?_
      simp only [Act.put, List.setIfInBounds_toArray, List.set_cons_zero, List.set_cons_succ]
      refine wh_take 3 (some 39) (.pointer (some ⟨w.heap.size + 1, 0, none⟩)) rfl rfl (by kernel_rfl) (by kernel_rfl) (by kernel_rfl) (fun _ _ _ h => h) hS0 (by rfl) (fun w' hS => by first | rfl | (go_simp; done)) ?_
      simp only [Act.put, List.setIfInBounds_toArray, List.set_cons_zero, List.set_cons_succ]
      refine wh_take 6 (some 42) (.pointer (some ⟨w.heap.size + 1, 1, none⟩)) rfl rfl (by kernel_rfl) (by kernel_rfl) (by kernel_rfl) (fun _ _ _ h => h) hS0 (by rfl) (fun w' hS => by first | rfl | (go_simp; done)) ?_
      simp only [Act.put, List.setIfInBounds_toArray, List.set_cons_zero, List.set_cons_succ]
      refine wh_take 9 (some 45) (.pointer (some ⟨w.heap.size + 1, 1, none⟩)) rfl rfl (by kernel_rfl) (by kernel_rfl) (by kernel_rfl) (fun _ _ _ h => h) hS0 (by rfl) (fun w' hS => by first | rfl | (go_simp; done)) ?_
      simp only [Act.put, List.setIfInBounds_toArray, List.set_cons_zero, List.set_cons_succ]
      refine wh_take 4 (some 40) (.int .i64 (s : Int)) rfl rfl (by kernel_rfl) (by kernel_rfl) (by kernel_rfl) (fun _ _ _ h => h) hS0 (by rfl) (fun w' hS => by have q := (cell_of_block hS 0).trans rfl; first | rfl | (go_simp; done)) ?_
      simp only [Act.put, List.setIfInBounds_toArray, List.set_cons_zero, List.set_cons_succ]
      refine wh_take 7 (some 43) (.int .i64 (a : Int)) rfl rfl (by kernel_rfl) (by kernel_rfl) (by kernel_rfl) (fun _ _ _ h => h) hS0 (by rfl) (fun w' hS => by have q := (cell_of_block hS 1).trans rfl; first | rfl | (go_simp; done)) ?_
      simp only [Act.put, List.setIfInBounds_toArray, List.set_cons_zero, List.set_cons_succ]
      refine wh_take 10 (some 46) (.int .i64 (a : Int)) rfl rfl (by kernel_rfl) (by kernel_rfl) (by kernel_rfl) (fun _ _ _ h => h) hS0 (by rfl) (fun w' hS => by have q := (cell_of_block hS 1).trans rfl; first | rfl | (go_simp; done)) ?_
      simp only [Act.put, List.setIfInBounds_toArray, List.set_cons_zero, List.set_cons_succ]
      refine wh_take 5 (some 41) (.int .i64 (IntKind.i64.wrap ((u : Int) + (s : Int)))) rfl rfl (by kernel_rfl) (by kernel_rfl) (by kernel_rfl) (fun _ _ _ h => h) hS0 (by rfl) (fun w' hS => by first | rfl | (go_simp; done)) ?_
      simp only [Act.put, List.setIfInBounds_toArray, List.set_cons_zero, List.set_cons_succ]
      have HU3 := HU2.out _ rfl
      have hS1 : (wr.drew.alloc (.cells #[.int .i64 (u : Int)] 3)).heap[w.heap.size + 1]? = some (.cells #[.int .i64 (s : Int), .int .i64 (a : Int)] 57 (0, 0)) := (Below.heap_alloc _ _ _ (by simpa using hl1)).trans hc1
      have e0 : (wr.drew.alloc (.cells #[.int .i64 (u : Int)] 3)).heap[w.heap.size]? = some (.cells #[.int .i64 0, .int .i64 0] 57 (0, 0)) := (Below.heap_alloc _ _ _ (by simpa using hl0)).trans hc0
      have hgA : wr.grownBy (wr.drew.alloc (.cells #[.int .i64 (u : Int)] 3)) none := ⟨rfl, rfl, rfl, by simp, fun k hk _ => Below.heap_alloc _ _ _ hk⟩
      have HKA : Hid (Known L (wr.drew.alloc (.cells #[.int .i64 (u : Int)] 3)) B nn) := HKw.out.kept hgA (by simp)
      have hgwA : w.grownBy (wr.drew.alloc (.cells #[.int .i64 (u : Int)] 3)) (some B) := hgw.andThen hgA (fun j hj => by simp at hj)
      have hzs : (wr.drew.alloc (.cells #[.int .i64 (u : Int)] 3)) = (wr.drew.alloc (.cells #[.int .i64 (u : Int)] 3)) := rfl
      have HEND : Hid (∀ V : World, V.heap[w.heap.size]? = some (.cells #[.int .i64 0, .int .i64 0] 57 (0, 0)) → Known L V B nn → w.grownBy V (some B) → V.heap[w.heap.size + 1]? = some (.cells #[.int .i64 (s : Int), .int .i64 (a : Int)] 57 (0, 0)) →
          ((V.setCell ⟨w.heap.size, 0, none⟩ (.int .i64 (S1 : Int))).setCell ⟨w.heap.size, 1, none⟩ (.int .i64 (a : Int))).heap[w.heap.size]? = some (.cells #[.int .i64 (S1 : Int), .int .i64 (a : Int)] 57 (0, 0)) ∧
          Known L ((V.setCell ⟨w.heap.size, 0, none⟩ (.int .i64 (S1 : Int))).setCell ⟨w.heap.size, 1, none⟩ (.int .i64 (a : Int))) B (n + (e - p) - 1) ∧ w.grownBy ((V.setCell ⟨w.heap.size, 0, none⟩ (.int .i64 (S1 : Int))).setCell ⟨w.heap.size, 1, none⟩ (.int .i64 (a : Int))) (some B) ∧
          ((V.setCell ⟨w.heap.size, 0, none⟩ (.int .i64 (S1 : Int))).setCell ⟨w.heap.size, 1, none⟩ (.int .i64 (a : Int))).heap[w.heap.size + 1]? = some (.cells #[.int .i64 (s : Int), .int .i64 (a : Int)] 57 (0, 0))) := by
        intro V v0 v1 v2 v3
        have hgF : V.grownBy ((V.setCell ⟨w.heap.size, 0, none⟩ (.int .i64 (S1 : Int))).setCell ⟨w.heap.size, 1, none⟩ (.int .i64 (a : Int))) (some w.heap.size) := ⟨rfl, rfl, rfl, by simp, fun k _ hk => (heap_setCell_other _ _ _ _ (by simp at hk ⊢; omega)).trans (heap_setCell_other _ _ _ _ (by simp at hk ⊢; omega))⟩
        refine ⟨?_, (v1.kept hgF (by simp; omega)).mono (by omega), v2.andThen hgF (fun j hj => by simp at hj; omega), (hgF.block _ (lt_of_block v3) (by simp)).trans v3⟩
        rw [heap_setCell_same _ _ _ _ _ _ (heap_setCell_same _ _ _ _ _ _ v0)]
        rfl
      obtain ⟨V, hV⟩ : ∃ V, wr.drew.alloc (.cells #[.int .i64 (u : Int)] 3) = V := ⟨_, rfl⟩
      rw [hV] at hS1 e0 HKA hgwA
      obtain ⟨z9, hz9⟩ : ∃ z, wr.drew.heap.size = z := ⟨_, rfl⟩
      obtain ⟨E1, E2, E3, E4⟩ := HEND.out V e0 HKA.out hgwA hS1
      have q0 : V.cell? ⟨w.heap.size, 0, none⟩ = some (.int .i64 0) := (cell_of_block e0 0).trans rfl
      have q1 : V.cell? ⟨w.heap.size, 1, none⟩ = some (.int .i64 0) := (cell_of_block e0 1).trans rfl
      have k0 := free_of_block e0 0
      have k1 := free_of_block e0 1
      have HE2 : Hid (Known L ((V.setCell ⟨w.heap.size, 0, none⟩ (.int .i64 (S1 : Int))).setCell ⟨w.heap.size, 1, none⟩ (.int .i64 (a : Int))) B (n + (e - p) - 1) ∧ w.grownBy ((V.setCell ⟨w.heap.size, 0, none⟩ (.int .i64 (S1 : Int))).setCell ⟨w.heap.size, 1, none⟩ (.int .i64 (a : Int))) (some B)) := ⟨E2, E3⟩
      clear HEND E2 E3 hgA HKA hgwA hzs hkw HKw hgw x0 x1 y0 y1 g0 g1
      have hrunA : ∀ (x : World), x = wr.drew → x.alloc (.cells #[.int .i64 (u : Int)] 3) = V := fun x hx => by rw [hx]; exact hV
      refine wh_two 1 8 (by kernel_rfl) ?_ ?_
      · refine wo_val (some 37) (.slice (some ⟨z9, 0, none⟩) 1 1) V rfl rfl (by rfl) (by rw [← hV, ← hz9]; go_simp) hS1 ?_
        simp only [Act.put, List.setIfInBounds_toArray, List.set_cons_zero, List.set_cons_succ]
        refine wh_call 8 (some 44) 84 #[.int .i64 (IntKind.i64.wrap ((u : Int) + (s : Int))), .int .i64 (a : Int)] (by kernel_rfl) rfl rfl (by rfl) (by kernel_rfl) ?_
        rw [hWX]
        refine (HU3 V).mono ?_
        rintro e9 w1 ⟨rfl, hw⟩
        obtain rfl := hw.symm
        refine ⟨_, rfl, hS1, ?_⟩
        simp only [Act.put, List.setIfInBounds_toArray, List.set_cons_zero, List.set_cons_succ]
        refine wh_take 11 (some 47) (.agg #[.int .i64 (S1 : Int), .int .i64 (a : Int)]) rfl rfl (by kernel_rfl) (by kernel_rfl) (by kernel_rfl) (fun _ _ _ h => h) hS1 (by rfl) (fun w' hS => by first | rfl | (go_simp; done)) ?_
        simp only [Act.put, List.setIfInBounds_toArray, List.set_cons_zero, List.set_cons_succ]
        refine wh_take 12 (some 4) (.slice (some ⟨z9, 0, none⟩) 1 1) rfl rfl (by kernel_rfl) (by kernel_rfl) (by kernel_rfl) (fun _ _ _ h => h) hS1 (by rfl) (fun w' hS => by first | rfl | (go_simp; done)) ?_
        simp only [Act.put, List.setIfInBounds_toArray, List.set_cons_zero, List.set_cons_succ]
        refine wh_skip 13 none ((V.setCell ⟨w.heap.size, 0, none⟩ (.int .i64 (S1 : Int))).setCell ⟨w.heap.size, 1, none⟩ (.int .i64 (a : Int))) (by kernel_rfl) rfl rfl (by rfl) (by go_simp) E4 ?_
        simp only [Act.put]
        refine wh_done (by kernel_rfl) ?_
        generalize (V.setCell ⟨w.heap.size, 0, none⟩ (.int .i64 (S1 : Int))).setCell ⟨w.heap.size, 1, none⟩ (.int .i64 (a : Int)) = G at E1 HE2 ⊢
        have g0 : G.cell? ⟨w.heap.size, 0, none⟩ = some (.int .i64 (S1 : Int)) := (cell_of_block E1 0).trans rfl
        have g1 : G.cell? ⟨w.heap.size, 1, none⟩ = some (.int .i64 (a : Int)) := (cell_of_block E1 1).trans rfl
        clear E1 E4 q0 q1 k0 k1 e0 hS1
        go_wp2
        refine bodyPost_ret (v := .tuple #[.slice (some ⟨z9, 0, none⟩) 1 1, roomV (S1, a)]) ?_ rfl (by first | exact ⟨_, rfl, HE2.out.1, HE2.out.2⟩ | exact ⟨⟨_, rfl⟩, HE2.out.1, HE2.out.2⟩)
        simp [results, Tryd.results71, go_sem, roomV, g0, g1]
      · refine wo_call (some 44) 84 #[.int .i64 (IntKind.i64.wrap ((u : Int) + (s : Int))), .int .i64 (a : Int)] rfl rfl (by rfl) (by kernel_rfl) ?_
        rw [hWX]
        refine (HU3 wr.drew).mono ?_
        rintro e9 w1 ⟨rfl, hw⟩
        rw [hw]
        refine ⟨_, rfl, hS0, ?_⟩
        simp only [Act.put, List.setIfInBounds_toArray, List.set_cons_zero, List.set_cons_succ]
        refine wh_take 11 (some 47) (.agg #[.int .i64 (S1 : Int), .int .i64 (a : Int)]) rfl rfl (by kernel_rfl) (by kernel_rfl) (by kernel_rfl) (fun _ _ _ h => h) hS0 (by rfl) (fun w' hS => by first | rfl | (go_simp; done)) ?_
        simp only [Act.put, List.setIfInBounds_toArray, List.set_cons_zero, List.set_cons_succ]
        refine wh_val 1 (some 37) (.slice (some ⟨z9, 0, none⟩) 1 1) V (by kernel_rfl) rfl rfl (by rfl) (by rw [← hV, ← hz9]; go_simp) hS1 ?_
        simp only [Act.put, List.setIfInBounds_toArray, List.set_cons_zero, List.set_cons_succ]
        refine wh_take 12 (some 4) (.slice (some ⟨z9, 0, none⟩) 1 1) rfl rfl (by kernel_rfl) (by kernel_rfl) (by kernel_rfl) (fun _ _ _ h => h) hS1 (by rfl) (fun w' hS => by first | rfl | (go_simp; done)) ?_
        simp only [Act.put, List.setIfInBounds_toArray, List.set_cons_zero, List.set_cons_succ]
        refine wh_skip 13 none ((V.setCell ⟨w.heap.size, 0, none⟩ (.int .i64 (S1 : Int))).setCell ⟨w.heap.size, 1, none⟩ (.int .i64 (a : Int))) (by kernel_rfl) rfl rfl (by rfl) (by go_simp) E4 ?_
        simp only [Act.put]
        refine wh_done (by kernel_rfl) ?_
        generalize (V.setCell ⟨w.heap.size, 0, none⟩ (.int .i64 (S1 : Int))).setCell ⟨w.heap.size, 1, none⟩ (.int .i64 (a : Int)) = G at E1 HE2 ⊢
        have g0 : G.cell? ⟨w.heap.size, 0, none⟩ = some (.int .i64 (S1 : Int)) := (cell_of_block E1 0).trans rfl
        have g1 : G.cell? ⟨w.heap.size, 1, none⟩ = some (.int .i64 (a : Int)) := (cell_of_block E1 1).trans rfl
        clear E1 E4 q0 q1 k0 k1 e0 hS1
        go_wp2
        refine bodyPost_ret (v := .tuple #[.slice (some ⟨z9, 0, none⟩) 1 1, roomV (S1, a)]) ?_ rfl (by first | exact ⟨_, rfl, HE2.out.1, HE2.out.2⟩ | exact ⟨⟨_, rfl⟩, HE2.out.1, HE2.out.2⟩)
        simp [results, Tryd.results71, go_sem, roomV, g0, g1]

end Go.Proofs.YtnoajihlkjeknaaDoor
