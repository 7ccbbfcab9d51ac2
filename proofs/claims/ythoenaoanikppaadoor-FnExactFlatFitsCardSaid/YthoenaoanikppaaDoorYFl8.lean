/-
  The core types of what has a number ahead: the specification's side.
-/
import Derived.Test.YthoenaoanikppaaDoorYFl7
namespace Go.Proofs.YthoenaoanikppaaDoor
open Go.ChangeShapes Go.WideShapes Go.ChangeAt Go.RowKit

theorem cases_len (L : List Nd) (k : Nat) : (casesOf L k).length ≤ (kidsOf L k).length + 1 := by unfold casesOf; split <;> simp
theorem cases_mem {L : List Nd} {k c : Nat} (h : some c ∈ casesOf L k) : c ∈ kidsOf L k := by
  unfold casesOf at h
  split at h <;> simpa using h
theorem iy_cons_set (l : List Int) (m : Nat) (x : Int) : (iy (127 :: l)).set (m + 1) (.int .i64 x) = iy (127 :: l.set m x) := by simp [iy, List.map_set]

set_option maxRecDepth 100000 in
set_option maxHeartbeats 12800000 in
theorem specCore_var (L : List Nd) (hG : goodT L = true) (f k e : Nat) (hke : isEnd L k e) (hkf : L.length - k ≤ f + 1) (hx : kdAt L k = 15 ∨ kdAt L k = 17 ∨ kdAt L k = 18) (h1 : kdAt L k = 17 → (kidsOf L k).length = 1) (ih : ∀ c, c < L.length → L.length - c ≤ f → CoreTold L f c) : CoreTold L (f + 1) k := by
  intro w lo hi sl htr hhi
  have hU := ups_good hG
  have hkl : k < L.length := by have h1 := hke.1; have h2 := hke.2.1; omega
  obtain ⟨i0, hi0, hz0, hz1, hz2⟩ := info_parts Tryd.infoY
  have hK0 := good_kids hG hkl (show kdAt L k = 13 ∨ kdAt L k = 14 ∨ kdAt L k = 15 ∨ kdAt L k = 17 ∨ kdAt L k = 18 by omega)
  have hF : Hid (flat L (f + 1) k = 127 :: accC L f (casesOf L k)) := by
    unfold Hid
    rw [accC_cases]
    conv => lhs; unfold flat
    rw [if_neg (by omega), if_neg (by omega), if_neg (by omega), if_neg (by omega), if_pos hx]
  have hgc : ∀ o ∈ casesOf L k, (gcase L f o).length ≤ 80 := fun o ho => by
    cases o with
    | none => simp [gcase]
    | some c => exact kid_flat_len hU f hke c (cases_mem ho)
  have HGC : Hid (∀ i (h : i < (casesOf L k).length), (gcase L f (casesOf L k)[i]).length ≤ 80 ∧ ∀ c, (casesOf L k)[i] = some c → c < L.length ∧ L.length - c ≤ f) := fun i h => by
    refine ⟨hgc _ (List.getElem_mem h), fun c hc => ?_⟩
    have hm := kids_mem (cases_mem (show some c ∈ casesOf L k by rw [← hc]; exact List.getElem_mem h))
    omega
  have HAC : Hid (∀ m, (accC L f ((casesOf L k).take m)).length ≤ 80) := fun m => accC_len f 80 _ (fun o ho => hgc o (List.mem_of_mem_take ho))
  have hCL : (casesOf L k).length ≤ 41 := by have := cases_len L k; have := Nat.le_trans (kids_le L k) hU.2.1; omega
  have IH : Hid (∀ c, c < L.length → L.length - c ≤ f → CoreTold L f c) := ih
  rw [hF.out]
  have HCS := fun o1 o2 => specCases L f k ((w.alloc o1).alloc o2) lo hi sl (htr.below (((Below.refl w.heap.size w).alloc (Nat.le_refl _) o1).alloc (by simp) o2) hhi) (by simp; omega) hK0 h1
  obtain ⟨sa0, sc0, rfl, _⟩ := htr
  obtain ⟨R, hR⟩ : ∃ R, 127 :: accC L f (casesOf L k) = R := ⟨_, rfl⟩
  have HR : Hid (127 :: accC L f (casesOf L k) = R) := hR
  rw [hR]
  obtain ⟨cs, hcs⟩ : ∃ cs, casesOf L k = cs := ⟨_, rfl⟩
  obtain ⟨kn, hkn⟩ : ∃ kn, (kidsOf L k).length = kn := ⟨_, rfl⟩
  rw [hcs] at HR HAC HGC HCS hCL
  rw [hkn] at HCS ⊢
  obtain ⟨x, hxe⟩ : ∃ x, kdAt L k = x := ⟨_, rfl⟩
  obtain ⟨y, hye⟩ : ∃ y, nAt L k = y := ⟨_, rfl⟩
  rw [hxe] at hx HCS ⊢
  rw [hye] at HCS ⊢
  have HC0 : Hid (∀ o1 o2, Calls Tryd.prog 23 #[.agg #[.int .i64 x, .int .i64 y, .slice sa0 kn sc0]] ((w.alloc o1).alloc o2) fun e w' => ∃ G cap, e = .returned (.slice (some ⟨G, 0, none⟩) cs.length cap) ∧ (G < hi ∨ ((w.alloc o1).alloc o2).heap.size ≤ G) ∧ G < w'.heap.size ∧ (∀ j (h : j < cs.length), EntAt L lo hi f w' G j cs[j]) ∧ Below ((w.alloc o1).alloc o2).heap.size ((w.alloc o1).alloc o2) w') := HCS
  clear HCS hcs hkn hR hF hgc ih hxe hye h1 hK0
  have hwa := fun o1 o2 => ((Below.refl w.heap.size w).alloc (Nat.le_refl _) o1).alloc (by simp) o2
  rcases hx with rfl | rfl | rfl
  all_goals
    go_enter Tryd.func19, Tryd.ntmps19
    go_wp2_with fail
    refine (HC0.out _ _).mono ?_
    rintro r1 w2 ⟨G, gcap, rfl, hG1, hG2, hE, hb2⟩
    clear HC0
    have hbw2 : Below w.heap.size w w2 := below2 (hwa _ _) hb2
    have hrow0 : w2.ownsRow (w.heap.size + 1) 3 1 (.slice (some ⟨w.heap.size + 1, 0, none⟩) 1 1) 1 (iy [127]) := own_keep (own_lit (w.alloc _) (w.heap.size + 1) (w.heap.size + 1) [127] (by simp) (Nat.le_refl _) (by simp)) fun g hg => by
      simp [Value.ownBlock] at hg
      subst hg
      exact hb2.block _ (by simp)
    have HE : Hid (∀ j (h : j < cs.length), EntAt L lo hi f w2 G j cs[j]) := hE
    have hG3 : G ≠ w.heap.size + 1 := by
      simp at hG1
      omega
    have HG1 : Hid (G < hi ∨ w.heap.size + 1 < G) := by
      simp at hG1
      unfold Hid
      omega
    clear hE hG1 hb2
    go_wp2
    go_loopw [6, 49] (fun v i wr => ∃ m : Nat, m ≤ cs.length ∧ i = .int .i64 (m : Int) ∧ wr.ownsRow (w.heap.size + 1) 3 1 v ((accC L f (cs.take m)).length + 1) (iy (127 :: accC L f (cs.take m))) ∧ Hid (∀ g, v.ownBlock = some g → g ≠ G) ∧ wr.heap[G]? = w2.heap[G]? ∧ G < wr.heap.size ∧ Below w.heap.size w wr) (fun _ i _ => cs.length - (intOf i).toNat)
    case atStart => exact ⟨0, by omega, rfl, hrow0, fun g hg => by simp [Value.ownBlock] at hg; omega, rfl, hG2, hbw2⟩
    case round =>
      clear hrow0
      obtain ⟨m, hm, rfl, hrow, hap, hGG, hGl, hnx⟩ := hrel
      have hsz := hnx.size
      by_cases hlt : m < cs.length
      · obtain ⟨kx, ny, sa, sn, sc, d0, d1, d2, hent⟩ := ((HE.out m hlt).keep hGG (fun g _ hg => (hnx.block g (by omega)).trans (hbw2.block g (by omega)).symm)).shape
        obtain ⟨q1, q2⟩ := HGC.out m hlt
        have HCC : Hid (∀ o, Calls Tryd.prog 19 #[.agg #[.int .i64 kx, .int .i64 ny, .slice sa sn sc]] (wr.alloc o) fun r w' => ∃ v, r = .returned v ∧ w'.ownsRow (wr.alloc o).heap.size 3 1 v (gcase L f cs[m]).length (iy (gcase L f cs[m])) ∧ Below (wr.alloc o).heap.size (wr.alloc o) w') := fun o => by
          rcases hent with ⟨e1, e2, e3, e4⟩ | ⟨c, e1, e2, e3, e4⟩
          · rw [e1, e2, e3, e4]
            exact specCore_none _
          · rw [e1, e2, e3]
            obtain ⟨r1, r2⟩ := q2 c e1
            exact IH.out c r1 r2 (wr.alloc o) lo hi (.slice sa sn sc) (e4.below ((Below.refl wr.heap.size wr).alloc (Nat.le_refl _) o) (by omega)) (by simp; omega)
        have HS : Hid (accC L f (cs.take (m + 1)) = joinR (accC L f (cs.take m)) (gcase L f cs[m])) := accC_succ L f hlt
        have hA80 := HAC.out m
        obtain ⟨D, hD⟩ : ∃ D, gcase L f cs[m] = D := ⟨_, rfl⟩
        rw [hD] at HCC HS q1
        obtain ⟨A, hA⟩ : ∃ A, accC L f (cs.take m) = A := ⟨_, rfl⟩
        rw [hA] at hrow HS hA80
        have hwn := fun o => hnx.alloc hsz o
        clear hD hA q2 hent
        go_wp2_with fail
        refine (HCC.out _).mono ?_
        rintro r2 w3 ⟨v2, rfl, hown2, hb3⟩
        clear HCC
        have hbb3 : Below wr.heap.size wr w3 := below2 ((Below.refl wr.heap.size wr).alloc (Nat.le_refl _) _) hb3
        have hrow3 : w3.ownsRow (w.heap.size + 1) 3 1 _ (A.length + 1) (iy (127 :: A)) := own_keep hrow fun k hk => by
          obtain ⟨cu, hcu, _⟩ := own_at hrow hk
          exact hbb3.block k (lt_of_block hcu)
        have hnx3 : Below w.heap.size w w3 := below2 hnx hbb3
        have hG3' : w3.heap[G]? = w2.heap[G]? := (hbb3.block G hGl).trans hGG
        obtain ⟨da, dc, rfl⟩ := ownsRow_shape hown2
        have hws : w.heap.size + 1 ≤ wr.heap.size := by
          obtain ⟨g, c, e, _⟩ := own_pos hrow (by omega)
          obtain ⟨cu, hcu, h2⟩ := own_at hrow (g := g) (by rw [e]; rfl)
          have := lt_of_block hcu
          omega
        have HAP : Hid (∀ g, u6.ownBlock = some g → g ≠ G ∧ (Value.slice da D.length dc).ownBlock ≠ some g) := fun g hg => by
          refine ⟨hap.out g hg, fun e => ?_⟩
          obtain ⟨cu, hcu, _⟩ := own_at hrow hg
          have h1 := lt_of_block hcu
          have h2 := ownsRow_block hown2 g e
          simp at h2
          omega
        have HD3 : Hid (w3.ownsRow (w.heap.size + 1) 3 1 (.slice da D.length dc) D.length (iy D)) := own_base hown2 (by simp; omega)
        obtain ⟨nD, hnD⟩ : ∃ n, D.length = n := ⟨_, rfl⟩
        rw [hnD] at HAP HD3 q1 ⊢
        have HND : Hid (D.length = nD) := hnD
        have hGl3 : G < w3.heap.size := Nat.lt_of_lt_of_le hGl hbb3.size
        clear hown2 hb3 hbb3 hrow hap hnx hGG hGl hsz d0 d1 d2 hwn hnD
        go_wp2
        go_loopw [6, 56] (fun v j wx => ∃ jj : Nat, jj ≤ nD ∧ j = .int .i64 (jj : Int) ∧ wx.ownsRow (w.heap.size + 1) 3 1 v ((jn A D jj).length + 1) (iy (127 :: jn A D jj)) ∧ Hid (∀ g, v.ownBlock = some g → g ≠ G ∧ (Value.slice da nD dc).ownBlock ≠ some g) ∧ Hid (wx.ownsRow (w.heap.size + 1) 3 1 (.slice da nD dc) nD (iy D)) ∧ wx.heap[G]? = w2.heap[G]? ∧ G < wx.heap.size ∧ Below w.heap.size w wx) (fun _ j _ => nD - (intOf j).toNat)
        case atStart => exact ⟨0, by omega, rfl, by rw [jn_zero]; exact hrow3, HAP, HD3, hG3', hGl3, hnx3⟩
        case round =>
          clear hrow3 HAP HD3 hG3' hGl3 hnx3 hws
          obtain ⟨jj, hjj, rfl, hrow, hap, hD, hGG, hGl, hnx⟩ := hrel
          have hsz := hnx.size
          have hjl := jn_len (A := A) (D := D) (j := jj) (by rw [HND.out]; exact hjj)
          obtain ⟨go, gc, rfl, _⟩ := own_pos hrow (by omega)
          obtain ⟨cu, hcu, hgob⟩ := own_at hrow (g := go) rfl
          have hgol := lt_of_block hcu
          obtain ⟨hgoG, hgoD⟩ := hap.out go rfl
          obtain ⟨nj, hnj⟩ : ∃ n, (jn A D jj).length = n := ⟨_, rfl⟩
          rw [hnj] at hrow hjl hap
          have hjl1 : A.length ≤ nj := by omega
          have hjl2 : jj ≤ nj := by omega
          have hjl3 : nj ≤ A.length ∨ nj ≤ jj := by omega
          clear hjl
          have HNJ : Hid ((jn A D jj).length = nj) := hnj
          rw [hnj]
          clear hnj
          by_cases hlj : jj < nD
          · have hjD : jj < D.length := by rw [HND.out]; exact hlj
            obtain ⟨gd, dc', ed, _⟩ := own_pos hD.out (by omega)
            simp at ed
            obtain ⟨rfl, rfl⟩ := ed
            have d0 : wr.cell? ⟨gd, jj, none⟩ = some (.int .i64 D[jj]) := (hD.out.cellAt jj (by omega)).trans (by simp [iy, hjD])
            obtain ⟨dm, hdm⟩ : ∃ x, D[jj] = x := ⟨_, rfl⟩
            rw [hdm] at d0
            by_cases hjA : jj < A.length
            · have hlt2 : (jj : Int) + 1 < (nj : Int) + 1 := by omega
              have d1 : wr.cell? ⟨go, jj + 1, none⟩ = some (.int .i64 A[jj]) := (hrow.cellAt (jj + 1) (by omega)).trans (by
                have := jn_get hjA hjD
                simp [iy, this])
              obtain ⟨am, ham⟩ : ∃ x, A[jj] = x := ⟨_, rfl⟩
              rw [ham] at d1
              have f1 := free_of_block hcu (jj + 1)
              have HJ : Hid (iy (127 :: (jn A D jj).set jj (joinT am dm)) = iy (127 :: jn A D (jj + 1))) := by
                unfold Hid; rw [← ham, ← hdm, jn_set hjA hjD]
              have HJL : Hid ((jn A D (jj + 1)).length = nj) := by
                unfold Hid; rw [jn_len (by omega)]; omega
              have H := specJoinT am dm
              obtain ⟨jm, hjm⟩ : ∃ x, joinT am dm = x := ⟨_, rfl⟩
              rw [hjm] at H HJ
              clear hjm ham hdm
              go_wp2_with (go_at_call 24; refine (H _).mono ?_; rintro e w1 ⟨rfl, hw⟩; obtain rfl := hw.symm)
              go_roundw
              case rel =>
                refine ⟨jj + 1, by omega, by go_num, ?_, hap, ?_, ?_, by simpa using hGl, hnx.setCell (by simp; omega) _⟩
                · have := own_set hrow (jj + 1) (.int .i64 jm)
                  rw [iy_cons_set, HJ.out] at this
                  rw [HJL.out]
                  exact this
                · refine own_keep hD.out fun k hk => heap_setCell_other _ _ _ _ ?_
                  intro e2
                  simp at e2
                  subst e2
                  exact hgoD hk
                · exact (heap_setCell_other _ _ _ _ (by simpa using hgoG.symm)).trans hGG
              case measure => simp [intOf]; omega
            · have hlt2 : ¬ (jj : Int) + 1 < (nj : Int) + 1 := by omega
              have HJ : Hid (jn A D jj ++ [dm] = jn A D (jj + 1)) := by unfold Hid; rw [← hdm]; exact jn_app (by omega) hjD
              have HJL : Hid ((jn A D (jj + 1)).length = nj + 1) := by
                unfold Hid; rw [jn_len (by omega)]; omega
              clear hdm
              go_wp2_with (at_builtin; refine wpList_append_own_at _ rfl _ _ 40 rfl (w.heap.size + 1) 3 i0 (.int .i64 0) 1 8 Tryd.underlying40 hi0 hz0 hz1 hz2 rfl (by decide) _ _ _ rfl (hrow.alloc _) ⟨wr.heap.size, 0, none⟩ 1 1 (iy [dm]) rfl rfl (by exact one_new _ _ _ _ rfl) (iy_one _) (by unfold maxLen; omega) (by omega) (by simp; omega) ?_)
              intro v' w5 hown5 hgrow5 _ hloc
              have hgk : ∀ g, g < wr.heap.size → g ≠ go → w5.heap[g]? = wr.heap[g]? := fun g h1 h2 => by
                rw [hgrow5.block g (by simp; omega) (fun e2 => h2 (by simpa [Value.ownBlock] using e2))]
                exact Below.heap_alloc _ _ _ h1
              have hown6 : w5.ownsRow (w.heap.size + 1) 3 1 v' ((jn A D (jj + 1)).length + 1) (iy (127 :: jn A D (jj + 1))) := by
                rw [iy_app, List.cons_append, HJ.out] at hown5
                rw [HJL.out]
                exact hown5
              have hb5 : Below w.heap.size w w5 := (hnx.alloc hsz _).grown hgrow5 (by simp; omega) (fun g hg => by simp [Value.ownBlock] at hg; omega)
              obtain ⟨cd, hcd, _⟩ := own_at hD.out (g := gd) rfl
              have hgdl := lt_of_block hcd
              have hap5 : Hid (∀ g, v'.ownBlock = some g → g ≠ G ∧ (Value.slice (some ⟨gd, 0, none⟩) nD dc).ownBlock ≠ some g) := fun g hg => by
                rcases hloc with e2 | e2
                · exact hap.out g (by rw [← e2]; exact hg)
                · rw [hg] at e2
                  simp at e2
                  refine ⟨by omega, fun e3 => ?_⟩
                  simp [Value.ownBlock] at e3
                  omega
              have hD5 : Hid (w5.ownsRow (w.heap.size + 1) 3 1 (.slice (some ⟨gd, 0, none⟩) nD dc) nD (iy D)) := own_keep hD.out fun g hg => by
                simp [Value.ownBlock] at hg
                subst hg
                exact hgk gd hgdl (fun e2 => hgoD (by rw [e2]; rfl))
              have hG5 : w5.heap[G]? = w2.heap[G]? := (hgk G hGl (fun e2 => hgoG e2.symm)).trans hGG
              have hGl5 : G < w5.heap.size := by have := hgrow5.size; simp at this; omega
              clear hgrow5 hown5 hloc hgk hrow hap hD hGG hcu hcd
              go_wp2
              go_roundw
              case rel => exact ⟨jj + 1, by omega, by go_num, hown6, hap5, hD5, hG5, hGl5, hb5⟩
              case measure => simp [intOf]; omega
          · obtain rfl : jj = nD := by omega
            have HJ : Hid (jn A D jj = accC L f (cs.take (m + 1))) := by unfold Hid; rw [← HND.out, jn_end, HS.out]
            have hrow9 : wr.ownsRow (w.heap.size + 1) 3 1 (.slice (some ⟨go, 0, none⟩) (nj + 1) gc) ((accC L f (cs.take (m + 1))).length + 1) (iy (127 :: accC L f (cs.take (m + 1)))) := by
              rw [← HJ.out, HNJ.out]; exact hrow
            have hap9 : Hid (∀ g, (Value.slice (some ⟨go, 0, none⟩) (nj + 1) gc).ownBlock = some g → g ≠ G) := fun g hg => (hap.out g hg).1
            clear hrow hap hD hcu
            go_wp2
            go_roundw
            case rel => exact ⟨m + 1, by omega, by go_num, hrow9, hap9, hGG, hGl, hnx⟩
            case measure => simp [intOf]; omega
      · obtain rfl : m = cs.length := by omega
        rw [List.take_length] at hrow
        obtain ⟨va, vc, rfl⟩ := ownsRow_shape hrow
        go_wp2
        go_ret
        refine ⟨_, rfl, ?_, hnx⟩
        rw [← HR.out, List.length_cons]
        exact own_base hrow (by omega)

theorem good_opt {L : List Nd} (h : goodT L = true) {k : Nat} (hk : k < L.length) (hx : kdAt L k = 17) : (kidsOf L k).length = 1 := by
  have := good_node h hk
  unfold nodeOk at this
  simp at this
  obtain ⟨⟨⟨⟨⟨_, _⟩, h3⟩, h4⟩, _⟩, _⟩ := this
  have e2 : (L[k]?.getD (0, 0, -1)).fst = kdAt L k := by unfold kdAt; rw [List.getD_eq_getElem?_getD]
  rw [e2, hx] at h3 h4
  simp [shp4] at h3 h4
  omega

theorem end_of {L : List Nd} (hU : ups L) {k : Nat} (hk : k < L.length) : ∃ e, isEnd L k e := by
  have key : ∀ d, k + 1 + d ≤ L.length → (∀ j, k < j → j < k + 1 + d → (k : Int) ≤ upAt L j) → ∃ e, isEnd L k e := by
    intro d
    induction hd : L.length - (k + 1 + d) generalizing d with
    | zero =>
      intro h1 h2
      exact ⟨L.length, by omega, Nat.le_refl _, fun j g1 g2 => h2 j g1 (by omega), Or.inl rfl⟩
    | succ n ih =>
      intro h1 h2
      by_cases hu : upAt L (k + 1 + d) < (k : Int)
      · exact ⟨k + 1 + d, by omega, h1, h2, Or.inr hu⟩
      · refine ih (d + 1) (by omega) (by omega) (fun j g1 g2 => ?_)
        by_cases e : j = k + 1 + d
        · subst e; omega
        · exact h2 j g1 (by omega)
  have := hU.1
  exact key 0 (by omega) (fun j g1 g2 => by omega)

theorem specCore (L : List Nd) (hG : goodT L = true) : ∀ (f k : Nat), k < L.length → L.length - k ≤ f → CoreTold L f k
  | 0, k, hk, hf => by omega
  | f + 1, k, hk, hf => by
    obtain ⟨e, he⟩ := end_of (ups_good hG) hk
    have ih := specCore L hG f
    by_cases h14 : kdAt L k = 14
    · exact specCore_rec L hG f k e he hf h14 ih
    · by_cases hv : kdAt L k = 15 ∨ kdAt L k = 17 ∨ kdAt L k = 18
      · exact specCore_var L hG f k e he hf hv (good_opt hG hk) ih
      · exact specCore_leaf L f k (good_kind hG hk) ⟨h14, fun h => hv (Or.inl h), fun h => hv (Or.inr (Or.inl h)), fun h => hv (Or.inr (Or.inr h))⟩

end Go.Proofs.YthoenaoanikppaaDoor
