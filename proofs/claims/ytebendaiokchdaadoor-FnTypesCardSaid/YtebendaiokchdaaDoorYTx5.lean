/-
  Texts of types with parts, or with nothing: the program's side.
-/
import Derived.Test.YtebendaiokchdaaDoorYTx4
namespace Go.Proofs.YtebendaiokchdaaDoor
open Go.ChangeShapes Go.WideShapes Go.ChangeAt Go.RowKit

theorem take_str_succ (g : Nat → ByteArray) {K : List Nat} {m : Nat} (h : m < K.length) : (K.take (m + 1)).map g = (K.take m).map g ++ [g K[m]] := by
  rw [List.take_succ_eq_append_getElem h, List.map_append]; rfl

set_option maxRecDepth 100000 in
set_option maxHeartbeats 12800000 in
theorem implText_kids (L : List Nd) (hG : goodT L = true) (f p e : Nat) (he : isEnd L p e) (hpf : L.length - p ≤ f + 1) (hw : withN (kdAt L p) = false) (ih : ∀ c ec, L.length - c ≤ f → isEnd L c ec → TextI L f c ec) : TextI L (f + 1) p e := by
  intro w b off cap hb hL hT hP
  have hU := ups_good hG
  have hpl : p < L.length := by have h1 := he.1; have h2 := he.2.1; omega
  obtain ⟨⟨k1, k2⟩, _, _⟩ := node_n hG hpl
  obtain ⟨xn, hxn⟩ : ∃ xn : Nat, kdAt L p = (xn : Int) := ⟨(kdAt L p).toNat, by omega⟩
  have hx22 : xn < krow.length := by have : krow.length = 22 := rfl
                                     omega
  obtain ⟨a1, a2, a3, a4, a5, a6, t0, t1, t2, t3, t4, t5, t6, _, m2⟩ := krow_cells hT hxn hx22
  have hlen := segL_len (L := L) he.1
  have hpe := he.1
  have hnl := nm_len (kdAt L p) (by omega) k2
  have c0 := (hL 0 (by omega)).1
  rw [segL_zero] at c0
  simp only [Nat.zero_mul, Nat.add_zero] at c0
  have hF : txt L (f + 1) p = nm (kdAt L p) ++ (if 0 < (kidsOf L p).length then [60] ++ Lib.join ((kidsOf L p).map (txt L f)) [44] ++ [62] else []) := by
    show nm (kdAt L p) ++ _ = _
    rw [hw]
    rfl
  rw [hF]
  have hsum := kids_sum hG f he
  have hjl := join_take_len (txt L f) (kidsOf L p) (kidsOf L p).length
  rw [List.take_length] at hjl
  have hKL : (kidsOf L p).length ≤ 40 := Nat.le_trans (kids_le L p) hU.2.1
  have HKP : Hid (∀ i (h : i < (kidsOf L p).length), TextI L f (kidsOf L p)[i] (endAt (kidsOf L p) e i)) := fun i h => by
    have hm := kids_mem (List.getElem_mem h)
    exact ih _ _ (by omega) (parts_end hU he i h)
  rw [hxn] at hw
  have ha4 := m2 hw
  subst ha4
  rw [hxn] at c0
  obtain ⟨NM, hNM⟩ : ∃ NM, nm (kdAt L p) = NM := ⟨_, rfl⟩
  rw [hNM] at t0 hnl ⊢
  have hnb : (bsY NM).size ≤ 7 := by rw [bsY_size]; exact hnl
  obtain ⟨NB, hNB⟩ : ∃ NB, bsY NM = NB := ⟨_, rfl⟩
  have HNB : Hid (bsY NM = NB) := hNB
  rw [hNB] at t0 hnb
  obtain ⟨n, hn⟩ : ∃ n, (segL L p e).length = n := ⟨_, rfl⟩
  have HPP := fun W (hbW : Below w.heap.size w W) => implParts L hU p e he b off cap W (Nat.lt_of_lt_of_le hb hbW.size) (hL.below hbW hb)
  rw [hn] at HPP
  have hn0 : (0 : Int) < n := by omega
  rw [hn]
  have hg := hT.1
  have hxi : (xn : Int) < 22 := by omega
  obtain ⟨s0, hs0, hs1, hs2, hs3⟩ := info_parts Tryd.infoStr
  have HT : Hid (Tabs w) := hT
  have HP : Hid (Pows w) := hP
  have HPP2 : Hid (∀ W, Below w.heap.size w W → Calls Tryd.prog 23 #[.slice (some ⟨b, off, none⟩) n cap] W fun r w' => ∃ v, r = .returned v ∧ PartsAt L W.heap.size w'.heap.size w' p e v ∧ Below W.heap.size W w') := HPP
  have hwa := fun o => (Below.refl w.heap.size w).alloc (Nat.le_refl _) o
  obtain ⟨R, hR⟩ : ∃ R, bsY (NM ++ (if 0 < (kidsOf L p).length then [60] ++ Lib.join ((kidsOf L p).map (txt L f)) [44] ++ [62] else [])) = R := ⟨_, rfl⟩
  have HR0 : Hid (bsY (NM ++ (if 0 < (kidsOf L p).length then [60] ++ Lib.join ((kidsOf L p).map (txt L f)) [44] ++ [62] else [])) = R) := hR
  rw [hR]
  obtain ⟨JB, hJB⟩ : ∃ JB, bsY (Lib.join ((kidsOf L p).map (txt L f)) [44]) = JB := ⟨_, rfl⟩
  have HJB : Hid (bsY (Lib.join ((kidsOf L p).map (txt L f)) [44]) = JB) := hJB
  have hjb : JB.size ≤ 800 := by rw [← hJB, bsY_size]; omega
  have z1 : (NB ++ ⟨#[60]⟩).size = NB.size + 1 := by rw [ByteArray.size_append]; rfl
  have z2 : (NB ++ ⟨#[60]⟩ ++ JB).size = NB.size + 1 + JB.size := by rw [ByteArray.size_append, z1]
  have HJL : Hid ((Lib.join ((kidsOf L p).map (txt L f)) [44]).length ≤ 800) := Nat.le_trans hjl hsum
  clear hF hL hNM hNB hxn hR hP HPP hn hlen hT hJB ih hjl hsum hpf hw m2
  go_enter Tryd.func12, Tryd.ntmps12
  go_wp2_with fail
  obtain ⟨zr, hzre⟩ : ∃ zr, w.heap.size = zr := ⟨_, rfl⟩
  obtain ⟨W0, hW0⟩ : ∃ W0, w.alloc (.cells #[.string NB, .int .i64 a1, .int .i64 a2, .int .i64 a3, .int .i64 0, .int .i64 a5, .int .i64 a6] 57) = W0 := ⟨_, rfl⟩
  have hz0 : W0.heap[zr]? = some (.cells #[.string NB, .int .i64 a1, .int .i64 a2, .int .i64 a3, .int .i64 0, .int .i64 a5, .int .i64 a6] 57 (0, 0)) := by rw [← hW0, ← hzre]; exact heap_alloc_new _ _
  have hw0 : Below w.heap.size w W0 := by rw [← hW0]; exact hwa _
  rw [hW0, hzre]
  clear hW0
  refine (HPP2.out W0 hw0).mono ?_
  rintro e2 w1 ⟨vp, rfl, hpa, hb1⟩
  clear HPP2
  obtain ⟨pa, pc, rfl, hpa⟩ := hpa
  have hz1 : w1.heap[zr]? = some (.cells #[.string NB, .int .i64 a1, .int .i64 a2, .int .i64 a3, .int .i64 0, .int .i64 a5, .int .i64 a6] 57 (0, 0)) := (hb1.block zr (lt_of_block hz0)).trans hz0
  have hw1 : Below w.heap.size w w1 := below2 hw0 hb1
  have hs := hw1.size
  have hzl := lt_of_block hz1
  obtain ⟨K, hK⟩ : ∃ K, kidsOf L p = K := ⟨_, rfl⟩
  have HPA : Hid (∀ i (h : i < K.length), ∃ g gi ci, pa = some ⟨g, 0, none⟩ ∧ g < w1.heap.size ∧ gi < w1.heap.size ∧ w1.cell? ⟨g, i, none⟩ = some (.slice (some ⟨gi, 0, none⟩) (segL L K[i] (endAt K e i)).length ci) ∧ ndAt w1 gi 0 (segL L K[i] (endAt K e i))) := by
    subst hK
    intro i h
    obtain ⟨g, gi, ci, x1, _, x3, _, x5, x6, x7⟩ := hpa i h
    exact ⟨g, gi, ci, x1, x3, x5, x6, x7⟩
  rw [hK] at HKP hKL HR0 HJB HJL
  rw [hK]
  clear hpa hK hb1 hw0 hz0
  go_wp2
  go_loopw [4, 27] (fun v i wr => ∃ m : Nat, m ≤ K.length ∧ i = .int .i64 (m : Int) ∧ wr.ownsRow w1.heap.size 9 1 v m (sv ((K.take m).map fun c => bsY (txt L f c))) ∧ Below w1.heap.size w1 wr) (fun _ i _ => K.length - (intOf i).toNat)
  case atStart => exact ⟨0, by omega, rfl, World.ownsRow_nil _ _ _ _, Below.refl _ _⟩
  case round =>
    obtain ⟨m, hm, rfl, hrow, hnx⟩ := hrel
    have hsz := hnx.size
    have hbw : Below w.heap.size w wr := hw1.trans (hnx.mono hs)
    by_cases hlt : m < K.length
    · obtain ⟨g, gi, ci, rfl, g1, g2, k0, k1⟩ := HPA.out m hlt
      have d0 := keepCell hnx g1 k0
      have HC := HKP.out m hlt wr gi 0 ci (by omega) (k1.below hnx g2) (HT.out.below hbw (Nat.le_refl _)) (HP.out.below hbw (Nat.le_refl _))
      have HS : Hid ((K.take (m + 1)).map (fun c => bsY (txt L f c)) = (K.take m).map (fun c => bsY (txt L f c)) ++ [bsY (txt L f K[m])]) := take_str_succ (fun c => bsY (txt L f c)) hlt
      obtain ⟨TB, hTB⟩ : ∃ TB, bsY (txt L f K[m]) = TB := ⟨_, rfl⟩
      rw [hTB] at HC HS
      obtain ⟨sl, hsl⟩ : ∃ sl, (segL L K[m] (endAt K e m)).length = sl := ⟨_, rfl⟩
      rw [hsl] at d0 HC
      obtain ⟨A, hA⟩ : ∃ A, (K.take m).map (fun c => bsY (txt L f c)) = A := ⟨_, rfl⟩
      rw [hA] at hrow HS
      clear hTB hsl k0 k1 hA
      go_wp2_with fail
      refine HC.mono ?_
      rintro e3 w2 ⟨rfl, hb2⟩
      clear HC
      have hrow2 : w2.ownsRow w1.heap.size 9 1 _ m (sv A) := own_keep hrow fun k hk => by
        obtain ⟨cu, hcu, _⟩ := own_at hrow hk
        exact hb2.block k (lt_of_block hcu)
      have hnx2 : Below w1.heap.size w1 w2 := below2 hnx hb2
      have hsz2 := hnx2.size
      go_wp2_with (at_builtin; refine wpList_append_own _ rfl _ _ 59 rfl w1.heap.size 9 s0 (.string ⟨#[]⟩) 1 16 Tryd.underlying59 hs0 hs1 hs2 hs3 rfl (by decide) _ _ _ rfl (hrow2.alloc _) ⟨w2.heap.size, 0, none⟩ 1 1 (sv [TB]) rfl rfl (one_new _ _ _ _ rfl) (sv_one _) (by unfold maxLen; omega) (by omega) (by simp; omega) ?_)
      intro v' w3 hown3 hgrow3 _
      rw [sv_app, ← HS.out] at hown3
      have hb3 : Below w1.heap.size w1 w3 := (hnx2.alloc hsz2 _).grown hgrow3 (by simp; omega) (ownsRow_block hrow2)
      clear hgrow3 hrow hrow2 hb2
      go_wp2
      go_roundw
      case rel => exact ⟨m + 1, by omega, by go_num, hown3, hb3⟩
      case measure => simp [intOf]; omega
    · obtain rfl : m = K.length := by omega
      rw [List.take_length] at hrow
      have hzr : wr.heap[zr]? = some (.cells #[.string NB, .int .i64 a1, .int .i64 a2, .int .i64 a3, .int .i64 0, .int .i64 a5, .int .i64 a6] 57 (0, 0)) := (hnx.block zr hzl).trans hz1
      by_cases hK0 : 0 < K.length
      · obtain ⟨gi, ci, rfl, hci⟩ := own_pos hrow hK0
        have eK : ((K.length : Int) == 0) = false := by simp; intro h; rw [h] at hK0; simp at hK0
        have HR : Hid (NB ++ ⟨#[60]⟩ ++ JB ++ ⟨#[62]⟩ = R) := by
          unfold Hid
          have h := HR0.out
          rw [if_pos hK0] at h
          have e60 : (⟨#[60]⟩ : ByteArray) = bsY [60] := rfl
          have e62 : (⟨#[62]⟩ : ByteArray) = bsY [62] := rfl
          rw [← h, e60, e62, ← HNB.out, ← HJB.out, bsY_app, bsY_app, bsY_app]
          simp
        have hmap : Hid ((K.map fun c => bsY (txt L f c)).map (·.data.toList) = K.map (txt L f)) := by
          unfold Hid
          have h := map_data (K.map (txt L f))
          rw [show K.map (fun c => bsY (txt L f c)) = (K.map (txt L f)).map bsY by rw [List.map_map]; rfl]
          exact h
        obtain ⟨kn, hkn⟩ : ∃ kn, K.length = kn := ⟨_, rfl⟩
        have HKN : Hid (kn = (K.map fun c => bsY (txt L f c)).length) := by unfold Hid; rw [List.length_map, hkn]
        rw [hkn] at hrow hci eK hKL ⊢
        clear hkn
        go_wp2_with fail
        have HJC := (show Calls Tryd.prog 25 #[.slice (some ⟨gi, 0, none⟩) kn ci, .string ⟨#[44]⟩] wr.drew fun e w' => e = .returned (.string JB) ∧ Below wr.drew.heap.size wr.drew w' from by
          have h := implJoinS w1.heap.size gi kn ci (K.map fun c => bsY (txt L f c)) wr.drew HKN.out hrow (by rw [hmap.out]; have := HJL.out; omega) (by omega) hci
          rw [hmap.out, HJB.out] at h
          exact h)
        refine wh_begin (fun w' => w'.heap[zr]? = some (.cells #[.string NB, .int .i64 a1, .int .i64 a2, .int .i64 a3, .int .i64 0, .int .i64 a5, .int .i64 a6] 57 (0, 0))) (by kernel_rfl) ?_
        refine wh_take 0 (some 43) (.pointer (some ⟨zr, 0, none⟩)) rfl rfl (by kernel_rfl) (by kernel_rfl) (by kernel_rfl) (fun _ _ _ h => h) hzr (by rfl) (fun w' hS => by first | rfl | (go_simp; done) | (go_simp; omega)) ?_
        simp only [Act.put, List.setIfInBounds_toArray, List.set_cons_zero, List.set_cons_succ]
        refine wh_take 1 (some 44) (.string NB) rfl rfl (by kernel_rfl) (by kernel_rfl) (by kernel_rfl) (fun _ _ _ h => h) hzr (by rfl) (fun w' hS => by have q := (cell_of_block hS 0).trans rfl; first | rfl | (go_simp; done) | (go_simp; omega)) ?_
        simp only [Act.put, List.setIfInBounds_toArray, List.set_cons_zero, List.set_cons_succ]
        refine wh_take 2 (some 45) (.string (NB ++ ⟨#[60]⟩)) rfl rfl (by kernel_rfl) (by kernel_rfl) (by kernel_rfl) (fun _ _ _ h => h) hzr (by rfl) (fun w' hS => by first | rfl | (go_simp; done) | (go_simp; omega)) ?_
        simp only [Act.put, List.setIfInBounds_toArray, List.set_cons_zero, List.set_cons_succ]
        refine wh_take 3 (some 46) (.slice (some ⟨gi, 0, none⟩) kn ci) rfl rfl (by kernel_rfl) (by kernel_rfl) (by kernel_rfl) (fun _ _ _ h => h) hzr (by rfl) (fun w' hS => by first | rfl | (go_simp; done) | (go_simp; omega)) ?_
        simp only [Act.put, List.setIfInBounds_toArray, List.set_cons_zero, List.set_cons_succ]
        refine wh_call 4 (some 47) 25 #[.slice (some ⟨gi, 0, none⟩) kn ci, .string ⟨#[44]⟩] (by kernel_rfl) rfl rfl (by rfl) (by kernel_rfl) ?_
        refine HJC.mono ?_
        rintro e9 W9 ⟨rfl, hb9⟩
        clear HJC
        have hz9 : W9.heap[zr]? = some (.cells #[.string NB, .int .i64 a1, .int .i64 a2, .int .i64 a3, .int .i64 0, .int .i64 a5, .int .i64 a6] 57 (0, 0)) := (hb9.block zr (lt_of_block hzr)).trans hzr
        refine ⟨_, rfl, hz9, ?_⟩
        simp only [Act.put, List.setIfInBounds_toArray, List.set_cons_zero, List.set_cons_succ]
        refine wh_take 5 (some 48) (.string (NB ++ ⟨#[60]⟩ ++ JB)) rfl rfl (by kernel_rfl) (by kernel_rfl) (by kernel_rfl) (fun _ _ _ h => h) hz9 (by rfl) (fun w' hS => by first | rfl | (go_simp; done) | (go_simp; omega)) ?_
        simp only [Act.put, List.setIfInBounds_toArray, List.set_cons_zero, List.set_cons_succ]
        refine wh_take 6 (some 49) (.string (NB ++ ⟨#[60]⟩ ++ JB ++ ⟨#[62]⟩)) rfl rfl (by kernel_rfl) (by kernel_rfl) (by kernel_rfl) (fun _ _ _ h => h) hz9 (by rfl) (fun w' hS => by first | rfl | (go_simp; done) | (go_simp; omega)) ?_
        simp only [Act.put, List.setIfInBounds_toArray, List.set_cons_zero, List.set_cons_succ]
        refine wh_val 7 (some 2) (.string (NB ++ ⟨#[60]⟩ ++ JB ++ ⟨#[62]⟩)) W9 (by kernel_rfl) rfl rfl (by rfl) (by first | rfl | (go_simp; done)) hz9 ?_
        simp only [Act.put, List.setIfInBounds_toArray, List.set_cons_zero, List.set_cons_succ]
        refine wh_done (by kernel_rfl) ?_
        have hfin : Below w.heap.size w W9 := below2 hbw ⟨hb9.os, hb9.tape, hb9.output, hb9.size, hb9.block⟩
        clear hb9 hz9 hzr
        go_wp2
        go_ret
        exact ⟨by rw [← HR.out]; rfl, hfin⟩
      · have hK00 : K = [] := List.length_eq_zero_iff.1 (by omega)
        subst hK00
        have HR : Hid (NB = R) := by
          unfold Hid
          have h := HR0.out
          rw [if_neg hK0] at h
          rw [← h, ← HNB.out]
          simp
        obtain ⟨ga, gc, rfl⟩ := ownsRow_shape hrow
        have q0 := (cell_of_block hzr 0).trans rfl
        have HCl := stringsClone NB wr (by omega)
        go_wp2_with (go_at_call 24; refine HCl.mono ?_; rintro e5 w5 ⟨rfl, hb5⟩; clear HCl)
        go_ret
        exact ⟨by rw [← HR.out]; rfl, below2 hbw hb5⟩

theorem implText (L : List Nd) (hG : goodT L = true) : ∀ (f p e : Nat), L.length - p ≤ f → isEnd L p e → TextI L f p e
  | 0, p, e, hf, he => by have h1 := he.1; have h2 := he.2.1; omega
  | f + 1, p, e, hf, he => by
    cases hw : withN (kdAt L p) with
    | true => exact implText_num L hG f p e he hw
    | false => exact implText_kids L hG f p e he hf hw (implText L hG f)

end Go.Proofs.YtebendaiokchdaaDoor
