/-
  Whether a value fits a type: the specification's side.
-/
import Derived.Test.YtlimlpidbjkofaaDoorVE
namespace Go.Proofs.YtlimlpidbjkofaaDoor
open Go.ChangeShapes Go.WideShapes Go.ChangeAt Go.RowKit

def FitS (L : List Nd) (V : List Vn) (f g k v : Nat) : Prop := ∀ (w : World) (lo hi lo' hi' : Nat) (sl sl' : Value), S3 L lo hi f w k sl → hi ≤ w.heap.size → S3v V lo' hi' g w v sl' → hi' ≤ w.heap.size →
  Calls Tryd.prog 27 #[.agg #[.int .i64 (kdAt L k), .int .i64 (nAt L k), sl], .agg #[.int .i64 (vnAt V v), .string (vtAt V v), sl']] w fun e w' => e = .returned (.bool (fitM L V f k v)) ∧ Below w.heap.size w w'

set_option maxRecDepth 100000 in
set_option maxHeartbeats 3200000 in
theorem specFits_step (L : List Nd) (V : List Vn) (hG : goodT L = true) (hV : V.length ≤ 100) (hVs : ∀ x ∈ V, x.2.1.size ≤ 1048576) (f g k v : Nat) (hk : k < L.length) (hv : v < V.length) (IH0 : ∀ k' ∈ kidsOf L k, ∀ v' ∈ kV V v, FitS L V f g k' v') : FitS L V (f + 1) (g + 1) k v := by
  intro w lo hi lo' hi' sl sl' hr1 hhi hr2 hhi'
  obtain ⟨gx, gn, gn9, g40, _, _, gnil⟩ := gnode hG hk
  have hcV : (kV V v).length ≤ 100 := Nat.le_trans (kto_le _ _ _) hV
  have hsz : (vtAt V v).size ≤ 1048576 := by rw [vtAt_get V v hv]; exact hVs _ (List.getElem_mem hv)
  obtain ⟨a1, cap1, rfl, hc1, H1⟩ := hr1
  obtain ⟨a2, cap2, rfl, _, H2⟩ := hr2
  have HBD : Hid (∀ W, Calls Tryd.prog 45 #[.agg #[.int .i64 (kdAt L k), .int .i64 (nAt L k), .slice a1 (kidsOf L k).length cap1]] W fun e w' => e = .returned (.tuple #[.int .i64 (bdOf (kdAt L k) (nAt L k) (kidsOf L k).length).1, .int .i64 (bdOf (kdAt L k) (nAt L k) (kidsOf L k).length).2]) ∧ Below W.heap.size W w') := fun W => specBounds _ _ a1 _ cap1 W gx gn gn9 (by omega)
  have HKD : Hid (∀ W, Below w.heap.size w W → w.heap.size + 2 ≤ W.heap.size → tkOk (kdAt L k) (kidsOf L k) (vnAt V v) (kV V v).length →
      Calls Tryd.prog 48 #[.agg #[.int .i64 (kdAt L k), .int .i64 (nAt L k), .slice a1 (kidsOf L k).length cap1], .agg #[.int .i64 (vnAt V v), .string (vtAt V v), .slice a2 (kV V v).length cap2]] W fun e w' => ∃ b1 c1, e = .returned (.slice b1 (tk (kdAt L k) (kidsOf L k) (vnAt V v) (kV V v).length).length c1) ∧ Hid (∀ j (h : j < (tk (kdAt L k) (kidsOf L k) (vnAt V v) (kV V v).length).length), ∃ g off sl', b1 = some ⟨g, off, none⟩ ∧ g < w'.heap.size ∧
        w'.cell? ⟨g, off + j * 3, none⟩ = some (.int .i64 (kdAt L (tk (kdAt L k) (kidsOf L k) (vnAt V v) (kV V v).length)[j])) ∧ w'.cell? ⟨g, off + j * 3 + 1, none⟩ = some (.int .i64 (nAt L (tk (kdAt L k) (kidsOf L k) (vnAt V v) (kV V v).length)[j])) ∧ w'.cell? ⟨g, off + j * 3 + 2, none⟩ = some sl' ∧ S3 L (min lo W.heap.size) w'.heap.size f w' (tk (kdAt L k) (kidsOf L k) (vnAt V v) (kV V v).length)[j] sl') ∧ Below W.heap.size W w') := fun W hW hWs hok => by
    have H1' : ∀ j (h : j < (kidsOf L k).length), ∃ g off sl', a1 = some ⟨g, off, none⟩ ∧ lo ≤ g ∧ g < hi ∧ W.cell? ⟨g, off + j * 3, none⟩ = some (.int .i64 (kdAt L (kidsOf L k)[j])) ∧ W.cell? ⟨g, off + j * 3 + 1, none⟩ = some (.int .i64 (nAt L (kidsOf L k)[j])) ∧ W.cell? ⟨g, off + j * 3 + 2, none⟩ = some sl' ∧ S3 L lo hi f W (kidsOf L k)[j] sl' := by
      intro j hj
      obtain ⟨g9, off9, s9, x1, x2, x3, x4, x5, x6, x7⟩ := H1 j hj
      have hg := hW.block g9 (by omega)
      exact ⟨g9, off9, s9, x1, x2, x3, (cell_heap hg _).trans x4, (cell_heap hg _).trans x5, (cell_heap hg _).trans x6, R3.below x7 hW hhi⟩
    refine (specKids L f k W lo hi a1 cap1 (vnAt V v) (vtAt V v) a2 (kV V v).length cap2 hc1 H1' (Nat.le_trans hhi hW.size) hok).mono ?_
    rintro e w' ⟨sl9, rfl, ⟨b1, c1, rfl, _, H9⟩, hb9⟩
    refine ⟨b1, c1, rfl, fun j hj => ?_, hb9⟩
    obtain ⟨g9, off9, s9, x1, x2, x3, x4, x5, x6, x7⟩ := H9 j hj
    exact ⟨g9, off9, s9, x1, x3, x4, x5, x6, x7⟩
  have HTK : Hid (nOk (kdAt L k) (nAt L k) (kidsOf L k).length (vnAt V v) = true → tkOk (kdAt L k) (kidsOf L k) (vnAt V v) (kV V v).length) := fun h => tkOk_of hG hk hcV h
  rw [fitM_succ]
  have hm : ∀ k' ∈ tk (kdAt L k) (kidsOf L k) (vnAt V v) (kV V v).length, (kdAt L k = 13 → (kidsOf L k).length = 1) → k' ∈ kidsOf L k := by
    intro k' hk' h13
    unfold tk at hk'
    split at hk'
    · rename_i e
      have h1 := h13 e
      rw [(List.mem_replicate.1 hk').2, List.getD_eq_getElem?_getD, List.getElem?_eq_getElem (by omega), Option.getD_some]
      exact List.getElem_mem _
    · split at hk'
      · exact hk'
      · split at hk'
        · exact List.mem_of_mem_drop (List.mem_of_mem_take hk')
        · split at hk'
          · exact List.mem_of_mem_take hk'
          · simp at hk'
  have HKL : Hid ((tk (kdAt L k) (kidsOf L k) (vnAt V v) (kV V v).length).length ≤ 1000) := by
    unfold Hid tk
    split
    · rw [List.length_replicate]; omega
    · split
      · omega
      · split
        · rw [List.length_take]; omega
        · split
          · rw [List.length_take]; omega
          · simp
  have IH : Hid ((kdAt L k = 13 → (kidsOf L k).length = 1) → ∀ k' ∈ tk (kdAt L k) (kidsOf L k) (vnAt V v) (kV V v).length, ∀ v' ∈ kV V v, FitS L V f g k' v') := fun h13 k' hk' v' hv' => IH0 k' (hm k' hk' h13) v' hv'
  have K2 : Hid (∀ W, Below w.heap.size w W → ∀ j (h : j < (kV V v).length), ∃ gg off sl', a2 = some ⟨gg, off, none⟩ ∧ gg < w.heap.size ∧ W.cell? ⟨gg, off + j * 3, none⟩ = some (.int .i64 (vnAt V (kV V v)[j])) ∧ W.cell? ⟨gg, off + j * 3 + 1, none⟩ = some (.string (vtAt V (kV V v)[j])) ∧ W.cell? ⟨gg, off + j * 3 + 2, none⟩ = some sl' ∧ S3v V lo' hi' g W (kV V v)[j] sl') := fun W hW j hj => by
    obtain ⟨g9, off9, s9, x1, x2, x3, x4, x5, x6, x7⟩ := H2 j hj
    have hg := hW.block g9 (by omega)
    exact ⟨g9, off9, s9, x1, by omega, (cell_heap hg _).trans x4, (cell_heap hg _).trans x5, (cell_heap hg _).trans x6, R3.below x7 hW hhi'⟩
  have h13 : Hid (tkOk (kdAt L k) (kidsOf L k) (vnAt V v) (kV V v).length → kdAt L k = 13 → (kidsOf L k).length = 1) := fun h => h.2.1
  clear H1 H2 hm gx gn gn9 gnil IH0 g40 hcV
  obtain ⟨R, hR⟩ : ∃ R, Hid ((nOk (kdAt L k) (nAt L k) (kidsOf L k).length (vnAt V v) && tOk (kdAt L k) (vtAt V v) && fitL L V f (tk (kdAt L k) (kidsOf L k) (vnAt V v) (kV V v).length) (kV V v)) = R) := ⟨_, rfl⟩
  rw [hR.out]
  have HNU : Hid (nOk (kdAt L k) (nAt L k) (kidsOf L k).length (vnAt V v) = (decide ((bdOf (kdAt L k) (nAt L k) (kidsOf L k).length).1 ≤ vnAt V v) && decide (vnAt V v ≤ (bdOf (kdAt L k) (nAt L k) (kidsOf L k).length).2) && (if kdAt L k = 10 then canon (vnAt V v) else if kdAt L k = 11 then !(decide (55296 ≤ vnAt V v) && decide (vnAt V v ≤ 57343)) else true))) := rfl
  have H10 : Hid (kdAt L k = 10 → bdOf (kdAt L k) (nAt L k) (kidsOf L k).length = (0, 4294967295)) := fun h => by rw [h]; rfl
  obtain ⟨⟨bl, bh⟩, hbd⟩ : ∃ b, bdOf (kdAt L k) (nAt L k) (kidsOf L k).length = b := ⟨_, rfl⟩
  rw [hbd] at HBD HNU H10
  simp only at HBD HNU
  obtain ⟨NN, hNN⟩ : ∃ F, nOk (kdAt L k) (nAt L k) (kidsOf L k).length (vnAt V v) = F := ⟨_, rfl⟩
  obtain ⟨TX, hTX⟩ : ∃ F, Hid (tOk (kdAt L k) (vtAt V v) = F) := ⟨_, rfl⟩
  rw [hNN] at hR HNU HTK
  rw [hTX.out] at hR
  obtain ⟨ks, hks⟩ : ∃ ks, tk (kdAt L k) (kidsOf L k) (vnAt V v) (kV V v).length = ks := ⟨_, rfl⟩
  rw [hks] at hR HKD HKL IH
  obtain ⟨vs, hvs⟩ : ∃ vs, kV V v = vs := ⟨_, rfl⟩
  rw [hvs] at hR HKD IH HTK h13 K2 ⊢
  obtain ⟨x, hx⟩ : ∃ x, kdAt L k = x := ⟨_, rfl⟩
  obtain ⟨y, hy⟩ : ∃ x, nAt L k = x := ⟨_, rfl⟩
  obtain ⟨p, hp⟩ : ∃ x, vnAt V v = x := ⟨_, rfl⟩
  obtain ⟨s, hs⟩ : ∃ x, vtAt V v = x := ⟨_, rfl⟩
  obtain ⟨n1, hn1⟩ : ∃ x, (kidsOf L k).length = x := ⟨_, rfl⟩
  rw [hx, hy, hn1] at HBD
  rw [hx, hp] at HNU HTK h13
  rw [hx] at H10
  rw [hx, hs] at hTX
  rw [hn1] at h13 hc1
  rw [hx, hy, hp, hs, hn1] at HKD
  rw [hx, hn1] at IH
  rw [hs] at hsz
  rw [hx, hy, hp, hs, hn1]
  clear hx hy hp hs hn1 hks hvs hNN hbd
  obtain ⟨n2, hn2⟩ : ∃ x, vs.length = x := ⟨_, rfl⟩
  have HN2 : Hid (vs.length = n2) := hn2
  rw [hn2] at HKD HTK h13 ⊢
  clear hn2
  obtain ⟨W, hW⟩ : ∃ W, (w.alloc (.cells #[.int .i64 x, .int .i64 y, .slice a1 n1 cap1] 52)).alloc (.cells #[.int .i64 p, .string s, .slice a2 n2 cap2] 56) = W := ⟨_, rfl⟩
  have hb : Below w.heap.size w W := by rw [← hW]; exact ((Below.refl _ _).alloc (Nat.le_refl _) _).alloc (by simp) _
  have hWs : w.heap.size + 2 ≤ W.heap.size := by rw [← hW]; simp
  have hS0 : (fun W' : World => W'.heap[w.heap.size]? = some (.cells #[.int .i64 x, .int .i64 y, .slice a1 n1 cap1] 52 (0, 0)) ∧ W'.heap[w.heap.size + 1]? = some (.cells #[.int .i64 p, .string s, .slice a2 n2 cap2] 56 (0, 0))) W := by
    refine ⟨?_, ?_⟩
    · show W.heap[_]? = _
      rw [← hW]; exact (Below.heap_alloc _ _ _ (by simp)).trans (heap_alloc_new _ _)
    · show W.heap[_]? = _
      rw [← hW]
      have e : w.heap.size + 1 = (w.alloc (.cells #[.int .i64 x, .int .i64 y, .slice a1 n1 cap1] 52)).heap.size := by simp
      rw [e]
      exact heap_alloc_new _ _
  have HS : Hid (∀ A B : World, w.heap.size + 2 ≤ A.heap.size → Below A.heap.size A B → (fun W' : World => W'.heap[w.heap.size]? = some (.cells #[.int .i64 x, .int .i64 y, .slice a1 n1 cap1] 52 (0, 0)) ∧ W'.heap[w.heap.size + 1]? = some (.cells #[.int .i64 p, .string s, .slice a2 n2 cap2] 56 (0, 0))) A → (fun W' : World => W'.heap[w.heap.size]? = some (.cells #[.int .i64 x, .int .i64 y, .slice a1 n1 cap1] 52 (0, 0)) ∧ W'.heap[w.heap.size + 1]? = some (.cells #[.int .i64 p, .string s, .slice a2 n2 cap2] 56 (0, 0))) B) := fun A B hA hB h => ⟨(hB.block _ (by omega)).trans h.1, (hB.block _ (by omega)).trans h.2⟩
  have i0 := (cell_of_block hS0.1 0).trans rfl
  have i1 := (cell_of_block hS0.1 1).trans rfl
  have i2 := (cell_of_block hS0.1 2).trans rfl
  go_enter Tryd.func27, Tryd.ntmps27
  go_wp2_with fail
  refine (HBD.out _).mono ?_
  rintro e1 w1 ⟨rfl, B1⟩
  have hb1 := below2 hb B1
  have hw1s : w.heap.size + 2 ≤ w1.heap.size := by have := B1.size; omega
  have hS1 := HS.out W w1 hWs B1 hS0
  clear i0 i1 i2 hS0 hW hb B1 HBD
  have t0 := (cell_of_block hS1.1 0).trans rfl
  have t1 := (cell_of_block hS1.1 1).trans rfl
  have t2 := (cell_of_block hS1.1 2).trans rfl
  have v0 := (cell_of_block hS1.2 0).trans rfl
  have v1 := (cell_of_block hS1.2 1).trans rfl
  have v2 := (cell_of_block hS1.2 2).trans rfl
  obtain ⟨A, hA⟩ : ∃ A, Hid ((decide (bl ≤ p) && decide (p ≤ bh)) = A) := ⟨_, rfl⟩
  cases A with
  | false =>
    obtain rfl : R = false := by rw [← hR.out, HNU.out, hA.out]; rfl
    go_wp2_with (go_at_call 42; refine (in_eq _ _ _ _ (by assumption) _).mono ?_; rintro e w9 ⟨rfl, hw⟩; obtain rfl := hw.symm)
    go_ret
    exact ⟨rfl, hb1⟩
  | true =>
    go_wp2_with fail
    refine (in_eq _ _ _ _ hA _).mono ?_
    rintro e9 w9 ⟨rfl, hw⟩
    obtain rfl := hw.symm
    clear hw
    by_cases hx12 : x = 12
    · subst hx12
      have hD := specDecode s 1 hsz
      have hNN9 : NN = true := by rw [HNU.out, hA.out]; rfl
      have HTXs : Hid (TX = ((gd 1 s).isSome && decide (s.size ≤ 200))) := by unfold Hid; rw [← hTX.out]; rfl
      subst hNN9
      go_wp2_with fail
      refine (hD _).mono ?_
      rintro e8 w2 ⟨⟨Lp, pv, hg, rfl, ho⟩ | ⟨hg, pv, rfl⟩, B2⟩
      · have hb2 := below2 hb1 B2
        have hw2s : w.heap.size + 2 ≤ w2.heap.size := by have := B2.size; omega
        have hS2 := HS.out w1 w2 hw1s B2 hS1
        obtain ⟨pa, pc, rfl⟩ := ownsRow_shape ho
        rw [hg] at HTXs
        have k1 := (cell_of_block hS2.2 1).trans rfl
        clear t0 t1 t2 v0 v1 v2 hD ho hg
        obtain ⟨N, hN⟩ : ∃ N : Int, (s.size : Int) = N := ⟨_, rfl⟩
        by_cases h200 : 200 < N
        · obtain rfl : R = false := by
            rw [← hR.out, HTXs.out]
            have : ¬ s.size ≤ 200 := by omega
            simp [this]
          go_wp2
          go_ret
          exact ⟨rfl, hb2⟩
        · obtain rfl : TX = true := by
            rw [HTXs.out]
            have : s.size ≤ 200 := by omega
            simp [this]
          have HRF : Hid (fitL L V f ks vs = R) := by unfold Hid; rw [← hR.out]; simp
          have HOK : Hid (tkOk 12 (kidsOf L k) p n2) := HTK.out (by first | trivial | rfl)
          have HK := HKD.out w2 hb2 hw2s HOK.out
          have hbA : Below w.heap.size w w2 := hb2
          have hsA : w.heap.size + 2 ≤ w2.heap.size := hw2s
          have hSA : (fun W' : World => W'.heap[w.heap.size]? = some (.cells #[.int .i64 12, .int .i64 y, .slice a1 n1 cap1] 52 (0, 0)) ∧ W'.heap[w.heap.size + 1]? = some (.cells #[.int .i64 p, .string s, .slice a2 n2 cap2] 56 (0, 0))) w2 := hS2
          have IH9 := IH.out (h13.out HOK.out)
          have IHf : Hid (∀ k' ∈ ks, ∀ v' ∈ vs, FitS L V f g k' v') := IH9
          clear IH9 IH HTK h13 hTX HNU H10 hA hR HKD
          have t0' := (cell_of_block hSA.1 0).trans rfl
          have t1' := (cell_of_block hSA.1 1).trans rfl
          have t2' := (cell_of_block hSA.1 2).trans rfl
          have v0' := (cell_of_block hSA.2 0).trans rfl
          have v1' := (cell_of_block hSA.2 1).trans rfl
          have v2' := (cell_of_block hSA.2 2).trans rfl
          go_wp2_with fail
          refine HK.mono ?_
          rintro e5 w5 ⟨b1, c1, rfl, HROW, B5⟩
          have hb5 := below2 hbA B5
          have hs5 : w.heap.size + 2 ≤ w5.heap.size := by have := B5.size; omega
          have hS5 := HS.out w2 w5 hsA B5 hSA
          have u2 := (cell_of_block hS5.2 2).trans rfl
          clear HK t0' t1' t2' v0' v1' v2' hSA
          obtain ⟨kl, hkl⟩ : ∃ kl, ks.length = kl := ⟨_, rfl⟩
          have HKN : Hid (ks.length = kl) := hkl
          have hkl9 : kl ≤ 1000 := by rw [← hkl]; exact HKL.out
          rw [hkl]
          clear hkl
          by_cases hne : kl = n2
          · subst hne
            have HRZ : Hid ((ks.zip vs).all (fun p => fitM L V f p.1 p.2) = R) := by
              unfold Hid; rw [← HRF.out]; unfold fitL; rw [HKN.out, HN2.out]; simp
            have hzl : Hid ((ks.zip vs).length = kl) := by unfold Hid; rw [List.length_zip, HKN.out, HN2.out]; omega
            go_wp2
            go_loopw [73] (fun i wr => ∃ m : Nat, m ≤ kl ∧ i = .int .i64 (m : Int) ∧ Hid (((ks.zip vs).take m).all (fun p => fitM L V f p.1 p.2) = true) ∧ Below w5.heap.size w5 wr) (fun i _ => kl - (intOf i).toNat)
            case atStart => exact ⟨0, by omega, rfl, by simp [Hid], Below.refl _ _⟩
            case round =>
              clear u2
              obtain ⟨m, hm, rfl, hAl, hnx⟩ := hrel
              have hsz9 := hnx.size
              have hbr := below2 hb5 hnx
              by_cases hlt : m < kl
              · have hm1 : m < ks.length := by rw [HKN.out]; exact hlt
                have hm2 : m < vs.length := by rw [HN2.out]; exact hlt
                obtain ⟨g1, off1, s1, rfl, p1, c0, c1', c2, tr1⟩ := HROW.out m hm1
                obtain ⟨g2, off2, s2, rfl, r1, d0, d1, d2, tr2⟩ := K2.out wr hbr m hm2
                obtain ⟨sa1, sn1, sc1, rfl⟩ := R3.form tr1
                obtain ⟨sa2, sn2, sc2, rfl⟩ := R3.form tr2
                have hltI : (m : Int) < (kl : Int) := by omega
                have b0 := keepCell hnx p1 c0
                have b1' := keepCell hnx p1 c1'
                have b2 := keepCell hnx p1 c2
                have HF0 := fun (W : World) (hW : Below wr.heap.size wr W) => IHf.out ks[m] (List.getElem_mem hm1) vs[m] (List.getElem_mem hm2) W _ _ lo' hi' (.slice sa1 sn1 sc1) (.slice sa2 sn2 sc2) (R3.below (R3.below tr1 hnx (Nat.le_refl _)) hW hsz9) (Nat.le_trans hsz9 hW.size) (R3.below tr2 hW (by omega)) (by have := hW.size; omega)
                have HSC : Hid (((ks.zip vs).take (m + 1)).all (fun p => fitM L V f p.1 p.2) = fitM L V f ks[m] vs[m]) := by unfold Hid; rw [all_zip_succ hm1 hm2, hAl.out]; rfl
                have HBd : Hid (fitM L V f ks[m] vs[m] = false → R = false) := fun h => by rw [← HRZ.out]; exact all_zip_bad hm1 hm2 h
                obtain ⟨r, hr⟩ : ∃ r, fitM L V f ks[m] vs[m] = r := ⟨_, rfl⟩
                rw [hr] at HSC HBd
                obtain ⟨x0, hx0⟩ : ∃ x, kdAt L ks[m] = x := ⟨_, rfl⟩
                obtain ⟨y0, hy0⟩ : ∃ x, nAt L ks[m] = x := ⟨_, rfl⟩
                obtain ⟨p0, hp0⟩ : ∃ x, vnAt V vs[m] = x := ⟨_, rfl⟩
                obtain ⟨s0, hs0⟩ : ∃ x, vtAt V vs[m] = x := ⟨_, rfl⟩
                rw [hx0] at b0
                rw [hy0] at b1'
                rw [hp0] at d0
                rw [hs0] at d1
                have HF : Hid (∀ W, Below wr.heap.size wr W → Calls Tryd.prog 27 #[.agg #[.int .i64 x0, .int .i64 y0, .slice sa1 sn1 sc1], .agg #[.int .i64 p0, .string s0, .slice sa2 sn2 sc2]] W fun e w' => e = .returned (.bool r) ∧ Below W.heap.size W w') := fun W hW => by
                  have := HF0 W hW
                  rw [hx0, hy0, hp0, hs0, hr] at this
                  exact this
                clear HF0 hx0 hy0 hp0 hs0 hr tr1 tr2 c0 c1' c2
                obtain ⟨W3, hW3⟩ : ∃ W, wr.alloc (.cells #[.int .i64 x0, .int .i64 y0, .slice sa1 sn1 sc1] 52) = W := ⟨_, rfl⟩
                have bW3 : Below wr.heap.size wr W3 := by rw [← hW3]; exact (Below.refl _ _).alloc (Nat.le_refl _) _
                have q3 : W3.heap[wr.heap.size]? = some (.cells #[.int .i64 x0, .int .i64 y0, .slice sa1 sn1 sc1] 52 (0, 0)) := by rw [← hW3]; exact heap_alloc_new _ _
                have hS3 : (fun W' : World => W'.heap[wr.heap.size]? = some (.cells #[.int .i64 x0, .int .i64 y0, .slice sa1 sn1 sc1] 52 (0, 0)) ∧ W'.heap[w.heap.size + 1]? = some (.cells #[.int .i64 p, .string s, .slice (some ⟨g2, off2, none⟩) kl cap2] 56 (0, 0)) ∧ W'.cell? ⟨g2, off2 + m * 3, none⟩ = some (.int .i64 p0) ∧ W'.cell? ⟨g2, off2 + m * 3 + 1, none⟩ = some (.string s0) ∧ W'.cell? ⟨g2, off2 + m * 3 + 2, none⟩ = some (.slice sa2 sn2 sc2)) W3.drew := ⟨q3, (bW3.block _ (by omega)).trans ((hnx.block _ (by omega)).trans hS5.2), keepCell bW3.drew (by omega) d0, keepCell bW3.drew (by omega) d1, keepCell bW3.drew (by omega) d2⟩
                have HFC := HF.out W3.drew bW3.drew
                clear d0 d1 d2 q3
                go_wp2_with fail
                refine wh_begin (fun W' : World => W'.heap[wr.heap.size]? = some (.cells #[.int .i64 x0, .int .i64 y0, .slice sa1 sn1 sc1] 52 (0, 0)) ∧ W'.heap[w.heap.size + 1]? = some (.cells #[.int .i64 p, .string s, .slice (some ⟨g2, off2, none⟩) kl cap2] 56 (0, 0)) ∧ W'.cell? ⟨g2, off2 + m * 3, none⟩ = some (.int .i64 p0) ∧ W'.cell? ⟨g2, off2 + m * 3 + 1, none⟩ = some (.string s0) ∧ W'.cell? ⟨g2, off2 + m * 3 + 2, none⟩ = some (.slice sa2 sn2 sc2)) (by kernel_rfl) ?_
                refine wh_take 0 (some 78) (.agg #[.int .i64 x0, .int .i64 y0, .slice sa1 sn1 sc1]) rfl rfl (by kernel_rfl) (by kernel_rfl) (by kernel_rfl) (fun _ _ _ h => h) hS3 (by rfl) (fun w' hS => by have q0 := (cell_of_block hS.1 0).trans rfl; have q1 := (cell_of_block hS.1 1).trans rfl; have q2 := (cell_of_block hS.1 2).trans rfl; first | rfl | (go_simp; done)) ?_
                simp only [Act.put, List.setIfInBounds_toArray, List.set_cons_zero, List.set_cons_succ]
                refine wh_take 1 (some 79) (.pointer (some ⟨w.heap.size + 1, 2, none⟩)) rfl rfl (by kernel_rfl) (by kernel_rfl) (by kernel_rfl) (fun _ _ _ h => h) hS3 (by rfl) (fun w' hS => by first | rfl | (go_simp; done)) ?_
                simp only [Act.put, List.setIfInBounds_toArray, List.set_cons_zero, List.set_cons_succ]
                refine wh_take 2 (some 80) (.slice (some ⟨g2, off2, none⟩) kl cap2) rfl rfl (by kernel_rfl) (by kernel_rfl) (by kernel_rfl) (fun _ _ _ h => h) hS3 (by rfl) (fun w' hS => by have q2 := (cell_of_block hS.2.1 2).trans rfl; first | rfl | (go_simp; done)) ?_
                simp only [Act.put, List.setIfInBounds_toArray, List.set_cons_zero, List.set_cons_succ]
                refine wh_take 3 (some 81) (.int .i64 (m : Int)) rfl rfl (by kernel_rfl) (by kernel_rfl) (by kernel_rfl) (fun _ _ _ h => h) hS3 (by rfl) (fun w' hS => by first | rfl | (go_simp; done)) ?_
                simp only [Act.put, List.setIfInBounds_toArray, List.set_cons_zero, List.set_cons_succ]
                refine wh_take 4 (some 82) (.pointer (some ⟨g2, off2 + m * 3, none⟩)) rfl rfl (by kernel_rfl) (by kernel_rfl) (by kernel_rfl) (fun _ _ _ h => h) hS3 (by rfl) (fun w' hS => by first | rfl | (go_simp; done)) ?_
                simp only [Act.put, List.setIfInBounds_toArray, List.set_cons_zero, List.set_cons_succ]
                refine wh_take 5 (some 83) (.agg #[.int .i64 p0, .string s0, .slice sa2 sn2 sc2]) rfl rfl (by kernel_rfl) (by kernel_rfl) (by kernel_rfl) (fun _ _ _ h => h) hS3 (by rfl) (fun w' hS => by have q0 := hS.2.2.1; have q1 := hS.2.2.2.1; have q2 := hS.2.2.2.2; first | rfl | (go_simp; done)) ?_
                simp only [Act.put, List.setIfInBounds_toArray, List.set_cons_zero, List.set_cons_succ]
                refine wh_call 6 (some 84) 27 #[.agg #[.int .i64 x0, .int .i64 y0, .slice sa1 sn1 sc1], .agg #[.int .i64 p0, .string s0, .slice sa2 sn2 sc2]] (by kernel_rfl) rfl rfl (by rfl) (by kernel_rfl) ?_
                refine HFC.mono ?_
                rintro e6 w6 ⟨rfl, B6⟩
                have B6' : Below W3.heap.size W3 w6 := ⟨B6.os, B6.tape, B6.output, B6.size, B6.block⟩
                have b6 := below2 bW3 B6'
                have b56 : Below w5.heap.size w5 w6 := below2 hnx b6
                have hg2 : g2 < W3.heap.size := by have := bW3.size; omega
                have hS6 : W3.heap.size ≤ W3.heap.size := Nat.le_refl _
                refine ⟨_, rfl, ⟨(B6'.block _ (lt_of_block hS3.1)).trans hS3.1, (B6'.block _ (lt_of_block hS3.2.1)).trans hS3.2.1, keepCell B6' hg2 hS3.2.2.1, keepCell B6' hg2 hS3.2.2.2.1, keepCell B6' hg2 hS3.2.2.2.2⟩, ?_⟩
                simp only [Act.put, List.setIfInBounds_toArray, List.set_cons_zero, List.set_cons_succ]
                refine wh_val 7 (some 85) (.bool (!r)) w6 (by kernel_rfl) rfl rfl (by rfl) (by first | rfl | (go_simp; done)) ⟨(B6'.block _ (lt_of_block hS3.1)).trans hS3.1, (B6'.block _ (lt_of_block hS3.2.1)).trans hS3.2.1, keepCell B6' hg2 hS3.2.2.1, keepCell B6' hg2 hS3.2.2.2.1, keepCell B6' hg2 hS3.2.2.2.2⟩ ?_
                simp only [Act.put, List.setIfInBounds_toArray, List.set_cons_zero, List.set_cons_succ]
                refine wh_done (by kernel_rfl) ?_
                clear hS3 B6 B6' b6 HFC HF bW3 hW3 b0 b1' b2 hg2 hS6
                cases r with
                | false =>
                  obtain rfl : R = false := HBd.out rfl
                  go_wp2
                  go_ret
                  exact ⟨rfl, below2 hb5 b56⟩
                | true =>
                  go_wp2
                  go_roundw
                  case rel => exact ⟨m + 1, by omega, by go_num, HSC, b56⟩
                  case measure => simp [intOf]; omega
              · obtain rfl : m = kl := by omega
                have hzz : (ks.zip vs).take m = ks.zip vs := List.take_of_length_le (by rw [hzl.out]; exact Nat.le_refl _)
                obtain rfl : R = true := by rw [← HRZ.out, ← hAl.out, hzz]
                have hltI : ¬ (m : Int) < (m : Int) := by omega
                go_wp2
                go_ret
                exact ⟨rfl, hbr⟩
          · obtain rfl : R = false := by rw [← HRF.out]; unfold fitL; rw [HKN.out, HN2.out]; simp [hne]
            have hneI : ((kl : Int) == (n2 : Int)) = false := by rw [beq_eq_false_iff_ne]; omega
            go_wp2
            go_ret
            exact ⟨rfl, hb5⟩
      · obtain rfl : R = false := by rw [← hR.out, HTXs.out, hg]; simp
        have hb2 := below2 hb1 B2
        clear hD
        go_wp2
        go_ret
        exact ⟨rfl, hb2⟩
    · have e12 : (x == 12) = false := by rw [beq_eq_false_iff_ne]; exact hx12
      obtain ⟨E, hE⟩ : ∃ E, s.toList.isEmpty = E := ⟨_, rfl⟩
      have hTE : TX = E := by rw [← hTX.out, ← hE]; unfold tOk; rw [if_neg hx12]
      subst hTE
      cases TX with
      | false =>
        obtain rfl : R = false := by rw [← hR.out]; simp
        go_wp2
        go_ret
        exact ⟨rfl, hb1⟩
      | true =>
        have hTX9 : True := trivial
        by_cases hx10 : x = 10
        · subst hx10
          have hb9 := H10.out rfl
          simp at hb9
          obtain ⟨rfl, rfl⟩ := hb9
          have hA2 := hA.out
          simp at hA2
          have HC := specCanon p hA2.1 hA2.2
          obtain ⟨cn, hcn⟩ : ∃ c, canon p = c := ⟨_, rfl⟩
          rw [hcn] at HC
          obtain rfl : NN = cn := by rw [HNU.out, hA.out]; simp [hcn]
          clear hA2 hcn
          go_wp2_with fail
          refine (HC _).mono ?_
          rintro e8 w2 ⟨rfl, B2⟩
          have hb2 := below2 hb1 B2
          have hw2s : w.heap.size + 2 ≤ w2.heap.size := by have := B2.size; omega
          have hS2 := HS.out w1 w2 hw1s B2 hS1
          clear t0 t1 t2 v0 v1 v2 HC
          cases NN with
          | false =>
            obtain rfl : R = false := by rw [← hR.out]; rfl
            go_wp2
            go_ret
            exact ⟨rfl, hb2⟩
          | true =>
            have z0 := (cell_of_block hS2.1 0).trans rfl
            have HRF : Hid (fitL L V f ks vs = R) := by unfold Hid; rw [← hR.out]; simp
            have HOK : Hid (tkOk 10 (kidsOf L k) p n2) := HTK.out (by first | trivial | rfl)
            have HK := HKD.out w2 hb2 hw2s HOK.out
            have hbA : Below w.heap.size w w2 := hb2
            have hsA : w.heap.size + 2 ≤ w2.heap.size := hw2s
            have hSA : (fun W' : World => W'.heap[w.heap.size]? = some (.cells #[.int .i64 10, .int .i64 y, .slice a1 n1 cap1] 52 (0, 0)) ∧ W'.heap[w.heap.size + 1]? = some (.cells #[.int .i64 p, .string s, .slice a2 n2 cap2] 56 (0, 0))) w2 := hS2
            have IH9 := IH.out (h13.out HOK.out)
            have IHf : Hid (∀ k' ∈ ks, ∀ v' ∈ vs, FitS L V f g k' v') := IH9
            clear IH9 IH HTK h13 hTX HNU H10 hA hR HKD
            have t0' := (cell_of_block hSA.1 0).trans rfl
            have t1' := (cell_of_block hSA.1 1).trans rfl
            have t2' := (cell_of_block hSA.1 2).trans rfl
            have v0' := (cell_of_block hSA.2 0).trans rfl
            have v1' := (cell_of_block hSA.2 1).trans rfl
            have v2' := (cell_of_block hSA.2 2).trans rfl
            go_wp2_with fail
            refine HK.mono ?_
            rintro e5 w5 ⟨b1, c1, rfl, HROW, B5⟩
            have hb5 := below2 hbA B5
            have hs5 : w.heap.size + 2 ≤ w5.heap.size := by have := B5.size; omega
            have hS5 := HS.out w2 w5 hsA B5 hSA
            have u2 := (cell_of_block hS5.2 2).trans rfl
            clear HK t0' t1' t2' v0' v1' v2' hSA
            obtain ⟨kl, hkl⟩ : ∃ kl, ks.length = kl := ⟨_, rfl⟩
            have HKN : Hid (ks.length = kl) := hkl
            have hkl9 : kl ≤ 1000 := by rw [← hkl]; exact HKL.out
            rw [hkl]
            clear hkl
            by_cases hne : kl = n2
            · subst hne
              have HRZ : Hid ((ks.zip vs).all (fun p => fitM L V f p.1 p.2) = R) := by
                unfold Hid; rw [← HRF.out]; unfold fitL; rw [HKN.out, HN2.out]; simp
              have hzl : Hid ((ks.zip vs).length = kl) := by unfold Hid; rw [List.length_zip, HKN.out, HN2.out]; omega
              go_wp2
              go_loopw [73] (fun i wr => ∃ m : Nat, m ≤ kl ∧ i = .int .i64 (m : Int) ∧ Hid (((ks.zip vs).take m).all (fun p => fitM L V f p.1 p.2) = true) ∧ Below w5.heap.size w5 wr) (fun i _ => kl - (intOf i).toNat)
              case atStart => exact ⟨0, by omega, rfl, by simp [Hid], Below.refl _ _⟩
              case round =>
                clear u2
                obtain ⟨m, hm, rfl, hAl, hnx⟩ := hrel
                have hsz9 := hnx.size
                have hbr := below2 hb5 hnx
                by_cases hlt : m < kl
                · have hm1 : m < ks.length := by rw [HKN.out]; exact hlt
                  have hm2 : m < vs.length := by rw [HN2.out]; exact hlt
                  obtain ⟨g1, off1, s1, rfl, p1, c0, c1', c2, tr1⟩ := HROW.out m hm1
                  obtain ⟨g2, off2, s2, rfl, r1, d0, d1, d2, tr2⟩ := K2.out wr hbr m hm2
                  obtain ⟨sa1, sn1, sc1, rfl⟩ := R3.form tr1
                  obtain ⟨sa2, sn2, sc2, rfl⟩ := R3.form tr2
                  have hltI : (m : Int) < (kl : Int) := by omega
                  have b0 := keepCell hnx p1 c0
                  have b1' := keepCell hnx p1 c1'
                  have b2 := keepCell hnx p1 c2
                  have HF0 := fun (W : World) (hW : Below wr.heap.size wr W) => IHf.out ks[m] (List.getElem_mem hm1) vs[m] (List.getElem_mem hm2) W _ _ lo' hi' (.slice sa1 sn1 sc1) (.slice sa2 sn2 sc2) (R3.below (R3.below tr1 hnx (Nat.le_refl _)) hW hsz9) (Nat.le_trans hsz9 hW.size) (R3.below tr2 hW (by omega)) (by have := hW.size; omega)
                  have HSC : Hid (((ks.zip vs).take (m + 1)).all (fun p => fitM L V f p.1 p.2) = fitM L V f ks[m] vs[m]) := by unfold Hid; rw [all_zip_succ hm1 hm2, hAl.out]; rfl
                  have HBd : Hid (fitM L V f ks[m] vs[m] = false → R = false) := fun h => by rw [← HRZ.out]; exact all_zip_bad hm1 hm2 h
                  obtain ⟨r, hr⟩ : ∃ r, fitM L V f ks[m] vs[m] = r := ⟨_, rfl⟩
                  rw [hr] at HSC HBd
                  obtain ⟨x0, hx0⟩ : ∃ x, kdAt L ks[m] = x := ⟨_, rfl⟩
                  obtain ⟨y0, hy0⟩ : ∃ x, nAt L ks[m] = x := ⟨_, rfl⟩
                  obtain ⟨p0, hp0⟩ : ∃ x, vnAt V vs[m] = x := ⟨_, rfl⟩
                  obtain ⟨s0, hs0⟩ : ∃ x, vtAt V vs[m] = x := ⟨_, rfl⟩
                  rw [hx0] at b0
                  rw [hy0] at b1'
                  rw [hp0] at d0
                  rw [hs0] at d1
                  have HF : Hid (∀ W, Below wr.heap.size wr W → Calls Tryd.prog 27 #[.agg #[.int .i64 x0, .int .i64 y0, .slice sa1 sn1 sc1], .agg #[.int .i64 p0, .string s0, .slice sa2 sn2 sc2]] W fun e w' => e = .returned (.bool r) ∧ Below W.heap.size W w') := fun W hW => by
                    have := HF0 W hW
                    rw [hx0, hy0, hp0, hs0, hr] at this
                    exact this
                  clear HF0 hx0 hy0 hp0 hs0 hr tr1 tr2 c0 c1' c2
                  obtain ⟨W3, hW3⟩ : ∃ W, wr.alloc (.cells #[.int .i64 x0, .int .i64 y0, .slice sa1 sn1 sc1] 52) = W := ⟨_, rfl⟩
                  have bW3 : Below wr.heap.size wr W3 := by rw [← hW3]; exact (Below.refl _ _).alloc (Nat.le_refl _) _
                  have q3 : W3.heap[wr.heap.size]? = some (.cells #[.int .i64 x0, .int .i64 y0, .slice sa1 sn1 sc1] 52 (0, 0)) := by rw [← hW3]; exact heap_alloc_new _ _
                  have hS3 : (fun W' : World => W'.heap[wr.heap.size]? = some (.cells #[.int .i64 x0, .int .i64 y0, .slice sa1 sn1 sc1] 52 (0, 0)) ∧ W'.heap[w.heap.size + 1]? = some (.cells #[.int .i64 p, .string s, .slice (some ⟨g2, off2, none⟩) kl cap2] 56 (0, 0)) ∧ W'.cell? ⟨g2, off2 + m * 3, none⟩ = some (.int .i64 p0) ∧ W'.cell? ⟨g2, off2 + m * 3 + 1, none⟩ = some (.string s0) ∧ W'.cell? ⟨g2, off2 + m * 3 + 2, none⟩ = some (.slice sa2 sn2 sc2)) W3.drew := ⟨q3, (bW3.block _ (by omega)).trans ((hnx.block _ (by omega)).trans hS5.2), keepCell bW3.drew (by omega) d0, keepCell bW3.drew (by omega) d1, keepCell bW3.drew (by omega) d2⟩
                  have HFC := HF.out W3.drew bW3.drew
                  clear d0 d1 d2 q3
                  go_wp2_with fail
                  refine wh_begin (fun W' : World => W'.heap[wr.heap.size]? = some (.cells #[.int .i64 x0, .int .i64 y0, .slice sa1 sn1 sc1] 52 (0, 0)) ∧ W'.heap[w.heap.size + 1]? = some (.cells #[.int .i64 p, .string s, .slice (some ⟨g2, off2, none⟩) kl cap2] 56 (0, 0)) ∧ W'.cell? ⟨g2, off2 + m * 3, none⟩ = some (.int .i64 p0) ∧ W'.cell? ⟨g2, off2 + m * 3 + 1, none⟩ = some (.string s0) ∧ W'.cell? ⟨g2, off2 + m * 3 + 2, none⟩ = some (.slice sa2 sn2 sc2)) (by kernel_rfl) ?_
                  refine wh_take 0 (some 78) (.agg #[.int .i64 x0, .int .i64 y0, .slice sa1 sn1 sc1]) rfl rfl (by kernel_rfl) (by kernel_rfl) (by kernel_rfl) (fun _ _ _ h => h) hS3 (by rfl) (fun w' hS => by have q0 := (cell_of_block hS.1 0).trans rfl; have q1 := (cell_of_block hS.1 1).trans rfl; have q2 := (cell_of_block hS.1 2).trans rfl; first | rfl | (go_simp; done)) ?_
                  simp only [Act.put, List.setIfInBounds_toArray, List.set_cons_zero, List.set_cons_succ]
                  refine wh_take 1 (some 79) (.pointer (some ⟨w.heap.size + 1, 2, none⟩)) rfl rfl (by kernel_rfl) (by kernel_rfl) (by kernel_rfl) (fun _ _ _ h => h) hS3 (by rfl) (fun w' hS => by first | rfl | (go_simp; done)) ?_
                  simp only [Act.put, List.setIfInBounds_toArray, List.set_cons_zero, List.set_cons_succ]
                  refine wh_take 2 (some 80) (.slice (some ⟨g2, off2, none⟩) kl cap2) rfl rfl (by kernel_rfl) (by kernel_rfl) (by kernel_rfl) (fun _ _ _ h => h) hS3 (by rfl) (fun w' hS => by have q2 := (cell_of_block hS.2.1 2).trans rfl; first | rfl | (go_simp; done)) ?_
                  simp only [Act.put, List.setIfInBounds_toArray, List.set_cons_zero, List.set_cons_succ]
                  refine wh_take 3 (some 81) (.int .i64 (m : Int)) rfl rfl (by kernel_rfl) (by kernel_rfl) (by kernel_rfl) (fun _ _ _ h => h) hS3 (by rfl) (fun w' hS => by first | rfl | (go_simp; done)) ?_
                  simp only [Act.put, List.setIfInBounds_toArray, List.set_cons_zero, List.set_cons_succ]
                  refine wh_take 4 (some 82) (.pointer (some ⟨g2, off2 + m * 3, none⟩)) rfl rfl (by kernel_rfl) (by kernel_rfl) (by kernel_rfl) (fun _ _ _ h => h) hS3 (by rfl) (fun w' hS => by first | rfl | (go_simp; done)) ?_
                  simp only [Act.put, List.setIfInBounds_toArray, List.set_cons_zero, List.set_cons_succ]
                  refine wh_take 5 (some 83) (.agg #[.int .i64 p0, .string s0, .slice sa2 sn2 sc2]) rfl rfl (by kernel_rfl) (by kernel_rfl) (by kernel_rfl) (fun _ _ _ h => h) hS3 (by rfl) (fun w' hS => by have q0 := hS.2.2.1; have q1 := hS.2.2.2.1; have q2 := hS.2.2.2.2; first | rfl | (go_simp; done)) ?_
                  simp only [Act.put, List.setIfInBounds_toArray, List.set_cons_zero, List.set_cons_succ]
                  refine wh_call 6 (some 84) 27 #[.agg #[.int .i64 x0, .int .i64 y0, .slice sa1 sn1 sc1], .agg #[.int .i64 p0, .string s0, .slice sa2 sn2 sc2]] (by kernel_rfl) rfl rfl (by rfl) (by kernel_rfl) ?_
                  refine HFC.mono ?_
                  rintro e6 w6 ⟨rfl, B6⟩
                  have B6' : Below W3.heap.size W3 w6 := ⟨B6.os, B6.tape, B6.output, B6.size, B6.block⟩
                  have b6 := below2 bW3 B6'
                  have b56 : Below w5.heap.size w5 w6 := below2 hnx b6
                  have hg2 : g2 < W3.heap.size := by have := bW3.size; omega
                  have hS6 : W3.heap.size ≤ W3.heap.size := Nat.le_refl _
                  refine ⟨_, rfl, ⟨(B6'.block _ (lt_of_block hS3.1)).trans hS3.1, (B6'.block _ (lt_of_block hS3.2.1)).trans hS3.2.1, keepCell B6' hg2 hS3.2.2.1, keepCell B6' hg2 hS3.2.2.2.1, keepCell B6' hg2 hS3.2.2.2.2⟩, ?_⟩
                  simp only [Act.put, List.setIfInBounds_toArray, List.set_cons_zero, List.set_cons_succ]
                  refine wh_val 7 (some 85) (.bool (!r)) w6 (by kernel_rfl) rfl rfl (by rfl) (by first | rfl | (go_simp; done)) ⟨(B6'.block _ (lt_of_block hS3.1)).trans hS3.1, (B6'.block _ (lt_of_block hS3.2.1)).trans hS3.2.1, keepCell B6' hg2 hS3.2.2.1, keepCell B6' hg2 hS3.2.2.2.1, keepCell B6' hg2 hS3.2.2.2.2⟩ ?_
                  simp only [Act.put, List.setIfInBounds_toArray, List.set_cons_zero, List.set_cons_succ]
                  refine wh_done (by kernel_rfl) ?_
                  clear hS3 B6 B6' b6 HFC HF bW3 hW3 b0 b1' b2 hg2 hS6
                  cases r with
                  | false =>
                    obtain rfl : R = false := HBd.out rfl
                    go_wp2
                    go_ret
                    exact ⟨rfl, below2 hb5 b56⟩
                  | true =>
                    go_wp2
                    go_roundw
                    case rel => exact ⟨m + 1, by omega, by go_num, HSC, b56⟩
                    case measure => simp [intOf]; omega
                · obtain rfl : m = kl := by omega
                  have hzz : (ks.zip vs).take m = ks.zip vs := List.take_of_length_le (by rw [hzl.out]; exact Nat.le_refl _)
                  obtain rfl : R = true := by rw [← HRZ.out, ← hAl.out, hzz]
                  have hltI : ¬ (m : Int) < (m : Int) := by omega
                  go_wp2
                  go_ret
                  exact ⟨rfl, hbr⟩
            · obtain rfl : R = false := by rw [← HRF.out]; unfold fitL; rw [HKN.out, HN2.out]; simp [hne]
              have hneI : ((kl : Int) == (n2 : Int)) = false := by rw [beq_eq_false_iff_ne]; omega
              go_wp2
              go_ret
              exact ⟨rfl, hb5⟩
        · have e10 : (x == 10) = false := by rw [beq_eq_false_iff_ne]; exact hx10
          by_cases hx11 : x = 11
          · subst hx11
            obtain ⟨B, hB⟩ : ∃ B, Hid ((decide (55296 ≤ p) && decide (p ≤ 57343)) = B) := ⟨_, rfl⟩
            obtain rfl : NN = !B := by rw [HNU.out, hA.out, if_neg (by omega), if_pos rfl, hB.out]; rfl
            go_wp2_with fail
            refine (in_eq _ _ _ _ hB _).mono ?_
            rintro e8 w8 ⟨rfl, hw8⟩
            obtain rfl := hw8.symm
            clear hw8 hB
            cases B with
            | true =>
              obtain rfl : R = false := by rw [← hR.out]; rfl
              go_wp2
              go_ret
              exact ⟨rfl, hb1⟩
            | false =>
              have HRF : Hid (fitL L V f ks vs = R) := by unfold Hid; rw [← hR.out]; simp
              have HOK : Hid (tkOk 11 (kidsOf L k) p n2) := HTK.out (by first | trivial | rfl)
              have HK := HKD.out w1 hb1 hw1s HOK.out
              have hbA : Below w.heap.size w w1 := hb1
              have hsA : w.heap.size + 2 ≤ w1.heap.size := hw1s
              have hSA : (fun W' : World => W'.heap[w.heap.size]? = some (.cells #[.int .i64 11, .int .i64 y, .slice a1 n1 cap1] 52 (0, 0)) ∧ W'.heap[w.heap.size + 1]? = some (.cells #[.int .i64 p, .string s, .slice a2 n2 cap2] 56 (0, 0))) w1 := hS1
              have IH9 := IH.out (h13.out HOK.out)
              have IHf : Hid (∀ k' ∈ ks, ∀ v' ∈ vs, FitS L V f g k' v') := IH9
              clear IH9 IH HTK h13 hTX HNU H10 hA hR HKD
              have t0' := (cell_of_block hSA.1 0).trans rfl
              have t1' := (cell_of_block hSA.1 1).trans rfl
              have t2' := (cell_of_block hSA.1 2).trans rfl
              have v0' := (cell_of_block hSA.2 0).trans rfl
              have v1' := (cell_of_block hSA.2 1).trans rfl
              have v2' := (cell_of_block hSA.2 2).trans rfl
              go_wp2_with fail
              refine HK.mono ?_
              rintro e5 w5 ⟨b1, c1, rfl, HROW, B5⟩
              have hb5 := below2 hbA B5
              have hs5 : w.heap.size + 2 ≤ w5.heap.size := by have := B5.size; omega
              have hS5 := HS.out w1 w5 hsA B5 hSA
              have u2 := (cell_of_block hS5.2 2).trans rfl
              clear HK t0' t1' t2' v0' v1' v2' hSA
              obtain ⟨kl, hkl⟩ : ∃ kl, ks.length = kl := ⟨_, rfl⟩
              have HKN : Hid (ks.length = kl) := hkl
              have hkl9 : kl ≤ 1000 := by rw [← hkl]; exact HKL.out
              rw [hkl]
              clear hkl
              by_cases hne : kl = n2
              · subst hne
                have HRZ : Hid ((ks.zip vs).all (fun p => fitM L V f p.1 p.2) = R) := by
                  unfold Hid; rw [← HRF.out]; unfold fitL; rw [HKN.out, HN2.out]; simp
                have hzl : Hid ((ks.zip vs).length = kl) := by unfold Hid; rw [List.length_zip, HKN.out, HN2.out]; omega
                go_wp2
                go_loopw [73] (fun i wr => ∃ m : Nat, m ≤ kl ∧ i = .int .i64 (m : Int) ∧ Hid (((ks.zip vs).take m).all (fun p => fitM L V f p.1 p.2) = true) ∧ Below w5.heap.size w5 wr) (fun i _ => kl - (intOf i).toNat)
                case atStart => exact ⟨0, by omega, rfl, by simp [Hid], Below.refl _ _⟩
                case round =>
                  clear u2
                  obtain ⟨m, hm, rfl, hAl, hnx⟩ := hrel
                  have hsz9 := hnx.size
                  have hbr := below2 hb5 hnx
                  by_cases hlt : m < kl
                  · have hm1 : m < ks.length := by rw [HKN.out]; exact hlt
                    have hm2 : m < vs.length := by rw [HN2.out]; exact hlt
                    obtain ⟨g1, off1, s1, rfl, p1, c0, c1', c2, tr1⟩ := HROW.out m hm1
                    obtain ⟨g2, off2, s2, rfl, r1, d0, d1, d2, tr2⟩ := K2.out wr hbr m hm2
                    obtain ⟨sa1, sn1, sc1, rfl⟩ := R3.form tr1
                    obtain ⟨sa2, sn2, sc2, rfl⟩ := R3.form tr2
                    have hltI : (m : Int) < (kl : Int) := by omega
                    have b0 := keepCell hnx p1 c0
                    have b1' := keepCell hnx p1 c1'
                    have b2 := keepCell hnx p1 c2
                    have HF0 := fun (W : World) (hW : Below wr.heap.size wr W) => IHf.out ks[m] (List.getElem_mem hm1) vs[m] (List.getElem_mem hm2) W _ _ lo' hi' (.slice sa1 sn1 sc1) (.slice sa2 sn2 sc2) (R3.below (R3.below tr1 hnx (Nat.le_refl _)) hW hsz9) (Nat.le_trans hsz9 hW.size) (R3.below tr2 hW (by omega)) (by have := hW.size; omega)
                    have HSC : Hid (((ks.zip vs).take (m + 1)).all (fun p => fitM L V f p.1 p.2) = fitM L V f ks[m] vs[m]) := by unfold Hid; rw [all_zip_succ hm1 hm2, hAl.out]; rfl
                    have HBd : Hid (fitM L V f ks[m] vs[m] = false → R = false) := fun h => by rw [← HRZ.out]; exact all_zip_bad hm1 hm2 h
                    obtain ⟨r, hr⟩ : ∃ r, fitM L V f ks[m] vs[m] = r := ⟨_, rfl⟩
                    rw [hr] at HSC HBd
                    obtain ⟨x0, hx0⟩ : ∃ x, kdAt L ks[m] = x := ⟨_, rfl⟩
                    obtain ⟨y0, hy0⟩ : ∃ x, nAt L ks[m] = x := ⟨_, rfl⟩
                    obtain ⟨p0, hp0⟩ : ∃ x, vnAt V vs[m] = x := ⟨_, rfl⟩
                    obtain ⟨s0, hs0⟩ : ∃ x, vtAt V vs[m] = x := ⟨_, rfl⟩
                    rw [hx0] at b0
                    rw [hy0] at b1'
                    rw [hp0] at d0
                    rw [hs0] at d1
                    have HF : Hid (∀ W, Below wr.heap.size wr W → Calls Tryd.prog 27 #[.agg #[.int .i64 x0, .int .i64 y0, .slice sa1 sn1 sc1], .agg #[.int .i64 p0, .string s0, .slice sa2 sn2 sc2]] W fun e w' => e = .returned (.bool r) ∧ Below W.heap.size W w') := fun W hW => by
                      have := HF0 W hW
                      rw [hx0, hy0, hp0, hs0, hr] at this
                      exact this
                    clear HF0 hx0 hy0 hp0 hs0 hr tr1 tr2 c0 c1' c2
                    obtain ⟨W3, hW3⟩ : ∃ W, wr.alloc (.cells #[.int .i64 x0, .int .i64 y0, .slice sa1 sn1 sc1] 52) = W := ⟨_, rfl⟩
                    have bW3 : Below wr.heap.size wr W3 := by rw [← hW3]; exact (Below.refl _ _).alloc (Nat.le_refl _) _
                    have q3 : W3.heap[wr.heap.size]? = some (.cells #[.int .i64 x0, .int .i64 y0, .slice sa1 sn1 sc1] 52 (0, 0)) := by rw [← hW3]; exact heap_alloc_new _ _
                    have hS3 : (fun W' : World => W'.heap[wr.heap.size]? = some (.cells #[.int .i64 x0, .int .i64 y0, .slice sa1 sn1 sc1] 52 (0, 0)) ∧ W'.heap[w.heap.size + 1]? = some (.cells #[.int .i64 p, .string s, .slice (some ⟨g2, off2, none⟩) kl cap2] 56 (0, 0)) ∧ W'.cell? ⟨g2, off2 + m * 3, none⟩ = some (.int .i64 p0) ∧ W'.cell? ⟨g2, off2 + m * 3 + 1, none⟩ = some (.string s0) ∧ W'.cell? ⟨g2, off2 + m * 3 + 2, none⟩ = some (.slice sa2 sn2 sc2)) W3.drew := ⟨q3, (bW3.block _ (by omega)).trans ((hnx.block _ (by omega)).trans hS5.2), keepCell bW3.drew (by omega) d0, keepCell bW3.drew (by omega) d1, keepCell bW3.drew (by omega) d2⟩
                    have HFC := HF.out W3.drew bW3.drew
                    clear d0 d1 d2 q3
                    go_wp2_with fail
                    refine wh_begin (fun W' : World => W'.heap[wr.heap.size]? = some (.cells #[.int .i64 x0, .int .i64 y0, .slice sa1 sn1 sc1] 52 (0, 0)) ∧ W'.heap[w.heap.size + 1]? = some (.cells #[.int .i64 p, .string s, .slice (some ⟨g2, off2, none⟩) kl cap2] 56 (0, 0)) ∧ W'.cell? ⟨g2, off2 + m * 3, none⟩ = some (.int .i64 p0) ∧ W'.cell? ⟨g2, off2 + m * 3 + 1, none⟩ = some (.string s0) ∧ W'.cell? ⟨g2, off2 + m * 3 + 2, none⟩ = some (.slice sa2 sn2 sc2)) (by kernel_rfl) ?_
                    refine wh_take 0 (some 78) (.agg #[.int .i64 x0, .int .i64 y0, .slice sa1 sn1 sc1]) rfl rfl (by kernel_rfl) (by kernel_rfl) (by kernel_rfl) (fun _ _ _ h => h) hS3 (by rfl) (fun w' hS => by have q0 := (cell_of_block hS.1 0).trans rfl; have q1 := (cell_of_block hS.1 1).trans rfl; have q2 := (cell_of_block hS.1 2).trans rfl; first | rfl | (go_simp; done)) ?_
                    simp only [Act.put, List.setIfInBounds_toArray, List.set_cons_zero, List.set_cons_succ]
                    refine wh_take 1 (some 79) (.pointer (some ⟨w.heap.size + 1, 2, none⟩)) rfl rfl (by kernel_rfl) (by kernel_rfl) (by kernel_rfl) (fun _ _ _ h => h) hS3 (by rfl) (fun w' hS => by first | rfl | (go_simp; done)) ?_
                    simp only [Act.put, List.setIfInBounds_toArray, List.set_cons_zero, List.set_cons_succ]
                    refine wh_take 2 (some 80) (.slice (some ⟨g2, off2, none⟩) kl cap2) rfl rfl (by kernel_rfl) (by kernel_rfl) (by kernel_rfl) (fun _ _ _ h => h) hS3 (by rfl) (fun w' hS => by have q2 := (cell_of_block hS.2.1 2).trans rfl; first | rfl | (go_simp; done)) ?_
                    simp only [Act.put, List.setIfInBounds_toArray, List.set_cons_zero, List.set_cons_succ]
                    refine wh_take 3 (some 81) (.int .i64 (m : Int)) rfl rfl (by kernel_rfl) (by kernel_rfl) (by kernel_rfl) (fun _ _ _ h => h) hS3 (by rfl) (fun w' hS => by first | rfl | (go_simp; done)) ?_
                    simp only [Act.put, List.setIfInBounds_toArray, List.set_cons_zero, List.set_cons_succ]
                    refine wh_take 4 (some 82) (.pointer (some ⟨g2, off2 + m * 3, none⟩)) rfl rfl (by kernel_rfl) (by kernel_rfl) (by kernel_rfl) (fun _ _ _ h => h) hS3 (by rfl) (fun w' hS => by first | rfl | (go_simp; done)) ?_
                    simp only [Act.put, List.setIfInBounds_toArray, List.set_cons_zero, List.set_cons_succ]
                    refine wh_take 5 (some 83) (.agg #[.int .i64 p0, .string s0, .slice sa2 sn2 sc2]) rfl rfl (by kernel_rfl) (by kernel_rfl) (by kernel_rfl) (fun _ _ _ h => h) hS3 (by rfl) (fun w' hS => by have q0 := hS.2.2.1; have q1 := hS.2.2.2.1; have q2 := hS.2.2.2.2; first | rfl | (go_simp; done)) ?_
                    simp only [Act.put, List.setIfInBounds_toArray, List.set_cons_zero, List.set_cons_succ]
                    refine wh_call 6 (some 84) 27 #[.agg #[.int .i64 x0, .int .i64 y0, .slice sa1 sn1 sc1], .agg #[.int .i64 p0, .string s0, .slice sa2 sn2 sc2]] (by kernel_rfl) rfl rfl (by rfl) (by kernel_rfl) ?_
                    refine HFC.mono ?_
                    rintro e6 w6 ⟨rfl, B6⟩
                    have B6' : Below W3.heap.size W3 w6 := ⟨B6.os, B6.tape, B6.output, B6.size, B6.block⟩
                    have b6 := below2 bW3 B6'
                    have b56 : Below w5.heap.size w5 w6 := below2 hnx b6
                    have hg2 : g2 < W3.heap.size := by have := bW3.size; omega
                    have hS6 : W3.heap.size ≤ W3.heap.size := Nat.le_refl _
                    refine ⟨_, rfl, ⟨(B6'.block _ (lt_of_block hS3.1)).trans hS3.1, (B6'.block _ (lt_of_block hS3.2.1)).trans hS3.2.1, keepCell B6' hg2 hS3.2.2.1, keepCell B6' hg2 hS3.2.2.2.1, keepCell B6' hg2 hS3.2.2.2.2⟩, ?_⟩
                    simp only [Act.put, List.setIfInBounds_toArray, List.set_cons_zero, List.set_cons_succ]
                    refine wh_val 7 (some 85) (.bool (!r)) w6 (by kernel_rfl) rfl rfl (by rfl) (by first | rfl | (go_simp; done)) ⟨(B6'.block _ (lt_of_block hS3.1)).trans hS3.1, (B6'.block _ (lt_of_block hS3.2.1)).trans hS3.2.1, keepCell B6' hg2 hS3.2.2.1, keepCell B6' hg2 hS3.2.2.2.1, keepCell B6' hg2 hS3.2.2.2.2⟩ ?_
                    simp only [Act.put, List.setIfInBounds_toArray, List.set_cons_zero, List.set_cons_succ]
                    refine wh_done (by kernel_rfl) ?_
                    clear hS3 B6 B6' b6 HFC HF bW3 hW3 b0 b1' b2 hg2 hS6
                    cases r with
                    | false =>
                      obtain rfl : R = false := HBd.out rfl
                      go_wp2
                      go_ret
                      exact ⟨rfl, below2 hb5 b56⟩
                    | true =>
                      go_wp2
                      go_roundw
                      case rel => exact ⟨m + 1, by omega, by go_num, HSC, b56⟩
                      case measure => simp [intOf]; omega
                  · obtain rfl : m = kl := by omega
                    have hzz : (ks.zip vs).take m = ks.zip vs := List.take_of_length_le (by rw [hzl.out]; exact Nat.le_refl _)
                    obtain rfl : R = true := by rw [← HRZ.out, ← hAl.out, hzz]
                    have hltI : ¬ (m : Int) < (m : Int) := by omega
                    go_wp2
                    go_ret
                    exact ⟨rfl, hbr⟩
              · obtain rfl : R = false := by rw [← HRF.out]; unfold fitL; rw [HKN.out, HN2.out]; simp [hne]
                have hneI : ((kl : Int) == (n2 : Int)) = false := by rw [beq_eq_false_iff_ne]; omega
                go_wp2
                go_ret
                exact ⟨rfl, hb5⟩
          · have e11 : (x == 11) = false := by rw [beq_eq_false_iff_ne]; exact hx11
            obtain rfl : NN = true := by rw [HNU.out, hA.out, if_neg hx10, if_neg hx11]; rfl
            have HRF : Hid (fitL L V f ks vs = R) := by unfold Hid; rw [← hR.out]; simp
            have HOK : Hid (tkOk x (kidsOf L k) p n2) := HTK.out (by trivial)
            have HK := HKD.out w1 hb1 hw1s HOK.out
            have hbA : Below w.heap.size w w1 := hb1
            have hsA : w.heap.size + 2 ≤ w1.heap.size := hw1s
            have hSA : (fun W' : World => W'.heap[w.heap.size]? = some (.cells #[.int .i64 x, .int .i64 y, .slice a1 n1 cap1] 52 (0, 0)) ∧ W'.heap[w.heap.size + 1]? = some (.cells #[.int .i64 p, .string s, .slice a2 n2 cap2] 56 (0, 0))) w1 := hS1
            have IH9 := IH.out (h13.out HOK.out)
            have IHf : Hid (∀ k' ∈ ks, ∀ v' ∈ vs, FitS L V f g k' v') := IH9
            clear IH9 IH HTK h13 hTX HNU H10 hA hR HKD
            have t0' := (cell_of_block hSA.1 0).trans rfl
            have t1' := (cell_of_block hSA.1 1).trans rfl
            have t2' := (cell_of_block hSA.1 2).trans rfl
            have v0' := (cell_of_block hSA.2 0).trans rfl
            have v1' := (cell_of_block hSA.2 1).trans rfl
            have v2' := (cell_of_block hSA.2 2).trans rfl
            go_wp2_with fail
            refine HK.mono ?_
            rintro e5 w5 ⟨b1, c1, rfl, HROW, B5⟩
            have hb5 := below2 hbA B5
            have hs5 : w.heap.size + 2 ≤ w5.heap.size := by have := B5.size; omega
            have hS5 := HS.out w1 w5 hsA B5 hSA
            have u2 := (cell_of_block hS5.2 2).trans rfl
            clear HK t0' t1' t2' v0' v1' v2' hSA
            obtain ⟨kl, hkl⟩ : ∃ kl, ks.length = kl := ⟨_, rfl⟩
            have HKN : Hid (ks.length = kl) := hkl
            have hkl9 : kl ≤ 1000 := by rw [← hkl]; exact HKL.out
            rw [hkl]
            clear hkl
            by_cases hne : kl = n2
            · subst hne
              have HRZ : Hid ((ks.zip vs).all (fun p => fitM L V f p.1 p.2) = R) := by
                unfold Hid; rw [← HRF.out]; unfold fitL; rw [HKN.out, HN2.out]; simp
              have hzl : Hid ((ks.zip vs).length = kl) := by unfold Hid; rw [List.length_zip, HKN.out, HN2.out]; omega
              go_wp2
              go_loopw [73] (fun i wr => ∃ m : Nat, m ≤ kl ∧ i = .int .i64 (m : Int) ∧ Hid (((ks.zip vs).take m).all (fun p => fitM L V f p.1 p.2) = true) ∧ Below w5.heap.size w5 wr) (fun i _ => kl - (intOf i).toNat)
              case atStart => exact ⟨0, by omega, rfl, by simp [Hid], Below.refl _ _⟩
              case round =>
                clear u2
                obtain ⟨m, hm, rfl, hAl, hnx⟩ := hrel
                have hsz9 := hnx.size
                have hbr := below2 hb5 hnx
                by_cases hlt : m < kl
                · have hm1 : m < ks.length := by rw [HKN.out]; exact hlt
                  have hm2 : m < vs.length := by rw [HN2.out]; exact hlt
                  obtain ⟨g1, off1, s1, rfl, p1, c0, c1', c2, tr1⟩ := HROW.out m hm1
                  obtain ⟨g2, off2, s2, rfl, r1, d0, d1, d2, tr2⟩ := K2.out wr hbr m hm2
                  obtain ⟨sa1, sn1, sc1, rfl⟩ := R3.form tr1
                  obtain ⟨sa2, sn2, sc2, rfl⟩ := R3.form tr2
                  have hltI : (m : Int) < (kl : Int) := by omega
                  have b0 := keepCell hnx p1 c0
                  have b1' := keepCell hnx p1 c1'
                  have b2 := keepCell hnx p1 c2
                  have HF0 := fun (W : World) (hW : Below wr.heap.size wr W) => IHf.out ks[m] (List.getElem_mem hm1) vs[m] (List.getElem_mem hm2) W _ _ lo' hi' (.slice sa1 sn1 sc1) (.slice sa2 sn2 sc2) (R3.below (R3.below tr1 hnx (Nat.le_refl _)) hW hsz9) (Nat.le_trans hsz9 hW.size) (R3.below tr2 hW (by omega)) (by have := hW.size; omega)
                  have HSC : Hid (((ks.zip vs).take (m + 1)).all (fun p => fitM L V f p.1 p.2) = fitM L V f ks[m] vs[m]) := by unfold Hid; rw [all_zip_succ hm1 hm2, hAl.out]; rfl
                  have HBd : Hid (fitM L V f ks[m] vs[m] = false → R = false) := fun h => by rw [← HRZ.out]; exact all_zip_bad hm1 hm2 h
                  obtain ⟨r, hr⟩ : ∃ r, fitM L V f ks[m] vs[m] = r := ⟨_, rfl⟩
                  rw [hr] at HSC HBd
                  obtain ⟨x0, hx0⟩ : ∃ x, kdAt L ks[m] = x := ⟨_, rfl⟩
                  obtain ⟨y0, hy0⟩ : ∃ x, nAt L ks[m] = x := ⟨_, rfl⟩
                  obtain ⟨p0, hp0⟩ : ∃ x, vnAt V vs[m] = x := ⟨_, rfl⟩
                  obtain ⟨s0, hs0⟩ : ∃ x, vtAt V vs[m] = x := ⟨_, rfl⟩
                  rw [hx0] at b0
                  rw [hy0] at b1'
                  rw [hp0] at d0
                  rw [hs0] at d1
                  have HF : Hid (∀ W, Below wr.heap.size wr W → Calls Tryd.prog 27 #[.agg #[.int .i64 x0, .int .i64 y0, .slice sa1 sn1 sc1], .agg #[.int .i64 p0, .string s0, .slice sa2 sn2 sc2]] W fun e w' => e = .returned (.bool r) ∧ Below W.heap.size W w') := fun W hW => by
                    have := HF0 W hW
                    rw [hx0, hy0, hp0, hs0, hr] at this
                    exact this
                  clear HF0 hx0 hy0 hp0 hs0 hr tr1 tr2 c0 c1' c2
                  obtain ⟨W3, hW3⟩ : ∃ W, wr.alloc (.cells #[.int .i64 x0, .int .i64 y0, .slice sa1 sn1 sc1] 52) = W := ⟨_, rfl⟩
                  have bW3 : Below wr.heap.size wr W3 := by rw [← hW3]; exact (Below.refl _ _).alloc (Nat.le_refl _) _
                  have q3 : W3.heap[wr.heap.size]? = some (.cells #[.int .i64 x0, .int .i64 y0, .slice sa1 sn1 sc1] 52 (0, 0)) := by rw [← hW3]; exact heap_alloc_new _ _
                  have hS3 : (fun W' : World => W'.heap[wr.heap.size]? = some (.cells #[.int .i64 x0, .int .i64 y0, .slice sa1 sn1 sc1] 52 (0, 0)) ∧ W'.heap[w.heap.size + 1]? = some (.cells #[.int .i64 p, .string s, .slice (some ⟨g2, off2, none⟩) kl cap2] 56 (0, 0)) ∧ W'.cell? ⟨g2, off2 + m * 3, none⟩ = some (.int .i64 p0) ∧ W'.cell? ⟨g2, off2 + m * 3 + 1, none⟩ = some (.string s0) ∧ W'.cell? ⟨g2, off2 + m * 3 + 2, none⟩ = some (.slice sa2 sn2 sc2)) W3.drew := ⟨q3, (bW3.block _ (by omega)).trans ((hnx.block _ (by omega)).trans hS5.2), keepCell bW3.drew (by omega) d0, keepCell bW3.drew (by omega) d1, keepCell bW3.drew (by omega) d2⟩
                  have HFC := HF.out W3.drew bW3.drew
                  clear d0 d1 d2 q3
                  go_wp2_with fail
                  refine wh_begin (fun W' : World => W'.heap[wr.heap.size]? = some (.cells #[.int .i64 x0, .int .i64 y0, .slice sa1 sn1 sc1] 52 (0, 0)) ∧ W'.heap[w.heap.size + 1]? = some (.cells #[.int .i64 p, .string s, .slice (some ⟨g2, off2, none⟩) kl cap2] 56 (0, 0)) ∧ W'.cell? ⟨g2, off2 + m * 3, none⟩ = some (.int .i64 p0) ∧ W'.cell? ⟨g2, off2 + m * 3 + 1, none⟩ = some (.string s0) ∧ W'.cell? ⟨g2, off2 + m * 3 + 2, none⟩ = some (.slice sa2 sn2 sc2)) (by kernel_rfl) ?_
                  refine wh_take 0 (some 78) (.agg #[.int .i64 x0, .int .i64 y0, .slice sa1 sn1 sc1]) rfl rfl (by kernel_rfl) (by kernel_rfl) (by kernel_rfl) (fun _ _ _ h => h) hS3 (by rfl) (fun w' hS => by have q0 := (cell_of_block hS.1 0).trans rfl; have q1 := (cell_of_block hS.1 1).trans rfl; have q2 := (cell_of_block hS.1 2).trans rfl; first | rfl | (go_simp; done)) ?_
                  simp only [Act.put, List.setIfInBounds_toArray, List.set_cons_zero, List.set_cons_succ]
                  refine wh_take 1 (some 79) (.pointer (some ⟨w.heap.size + 1, 2, none⟩)) rfl rfl (by kernel_rfl) (by kernel_rfl) (by kernel_rfl) (fun _ _ _ h => h) hS3 (by rfl) (fun w' hS => by first | rfl | (go_simp; done)) ?_
                  simp only [Act.put, List.setIfInBounds_toArray, List.set_cons_zero, List.set_cons_succ]
                  refine wh_take 2 (some 80) (.slice (some ⟨g2, off2, none⟩) kl cap2) rfl rfl (by kernel_rfl) (by kernel_rfl) (by kernel_rfl) (fun _ _ _ h => h) hS3 (by rfl) (fun w' hS => by have q2 := (cell_of_block hS.2.1 2).trans rfl; first | rfl | (go_simp; done)) ?_
                  simp only [Act.put, List.setIfInBounds_toArray, List.set_cons_zero, List.set_cons_succ]
                  refine wh_take 3 (some 81) (.int .i64 (m : Int)) rfl rfl (by kernel_rfl) (by kernel_rfl) (by kernel_rfl) (fun _ _ _ h => h) hS3 (by rfl) (fun w' hS => by first | rfl | (go_simp; done)) ?_
                  simp only [Act.put, List.setIfInBounds_toArray, List.set_cons_zero, List.set_cons_succ]
                  refine wh_take 4 (some 82) (.pointer (some ⟨g2, off2 + m * 3, none⟩)) rfl rfl (by kernel_rfl) (by kernel_rfl) (by kernel_rfl) (fun _ _ _ h => h) hS3 (by rfl) (fun w' hS => by first | rfl | (go_simp; done)) ?_
                  simp only [Act.put, List.setIfInBounds_toArray, List.set_cons_zero, List.set_cons_succ]
                  refine wh_take 5 (some 83) (.agg #[.int .i64 p0, .string s0, .slice sa2 sn2 sc2]) rfl rfl (by kernel_rfl) (by kernel_rfl) (by kernel_rfl) (fun _ _ _ h => h) hS3 (by rfl) (fun w' hS => by have q0 := hS.2.2.1; have q1 := hS.2.2.2.1; have q2 := hS.2.2.2.2; first | rfl | (go_simp; done)) ?_
                  simp only [Act.put, List.setIfInBounds_toArray, List.set_cons_zero, List.set_cons_succ]
                  refine wh_call 6 (some 84) 27 #[.agg #[.int .i64 x0, .int .i64 y0, .slice sa1 sn1 sc1], .agg #[.int .i64 p0, .string s0, .slice sa2 sn2 sc2]] (by kernel_rfl) rfl rfl (by rfl) (by kernel_rfl) ?_
                  refine HFC.mono ?_
                  rintro e6 w6 ⟨rfl, B6⟩
                  have B6' : Below W3.heap.size W3 w6 := ⟨B6.os, B6.tape, B6.output, B6.size, B6.block⟩
                  have b6 := below2 bW3 B6'
                  have b56 : Below w5.heap.size w5 w6 := below2 hnx b6
                  have hg2 : g2 < W3.heap.size := by have := bW3.size; omega
                  have hS6 : W3.heap.size ≤ W3.heap.size := Nat.le_refl _
                  refine ⟨_, rfl, ⟨(B6'.block _ (lt_of_block hS3.1)).trans hS3.1, (B6'.block _ (lt_of_block hS3.2.1)).trans hS3.2.1, keepCell B6' hg2 hS3.2.2.1, keepCell B6' hg2 hS3.2.2.2.1, keepCell B6' hg2 hS3.2.2.2.2⟩, ?_⟩
                  simp only [Act.put, List.setIfInBounds_toArray, List.set_cons_zero, List.set_cons_succ]
                  refine wh_val 7 (some 85) (.bool (!r)) w6 (by kernel_rfl) rfl rfl (by rfl) (by first | rfl | (go_simp; done)) ⟨(B6'.block _ (lt_of_block hS3.1)).trans hS3.1, (B6'.block _ (lt_of_block hS3.2.1)).trans hS3.2.1, keepCell B6' hg2 hS3.2.2.1, keepCell B6' hg2 hS3.2.2.2.1, keepCell B6' hg2 hS3.2.2.2.2⟩ ?_
                  simp only [Act.put, List.setIfInBounds_toArray, List.set_cons_zero, List.set_cons_succ]
                  refine wh_done (by kernel_rfl) ?_
                  clear hS3 B6 B6' b6 HFC HF bW3 hW3 b0 b1' b2 hg2 hS6
                  cases r with
                  | false =>
                    obtain rfl : R = false := HBd.out rfl
                    go_wp2
                    go_ret
                    exact ⟨rfl, below2 hb5 b56⟩
                  | true =>
                    go_wp2
                    go_roundw
                    case rel => exact ⟨m + 1, by omega, by go_num, HSC, b56⟩
                    case measure => simp [intOf]; omega
                · obtain rfl : m = kl := by omega
                  have hzz : (ks.zip vs).take m = ks.zip vs := List.take_of_length_le (by rw [hzl.out]; exact Nat.le_refl _)
                  obtain rfl : R = true := by rw [← HRZ.out, ← hAl.out, hzz]
                  have hltI : ¬ (m : Int) < (m : Int) := by omega
                  go_wp2
                  go_ret
                  exact ⟨rfl, hbr⟩
            · obtain rfl : R = false := by rw [← HRF.out]; unfold fitL; rw [HKN.out, HN2.out]; simp [hne]
              have hneI : ((kl : Int) == (n2 : Int)) = false := by rw [beq_eq_false_iff_ne]; omega
              go_wp2
              go_ret
              exact ⟨rfl, hb5⟩

theorem specFits (L : List Nd) (V : List Vn) (hG : goodT L = true) (hV : V.length ≤ 100) (hVs : ∀ x ∈ V, x.2.1.size ≤ 1048576) : ∀ (f g k v : Nat), k < L.length → v < V.length → FitS L V f g k v
  | 0, _, _, _, _, _ => fun _ _ _ _ _ _ _ h => h.elim
  | _ + 1, 0, _, _, _, _ => fun _ _ _ _ _ _ _ _ _ h => h.elim
  | f + 1, g + 1, k, v, hk, hv => specFits_step L V hG hV hVs f g k v hk hv (fun k' hk' v' hv' => specFits L V hG hV hVs f g k' v' (kids_mem hk').2 (kto_mem.1 hv').1)

end Go.Proofs.YtlimlpidbjkofaaDoor

namespace Go.Proofs.YtlimlpidbjkofaaDoor
open Go.ChangeShapes Go.WideShapes Go.ChangeAt Go.RowKit

set_option maxRecDepth 100000 in
set_option maxHeartbeats 1600000 in
theorem specFitsType (a a' : Option Addr) (b off cap b' off' cap' : Nat) (L : List Nd) (V : List Vn) (w : World) (ha : Hid (L ≠ [] → a = some ⟨b, off, none⟩ ∧ b < w.heap.size)) (hL : Hid (ndAt w b off L)) (hlen : L.length ≤ 1048576) (ha' : Hid (V ≠ [] → a' = some ⟨b', off', none⟩ ∧ b' < w.heap.size)) (hV : Hid (vlAt w b' off' V)) (hlen' : V.length ≤ 1048576) (hVs : Hid (∀ x ∈ V, x.2.1.size ≤ 1048576)) :
    Calls Tryd.prog 9 #[.slice a L.length cap, .slice a' V.length cap'] w fun e w' => e = .returned (.bool (fitR L V)) ∧ Below w.heap.size w w' := by
  have HG := specGood a b off cap L w ha hL hlen
  have HSH : Hid (∀ W, Below w.heap.size w W → Calls Tryd.prog 26 #[.slice a' V.length cap'] W fun e w' => e = .returned (.bool (shpOk V)) ∧ Below W.heap.size W w') := fun W hW =>
    specShapeV a' b' off' cap' V W (fun h => ⟨(ha'.out h).1, Nat.lt_of_lt_of_le (ha'.out h).2 hW.size⟩) (fun i hi => (hV.out.below hW (ha'.out (fun e => by simp [e] at hi)).2) i hi) hlen'
  obtain ⟨G, hG⟩ : ∃ G, Hid (goodT L = G) := ⟨_, rfl⟩
  obtain ⟨P, hP⟩ : ∃ P, Hid (shpOk V = P) := ⟨_, rfl⟩
  obtain ⟨R, hR⟩ : ∃ R, Hid (fitR L V = R) := ⟨_, rfl⟩
  rw [hG.out] at HG
  rw [hP.out] at HSH
  rw [hR.out]
  cases G with
  | false =>
    obtain rfl : R = false := by rw [← hR.out]; unfold fitR; rw [hG.out]; rfl
    go_enter Tryd.func9, Tryd.ntmps9
    go_wp2_with (go_at_call 25; refine HG.mono ?_; rintro e w1 ⟨rfl, hb1⟩; clear HG)
    go_ret
    exact ⟨rfl, hb1⟩
  | true =>
    have h40 := ups_good12 hG.out
    have h40' : 1 ≤ L.length ∧ L.length ≤ 40 := ⟨h40.1, h40.2.1⟩
    obtain ⟨rfl, hb⟩ := ha.out (fun h => by simp [h] at h40')
    cases P with
    | false =>
      obtain rfl : R = false := by rw [← hR.out]; unfold fitR; rw [hP.out]; simp
      clear h40 h40'
      go_enter Tryd.func9, Tryd.ntmps9
      go_wp2_with fail
      refine HG.mono ?_
      rintro e w1 ⟨rfl, hb1⟩
      clear HG
      go_wp2_with (go_at_call 26; refine (HSH.out _ hb1).mono ?_; rintro e w2 ⟨rfl, hb2⟩)
      go_ret
      exact ⟨rfl, below2 hb1 hb2⟩
    | true =>
      have hsh : shpV (vuAt V) V.length = true ∧ V.length ≤ 100 := by
        have := hP.out
        unfold shpOk at this
        simp at this
        exact this
      have hV1 : 1 ≤ V.length := by have := hsh.1; unfold shpV at this; simp at this; omega
      obtain ⟨rfl, hb'⟩ := ha'.out (fun h => by simp [h] at hV1)
      have HT1 : Hid (∀ W, Below w.heap.size w W → Calls Tryd.prog 28 #[.slice (some ⟨b, off, none⟩) L.length cap, .int .i64 0] W fun e w' => ∃ sl, e = .returned (.agg #[.int .i64 (kdAt L 0), .int .i64 (nAt L 0), sl]) ∧ S3 L W.heap.size w'.heap.size L.length w' 0 sl ∧ Below W.heap.size W w') := fun W hW => specTreeC L h40'.2 b off cap L.length 0 (by omega) (by omega) W (Nat.lt_of_lt_of_le hb hW.size) (hL.out.below hW hb)
      have HT2 : Hid (∀ W, Below w.heap.size w W → Calls Tryd.prog 29 #[.slice (some ⟨b', off', none⟩) V.length cap', .int .i64 0] W fun e w' => ∃ sl, e = .returned (.agg #[.int .i64 (vnAt V 0), .string (vtAt V 0), sl]) ∧ S3v V W.heap.size w'.heap.size V.length w' 0 sl ∧ Below W.heap.size W w') := fun W hW => specTreeV V hsh.2 b' off' cap' V.length 0 (by omega) (by omega) W (Nat.lt_of_lt_of_le hb' hW.size) (hV.out.below hW hb')
      have HF : Hid (FitS L V L.length V.length 0 0) := specFits L V hG.out hsh.2 hVs.out L.length V.length 0 0 (by omega) (by omega)
      obtain rfl : R = fitM L V L.length 0 0 := by rw [← hR.out]; unfold fitR; rw [hG.out, hP.out]; simp
      obtain ⟨x, hx⟩ : ∃ x, kdAt L 0 = x := ⟨_, rfl⟩
      obtain ⟨y, hy⟩ : ∃ x, nAt L 0 = x := ⟨_, rfl⟩
      obtain ⟨p, hp⟩ : ∃ x, vnAt V 0 = x := ⟨_, rfl⟩
      obtain ⟨s, hs⟩ : ∃ x, vtAt V 0 = x := ⟨_, rfl⟩
      obtain ⟨F, hF⟩ : ∃ F, fitM L V L.length 0 0 = F := ⟨_, rfl⟩
      have HF2 : Hid (∀ (w : World) (lo hi lo' hi' : Nat) (sl sl' : Value), S3 L lo hi L.length w 0 sl → hi ≤ w.heap.size → S3v V lo' hi' V.length w 0 sl' → hi' ≤ w.heap.size → Calls Tryd.prog 27 #[.agg #[.int .i64 x, .int .i64 y, sl], .agg #[.int .i64 p, .string s, sl']] w fun e w' => e = .returned (.bool F) ∧ Below w.heap.size w w') := by
        have := HF.out
        unfold FitS at this
        rw [hx, hy, hp, hs, hF] at this
        exact this
      rw [hx, hy] at HT1
      rw [hp, hs] at HT2
      rw [hF]
      clear HF hx hy hp hs hF hR h40 h40' hsh hV1
      go_enter Tryd.func9, Tryd.ntmps9
      go_wp2_with fail
      refine HG.mono ?_
      rintro e w1 ⟨rfl, hb1⟩
      clear HG
      go_wp2_with fail
      refine (HSH.out _ hb1).mono ?_
      rintro e w2 ⟨rfl, hb2'⟩
      have hb2 := below2 hb1 hb2'
      clear hb2' HSH
      go_wp2_with fail
      refine (HT1.out _ hb2).mono ?_
      rintro e w3 ⟨sl, rfl, tr1, hb3'⟩
      have hb3 := below2 hb2 hb3'
      clear hb3' HT1
      go_wp2_with fail
      refine (HT2.out _ hb3).mono ?_
      rintro e w4 ⟨sl', rfl, tr2, hb4'⟩
      have hb4 := below2 hb3 hb4'
      have HC := HF2.out w4 _ _ _ _ sl sl' (R3.below tr1 hb4' (Nat.le_refl _)) hb4'.size tr2 (Nat.le_refl _)
      clear hb4' HT2 HF2 tr1 tr2
      go_wp2_with fail
      refine HC.mono ?_
      rintro e w5 ⟨rfl, hb5⟩
      clear HC
      go_wp2
      go_ret
      exact ⟨rfl, below2 hb4 hb5⟩

end Go.Proofs.YtlimlpidbjkofaaDoor

namespace Go.Proofs.YtlimlpidbjkofaaDoor
open Go.ChangeShapes Go.WideShapes Go.ChangeAt Go.RowKit

theorem vals_keep {w w' : World} {b off : Nat} {V : List Vn} {a : Option Addr} (h : vlAt w b off V) (ha : V ≠ [] → a = some ⟨b, off, none⟩ ∧ b < w.heap.size) (hb : Below w.heap.size w w') : vlAt w' b off V := fun i hi => (h.below hb (ha (fun e => by simp [e] at hi)).2) i hi
theorem nds_keep {w w' : World} {b off : Nat} {V : List Nd} {a : Option Addr} (h : ndAt w b off V) (ha : V ≠ [] → a = some ⟨b, off, none⟩ ∧ b < w.heap.size) (hb : Below w.heap.size w w') : ndAt w' b off V := fun i hi => (h.below hb (ha (fun e => by simp [e] at hi)).2) i hi

set_option maxRecDepth 100000 in
set_option maxHeartbeats 1600000 in
theorem fitsType_walk (a a' : Option Addr) (cap cap' : Nat) (L : List Nd) (V : List Vn) (w : World) (h : IsNds w a L) (h' : IsVals w a' V) (hTT : Tabs w ∧ BTabs w ∧ UTabs w) :
    Calls Tryd.prog 3 #[.slice a L.length cap, .slice a' V.length cap'] w fun e w' => e = .returned (.bool true) ∧ Below w.heap.size w w' := by
  obtain ⟨b, off, ha, hL, hlen, hfit⟩ := h
  obtain ⟨b', off', ha', hV, hlen', hfit'⟩ := h'
  have HSZ := szNdsR a cap L.length w hlen
  have HT : Hid (Tabs w) := hTT.1
  have HB : Hid (BTabs w) := hTT.2.1
  have HU : Hid (UTabs w) := hTT.2.2
  have HA : Hid (L ≠ [] → a = some ⟨b, off, none⟩ ∧ b < w.heap.size) := ha
  have HL : Hid (ndAt w b off L) := hL
  have HA' : Hid (V ≠ [] → a' = some ⟨b', off', none⟩ ∧ b' < w.heap.size) := ha'
  have HV : Hid (vlAt w b' off' V) := hV
  have HFS : Hid (∀ x ∈ V, x.2.1.size ≤ 9223372036854775807) := fun x hx => (hfit' x hx).2.1
  have KA : Hid (∀ W, Below w.heap.size w W → (L ≠ [] → a = some ⟨b, off, none⟩ ∧ b < W.heap.size) ∧ ndAt W b off L ∧ (V ≠ [] → a' = some ⟨b', off', none⟩ ∧ b' < W.heap.size) ∧ vlAt W b' off' V) := fun W hW => ⟨fun h => ⟨(ha h).1, Nat.lt_of_lt_of_le (ha h).2 hW.size⟩, nds_keep hL ha hW, fun h => ⟨(ha' h).1, Nat.lt_of_lt_of_le (ha' h).2 hW.size⟩, vals_keep hV ha' hW⟩
  clear ha hL hTT ha' hV hfit hfit'
  go_enter Tryd.func3, Tryd.ntmps3
  go_wp2_with fail
  refine HSZ.mono ?_
  rintro e w0 ⟨r, rfl, hr9, hr, rfl⟩
  clear HSZ
  by_cases hneg : r < 0
  · go_wp2
    go_ret
    exact ⟨rfl, Below.refl _ _⟩
  · have hlen2 : L.length ≤ 1048576 := hr (by omega)
    have HS2 := szVals a' b' off' cap' V r w0 HA' HV.out hlen' HFS ⟨by omega, hr9.2⟩
    clear hr hr9
    go_wp2_with fail
    refine HS2.mono ?_
    rintro e w1 ⟨r2, rfl, _, hr2, hb1⟩
    clear HS2 hneg
    by_cases hneg : r2 < 0
    · go_wp2
      go_ret
      exact ⟨rfl, hb1⟩
    · obtain ⟨hlenV, hVs⟩ := hr2 (by omega)
      have HVs : Hid (∀ x ∈ V, x.2.1.size ≤ 1048576) := hVs
      clear hVs hr2
      obtain ⟨x1, x2, x3, x4⟩ := KA.out w1 hb1
      have h1 := toNds a b off cap L w1 x1 x2 hlen2
      clear x1 x2 x3 x4
      go_wp2_with fail
      refine h1.mono ?_
      rintro e w2 ⟨rfl, hl2, hn2, _, hb2'⟩
      have hb2 := below2 hb1 hb2'
      clear h1 hb2'
      obtain ⟨x1, x2, x3, x4⟩ := KA.out w2 hb2
      have h2 := toVals a' b' off' cap' V w2 x3 x4 hlenV
      clear x1 x2 x3 x4
      go_wp2_with fail
      refine h2.mono ?_
      rintro e w3 ⟨rfl, hl3, hn3, _, hb3'⟩
      have hb3 := below2 hb2 hb3'
      have h3 := specFitsType (some ⟨w1.heap.size, 0, none⟩) (some ⟨w2.heap.size, 0, none⟩) w1.heap.size 0 L.length w2.heap.size 0 V.length L V w3 (fun _ => ⟨rfl, Nat.lt_of_lt_of_le hl2 hb3'.size⟩) (hn2.below hb3' hl2) hlen2 (fun _ => ⟨rfl, hl3⟩) hn3 hlenV HVs
      clear h2 hb3' hn2 hn3 hl2 hl3
      go_wp2_with fail
      refine h3.mono ?_
      rintro e w4 ⟨rfl, hb4'⟩
      have hb4 := below2 hb3 hb4'
      clear h3 hb4' hb1 hb2 hb3
      obtain ⟨x1, x2, x3, x4⟩ := KA.out w4 hb4
      have h4 := toNds a b off cap L w4 x1 x2 hlen2
      clear x1 x2 x3 x4
      go_wp2_with fail
      refine h4.mono ?_
      rintro e w5 ⟨rfl, hl5, hn5, _, hb5'⟩
      have hb5 := below2 hb4 hb5'
      clear h4 hb5'
      obtain ⟨x1, x2, x3, x4⟩ := KA.out w5 hb5
      have h5 := toVals a' b' off' cap' V w5 x3 x4 hlenV
      clear x1 x2 x3 x4
      go_wp2_with fail
      refine h5.mono ?_
      rintro e w6 ⟨rfl, hl6, hn6, _, hb6'⟩
      have hb6 := below2 hb5 hb6'
      have hn56 := hn5.below hb6' hl5
      have hl56 := Nat.lt_of_lt_of_le hl5 hb6'.size
      have h6 := implFitsType (some ⟨w4.heap.size, 0, none⟩) (some ⟨w5.heap.size, 0, none⟩) w4.heap.size 0 L.length w5.heap.size 0 V.length L V w6 (fun _ => ⟨rfl, hl56⟩) hn56 hlen2 (fun _ => ⟨rfl, hl6⟩) hn6 hlenV HVs (HT.out.below hb6 (Nat.le_refl _)) (HB.out.below hb6 (Nat.le_refl _)) (Utf8Tabs_below HU.out hb6)
      clear h5 hb6' hn5 hl5 hb4 hb5
      obtain ⟨F, hF⟩ : ∃ F, fitR L V = F := ⟨_, rfl⟩
      rw [hF] at h6 ⊢
      clear hF
      go_wp2_with fail
      refine h6.mono ?_
      rintro e w7 ⟨rfl, hb7'⟩
      have hb7 := below2 hb6 hb7'
      have hn7 := hn56.below hb7' hl56
      have hl7 := Nat.lt_of_lt_of_le hl56 hb7'.size
      have hn7v := hn6.below hb7' hl6
      have hl7v := Nat.lt_of_lt_of_le hl6 hb7'.size
      clear h6 hb7' hn56 hl56 hn6 hl6 hb6
      obtain ⟨x1, x2, x3, x4⟩ := KA.out w7 hb7
      have h7 := toNds a b off cap L w7 x1 x2 hlen2
      clear x1 x2 x3 x4
      go_wp2_with fail
      refine h7.mono ?_
      rintro e w8 ⟨rfl, hl8, hn8, _, hb8'⟩
      have hb8 := below2 hb7 hb8'
      have h8 := eqNds (some ⟨w4.heap.size, 0, none⟩) (some ⟨w7.heap.size, 0, none⟩) w4.heap.size 0 L.length w7.heap.size 0 L.length L w8 (fun _ => ⟨rfl, Nat.lt_of_lt_of_le hl7 hb8'.size⟩) (fun _ => ⟨rfl, hl8⟩) (hn7.below hb8' hl7) hn8 hlen
      have hn8v := hn7v.below hb8' hl7v
      have hl8v := Nat.lt_of_lt_of_le hl7v hb8'.size
      clear h7 hb8' hn7 hl7 hn8 hl8 hn7v hl7v hb7
      go_wp2_with fail
      refine h8.mono ?_
      rintro e w9 ⟨rfl, hb9'⟩
      have hb9 := below2 hb8 hb9'
      have hn9v := hn8v.below hb9' hl8v
      have hl9v := Nat.lt_of_lt_of_le hl8v hb9'.size
      clear h8 hb9' hn8v hl8v hb8
      obtain ⟨x1, x2, x3, x4⟩ := KA.out w9 hb9
      have h9 := toVals a' b' off' cap' V w9 x3 x4 hlenV
      clear x1 x2 x3 x4
      go_wp2_with fail
      refine h9.mono ?_
      rintro e w10 ⟨rfl, hl10, hn10, _, hb10'⟩
      have hb10 := below2 hb9 hb10'
      have h10 := eqVals (some ⟨w5.heap.size, 0, none⟩) (some ⟨w9.heap.size, 0, none⟩) w5.heap.size 0 V.length w9.heap.size 0 V.length V w10 (fun _ => ⟨rfl, Nat.lt_of_lt_of_le hl9v hb10'.size⟩) (fun _ => ⟨rfl, hl10⟩) (hn9v.below hb10' hl9v) hn10 hlen'
      clear h9 hb10' hn9v hl9v hn10 hl10 hb9
      go_wp2_with fail
      refine h10.mono ?_
      rintro e w11 ⟨rfl, hb11⟩
      clear h10
      go_wp2
      go_ret
      exact ⟨rfl, below2 hb10 hb11⟩

end Go.Proofs.YtlimlpidbjkofaaDoor
