/-
  Texts of values: the specification's recursion. (Made by a generator.)
-/
import Derived.Test.YtljnciclbjcinaaGreatDoorVU1
import Derived.Test.YtljnciclbjcinaaGreatDoorVE
namespace Go.Proofs.YtljnciclbjcinaaGreatDoor
open Go.ChangeShapes Go.WideShapes Go.ChangeAt Go.RowKit

def VtS (L : List Nd) (V : List Vn) (f g k v : Nat) : Prop := ∀ (w : World) (lo hi lo' hi' : Nat) (sl sl' : Value), fitM L V f k v = true → S3 L lo hi f w k sl → hi ≤ w.heap.size → S3v V lo' hi' g w v sl' → hi' ≤ w.heap.size →
  Calls Tryz.prog 20 #[.agg #[.int .i64 (kdAt L k), .int .i64 (nAt L k), sl], .agg #[.int .i64 (vnAt V v), .string (vtAt V v), sl']] w fun e w' => e = .returned (.string (bsV (vtx L V f k v))) ∧ Below w.heap.size w w'
theorem jn_take (l : List (List UInt8)) (m : Nat) : (jn (l.take m)).length ≤ (jn l).length := by
  cases l with
  | nil => simp
  | cons a r =>
    cases m with
    | zero => simp [jn]
    | succ m =>
      rw [List.take_succ_cons, jn, jn, List.length_append, List.length_append]
      conv => rhs; rw [← List.take_append_drop m r, List.flatMap_append, List.length_append]
      omega
theorem bsV_size (l : List UInt8) : (bsV l).size = l.length := by simp [bsV, ByteArray.size]
theorem jn_next (ts : List (List UInt8)) (m : Nat) (h : m < ts.length) : jn (ts.take (m + 1)) = jn (ts.take m) ++ ((if m = 0 then [] else [44]) ++ ts[m]) := by
  rw [List.take_succ_eq_append_getElem h, jn_snoc]
  cases m with
  | zero => simp
  | succ m =>
    have : ts.take (m + 1) ≠ [] := by intro e; have h2 := congrArg List.length e; rw [List.length_take, List.length_nil] at h2; omega
    rw [if_neg this, if_neg (by omega)]
theorem three3V {w : World} {b : Nat} {x y z : Value} {t : TypeId} (h : w.heap[b]? = some (.cells #[x, y, z] t (0, 0))) : w.cell? ⟨b, 0, none⟩ = some x ∧ w.cell? ⟨b, 1, none⟩ = some y ∧ w.cell? ⟨b, 2, none⟩ = some z :=
  ⟨(cell_of_block h 0).trans rfl, (cell_of_block h 1).trans rfl, (cell_of_block h 2).trans rfl⟩
theorem tk_nil {x : Int} {K : List Nat} {n : Int} {c : Nat} (h13 : x ≠ 13) (h14 : x ≠ 14) (h15 : x ≠ 15) (h17 : x ≠ 17) (h18 : x ≠ 18) : tk x K n c = [] := by
  unfold tk
  rw [if_neg h13, if_neg h14, if_neg (by intro e; rcases e with e | e; exact h15 e; exact h18 e), if_neg h17]

set_option maxRecDepth 100000 in
set_option maxHeartbeats 6400000 in
theorem specVText_step (L : List Nd) (V : List Vn) (hG : goodT L = true) (hV : V.length ≤ 100) (hsh : shpV (vuAt V) V.length = true) (hvb : ∀ v, -9223372036854775808 ≤ vnAt V v ∧ vnAt V v ≤ 9223372036854775807) (hvt : ∀ v, (vtAt V v).size ≤ 1048576) (f g k v : Nat) (hk : k < L.length) (hv : v < V.length) (IH0 : ∀ k' ∈ kidsOf L k, ∀ v' ∈ kV V v, VtS L V f g k' v') : VtS L V (f + 1) (g + 1) k v := by
  intro w lo hi lo' hi' sl sl' hfit hr1 hhi hr2 hhi'
  obtain ⟨gx, gn, gn9, g40, _, _, gnil⟩ := gnode hG hk
  have hcV : (kV V v).length ≤ 100 := Nat.le_trans (kto_le _ _ _) hV
  have hsz := hvt v
  have hlen := vtx_len (L := L) hsh hvb hvt (f + 1) k v hv
  have hnx := nxt_le (U := vuAt V) (n := V.length) (a := v) (show v + 1 ≤ V.length by omega)
  obtain ⟨a1, cap1, rfl, hc1, H1⟩ := hr1
  obtain ⟨a2, cap2, rfl, _, H2⟩ := hr2
  have HKD : Hid (∀ W, Below w.heap.size w W → w.heap.size + 2 ≤ W.heap.size → tkOk (kdAt L k) (kidsOf L k) (vnAt V v) (kV V v).length →
      Calls Tryz.prog 38 #[.agg #[.int .i64 (kdAt L k), .int .i64 (nAt L k), .slice a1 (kidsOf L k).length cap1], .agg #[.int .i64 (vnAt V v), .string (vtAt V v), .slice a2 (kV V v).length cap2]] W fun e w' => ∃ b1 c1, e = .returned (.slice b1 (tk (kdAt L k) (kidsOf L k) (vnAt V v) (kV V v).length).length c1) ∧ Hid (∀ j (h : j < (tk (kdAt L k) (kidsOf L k) (vnAt V v) (kV V v).length).length), ∃ g off sl', b1 = some ⟨g, off, none⟩ ∧ g < w'.heap.size ∧
        w'.cell? ⟨g, off + j * 3, none⟩ = some (.int .i64 (kdAt L (tk (kdAt L k) (kidsOf L k) (vnAt V v) (kV V v).length)[j])) ∧ w'.cell? ⟨g, off + j * 3 + 1, none⟩ = some (.int .i64 (nAt L (tk (kdAt L k) (kidsOf L k) (vnAt V v) (kV V v).length)[j])) ∧ w'.cell? ⟨g, off + j * 3 + 2, none⟩ = some sl' ∧ S3 L (min lo W.heap.size) w'.heap.size f w' (tk (kdAt L k) (kidsOf L k) (vnAt V v) (kV V v).length)[j] sl') ∧ Below W.heap.size W w') := fun W hW hWs hok => by
    have H1' : ∀ j (h : j < (kidsOf L k).length), ∃ g off sl', a1 = some ⟨g, off, none⟩ ∧ lo ≤ g ∧ g < hi ∧ W.cell? ⟨g, off + j * 3, none⟩ = some (.int .i64 (kdAt L (kidsOf L k)[j])) ∧ W.cell? ⟨g, off + j * 3 + 1, none⟩ = some (.int .i64 (nAt L (kidsOf L k)[j])) ∧ W.cell? ⟨g, off + j * 3 + 2, none⟩ = some sl' ∧ S3 L lo hi f W (kidsOf L k)[j] sl' := by
      intro j hj
      obtain ⟨g9, off9, s9, x1, x2, x3, x4, x5, x6, x7⟩ := H1 j hj
      have hg := hW.block g9 (by omega)
      exact ⟨g9, off9, s9, x1, x2, x3, (cell_heap hg _).trans x4, (cell_heap hg _).trans x5, (cell_heap hg _).trans x6, R3.below x7 hW hhi⟩
    refine (specKids L f k W lo hi a1 cap1 (vnAt V v) (vtAt V v) a2 (kV V v).length cap2 hc1 H1' (Nat.le_trans hhi hW.size) hok).mono ?_
    rintro e w' ⟨sl9, rfl, ⟨b1, c1, rfl, _, H9⟩, hb9⟩
    refine ⟨b1, c1, rfl, fun j hj => ?_, hb9⟩
    obtain ⟨g9, off9, s9, x1, x2, x3, x4, x5, x6, x7⟩ := H9 j hj
    exact ⟨g9, off9, s9, x1, x3, x4, x5, x6, x7⟩
  rw [fitM_succ] at hfit
  simp only [Bool.and_eq_true] at hfit
  obtain ⟨⟨hfn, _⟩, hfl⟩ := hfit
  have HOK : Hid (tkOk (kdAt L k) (kidsOf L k) (vnAt V v) (kV V v).length) := tkOk_of hG hk hcV hfn
  have hm : ∀ k' ∈ tk (kdAt L k) (kidsOf L k) (vnAt V v) (kV V v).length, (kdAt L k = 13 → (kidsOf L k).length = 1) → k' ∈ kidsOf L k := by
    intro k' hk' h13
    unfold tk at hk'
    split at hk'
    · rename_i e
      have h1 := h13 e
      rw [(List.mem_replicate.1 hk').2, List.getD_eq_getElem?_getD, List.getElem?_eq_getElem (by omega), Option.getD_some]
      exact List.getElem_mem _
    · split at hk'
      · exact hk'
      · split at hk'
        · exact List.mem_of_mem_drop (List.mem_of_mem_take hk')
        · split at hk'
          · exact List.mem_of_mem_take hk'
          · simp at hk'
  have IH : Hid (∀ k' ∈ tk (kdAt L k) (kidsOf L k) (vnAt V v) (kV V v).length, ∀ v' ∈ kV V v, VtS L V f g k' v') := fun k' hk' v' hv' => IH0 k' (hm k' hk' HOK.out.2.1) v' hv'
  have K2 : Hid (∀ W, Below w.heap.size w W → ∀ j (h : j < (kV V v).length), ∃ gg off sl', a2 = some ⟨gg, off, none⟩ ∧ gg < w.heap.size ∧ W.cell? ⟨gg, off + j * 3, none⟩ = some (.int .i64 (vnAt V (kV V v)[j])) ∧ W.cell? ⟨gg, off + j * 3 + 1, none⟩ = some (.string (vtAt V (kV V v)[j])) ∧ W.cell? ⟨gg, off + j * 3 + 2, none⟩ = some sl' ∧ S3v V lo' hi' g W (kV V v)[j] sl') := fun W hW j hj => by
    obtain ⟨g9, off9, s9, x1, x2, x3, x4, x5, x6, x7⟩ := H2 j hj
    have hg := hW.block g9 (by omega)
    exact ⟨g9, off9, s9, x1, by omega, (cell_heap hg _).trans x4, (cell_heap hg _).trans x5, (cell_heap hg _).trans x6, R3.below x7 hW hhi'⟩
  have HVB : Hid (-9223372036854775808 ≤ vnAt V v ∧ vnAt V v ≤ 9223372036854775807) := hvb v
  have hfl2 := hfl
  unfold fitL at hfl2
  simp only [Bool.and_eq_true, decide_eq_true_eq] at hfl2
  obtain ⟨hkv, hall⟩ := hfl2
  have HALL : Hid (∀ j (h1 : j < (tk (kdAt L k) (kidsOf L k) (vnAt V v) (kV V v).length).length) (h2 : j < (kV V v).length), fitM L V f (tk (kdAt L k) (kidsOf L k) (vnAt V v) (kV V v).length)[j] (kV V v)[j] = true) := fun j h1 h2 => by
    have h3 := List.all_eq_true.1 hall (((tk (kdAt L k) (kidsOf L k) (vnAt V v) (kV V v).length).zip (kV V v))[j]'(by rw [List.length_zip]; omega)) (List.getElem_mem _)
    rw [List.getElem_zip] at h3
    exact h3
  have HNIL : Hid (kdAt L k ≠ 13 → kdAt L k ≠ 14 → kdAt L k ≠ 15 → kdAt L k ≠ 17 → kdAt L k ≠ 18 → tk (kdAt L k) (kidsOf L k) (vnAt V v) (kV V v).length = []) := tk_nil
  have HN17 : Hid (kdAt L k = 17 → vnAt V v = 0 → tk (kdAt L k) (kidsOf L k) (vnAt V v) (kV V v).length = []) := fun h1 h2 => by
    rw [h1, h2]
    unfold tk
    rw [if_neg (by decide), if_neg (by decide), if_neg (by decide), if_pos rfl]
    rfl
  clear H1 H2 hm gx gn gn9 gnil IH0 g40 hcV hfl hall hfn
  rw [vtx_succ] at hlen ⊢
  obtain ⟨ts, hts⟩ : ∃ ts, ((tk (kdAt L k) (kidsOf L k) (vnAt V v) (kV V v).length).zip (kV V v)).map (fun p => vtx L V f p.1 p.2) = ts := ⟨_, rfl⟩
  rw [hts] at hlen ⊢
  have HTS : Hid (∀ j (h1 : j < (tk (kdAt L k) (kidsOf L k) (vnAt V v) (kV V v).length).length) (h2 : j < (kV V v).length), ∃ h3 : j < ts.length, ts[j] = vtx L V f (tk (kdAt L k) (kidsOf L k) (vnAt V v) (kV V v).length)[j] (kV V v)[j]) := fun j h1 h2 => by
    subst hts
    exact ⟨by rw [List.length_map, List.length_zip]; omega, by rw [List.getElem_map, List.getElem_zip]⟩
  have HTL : Hid (ts.length = (kV V v).length) := by
    subst hts
    unfold Hid
    rw [List.length_map, List.length_zip]
    omega
  have HJ : Hid ((jn ts).length ≤ 400000000) := by
    unfold Hid
    have h2 : 3145740 * (nxt (vuAt V) V.length v (v + 1) - v) ≤ 3145740 * 100 := Nat.mul_le_mul_left _ (by omega)
    rw [List.length_append, List.length_append] at hlen
    omega
  clear hts hlen hnx
  obtain ⟨ks, hks⟩ : ∃ ks, tk (kdAt L k) (kidsOf L k) (vnAt V v) (kV V v).length = ks := ⟨_, rfl⟩
  rw [hks] at HKD IH HALL HTS HNIL HN17 hkv
  obtain ⟨vs, hvs⟩ : ∃ vs, kV V v = vs := ⟨_, rfl⟩
  rw [hvs] at HKD IH K2 HALL HTS HTL HOK hkv ⊢
  obtain ⟨x, hx⟩ : ∃ x, kdAt L k = x := ⟨_, rfl⟩
  obtain ⟨y, hy⟩ : ∃ x, nAt L k = x := ⟨_, rfl⟩
  obtain ⟨p, hp⟩ : ∃ x, vnAt V v = x := ⟨_, rfl⟩
  obtain ⟨s, hs⟩ : ∃ x, vtAt V v = x := ⟨_, rfl⟩
  obtain ⟨n1, hn1⟩ : ∃ x, (kidsOf L k).length = x := ⟨_, rfl⟩
  rw [hn1] at hc1
  rw [hx, hy, hp, hs, hn1] at HKD
  rw [hx, hp] at HOK
  rw [hp] at HVB
  rw [hx] at HNIL
  rw [hx, hp] at HN17
  rw [hs] at hsz
  rw [hx, hy, hp, hs, hn1]
  clear hx hy hp hs hn1 hks hvs
  obtain ⟨n2, hn2⟩ : ∃ x, vs.length = x := ⟨_, rfl⟩
  have HN2 : Hid (vs.length = n2 ∧ ks.length = n2 ∧ ts.length = n2 ∧ n2 ≤ 1000) := ⟨hn2, by omega, by have := HTL.out; omega, by have := HOK.out.1; omega⟩
  rw [hn2] at HKD HOK ⊢
  clear hn2 hkv HTL
  have HSZ : Hid (s.size ≤ 1048576) := hsz
  obtain ⟨R, hR⟩ : ∃ R, bsV (frx x p s.data.toList ++ (jn ts ++ enx x)) = R := ⟨_, rfl⟩
  have HR : Hid (bsV (frx x p s.data.toList ++ (jn ts ++ enx x)) = R) := hR
  rw [hR]
  clear hR
  obtain ⟨W, hW⟩ : ∃ W, (w.alloc (.cells #[.int .i64 x, .int .i64 y, .slice a1 n1 cap1] 47)).alloc (.cells #[.int .i64 p, .string s, .slice a2 n2 cap2] 51) = W := ⟨_, rfl⟩
  have hb : Below w.heap.size w W := by rw [← hW]; exact ((Below.refl _ _).alloc (Nat.le_refl _) _).alloc (by simp) _
  have hWs : w.heap.size + 2 ≤ W.heap.size := by rw [← hW]; simp
  have HBK : Hid (∀ U, Below W.heap.size W U → U.heap[w.heap.size]? = some (.cells #[.int .i64 x, .int .i64 y, .slice a1 n1 cap1] 47 (0, 0)) ∧ U.heap[w.heap.size + 1]? = some (.cells #[.int .i64 p, .string s, .slice a2 n2 cap2] 51 (0, 0))) := fun U hU => by
    refine ⟨(hU.block _ (by omega)).trans ?_, (hU.block _ (by omega)).trans ?_⟩
    · rw [← hW]; exact (Below.heap_alloc _ _ _ (by simp)).trans (heap_alloc_new _ _)
    · rw [← hW]
      have e : w.heap.size + 1 = (w.alloc (.cells #[.int .i64 x, .int .i64 y, .slice a1 n1 cap1] 47)).heap.size := by simp
      rw [e]
      exact heap_alloc_new _ _
  obtain ⟨i0, i1, i2⟩ := three3V (HBK.out W (Below.refl _ _)).1
  obtain ⟨j0, j1, j2⟩ := three3V (HBK.out W (Below.refl _ _)).2
  have HK := HKD.out W hb hWs HOK.out
  have HWB : Hid (∀ U, Below W.heap.size W U → Below w.heap.size w U) := fun U hU => below2 hb hU
  clear HKD hsz
  go_enter Tryz.func20, Tryz.ntmps20
  go_wp2_with fail
  refine HK.mono ?_
  rintro e5 w5 ⟨b1, c1, rfl, HROW, B5⟩
  have HB5 : Hid (Below W.heap.size W w5) := B5
  have h5l : Hid (w.heap.size ≤ w5.heap.size) := by have := B5.size; unfold Hid; omega
  clear HK i0 i1 i2 j0 j1 j2 B5 hW
  rw [HN2.out.2.1]
  go_wp2
  go_loopw [6, 14] (fun al i wr => ∃ (m : Nat) (q : ByteArray), m ≤ n2 ∧ i = .int .i64 (m : Int) ∧ al = .string q ∧ Hid (q = bsV (jn (ts.take m))) ∧ Below w5.heap.size w5 wr) (fun _ i _ => n2 - (intOf i).toNat)
  case atStart => exact ⟨0, ⟨#[]⟩, by omega, rfl, rfl, by rw [List.take_zero]; rfl, Below.refl _ _⟩
  case round =>
    obtain ⟨m, q, hm, rfl, rfl, HQ, hnx⟩ := hrel
    have hsz9 := hnx.size
    have hbr := below2 HB5.out hnx
    have hn9 : n2 ≤ 1000 := HN2.out.2.2.2
    by_cases hlt : m < n2
    · have hm1 : m < ks.length := by rw [HN2.out.2.1]; exact hlt
      have hm2 : m < vs.length := by rw [HN2.out.1]; exact hlt
      obtain ⟨g1, off1, s1, rfl, p1, c0, c1', c2, tr1⟩ := HROW.out m hm1
      obtain ⟨g2, off2, s2, rfl, r1, d0, d1, d2, tr2⟩ := K2.out wr (HWB.out _ hbr) m hm2
      obtain ⟨sa1, sn1, sc1, rfl⟩ := R3.form tr1
      obtain ⟨sa2, sn2, sc2, rfl⟩ := R3.form tr2
      have hltI : (m : Int) < (n2 : Int) := by omega
      have b0 := keepCell hnx p1 c0
      have b1' := keepCell hnx p1 c1'
      have b2 := keepCell hnx p1 c2
      have HF0 := fun (W : World) (hW : Below wr.heap.size wr W) => IH.out ks[m] (List.getElem_mem hm1) vs[m] (List.getElem_mem hm2) W _ _ lo' hi' (.slice sa1 sn1 sc1) (.slice sa2 sn2 sc2) (HALL.out m hm1 hm2) (R3.below (R3.below tr1 hnx (Nat.le_refl _)) hW hsz9) (Nat.le_trans hsz9 hW.size) (R3.below tr2 hW (by have := h5l.out; omega)) (by have := hW.size; have := h5l.out; omega)
      obtain ⟨hm3, htm⟩ := HTS.out m hm1 hm2
      obtain ⟨T1, hT1⟩ : ∃ T, vtx L V f ks[m] vs[m] = T := ⟨_, rfl⟩
      rw [hT1] at htm
      have hjn := jn_next ts m hm3
      rw [htm] at hjn
      have hjl := jn_take ts (m + 1)
      have HJN : Hid (jn (ts.take (m + 1)) = jn (ts.take m) ++ ((if m = 0 then [] else [44]) ++ T1) ∧ (jn (ts.take (m + 1))).length ≤ 400000000) := ⟨hjn, Nat.le_trans hjl HJ.out⟩
      obtain ⟨X1, hX1⟩ : ∃ X, bsV T1 = X := ⟨_, rfl⟩
      have HX1 : Hid (bsV T1 = X1 ∧ T1.length = X1.size) := ⟨hX1, by rw [← hX1, bsV_size]⟩
      obtain ⟨x0, hx0⟩ : ∃ x, kdAt L ks[m] = x := ⟨_, rfl⟩
      obtain ⟨y0, hy0⟩ : ∃ x, nAt L ks[m] = x := ⟨_, rfl⟩
      obtain ⟨p0, hp0⟩ : ∃ x, vnAt V vs[m] = x := ⟨_, rfl⟩
      obtain ⟨s0, hs0⟩ : ∃ x, vtAt V vs[m] = x := ⟨_, rfl⟩
      rw [hx0] at b0
      rw [hy0] at b1'
      rw [hp0] at d0
      rw [hs0] at d1
      have HF : Hid (∀ W, Below wr.heap.size wr W → Calls Tryz.prog 20 #[.agg #[.int .i64 x0, .int .i64 y0, .slice sa1 sn1 sc1], .agg #[.int .i64 p0, .string s0, .slice sa2 sn2 sc2]] W fun e w' => e = .returned (.string X1) ∧ Below W.heap.size W w') := fun W hW => by
        have := HF0 W hW
        rw [hx0, hy0, hp0, hs0, hT1, hX1] at this
        exact this
      clear HF0 hx0 hy0 hp0 hs0 hT1 hX1 tr1 tr2 c0 c1' c2 hjn hjl htm hm3
      obtain ⟨W3, hW3⟩ : ∃ W, wr.alloc (.cells #[.int .i64 x0, .int .i64 y0, .slice sa1 sn1 sc1] 47) = W := ⟨_, rfl⟩
      have bW3 : Below wr.heap.size wr W3 := by rw [← hW3]; exact (Below.refl _ _).alloc (Nat.le_refl _) _
      have q3 : W3.heap[wr.heap.size]? = some (.cells #[.int .i64 x0, .int .i64 y0, .slice sa1 sn1 sc1] 47 (0, 0)) := by rw [← hW3]; exact heap_alloc_new _ _
      have q4 : W3.heap[w.heap.size + 1]? = some (.cells #[.int .i64 p, .string s, .slice (some ⟨g2, off2, none⟩) n2 cap2] 51 (0, 0)) := (HBK.out W3 (below2 hbr bW3)).2
      have hg2l : g2 < wr.heap.size := by have := h5l.out; omega
      have hS3 : (fun W' : World => W'.heap[wr.heap.size]? = some (.cells #[.int .i64 x0, .int .i64 y0, .slice sa1 sn1 sc1] 47 (0, 0)) ∧ W'.heap[w.heap.size + 1]? = some (.cells #[.int .i64 p, .string s, .slice (some ⟨g2, off2, none⟩) n2 cap2] 51 (0, 0)) ∧ W'.cell? ⟨g2, off2 + m * 3, none⟩ = some (.int .i64 p0) ∧ W'.cell? ⟨g2, off2 + m * 3 + 1, none⟩ = some (.string s0) ∧ W'.cell? ⟨g2, off2 + m * 3 + 2, none⟩ = some (.slice sa2 sn2 sc2)) W3.drew := ⟨q3, q4, keepCell bW3.drew hg2l d0, keepCell bW3.drew hg2l d1, keepCell bW3.drew hg2l d2⟩
      have HFC := HF.out W3.drew bW3.drew
      clear d0 d1 d2 q3 q4
      by_cases h0 : m = 0
      · have h0i : ¬ (0 : Int) < (m : Int) := by omega
        have HNX : Hid (q ++ X1 = bsV (jn (ts.take (m + 1)))) := by
          unfold Hid
          rw [HJN.out.1, if_pos h0, HQ.out, ← HX1.out.1, bsV_app]
          rfl
        have hqs : q.size + X1.size ≤ 400000000 := by
          have h := HJN.out.2
          rw [HJN.out.1, List.length_append, List.length_append, HX1.out.2] at h
          rw [HQ.out, bsV_size]
          omega
        clear h0
        go_wp2_with fail
        refine wh_begin (fun W' : World => W'.heap[wr.heap.size]? = some (.cells #[.int .i64 x0, .int .i64 y0, .slice sa1 sn1 sc1] 47 (0, 0)) ∧ W'.heap[w.heap.size + 1]? = some (.cells #[.int .i64 p, .string s, .slice (some ⟨g2, off2, none⟩) n2 cap2] 51 (0, 0)) ∧ W'.cell? ⟨g2, off2 + m * 3, none⟩ = some (.int .i64 p0) ∧ W'.cell? ⟨g2, off2 + m * 3 + 1, none⟩ = some (.string s0) ∧ W'.cell? ⟨g2, off2 + m * 3 + 2, none⟩ = some (.slice sa2 sn2 sc2)) (by kernel_rfl) ?_
        refine wh_take 0 (some 23) (.string q) rfl rfl (by kernel_rfl) (by kernel_rfl) (by kernel_rfl) (fun _ _ _ h => h) hS3 (by rfl) (fun w' hS => by first | rfl | (go_simp; done)) ?_
        simp only [Act.put, List.setIfInBounds_toArray, List.set_cons_zero, List.set_cons_succ]
        refine wh_take 1 (some 24) (.agg #[.int .i64 x0, .int .i64 y0, .slice sa1 sn1 sc1]) rfl rfl (by kernel_rfl) (by kernel_rfl) (by kernel_rfl) (fun _ _ _ h => h) hS3 (by rfl) (fun w' hS => by have q0 := (cell_of_block hS.1 0).trans rfl; have q1 := (cell_of_block hS.1 1).trans rfl; have q2 := (cell_of_block hS.1 2).trans rfl; first | rfl | (go_simp; done)) ?_
        simp only [Act.put, List.setIfInBounds_toArray, List.set_cons_zero, List.set_cons_succ]
        refine wh_take 2 (some 25) (.pointer (some ⟨w.heap.size + 1, 2, none⟩)) rfl rfl (by kernel_rfl) (by kernel_rfl) (by kernel_rfl) (fun _ _ _ h => h) hS3 (by rfl) (fun w' hS => by first | rfl | (go_simp; done)) ?_
        simp only [Act.put, List.setIfInBounds_toArray, List.set_cons_zero, List.set_cons_succ]
        refine wh_take 3 (some 26) (.slice (some ⟨g2, off2, none⟩) n2 cap2) rfl rfl (by kernel_rfl) (by kernel_rfl) (by kernel_rfl) (fun _ _ _ h => h) hS3 (by rfl) (fun w' hS => by have q2 := (cell_of_block hS.2.1 2).trans rfl; first | rfl | (go_simp; done)) ?_
        simp only [Act.put, List.setIfInBounds_toArray, List.set_cons_zero, List.set_cons_succ]
        refine wh_take 4 (some 27) (.int .i64 (m : Int)) rfl rfl (by kernel_rfl) (by kernel_rfl) (by kernel_rfl) (fun _ _ _ h => h) hS3 (by rfl) (fun w' hS => by first | rfl | (go_simp; done)) ?_
        simp only [Act.put, List.setIfInBounds_toArray, List.set_cons_zero, List.set_cons_succ]
        refine wh_take 5 (some 28) (.pointer (some ⟨g2, off2 + m * 3, none⟩)) rfl rfl (by kernel_rfl) (by kernel_rfl) (by kernel_rfl) (fun _ _ _ h => h) hS3 (by rfl) (fun w' hS => by first | rfl | (go_simp; done)) ?_
        simp only [Act.put, List.setIfInBounds_toArray, List.set_cons_zero, List.set_cons_succ]
        refine wh_take 6 (some 29) (.agg #[.int .i64 p0, .string s0, .slice sa2 sn2 sc2]) rfl rfl (by kernel_rfl) (by kernel_rfl) (by kernel_rfl) (fun _ _ _ h => h) hS3 (by rfl) (fun w' hS => by have q0 := hS.2.2.1; have q1 := hS.2.2.2.1; have q2 := hS.2.2.2.2; first | rfl | (go_simp; done)) ?_
        simp only [Act.put, List.setIfInBounds_toArray, List.set_cons_zero, List.set_cons_succ]
        refine wh_call 7 (some 30) 20 #[.agg #[.int .i64 x0, .int .i64 y0, .slice sa1 sn1 sc1], .agg #[.int .i64 p0, .string s0, .slice sa2 sn2 sc2]] (by kernel_rfl) rfl rfl (by rfl) (by kernel_rfl) ?_
        refine HFC.mono ?_
        rintro e6 w6 ⟨rfl, B6⟩
        have B6' : Below W3.heap.size W3 w6 := ⟨B6.os, B6.tape, B6.output, B6.size, B6.block⟩
        have b56 : Below w5.heap.size w5 w6 := below2 hnx (below2 bW3 B6')
        have hg2 : g2 < W3.heap.size := by have := bW3.size; omega
        have hS6 : (fun W' : World => W'.heap[wr.heap.size]? = some (.cells #[.int .i64 x0, .int .i64 y0, .slice sa1 sn1 sc1] 47 (0, 0)) ∧ W'.heap[w.heap.size + 1]? = some (.cells #[.int .i64 p, .string s, .slice (some ⟨g2, off2, none⟩) n2 cap2] 51 (0, 0)) ∧ W'.cell? ⟨g2, off2 + m * 3, none⟩ = some (.int .i64 p0) ∧ W'.cell? ⟨g2, off2 + m * 3 + 1, none⟩ = some (.string s0) ∧ W'.cell? ⟨g2, off2 + m * 3 + 2, none⟩ = some (.slice sa2 sn2 sc2)) w6 := ⟨(B6'.block _ (lt_of_block hS3.1)).trans hS3.1, (B6'.block _ (lt_of_block hS3.2.1)).trans hS3.2.1, keepCell B6' hg2 hS3.2.2.1, keepCell B6' hg2 hS3.2.2.2.1, keepCell B6' hg2 hS3.2.2.2.2⟩
        refine ⟨_, rfl, hS6, ?_⟩
        simp only [Act.put, List.setIfInBounds_toArray, List.set_cons_zero, List.set_cons_succ]
        refine wh_val 8 (some 31) (.string (q ++ X1)) w6 (by kernel_rfl) rfl rfl (by rfl) (by first | rfl | (go_simp; done) | (go_simp; omega)) hS6 ?_
        simp only [Act.put, List.setIfInBounds_toArray, List.set_cons_zero, List.set_cons_succ]
        refine wh_val 9 (some 6) (.string (q ++ X1)) w6 (by kernel_rfl) rfl rfl (by rfl) (by first | rfl | (go_simp; done)) hS6 ?_
        simp only [Act.put, List.setIfInBounds_toArray, List.set_cons_zero, List.set_cons_succ]
        refine wh_done (by kernel_rfl) ?_
        clear hS3 hS6 B6 B6' HFC HF bW3 hW3 b0 b1' b2 hg2
        go_wp2
        go_roundw
        case rel => exact ⟨m + 1, _, by omega, by go_num, rfl, HNX.out, b56⟩
        case measure => simp [intOf]; omega
      · have h0i : (0 : Int) < (m : Int) := by omega
        have HNX : Hid ((q ++ (⟨#[44]⟩ : ByteArray)) ++ X1 = bsV (jn (ts.take (m + 1)))) := by
          unfold Hid
          rw [HJN.out.1, if_neg h0, HQ.out, ← HX1.out.1, show (⟨#[44]⟩ : ByteArray) = bsV [44] from rfl, bsV_app, bsV_app, List.append_assoc]
        obtain ⟨q2, hq2⟩ : ∃ x, q ++ (⟨#[44]⟩ : ByteArray) = x := ⟨_, rfl⟩
        have hqs : q2.size + X1.size ≤ 400000000 := by
          have h := congrArg ByteArray.size HNX.out
          rw [hq2, ByteArray.size_append, bsV_size] at h
          rw [h]
          exact HJN.out.2
        have hqs2 : q.size ≤ 400000000 := by
          have h := congrArg ByteArray.size hq2
          rw [ByteArray.size_append] at h
          omega
        rw [hq2] at HNX
        clear h0
        go_wp2_with fail
        refine wh_begin (fun W' : World => W'.heap[wr.heap.size]? = some (.cells #[.int .i64 x0, .int .i64 y0, .slice sa1 sn1 sc1] 47 (0, 0)) ∧ W'.heap[w.heap.size + 1]? = some (.cells #[.int .i64 p, .string s, .slice (some ⟨g2, off2, none⟩) n2 cap2] 51 (0, 0)) ∧ W'.cell? ⟨g2, off2 + m * 3, none⟩ = some (.int .i64 p0) ∧ W'.cell? ⟨g2, off2 + m * 3 + 1, none⟩ = some (.string s0) ∧ W'.cell? ⟨g2, off2 + m * 3 + 2, none⟩ = some (.slice sa2 sn2 sc2)) (by kernel_rfl) ?_
        refine wh_take 0 (some 23) (.string q2) rfl rfl (by kernel_rfl) (by kernel_rfl) (by kernel_rfl) (fun _ _ _ h => h) hS3 (by rfl) (fun w' hS => by first | rfl | (go_simp; done)) ?_
        simp only [Act.put, List.setIfInBounds_toArray, List.set_cons_zero, List.set_cons_succ]
        refine wh_take 1 (some 24) (.agg #[.int .i64 x0, .int .i64 y0, .slice sa1 sn1 sc1]) rfl rfl (by kernel_rfl) (by kernel_rfl) (by kernel_rfl) (fun _ _ _ h => h) hS3 (by rfl) (fun w' hS => by have q0 := (cell_of_block hS.1 0).trans rfl; have q1 := (cell_of_block hS.1 1).trans rfl; have q2 := (cell_of_block hS.1 2).trans rfl; first | rfl | (go_simp; done)) ?_
        simp only [Act.put, List.setIfInBounds_toArray, List.set_cons_zero, List.set_cons_succ]
        refine wh_take 2 (some 25) (.pointer (some ⟨w.heap.size + 1, 2, none⟩)) rfl rfl (by kernel_rfl) (by kernel_rfl) (by kernel_rfl) (fun _ _ _ h => h) hS3 (by rfl) (fun w' hS => by first | rfl | (go_simp; done)) ?_
        simp only [Act.put, List.setIfInBounds_toArray, List.set_cons_zero, List.set_cons_succ]
        refine wh_take 3 (some 26) (.slice (some ⟨g2, off2, none⟩) n2 cap2) rfl rfl (by kernel_rfl) (by kernel_rfl) (by kernel_rfl) (fun _ _ _ h => h) hS3 (by rfl) (fun w' hS => by have q2 := (cell_of_block hS.2.1 2).trans rfl; first | rfl | (go_simp; done)) ?_
        simp only [Act.put, List.setIfInBounds_toArray, List.set_cons_zero, List.set_cons_succ]
        refine wh_take 4 (some 27) (.int .i64 (m : Int)) rfl rfl (by kernel_rfl) (by kernel_rfl) (by kernel_rfl) (fun _ _ _ h => h) hS3 (by rfl) (fun w' hS => by first | rfl | (go_simp; done)) ?_
        simp only [Act.put, List.setIfInBounds_toArray, List.set_cons_zero, List.set_cons_succ]
        refine wh_take 5 (some 28) (.pointer (some ⟨g2, off2 + m * 3, none⟩)) rfl rfl (by kernel_rfl) (by kernel_rfl) (by kernel_rfl) (fun _ _ _ h => h) hS3 (by rfl) (fun w' hS => by first | rfl | (go_simp; done)) ?_
        simp only [Act.put, List.setIfInBounds_toArray, List.set_cons_zero, List.set_cons_succ]
        refine wh_take 6 (some 29) (.agg #[.int .i64 p0, .string s0, .slice sa2 sn2 sc2]) rfl rfl (by kernel_rfl) (by kernel_rfl) (by kernel_rfl) (fun _ _ _ h => h) hS3 (by rfl) (fun w' hS => by have q0 := hS.2.2.1; have q1 := hS.2.2.2.1; have q2 := hS.2.2.2.2; first | rfl | (go_simp; done)) ?_
        simp only [Act.put, List.setIfInBounds_toArray, List.set_cons_zero, List.set_cons_succ]
        refine wh_call 7 (some 30) 20 #[.agg #[.int .i64 x0, .int .i64 y0, .slice sa1 sn1 sc1], .agg #[.int .i64 p0, .string s0, .slice sa2 sn2 sc2]] (by kernel_rfl) rfl rfl (by rfl) (by kernel_rfl) ?_
        refine HFC.mono ?_
        rintro e6 w6 ⟨rfl, B6⟩
        have B6' : Below W3.heap.size W3 w6 := ⟨B6.os, B6.tape, B6.output, B6.size, B6.block⟩
        have b56 : Below w5.heap.size w5 w6 := below2 hnx (below2 bW3 B6')
        have hg2 : g2 < W3.heap.size := by have := bW3.size; omega
        have hS6 : (fun W' : World => W'.heap[wr.heap.size]? = some (.cells #[.int .i64 x0, .int .i64 y0, .slice sa1 sn1 sc1] 47 (0, 0)) ∧ W'.heap[w.heap.size + 1]? = some (.cells #[.int .i64 p, .string s, .slice (some ⟨g2, off2, none⟩) n2 cap2] 51 (0, 0)) ∧ W'.cell? ⟨g2, off2 + m * 3, none⟩ = some (.int .i64 p0) ∧ W'.cell? ⟨g2, off2 + m * 3 + 1, none⟩ = some (.string s0) ∧ W'.cell? ⟨g2, off2 + m * 3 + 2, none⟩ = some (.slice sa2 sn2 sc2)) w6 := ⟨(B6'.block _ (lt_of_block hS3.1)).trans hS3.1, (B6'.block _ (lt_of_block hS3.2.1)).trans hS3.2.1, keepCell B6' hg2 hS3.2.2.1, keepCell B6' hg2 hS3.2.2.2.1, keepCell B6' hg2 hS3.2.2.2.2⟩
        refine ⟨_, rfl, hS6, ?_⟩
        simp only [Act.put, List.setIfInBounds_toArray, List.set_cons_zero, List.set_cons_succ]
        refine wh_val 8 (some 31) (.string (q2 ++ X1)) w6 (by kernel_rfl) rfl rfl (by rfl) (by first | rfl | (go_simp; done) | (go_simp; omega)) hS6 ?_
        simp only [Act.put, List.setIfInBounds_toArray, List.set_cons_zero, List.set_cons_succ]
        refine wh_val 9 (some 6) (.string (q2 ++ X1)) w6 (by kernel_rfl) rfl rfl (by rfl) (by first | rfl | (go_simp; done)) hS6 ?_
        simp only [Act.put, List.setIfInBounds_toArray, List.set_cons_zero, List.set_cons_succ]
        refine wh_done (by kernel_rfl) ?_
        clear hS3 hS6 B6 B6' HFC HF bW3 hW3 b0 b1' b2 hg2
        go_wp2
        go_roundw
        case rel => exact ⟨m + 1, _, by omega, by go_num, rfl, HNX.out, b56⟩
        case measure => simp [intOf]; omega
    · have hmn : m = n2 := by omega
      have HQE : Hid (q = bsV (jn ts) ∧ q.size ≤ 400000000) := by
        have h : q = bsV (jn ts) := by rw [HQ.out, hmn, List.take_of_length_le (by have := HN2.out.2.2.1; omega)]
        exact ⟨h, by rw [h, bsV_size]; exact HJ.out⟩
      have hqs := HQE.out.2
      have hltI : ¬ (m : Int) < (n2 : Int) := by omega
      have HNS : Hid (ks = [] → jn ts = []) := fun h => by
        have h1 := HN2.out.2.1
        rw [h] at h1
        have h2 : ts = [] := List.length_eq_zero_iff.1 (by have := HN2.out.2.2.1; simp at h1; omega)
        rw [h2]
        rfl
      obtain ⟨t0, t1, t2⟩ := three3V (HBK.out wr hbr).1
      obtain ⟨v0, v1, v2⟩ := three3V (HBK.out wr hbr).2
      have HBR : Hid (Below w.heap.size w wr) := HWB.out _ hbr
      have hp0 := HVB.out.1
      have hp1 := HVB.out.2
      have NI := fun U => specNumI p hp0 hp1 U
      have NU := fun U => specUns p hp0 hp1 U
      have NQ := fun U => specQuote s HSZ.out U
      have hli := itx_len hp0 hp1
      clear hmn HALL IH K2 HTS HROW hp0 hp1 hnx hsz9
      by_cases h1 : x = 1
      · subst h1
        have hj := HNS.out (HNIL.out (by decide) (by decide) (by decide) (by decide) (by decide))
        by_cases hp : p = 1
        · subst hp
          have hR1 : R = ⟨#[116, 114, 117, 101]⟩ := by
            rw [← HR.out, hj]
            rfl
          subst hR1
          clear hj HR HNS HNIL HN17 NI NU NQ
          go_wp2
          go_ret
          exact ⟨rfl, HBR.out⟩
        · have hpb : (p == 1) = false := by rw [beq_eq_false_iff_ne]; exact hp
          have hR1 : R = ⟨#[102, 97, 108, 115, 101]⟩ := by
            rw [← HR.out, hj]
            unfold frx; rw [if_pos rfl, if_neg hp]; rfl
          subst hR1
          clear hj HR HNS HNIL HN17 NI NU NQ
          go_wp2
          go_ret
          exact ⟨rfl, HBR.out⟩
      · have e1 : (x == 1) = false := by rw [beq_eq_false_iff_ne]; exact h1
        by_cases h8 : x = 8
        · subst h8
          have hj := HNS.out (HNIL.out (by decide) (by decide) (by decide) (by decide) (by decide))
          have hR1 : R = bsV (utx p) := by
            rw [← HR.out, hj]
            show bsV (frx 8 p s.data.toList ++ ([] ++ [])) = _
            rw [List.append_nil, List.append_nil]
            rfl
          rw [← hR1] at NU
          clear hj HR HNS HNIL HN17 hR1 NI NQ
          go_wp2_with fail
          refine (NU _).mono ?_
          rintro e w7 ⟨rfl, hb7⟩
          go_wp2
          go_ret
          exact ⟨rfl, below2 HBR.out hb7⟩
        · have e8 : (x == 8) = false := by rw [beq_eq_false_iff_ne]; exact h8
          by_cases h12 : x = 12
          · subst h12
            have hj := HNS.out (HNIL.out (by decide) (by decide) (by decide) (by decide) (by decide))
            have hR1 : R = bsV (qtx s.data.toList) := by
              rw [← HR.out, hj]
              show bsV (frx 12 p s.data.toList ++ ([] ++ [])) = _
              rw [List.append_nil, List.append_nil]
              rfl
            rw [← hR1] at NQ
            clear hj HR HNS HNIL HN17 hR1 NI NU
            go_wp2_with fail
            refine (NQ _).mono ?_
            rintro e w7 ⟨rfl, hb7⟩
            go_wp2
            go_ret
            exact ⟨rfl, below2 HBR.out hb7⟩
          · have e12 : (x == 12) = false := by rw [beq_eq_false_iff_ne]; exact h12
            by_cases h13 : x = 13
            · subst h13
              have hR1 : R = ((⟨#[91]⟩ : ByteArray) ++ q) ++ (⟨#[93]⟩ : ByteArray) := by
                rw [← HR.out, HQE.out.1, show (⟨#[91]⟩ : ByteArray) = bsV [91] from rfl, show (⟨#[93]⟩ : ByteArray) = bsV [93] from rfl, bsV_app, bsV_app]
                rfl
              subst hR1
              have hs1 : ((⟨#[91]⟩ : ByteArray) ++ q).size = 1 + q.size := by rw [ByteArray.size_append]; rfl
              clear HR HNS HNIL HN17 NI NU NQ
              go_wp2
              go_ret
              exact ⟨rfl, HBR.out⟩
            · have e13 : (x == 13) = false := by rw [beq_eq_false_iff_ne]; exact h13
              by_cases h14 : x = 14
              · subst h14
                have hR1 : R = ((⟨#[40]⟩ : ByteArray) ++ q) ++ (⟨#[41]⟩ : ByteArray) := by
                  rw [← HR.out, HQE.out.1, show (⟨#[40]⟩ : ByteArray) = bsV [40] from rfl, show (⟨#[41]⟩ : ByteArray) = bsV [41] from rfl, bsV_app, bsV_app]
                  rfl
                subst hR1
                have hs1 : ((⟨#[40]⟩ : ByteArray) ++ q).size = 1 + q.size := by rw [ByteArray.size_append]; rfl
                clear HR HNS HNIL HN17 NI NU NQ
                go_wp2
                go_ret
                exact ⟨rfl, HBR.out⟩
              · have e14 : (x == 14) = false := by rw [beq_eq_false_iff_ne]; exact h14
                by_cases h15 : x = 15
                · subst h15
                  obtain ⟨D, hD⟩ : ∃ D, bsV (itx p) = D := ⟨_, rfl⟩
                  have hR1 : R = (D ++ (⟨#[58]⟩ : ByteArray)) ++ q := by
                    rw [← HR.out, HQE.out.1, ← hD, show (⟨#[58]⟩ : ByteArray) = bsV [58] from rfl, bsV_app, bsV_app]
                    show bsV ((itx p ++ [58]) ++ (jn ts ++ [])) = _
                    rw [List.append_nil]
                  subst hR1
                  have hds : D.size ≤ 21 := by rw [← hD, bsV_size]; exact hli
                  have hs1 : (D ++ (⟨#[58]⟩ : ByteArray)).size ≤ 22 := by rw [ByteArray.size_append]; exact Nat.add_le_add_right hds 1
                  rw [hD] at NI
                  clear HR HNS HNIL HN17 NU NQ hD hli
                  go_wp2_with fail
                  refine (NI _).mono ?_
                  rintro e w7 ⟨rfl, hb7⟩
                  go_wp2
                  go_ret
                  exact ⟨rfl, below2 HBR.out hb7⟩
                · have e15 : (x == 15) = false := by rw [beq_eq_false_iff_ne]; exact h15
                  by_cases h17 : x = 17
                  · subst h17
                    by_cases hp : p = 0
                    · subst hp
                      have hj := HNS.out (HN17.out rfl rfl)
                      have hR1 : R = ⟨#[110, 111, 110, 101]⟩ := by
                        rw [← HR.out, hj]
                        rfl
                      subst hR1
                      clear hj HR HNS HNIL HN17 NI NU NQ
                      go_wp2
                      go_ret
                      exact ⟨rfl, HBR.out⟩
                    · have hpb : (p == 0) = false := by rw [beq_eq_false_iff_ne]; exact hp
                      have hR1 : R = (⟨#[115, 111, 109, 101, 58]⟩ : ByteArray) ++ q := by
                        rw [← HR.out, HQE.out.1, show (⟨#[115, 111, 109, 101, 58]⟩ : ByteArray) = bsV [115, 111, 109, 101, 58] from rfl, bsV_app]
                        show bsV (frx 17 p s.data.toList ++ (jn ts ++ [])) = _
                        rw [List.append_nil]
                        have hf : frx 17 p s.data.toList = [115, 111, 109, 101, 58] := by unfold frx; rw [if_neg (by decide), if_neg (by decide), if_neg (by decide), if_neg (by decide), if_neg (by decide), if_neg (by decide), if_pos rfl, if_neg hp]
                        rw [hf]
                      subst hR1
                      clear HR HNS HNIL HN17 NI NU NQ
                      go_wp2
                      go_ret
                      exact ⟨rfl, HBR.out⟩
                  · have e17 : (x == 17) = false := by rw [beq_eq_false_iff_ne]; exact h17
                    by_cases h18 : x = 18
                    · subst h18
                      by_cases hp : p = 0
                      · subst hp
                        have hR1 : R = (⟨#[111, 107, 58]⟩ : ByteArray) ++ q := by
                          rw [← HR.out, HQE.out.1, show (⟨#[111, 107, 58]⟩ : ByteArray) = bsV [111, 107, 58] from rfl, bsV_app]
                          show bsV (frx 18 0 s.data.toList ++ (jn ts ++ [])) = _
                          rw [List.append_nil]
                          rfl
                        subst hR1
                        clear HR HNS HNIL HN17 NI NU NQ
                        go_wp2
                        go_ret
                        exact ⟨rfl, HBR.out⟩
                      · have hpb : (p == 0) = false := by rw [beq_eq_false_iff_ne]; exact hp
                        have hR1 : R = (⟨#[101, 114, 114, 58]⟩ : ByteArray) ++ q := by
                          rw [← HR.out, HQE.out.1, show (⟨#[101, 114, 114, 58]⟩ : ByteArray) = bsV [101, 114, 114, 58] from rfl, bsV_app]
                          show bsV (frx 18 p s.data.toList ++ (jn ts ++ [])) = _
                          rw [List.append_nil]
                          have hf : frx 18 p s.data.toList = [101, 114, 114, 58] := by unfold frx; rw [if_neg (by decide), if_neg (by decide), if_neg (by decide), if_neg (by decide), if_neg (by decide), if_neg (by decide), if_neg (by decide), if_pos rfl, if_neg hp]
                          rw [hf]
                        subst hR1
                        clear HR HNS HNIL HN17 NI NU NQ
                        go_wp2
                        go_ret
                        exact ⟨rfl, HBR.out⟩
                    · have e18 : (x == 18) = false := by rw [beq_eq_false_iff_ne]; exact h18
                      have hj := HNS.out (HNIL.out h13 h14 h15 h17 h18)
                      have hR1 : R = bsV (itx p) := by
                        rw [← HR.out, hj]
                        have hf : frx x p s.data.toList = itx p := by unfold frx; rw [if_neg h1, if_neg h8, if_neg h12, if_neg h13, if_neg h14, if_neg h15, if_neg h17, if_neg h18]
                        have he : enx x = [] := by unfold enx; rw [if_neg h13, if_neg h14]
                        rw [hf, he, List.append_nil, List.append_nil]
                      rw [← hR1] at NI
                      clear hj HR HNS HNIL HN17 hR1 NU NQ
                      go_wp2_with fail
                      refine (NI _).mono ?_
                      rintro e w7 ⟨rfl, hb7⟩
                      go_wp2
                      go_ret
                      exact ⟨rfl, below2 HBR.out hb7⟩

end Go.Proofs.YtljnciclbjcinaaGreatDoor

namespace Go.Proofs.YtljnciclbjcinaaGreatDoor
open Go.ChangeShapes Go.WideShapes Go.ChangeAt Go.RowKit

theorem specVText (L : List Nd) (V : List Vn) (hG : goodT L = true) (hV : V.length ≤ 100) (hsh : shpV (vuAt V) V.length = true) (hvb : ∀ v, -9223372036854775808 ≤ vnAt V v ∧ vnAt V v ≤ 9223372036854775807) (hvt : ∀ v, (vtAt V v).size ≤ 1048576) : ∀ (f g k v : Nat), k < L.length → v < V.length → VtS L V f g k v
  | 0, _, _, _, _, _ => fun _ _ _ _ _ _ _ _ h => h.elim
  | _ + 1, 0, _, _, _, _ => fun _ _ _ _ _ _ _ _ _ _ h => h.elim
  | f + 1, g + 1, k, v, hk, hv => specVText_step L V hG hV hsh hvb hvt f g k v hk hv (fun k' hk' v' hv' => specVText L V hG hV hsh hvb hvt f g k' v' (kids_mem hk').2 (kto_mem.1 hv').1)
/-- The text that is told. -/
def vtT (L : List Nd) (V : List Vn) : ByteArray := if fitR L V = true then bsV (vtx L V L.length 0 0) else ⟨#[]⟩

set_option maxRecDepth 100000 in
set_option maxHeartbeats 1600000 in
theorem specValueText (a a' : Option Addr) (b off cap b' off' cap' : Nat) (L : List Nd) (V : List Vn) (w : World) (ha : Hid (L ≠ [] → a = some ⟨b, off, none⟩ ∧ b < w.heap.size)) (hL : Hid (ndAt w b off L)) (hlen : L.length ≤ 1048576) (ha' : Hid (V ≠ [] → a' = some ⟨b', off', none⟩ ∧ b' < w.heap.size)) (hV : Hid (vlAt w b' off' V)) (hlen' : V.length ≤ 1048576) (hVs : Hid (∀ x ∈ V, x.2.1.size ≤ 1048576)) (hvb : Hid (∀ v, -9223372036854775808 ≤ vnAt V v ∧ vnAt V v ≤ 9223372036854775807)) (hvt : Hid (∀ v, (vtAt V v).size ≤ 1048576)) :
    Calls Tryz.prog 7 #[.slice a L.length cap, .slice a' V.length cap'] w fun e w' => e = .returned (.tuple #[.string (vtT L V), .bool (fitR L V)]) ∧ Below w.heap.size w w' := by
  have FT := specFitsType a a' b off cap b' off' cap' L V w ha hL hlen ha' hV hlen' hVs
  obtain ⟨F, hF⟩ : ∃ F, fitR L V = F := ⟨_, rfl⟩
  have hvv : vtT L V = if F = true then bsV (vtx L V L.length 0 0) else ⟨#[]⟩ := by unfold vtT; rw [hF]
  rw [hF] at FT ⊢
  rw [hvv]
  clear hvv
  cases F with
  | false =>
    rw [if_neg (by decide)]
    go_enter Tryz.func7, Tryz.ntmps7
    go_wp2_with fail
    refine FT.mono ?_
    rintro e w1 ⟨rfl, hb1⟩
    go_wp2
    go_ret2
    exact ⟨rfl, hb1⟩
  | true =>
    rw [if_pos rfl]
    unfold fitR at hF
    simp only [Bool.and_eq_true] at hF
    obtain ⟨hG, hP, hM⟩ := hF
    have h40 := ups_good12 hG
    have h40' : 1 ≤ L.length ∧ L.length ≤ 40 := ⟨h40.1, h40.2.1⟩
    obtain ⟨rfl, hb⟩ := ha.out (fun h => by simp [h] at h40')
    have hsh : shpV (vuAt V) V.length = true ∧ V.length ≤ 100 := by
      have := hP
      unfold shpOk at this
      simp at this
      exact this
    have hV1 : 1 ≤ V.length := by have := hsh.1; unfold shpV at this; simp at this; omega
    obtain ⟨rfl, hb'⟩ := ha'.out (fun h => by simp [h] at hV1)
    have HT1 : Hid (∀ W, Below w.heap.size w W → Calls Tryz.prog 21 #[.slice (some ⟨b, off, none⟩) L.length cap, .int .i64 0] W fun e w' => ∃ sl, e = .returned (.agg #[.int .i64 (kdAt L 0), .int .i64 (nAt L 0), sl]) ∧ S3 L W.heap.size w'.heap.size L.length w' 0 sl ∧ Below W.heap.size W w') := fun W hW => specTreeC L h40'.2 b off cap L.length 0 (by omega) (by omega) W (Nat.lt_of_lt_of_le hb hW.size) (hL.out.below hW hb)
    have HT2 : Hid (∀ W, Below w.heap.size w W → Calls Tryz.prog 22 #[.slice (some ⟨b', off', none⟩) V.length cap', .int .i64 0] W fun e w' => ∃ sl, e = .returned (.agg #[.int .i64 (vnAt V 0), .string (vtAt V 0), sl]) ∧ S3v V W.heap.size w'.heap.size V.length w' 0 sl ∧ Below W.heap.size W w') := fun W hW => specTreeV V hsh.2 b' off' cap' V.length 0 (by omega) (by omega) W (Nat.lt_of_lt_of_le hb' hW.size) (hV.out.below hW hb')
    have HF := specVText L V hG hsh.2 hsh.1 hvb.out hvt.out L.length V.length 0 0 (by omega) (by omega)
    unfold VtS at HF
    obtain ⟨TX, hTX⟩ : ∃ T, bsV (vtx L V L.length 0 0) = T := ⟨_, rfl⟩
    rw [hTX] at HF ⊢
    obtain ⟨x, hx⟩ : ∃ x, kdAt L 0 = x := ⟨_, rfl⟩
    obtain ⟨y, hy⟩ : ∃ x, nAt L 0 = x := ⟨_, rfl⟩
    obtain ⟨p, hp⟩ : ∃ x, vnAt V 0 = x := ⟨_, rfl⟩
    obtain ⟨s, hs⟩ : ∃ x, vtAt V 0 = x := ⟨_, rfl⟩
    rw [hx, hy, hp, hs] at HF
    rw [hx, hy] at HT1
    rw [hp, hs] at HT2
    have HF2 := fun w lo hi lo' hi' sl sl' => HF w lo hi lo' hi' sl sl' hM
    clear HF hTX hx hy hp hs hM h40 h40' hsh hV1 hG hP
    go_enter Tryz.func7, Tryz.ntmps7
    go_wp2_with fail
    refine FT.mono ?_
    rintro e w2 ⟨rfl, hb2⟩
    go_wp2_with fail
    refine (HT1.out _ hb2).mono ?_
    rintro e w3 ⟨sl, rfl, tr1, hb3'⟩
    have hb3 := below2 hb2 hb3'
    clear hb3' HT1
    go_wp2_with fail
    refine (HT2.out _ hb3).mono ?_
    rintro e w4 ⟨sl', rfl, tr2, hb4'⟩
    have hb4 := below2 hb3 hb4'
    have HC := HF2 w4 _ _ _ _ sl sl' (R3.below tr1 hb4' (Nat.le_refl _)) hb4'.size tr2 (Nat.le_refl _)
    clear hb4' HT2 HF2 tr1 tr2
    go_wp2_with fail
    refine HC.mono ?_
    rintro e w5 ⟨rfl, hb5⟩
    clear HC
    go_wp2
    go_ret2
    exact ⟨rfl, below2 hb4 hb5⟩

end Go.Proofs.YtljnciclbjcinaaGreatDoor

namespace Go.Proofs.YtljnciclbjcinaaGreatDoor
open Go.ChangeShapes Go.WideShapes Go.ChangeAt Go.RowKit

theorem nOk_front {x y : Int} {c : Nat} {m : Int} (hn : nOk x y c m = true) : (x = 1 ∨ x = 13 ∨ x = 14 ∨ x = 17 ∨ x = 18 → m = 0 ∨ m = 1) ∧ (x = 13 ∨ x = 14 → m = 0) := by
  unfold nOk at hn
  simp only [Bool.and_eq_true, decide_eq_true_eq] at hn
  obtain ⟨⟨n1, n2⟩, _⟩ := hn
  refine ⟨fun h => ?_, fun h => ?_⟩
  · rcases h with e | e | e | e | e <;> (rw [e] at n1 n2; simp [bdOf, brow] at n1 n2; omega)
  · rcases h with e | e <;> (rw [e] at n1 n2; simp [bdOf, brow] at n1 n2; omega)
theorem keepO_below {e : TypeId} {w w' : World} (hb : Below w.heap.size w w') : KeepO e w w' := fun j _ _ _ h => (hb.block j (lt_of_block h)).trans h
theorem own_belW {wr w1 : World} {B : Nat} {e : TypeId} {size n : Nat} {v : Value} {xs : List Value} (h : wr.ownsRow B e size v n xs) (hb : Below wr.heap.size wr w1) : w1.ownsRow B e size v n xs := by
  refine ⟨h.1, ?_⟩
  rcases h.2 with h2 | ⟨g, cap, cur, e1, e2, hh, r⟩
  · exact .inl h2
  · exact .inr ⟨g, cap, cur, e1, e2, (hb.block g (lt_of_block hh)).trans hh, r⟩
theorem below_up {B : Nat} {a b c : World} (h : Below B a b) (hB : B ≤ a.heap.size) (k : Below b.heap.size b c) : Below B a c := h.trans (k.mono (Nat.le_trans hB h.size))
def PowB (B : Nat) (w : World) : Prop := Lib.TabBelow Tryz.prog B w "internal/strconv.uint64pow10" .u64 Lib.pow10Tab
def VtI (L : List Nd) (V : List Vn) (f g k v : Nat) : Prop := ∀ (w : World) (B lo hi lo' hi' : Nat) (u z : Int) (sl sl' row : Value) (bs : List UInt8), fitM L V f k v = true → RN L lo hi f w k sl → hi ≤ B → RV V lo' hi' g w v sl' → hi' ≤ B → B ≤ w.heap.size → w.ownsRow B 5 1 row bs.length (bv bs) → bs.length + (vtx L V f k v).length ≤ 1900000000 → PowB B w →
  Calls Tryz.prog 26 #[row, .agg #[.int .i64 (kdAt L k), .int .i64 (nAt L k), .int .i64 u, sl], .agg #[.int .i64 (vnAt V v), .string (vtAt V v), .int .i64 z, sl']] w (FrP B bs (vtx L V f k v) w)

set_option maxRecDepth 100000 in
set_option maxHeartbeats 6400000 in
theorem implVText_step (L : List Nd) (V : List Vn) (hG : goodT L = true) (hV : V.length ≤ 100) (hvb : ∀ v, -9223372036854775808 ≤ vnAt V v ∧ vnAt V v ≤ 9223372036854775807) (hvt : ∀ v, (vtAt V v).size ≤ 1048576) (f g k v : Nat) (hk : k < L.length) (IH0 : ∀ k' ∈ kidsOf L k, ∀ v' ∈ kV V v, VtI L V f g k' v') : VtI L V (f + 1) (g + 1) k v := by
  intro w B lo hi lo' hi' u z sl sl' row bs hfit hr1 hhi hr2 hhi' hB hown hlen hP
  obtain ⟨gx, gn, gn9, g40, _, _, gnil⟩ := gnode hG hk
  have hcV : (kV V v).length ≤ 100 := Nat.le_trans (kto_le _ _ _) hV
  have hsz := hvt v
  obtain ⟨a1, cap1, rfl, hc1, H1⟩ := hr1
  obtain ⟨a2, cap2, rfl, _, H2⟩ := hr2
  rw [fitM_succ] at hfit
  simp only [Bool.and_eq_true] at hfit
  obtain ⟨⟨hfn, _⟩, hfl⟩ := hfit
  obtain ⟨hw1, hw2⟩ := nOk_front hfn
  have HOK : Hid (tkOk (kdAt L k) (kidsOf L k) (vnAt V v) (kV V v).length) := tkOk_of hG hk hcV hfn
  have HKD : Hid (∀ W, Below B w W →
      Calls Tryz.prog 46 #[.agg #[.int .i64 (kdAt L k), .int .i64 (nAt L k), .int .i64 u, .slice a1 (kidsOf L k).length cap1], .int .i64 (vnAt V v), .int .i64 ((kV V v).length : Int)] W fun e w' => ∃ sl9, e = .returned sl9 ∧ RowQ L lo hi f w' (tk (kdAt L k) (kidsOf L k) (vnAt V v) (kV V v).length) sl9 ∧ Below W.heap.size W w') := fun W hW => by
    refine implKidsQ L f k W lo hi a1 cap1 u (vnAt V v) (kV V v).length hc1 (fun j h => ?_) (Nat.le_trans hhi (Nat.le_trans hB hW.size)) HOK.out gnil
    obtain ⟨g9, off9, s9, x1, x2, x3, x4, x5, x6, x6', x7⟩ := H1 j h
    have hg := hW.block g9 (by omega)
    exact ⟨g9, off9, s9, x1, x2, x3, (cell_heap hg _).trans x4, (cell_heap hg _).trans x5, (cell_heap hg _).trans x6, (cell_heap hg _).trans x6', R4.below x7 hW hhi⟩
  have HFR : Hid (∀ W, Below B w W → W.ownsRow B 5 1 row bs.length (bv bs) → Calls Tryz.prog 45 #[row, .int .i64 (kdAt L k), .agg #[.int .i64 (vnAt V v), .string (vtAt V v), .int .i64 z]] W (FrP B bs (frx (kdAt L k) (vnAt V v) (vtAt V v).data.toList) W)) := fun W hW ho =>
    implFront B row bs _ _ z _ W ho (Nat.le_trans hB hW.size) (by omega) hsz (hvb v).1 (hvb v).2 (fun w' h => hP w' (hW.trans h)) hw1 hw2
  have hm : ∀ k' ∈ tk (kdAt L k) (kidsOf L k) (vnAt V v) (kV V v).length, (kdAt L k = 13 → (kidsOf L k).length = 1) → k' ∈ kidsOf L k := by
    intro k' hk' h13
    unfold tk at hk'
    split at hk'
    · rename_i e
      have h1 := h13 e
      rw [(List.mem_replicate.1 hk').2, List.getD_eq_getElem?_getD, List.getElem?_eq_getElem (by omega), Option.getD_some]
      exact List.getElem_mem _
    · split at hk'
      · exact hk'
      · split at hk'
        · exact List.mem_of_mem_drop (List.mem_of_mem_take hk')
        · split at hk'
          · exact List.mem_of_mem_take hk'
          · simp at hk'
  have IH : Hid (∀ k' ∈ tk (kdAt L k) (kidsOf L k) (vnAt V v) (kV V v).length, ∀ v' ∈ kV V v, VtI L V f g k' v') := fun k' hk' v' hv' => IH0 k' (hm k' hk' HOK.out.2.1) v' hv'
  have K2 : Hid (∀ W, Below B w W → ∀ j (h : j < (kV V v).length), ∃ gg off sl', a2 = some ⟨gg, off, none⟩ ∧ gg < B ∧ W.cell? ⟨gg, off + j * 4, none⟩ = some (.int .i64 (vnAt V (kV V v)[j])) ∧ W.cell? ⟨gg, off + j * 4 + 1, none⟩ = some (.string (vtAt V (kV V v)[j])) ∧ W.cell? ⟨gg, off + j * 4 + 2, none⟩ = some (.int .i64 (vuAt V (kV V v)[j])) ∧ W.cell? ⟨gg, off + j * 4 + 3, none⟩ = some sl' ∧ RV V lo' hi' g W (kV V v)[j] sl') := fun W hW j hj => by
    obtain ⟨g9, off9, s9, x1, x2, x3, x4, x5, x6, x6', x7⟩ := H2 j hj
    have hg := hW.block g9 (by omega)
    exact ⟨g9, off9, s9, x1, by omega, (cell_heap hg _).trans x4, (cell_heap hg _).trans x5, (cell_heap hg _).trans x6, (cell_heap hg _).trans x6', R4.below x7 hW hhi'⟩
  have HPB : Hid (∀ U, Below B w U → PowB B U) := fun U h w' h' => hP w' (h.trans h')
  have hfl2 := hfl
  unfold fitL at hfl2
  simp only [Bool.and_eq_true, decide_eq_true_eq] at hfl2
  obtain ⟨hkv, hall⟩ := hfl2
  have HALL : Hid (∀ j (h1 : j < (tk (kdAt L k) (kidsOf L k) (vnAt V v) (kV V v).length).length) (h2 : j < (kV V v).length), fitM L V f (tk (kdAt L k) (kidsOf L k) (vnAt V v) (kV V v).length)[j] (kV V v)[j] = true) := fun j h1 h2 => by
    have h3 := List.all_eq_true.1 hall (((tk (kdAt L k) (kidsOf L k) (vnAt V v) (kV V v).length).zip (kV V v))[j]'(by rw [List.length_zip]; omega)) (List.getElem_mem _)
    rw [List.getElem_zip] at h3
    exact h3
  clear H1 H2 hm gx gn gn9 gnil IH0 g40 hcV hfl hall hfn hw1 hw2 hP hsz
  rw [vtx_succ] at hlen ⊢
  obtain ⟨ts, hts⟩ : ∃ ts, ((tk (kdAt L k) (kidsOf L k) (vnAt V v) (kV V v).length).zip (kV V v)).map (fun p => vtx L V f p.1 p.2) = ts := ⟨_, rfl⟩
  rw [hts] at hlen ⊢
  have HTS : Hid (∀ j (h1 : j < (tk (kdAt L k) (kidsOf L k) (vnAt V v) (kV V v).length).length) (h2 : j < (kV V v).length), ∃ h3 : j < ts.length, ts[j] = vtx L V f (tk (kdAt L k) (kidsOf L k) (vnAt V v) (kV V v).length)[j] (kV V v)[j]) := fun j h1 h2 => by
    subst hts
    exact ⟨by rw [List.length_map, List.length_zip]; omega, by rw [List.getElem_map, List.getElem_zip]⟩
  have HTL : Hid (ts.length = (kV V v).length) := by
    subst hts
    unfold Hid
    rw [List.length_map, List.length_zip]
    omega
  obtain ⟨fr, hfr⟩ : ∃ F, frx (kdAt L k) (vnAt V v) (vtAt V v).data.toList = F := ⟨_, rfl⟩
  rw [hfr] at HFR hlen ⊢
  have HJ : Hid (bs.length + (fr.length + ((jn ts).length + (enx (kdAt L k)).length)) ≤ 1900000000) := by
    unfold Hid
    rw [List.length_append, List.length_append] at hlen
    exact hlen
  clear hts hlen hfr
  obtain ⟨ks, hks⟩ : ∃ ks, tk (kdAt L k) (kidsOf L k) (vnAt V v) (kV V v).length = ks := ⟨_, rfl⟩
  rw [hks] at HKD IH HALL HTS hkv
  obtain ⟨vs, hvs⟩ : ∃ vs, kV V v = vs := ⟨_, rfl⟩
  rw [hvs] at HKD IH K2 HALL HTS HTL HOK hkv ⊢
  obtain ⟨x, hx⟩ : ∃ x, kdAt L k = x := ⟨_, rfl⟩
  obtain ⟨y, hy⟩ : ∃ x, nAt L k = x := ⟨_, rfl⟩
  obtain ⟨p, hp⟩ : ∃ x, vnAt V v = x := ⟨_, rfl⟩
  obtain ⟨s, hs⟩ : ∃ x, vtAt V v = x := ⟨_, rfl⟩
  obtain ⟨n1, hn1⟩ : ∃ x, (kidsOf L k).length = x := ⟨_, rfl⟩
  rw [hx, hy, hp, hn1] at HKD
  rw [hx, hp, hs] at HFR
  rw [hx, hp] at HOK
  rw [hx] at HJ
  rw [hx, hy, hp, hs, hn1]
  clear hx hy hp hs hn1 hks hvs hc1
  obtain ⟨n2, hn2⟩ : ∃ x, vs.length = x := ⟨_, rfl⟩
  have HN2 : Hid (vs.length = n2 ∧ ks.length = n2 ∧ ts.length = n2 ∧ n2 ≤ 1000) := ⟨hn2, by omega, by have := HTL.out; omega, by have := HOK.out.1; omega⟩
  rw [hn2] at HKD HOK ⊢
  clear hn2 hkv HTL HOK
  obtain ⟨i0, hinf, hz0, hz1, hz2⟩ := info_parts Tryz.infoq5
  have HE := implEnd x
  obtain ⟨en, hen⟩ : ∃ e, enx x = e := ⟨_, rfl⟩
  rw [hen] at HE HJ ⊢
  clear hen
  obtain ⟨S, hSS⟩ : ∃ S, bsV en = S := ⟨_, rfl⟩
  have hszS : S.size = en.length := by rw [← hSS]; exact sizV _
  have hscS : Hid (Lib.strCells S = bv en) := by unfold Hid; rw [← hSS]; exact strV _
  rw [hSS] at HE
  have HEE : Hid (∀ W : World, Calls Tryz.prog 47 #[.int .i64 x] W fun e w' => e = .returned (.string S) ∧ w' = W) := HE
  clear HE hSS
  obtain ⟨W, hW⟩ : ∃ W, (w.alloc (.cells #[.int .i64 x, .int .i64 y, .int .i64 u, .slice a1 n1 cap1] 61)).alloc (.cells #[.int .i64 p, .string s, .int .i64 z, .slice a2 n2 cap2] 64) = W := ⟨_, rfl⟩
  have hbW : Hid (Below B w W) := by unfold Hid; rw [← hW]; exact ((Below.refl _ _).alloc hB _).alloc (by simp; omega) _
  have hkW : Hid (KeepO 5 w W) := by unfold Hid; rw [← hW]; exact ((KeepO.refl _ _).alloc _).alloc _
  have hownW : W.ownsRow B 5 1 row bs.length (bv bs) := by rw [← hW]; exact (hown.alloc _).alloc _
  have hq1 : W.heap[w.heap.size]? = some (.cells #[.int .i64 x, .int .i64 y, .int .i64 u, .slice a1 n1 cap1] 61 (0, 0)) := by rw [← hW]; exact (Below.heap_alloc _ _ _ (by simp)).trans (heap_alloc_new _ _)
  have hq2 : W.heap[w.heap.size + 1]? = some (.cells #[.int .i64 p, .string s, .int .i64 z, .slice a2 n2 cap2] 64 (0, 0)) := by
    rw [← hW]
    have e : w.heap.size + 1 = (w.alloc (.cells #[.int .i64 x, .int .i64 y, .int .i64 u, .slice a1 n1 cap1] 61)).heap.size := by simp
    rw [e]
    exact heap_alloc_new _ _
  have HBK : Hid (∀ U, KeepO 5 W U → U.heap[w.heap.size]? = some (.cells #[.int .i64 x, .int .i64 y, .int .i64 u, .slice a1 n1 cap1] 61 (0, 0)) ∧ U.heap[w.heap.size + 1]? = some (.cells #[.int .i64 p, .string s, .int .i64 z, .slice a2 n2 cap2] 64 (0, 0))) := fun U hU => ⟨hU _ _ _ (by decide) hq1, hU _ _ _ (by decide) hq2⟩
  have k0 := (cell_of_block hq1 0).trans rfl
  have l0 := (cell_of_block hq2 0).trans rfl
  have l1 := (cell_of_block hq2 1).trans rfl
  have l2 := (cell_of_block hq2 2).trans rfl
  have HF0 := HFR.out W hbW.out hownW
  have HBs : Hid (B ≤ w.heap.size) := hB
  clear HFR hq1 hq2 hown hownW
  unfold FrP at HF0 ⊢
  go_enter Tryz.func26, Tryz.ntmps26
  go_wp2_with fail
  refine HF0.mono ?_
  rintro e w1 ⟨v1, rfl, hown1, hk1, hb1⟩
  have hbw1 : Hid (Below B w w1) := hbW.out.trans hb1
  have hq1 := (HBK.out w1 hk1).1
  have hq2 := (HBK.out w1 hk1).2
  clear HF0 k0 l0 l1 l2 hW
  have k0 := (cell_of_block hq1 0).trans rfl
  have k1 := (cell_of_block hq1 1).trans rfl
  have k2 := (cell_of_block hq1 2).trans rfl
  have k3 := (cell_of_block hq1 3).trans rfl
  have l0 := (cell_of_block hq2 0).trans rfl
  have l3 := (cell_of_block hq2 3).trans rfl
  have HK1 := HKD.out w1 hbw1.out
  clear HKD hq1 hq2
  go_wp2_with fail
  refine HK1.mono ?_
  rintro e w2 ⟨sl9, rfl, hrq, hb2⟩
  have HRQ : Hid (RowQ L lo hi f w2 ks sl9) := hrq
  obtain ⟨b1, c1, rfl, _⟩ := hrq
  have hown2 := own_belW hown1 hb2
  have hbw2 : Hid (Below B w w2) := below_up hbw1.out HBs.out hb2
  have hkW2 : Hid (KeepO 5 W w2) := hk1.trans (keepO_below hb2)
  clear HK1 hown1 hk1 hb1 hb2 hbw1 k0 k1 k2 k3 l0 l3
  rw [HN2.out.2.1]
  go_wp2
  go_loopw [0, 7, 8, 25] (fun v _ _ i wr => ∃ (m : Nat) (cs : List UInt8), m ≤ n2 ∧ i = .int .i64 (m : Int) ∧ Hid (cs = bs ++ (fr ++ jn (ts.take m))) ∧ wr.ownsRow B 5 1 v cs.length (bv cs) ∧ Hid (KeepO 5 w2 wr) ∧ Hid (Below B w2 wr)) (fun _ _ _ i _ => n2 - (intOf i).toNat)
  case atStart => exact ⟨0, bs ++ fr, by omega, rfl, by simp [Hid, jn], hown2, KeepO.refl _ _, Below.refl _ _⟩
  case round =>
    clear hown2
    obtain ⟨m, cs, hm, rfl, HC, hownr, HK, HB⟩ := hrel
    have hbr : Below B w wr := hbw2.out.trans HB.out
    have hsr : B ≤ wr.heap.size := Nat.le_trans HBs.out hbr.size
    have hn9 : n2 ≤ 1000 := HN2.out.2.2.2
    have hcl : cs.length + en.length ≤ 1900000000 := by
      have h1 := jn_take ts m
      have h2 := HJ.out
      rw [HC.out, List.length_append, List.length_append]
      omega
    have HBKr := HBK.out wr (hkW2.out.trans HK.out)
    by_cases hlt : m < n2
    · have hm1 : m < ks.length := by rw [HN2.out.2.1]; exact hlt
      have hm2 : m < vs.length := by rw [HN2.out.1]; exact hlt
      obtain ⟨b9, c9, e9, HROW⟩ := RowQ.keep HRQ.out hhi HB.out HK.out
      obtain ⟨rfl, rfl⟩ : b1 = b9 ∧ c1 = c9 := by simpa using e9
      clear e9
      obtain ⟨g1, off1, s1, rfl, _, c0, c1', c2, c3, tr1⟩ := HROW m hm1
      obtain ⟨g2, off2, s2, rfl, r1, d0, d1, d2, d3, tr2⟩ := K2.out wr hbr m hm2
      obtain ⟨sa1, sn1, sc1, rfl⟩ := R4.form tr1
      obtain ⟨sa2, sn2, sc2, rfl⟩ := R4.form tr2
      have hltI : (m : Int) < (n2 : Int) := by omega
      have HF0 := fun (U : World) (row' : Value) (cs' : List UInt8) (hU : Below B wr U) (ho : U.ownsRow B 5 1 row' cs'.length (bv cs')) (hl : cs'.length + (vtx L V f ks[m] vs[m]).length ≤ 1900000000) => IH.out ks[m] (List.getElem_mem hm1) vs[m] (List.getElem_mem hm2) U B lo hi lo' hi' (upAt L ks[m]) (vuAt V vs[m]) (.slice sa1 sn1 sc1) (.slice sa2 sn2 sc2) row' cs' (HALL.out m hm1 hm2) (R4.below tr1 hU hhi) hhi (R4.below tr2 hU hhi') hhi' (Nat.le_trans hsr hU.size) ho hl (HPB.out U (hbr.trans hU))
      obtain ⟨hm3, htm⟩ := HTS.out m hm1 hm2
      obtain ⟨T1, hT1⟩ : ∃ T, vtx L V f ks[m] vs[m] = T := ⟨_, rfl⟩
      rw [hT1] at htm
      have hjn := jn_next ts m hm3
      rw [htm] at hjn
      have hjl := jn_take ts (m + 1)
      have HJN : Hid (jn (ts.take (m + 1)) = jn (ts.take m) ++ ((if m = 0 then [] else [44]) ++ T1)) := hjn
      have HLN : Hid (cs.length + ((if m = 0 then [] else [44] : List UInt8).length + T1.length) ≤ 1900000000) := by
        have h2 := HJ.out
        rw [hjn, List.length_append, List.length_append] at hjl
        unfold Hid
        rw [HC.out, List.length_append, List.length_append]
        omega
      obtain ⟨x0, hx0⟩ : ∃ x, kdAt L ks[m] = x := ⟨_, rfl⟩
      obtain ⟨y0, hy0⟩ : ∃ x, nAt L ks[m] = x := ⟨_, rfl⟩
      obtain ⟨u0', hu0⟩ : ∃ x, upAt L ks[m] = x := ⟨_, rfl⟩
      obtain ⟨p0, hp0⟩ : ∃ x, vnAt V vs[m] = x := ⟨_, rfl⟩
      obtain ⟨s0, hs0⟩ : ∃ x, vtAt V vs[m] = x := ⟨_, rfl⟩
      obtain ⟨z0, hz0'⟩ : ∃ x, vuAt V vs[m] = x := ⟨_, rfl⟩
      rw [hx0] at c0
      rw [hy0] at c1'
      rw [hu0] at c2
      rw [hp0] at d0
      rw [hs0] at d1
      rw [hz0'] at d2
      have HF : Hid (∀ (U : World) (row' : Value) (cs' : List UInt8), Below B wr U → U.ownsRow B 5 1 row' cs'.length (bv cs') → cs'.length + T1.length ≤ 1900000000 → Calls Tryz.prog 26 #[row', .agg #[.int .i64 x0, .int .i64 y0, .int .i64 u0', .slice sa1 sn1 sc1], .agg #[.int .i64 p0, .string s0, .int .i64 z0, .slice sa2 sn2 sc2]] U (FrP B cs' T1 U)) := fun U row' cs' h1 h2 h3 => by
        have := HF0 U row' cs' h1 h2 (by rw [hT1]; exact h3)
        rw [hx0, hy0, hu0, hp0, hs0, hz0', hT1] at this
        exact this
      clear HF0 hx0 hy0 hu0 hp0 hs0 hz0' hT1 tr1 tr2 hjn hjl htm hm3 HROW
      obtain ⟨W3, hW3⟩ : ∃ W, wr.alloc (.cells #[.int .i64 x0, .int .i64 y0, .int .i64 u0', .slice sa1 sn1 sc1] 61) = W := ⟨_, rfl⟩
      have bW3 : Hid (Below B wr W3) := by unfold Hid; rw [← hW3]; exact (Below.refl _ _).alloc hsr _
      have kW3 : Hid (KeepO 5 wr W3) := by unfold Hid; rw [← hW3]; exact (KeepO.refl _ _).alloc _
      have hown3 : W3.ownsRow B 5 1 u0 cs.length (bv cs) := by rw [← hW3]; exact hownr.alloc _
      have hs3 : B ≤ W3.heap.size := Nat.le_trans hsr bW3.out.size
      have q3 : Hid (W3.heap[wr.heap.size]? = some (.cells #[.int .i64 x0, .int .i64 y0, .int .i64 u0', .slice sa1 sn1 sc1] 61 (0, 0))) := by unfold Hid; rw [← hW3]; exact heap_alloc_new _ _
      have HD : Hid (∀ U, Below B wr U → U.cell? ⟨g2, off2 + m * 4, none⟩ = some (.int .i64 p0) ∧ U.cell? ⟨g2, off2 + m * 4 + 1, none⟩ = some (.string s0) ∧ U.cell? ⟨g2, off2 + m * 4 + 2, none⟩ = some (.int .i64 z0) ∧ U.cell? ⟨g2, off2 + m * 4 + 3, none⟩ = some (.slice sa2 sn2 sc2)) := fun U hU => ⟨keepCell hU r1 d0, keepCell hU r1 d1, keepCell hU r1 d2, keepCell hU r1 d3⟩
      have HSU : Hid (∀ U, KeepO 5 W3 U → Below B W3 U → (fun U : World => U.heap[wr.heap.size]? = some (.cells #[.int .i64 x0, .int .i64 y0, .int .i64 u0', .slice sa1 sn1 sc1] 61 (0, 0)) ∧ U.heap[w.heap.size + 1]? = some (.cells #[.int .i64 p, .string s, .int .i64 z, .slice (some ⟨g2, off2, none⟩) n2 cap2] 64 (0, 0)) ∧ U.cell? ⟨g2, off2 + m * 4, none⟩ = some (.int .i64 p0) ∧ U.cell? ⟨g2, off2 + m * 4 + 1, none⟩ = some (.string s0) ∧ U.cell? ⟨g2, off2 + m * 4 + 2, none⟩ = some (.int .i64 z0) ∧ U.cell? ⟨g2, off2 + m * 4 + 3, none⟩ = some (.slice sa2 sn2 sc2)) U) := fun U hk hb => ⟨hk _ _ _ (by decide) q3.out, hk _ _ _ (by decide) (kW3.out _ _ _ (by decide) HBKr.2), HD.out U (bW3.out.trans hb)⟩
      clear d0 d1 d2 d3 hownr
      have HKW : Hid (wrap64 ((m : Int) + 1) = (m : Int) + 1) := wkq hlt (by omega)
      by_cases h0 : m = 0
      · have h0i : ¬ (0 : Int) < (m : Int) := by omega
        have hTl : cs.length + T1.length ≤ 1900000000 := by have h := HLN.out; rw [if_pos h0] at h; simp at h; exact h
        have HNX : Hid (cs ++ T1 = bs ++ (fr ++ jn (ts.take (m + 1)))) := by
          unfold Hid
          rw [HJN.out, if_pos h0, HC.out]
          simp
        clear h0 HLN HJN hcl
        go_wp2_with fail
        clear c0 c1' c2 c3
        have hbU : Below B W3 W3.drew := (show Below B W3 W3 from (Below.refl _ _)).drew
        have hkU : KeepO 5 W3 W3.drew := (KeepO.refl _ _)
        have hownU : W3.drew.ownsRow B 5 1 u0 (cs).length (bv (cs)) := hown3
        have hS3 : (fun U : World => U.heap[wr.heap.size]? = some (.cells #[.int .i64 x0, .int .i64 y0, .int .i64 u0', .slice sa1 sn1 sc1] 61 (0, 0)) ∧ U.heap[w.heap.size + 1]? = some (.cells #[.int .i64 p, .string s, .int .i64 z, .slice (some ⟨g2, off2, none⟩) n2 cap2] 64 (0, 0)) ∧ U.cell? ⟨g2, off2 + m * 4, none⟩ = some (.int .i64 p0) ∧ U.cell? ⟨g2, off2 + m * 4 + 1, none⟩ = some (.string s0) ∧ U.cell? ⟨g2, off2 + m * 4 + 2, none⟩ = some (.int .i64 z0) ∧ U.cell? ⟨g2, off2 + m * 4 + 3, none⟩ = some (.slice sa2 sn2 sc2)) W3.drew := HSU.out _ hkU hbU
        have HFC := HF.out W3.drew u0 cs (bW3.out.trans hbU) hownU hTl
        unfold FrP at HFC
        refine wh_begin (fun U : World => U.heap[wr.heap.size]? = some (.cells #[.int .i64 x0, .int .i64 y0, .int .i64 u0', .slice sa1 sn1 sc1] 61 (0, 0)) ∧ U.heap[w.heap.size + 1]? = some (.cells #[.int .i64 p, .string s, .int .i64 z, .slice (some ⟨g2, off2, none⟩) n2 cap2] 64 (0, 0)) ∧ U.cell? ⟨g2, off2 + m * 4, none⟩ = some (.int .i64 p0) ∧ U.cell? ⟨g2, off2 + m * 4 + 1, none⟩ = some (.string s0) ∧ U.cell? ⟨g2, off2 + m * 4 + 2, none⟩ = some (.int .i64 z0) ∧ U.cell? ⟨g2, off2 + m * 4 + 3, none⟩ = some (.slice sa2 sn2 sc2)) (by kernel_rfl) ?_
        refine wh_take 0 (some 35) u0 rfl rfl (by kernel_rfl) (by kernel_rfl) (by kernel_rfl) (fun _ _ _ h => h) hS3 (by rfl) (fun w' hS => by first | rfl | (go_simp; done)) ?_
        simp only [Act.put, List.setIfInBounds_toArray, List.set_cons_zero, List.set_cons_succ]
        refine wh_take 1 (some 36) (.agg #[.int .i64 x0, .int .i64 y0, .int .i64 u0', .slice sa1 sn1 sc1]) rfl rfl (by kernel_rfl) (by kernel_rfl) (by kernel_rfl) (fun _ _ _ h => h) hS3 (by rfl) (fun w' hS => by have q0 := (cell_of_block hS.1 0).trans rfl; have q1 := (cell_of_block hS.1 1).trans rfl; have q2 := (cell_of_block hS.1 2).trans rfl; have q3 := (cell_of_block hS.1 3).trans rfl; first | rfl | (go_simp; done)) ?_
        simp only [Act.put, List.setIfInBounds_toArray, List.set_cons_zero, List.set_cons_succ]
        refine wh_take 2 (some 37) (.pointer (some ⟨w.heap.size + 1, 3, none⟩)) rfl rfl (by kernel_rfl) (by kernel_rfl) (by kernel_rfl) (fun _ _ _ h => h) hS3 (by rfl) (fun w' hS => by first | rfl | (go_simp; done)) ?_
        simp only [Act.put, List.setIfInBounds_toArray, List.set_cons_zero, List.set_cons_succ]
        refine wh_take 3 (some 38) (.slice (some ⟨g2, off2, none⟩) n2 cap2) rfl rfl (by kernel_rfl) (by kernel_rfl) (by kernel_rfl) (fun _ _ _ h => h) hS3 (by rfl) (fun w' hS => by have q2 := (cell_of_block hS.2.1 3).trans rfl; first | rfl | (go_simp; done)) ?_
        simp only [Act.put, List.setIfInBounds_toArray, List.set_cons_zero, List.set_cons_succ]
        refine wh_take 4 (some 39) (.int .i64 (m : Int)) rfl rfl (by kernel_rfl) (by kernel_rfl) (by kernel_rfl) (fun _ _ _ h => h) hS3 (by rfl) (fun w' hS => by first | rfl | (go_simp; done)) ?_
        simp only [Act.put, List.setIfInBounds_toArray, List.set_cons_zero, List.set_cons_succ]
        refine wh_take 5 (some 40) (.pointer (some ⟨g2, off2 + m * 4, none⟩)) rfl rfl (by kernel_rfl) (by kernel_rfl) (by kernel_rfl) (fun _ _ _ h => h) hS3 (by rfl) (fun w' hS => by first | rfl | (go_simp; done)) ?_
        simp only [Act.put, List.setIfInBounds_toArray, List.set_cons_zero, List.set_cons_succ]
        refine wh_take 6 (some 41) (.agg #[.int .i64 p0, .string s0, .int .i64 z0, .slice sa2 sn2 sc2]) rfl rfl (by kernel_rfl) (by kernel_rfl) (by kernel_rfl) (fun _ _ _ h => h) hS3 (by rfl) (fun w' hS => by have q0 := hS.2.2.1; have q1 := hS.2.2.2.1; have q2 := hS.2.2.2.2.1; have q3 := hS.2.2.2.2.2; first | rfl | (go_simp; done)) ?_
        simp only [Act.put, List.setIfInBounds_toArray, List.set_cons_zero, List.set_cons_succ]
        refine wh_call 7 (some 42) 26 #[u0, .agg #[.int .i64 x0, .int .i64 y0, .int .i64 u0', .slice sa1 sn1 sc1], .agg #[.int .i64 p0, .string s0, .int .i64 z0, .slice sa2 sn2 sc2]] (by kernel_rfl) rfl rfl (by rfl) (by kernel_rfl) ?_
        refine HFC.mono ?_
        rintro e6 w6 ⟨v6, rfl, hown7, hk6, hb6⟩
        have hS6 : (fun U : World => U.heap[wr.heap.size]? = some (.cells #[.int .i64 x0, .int .i64 y0, .int .i64 u0', .slice sa1 sn1 sc1] 61 (0, 0)) ∧ U.heap[w.heap.size + 1]? = some (.cells #[.int .i64 p, .string s, .int .i64 z, .slice (some ⟨g2, off2, none⟩) n2 cap2] 64 (0, 0)) ∧ U.cell? ⟨g2, off2 + m * 4, none⟩ = some (.int .i64 p0) ∧ U.cell? ⟨g2, off2 + m * 4 + 1, none⟩ = some (.string s0) ∧ U.cell? ⟨g2, off2 + m * 4 + 2, none⟩ = some (.int .i64 z0) ∧ U.cell? ⟨g2, off2 + m * 4 + 3, none⟩ = some (.slice sa2 sn2 sc2)) w6 := HSU.out _ (hkU.trans hk6) (hbU.trans hb6)
        refine ⟨_, rfl, hS6, ?_⟩
        simp only [Act.put, List.setIfInBounds_toArray, List.set_cons_zero, List.set_cons_succ]
        refine wh_val 8 (some 0) v6 w6 (by kernel_rfl) rfl rfl (by rfl) (by first | rfl | (go_simp; done)) hS6 ?_
        simp only [Act.put, List.setIfInBounds_toArray, List.set_cons_zero]
        refine wh_done (by kernel_rfl) ?_
        have hk7 : Hid (KeepO 5 w2 w6) := (HK.out.trans kW3.out).trans (hkU.trans hk6)
        have hb7 : Hid (Below B w2 w6) := (HB.out.trans bW3.out).trans (hbU.trans hb6)
        clear hS3 hS6 hk6 hb6 HFC HF hbU hkU hownU HSU HD q3 bW3 kW3 HK HB hbr HBKr
        clear HKW hTl h0i
        go_wp2
        go_roundw
        case rel => exact ⟨m + 1, _, hlt, by go_num, HNX, hown7, hk7, hb7⟩
        case measure => simp [intOf]; omega
      · have h0i : (0 : Int) < (m : Int) := by omega
        have hTl : (cs ++ [44]).length + T1.length ≤ 1900000000 := by have h := HLN.out; rw [if_neg h0] at h; simp at h ⊢; omega
        have HNX : Hid (cs ++ [44] ++ T1 = bs ++ (fr ++ jn (ts.take (m + 1)))) := by
          unfold Hid
          rw [HJN.out, if_neg h0, HC.out]
          simp
        clear h0 HLN HJN
        go_wp2_with (at_builtin; refine wpList_append_own _ rfl _ _ 67 rfl B 5 i0 (.int .u8 0) 1 1 Tryz.underlying67 hinf hz0 hz1 hz2 rfl (by decide) _ _ _ rfl (hown3.alloc _) ⟨W3.heap.size, 0, none⟩ 1 1 (bv [44]) rfl rfl ?d1 ?d2 ?d3 ?d4 ?d5 ?_)
        case d1 => first | exact cells_litV _ _ _ | exact fun j u h => h
        case d2 => exact bv_one _
        case d3 => unfold maxLen; omega
        case d4 => omega
        case d5 => first | (simp; omega) | omega
        intro v5 w5 hown5 hgrow5 _
        rw [bv_app] at hown5
        have hb5 : Below B W3 w5 := ((Below.refl B W3).alloc hs3 _).grown hgrow5 (by first | (simp; omega) | omega) (ownsRow_block hown3)
        have hk5 : KeepO 5 W3 w5 := (KeepO.refl _ _).app hown3 hgrow5
        have hown6 : w5.ownsRow B 5 1 v5 (cs ++ [44]).length (bv (cs ++ [44])) := by simpa using hown5
        clear hown5 hgrow5 hown3
        go_wp2_with fail
        clear c0 c1' c2 c3 hcl
        have hbU : Below B W3 w5.drew := (show Below B W3 w5 from hb5).drew
        have hkU : KeepO 5 W3 w5.drew := hk5
        have hownU : w5.drew.ownsRow B 5 1 v5 ((cs ++ [44])).length (bv ((cs ++ [44]))) := hown6
        have hS3 : (fun U : World => U.heap[wr.heap.size]? = some (.cells #[.int .i64 x0, .int .i64 y0, .int .i64 u0', .slice sa1 sn1 sc1] 61 (0, 0)) ∧ U.heap[w.heap.size + 1]? = some (.cells #[.int .i64 p, .string s, .int .i64 z, .slice (some ⟨g2, off2, none⟩) n2 cap2] 64 (0, 0)) ∧ U.cell? ⟨g2, off2 + m * 4, none⟩ = some (.int .i64 p0) ∧ U.cell? ⟨g2, off2 + m * 4 + 1, none⟩ = some (.string s0) ∧ U.cell? ⟨g2, off2 + m * 4 + 2, none⟩ = some (.int .i64 z0) ∧ U.cell? ⟨g2, off2 + m * 4 + 3, none⟩ = some (.slice sa2 sn2 sc2)) w5.drew := HSU.out _ hkU hbU
        have HFC := HF.out w5.drew v5 (cs ++ [44]) (bW3.out.trans hbU) hownU hTl
        unfold FrP at HFC
        refine wh_begin (fun U : World => U.heap[wr.heap.size]? = some (.cells #[.int .i64 x0, .int .i64 y0, .int .i64 u0', .slice sa1 sn1 sc1] 61 (0, 0)) ∧ U.heap[w.heap.size + 1]? = some (.cells #[.int .i64 p, .string s, .int .i64 z, .slice (some ⟨g2, off2, none⟩) n2 cap2] 64 (0, 0)) ∧ U.cell? ⟨g2, off2 + m * 4, none⟩ = some (.int .i64 p0) ∧ U.cell? ⟨g2, off2 + m * 4 + 1, none⟩ = some (.string s0) ∧ U.cell? ⟨g2, off2 + m * 4 + 2, none⟩ = some (.int .i64 z0) ∧ U.cell? ⟨g2, off2 + m * 4 + 3, none⟩ = some (.slice sa2 sn2 sc2)) (by kernel_rfl) ?_
        refine wh_take 0 (some 35) v5 rfl rfl (by kernel_rfl) (by kernel_rfl) (by kernel_rfl) (fun _ _ _ h => h) hS3 (by rfl) (fun w' hS => by first | rfl | (go_simp; done)) ?_
        simp only [Act.put, List.setIfInBounds_toArray, List.set_cons_zero, List.set_cons_succ]
        refine wh_take 1 (some 36) (.agg #[.int .i64 x0, .int .i64 y0, .int .i64 u0', .slice sa1 sn1 sc1]) rfl rfl (by kernel_rfl) (by kernel_rfl) (by kernel_rfl) (fun _ _ _ h => h) hS3 (by rfl) (fun w' hS => by have q0 := (cell_of_block hS.1 0).trans rfl; have q1 := (cell_of_block hS.1 1).trans rfl; have q2 := (cell_of_block hS.1 2).trans rfl; have q3 := (cell_of_block hS.1 3).trans rfl; first | rfl | (go_simp; done)) ?_
        simp only [Act.put, List.setIfInBounds_toArray, List.set_cons_zero, List.set_cons_succ]
        refine wh_take 2 (some 37) (.pointer (some ⟨w.heap.size + 1, 3, none⟩)) rfl rfl (by kernel_rfl) (by kernel_rfl) (by kernel_rfl) (fun _ _ _ h => h) hS3 (by rfl) (fun w' hS => by first | rfl | (go_simp; done)) ?_
        simp only [Act.put, List.setIfInBounds_toArray, List.set_cons_zero, List.set_cons_succ]
        refine wh_take 3 (some 38) (.slice (some ⟨g2, off2, none⟩) n2 cap2) rfl rfl (by kernel_rfl) (by kernel_rfl) (by kernel_rfl) (fun _ _ _ h => h) hS3 (by rfl) (fun w' hS => by have q2 := (cell_of_block hS.2.1 3).trans rfl; first | rfl | (go_simp; done)) ?_
        simp only [Act.put, List.setIfInBounds_toArray, List.set_cons_zero, List.set_cons_succ]
        refine wh_take 4 (some 39) (.int .i64 (m : Int)) rfl rfl (by kernel_rfl) (by kernel_rfl) (by kernel_rfl) (fun _ _ _ h => h) hS3 (by rfl) (fun w' hS => by first | rfl | (go_simp; done)) ?_
        simp only [Act.put, List.setIfInBounds_toArray, List.set_cons_zero, List.set_cons_succ]
        refine wh_take 5 (some 40) (.pointer (some ⟨g2, off2 + m * 4, none⟩)) rfl rfl (by kernel_rfl) (by kernel_rfl) (by kernel_rfl) (fun _ _ _ h => h) hS3 (by rfl) (fun w' hS => by first | rfl | (go_simp; done)) ?_
        simp only [Act.put, List.setIfInBounds_toArray, List.set_cons_zero, List.set_cons_succ]
        refine wh_take 6 (some 41) (.agg #[.int .i64 p0, .string s0, .int .i64 z0, .slice sa2 sn2 sc2]) rfl rfl (by kernel_rfl) (by kernel_rfl) (by kernel_rfl) (fun _ _ _ h => h) hS3 (by rfl) (fun w' hS => by have q0 := hS.2.2.1; have q1 := hS.2.2.2.1; have q2 := hS.2.2.2.2.1; have q3 := hS.2.2.2.2.2; first | rfl | (go_simp; done)) ?_
        simp only [Act.put, List.setIfInBounds_toArray, List.set_cons_zero, List.set_cons_succ]
        refine wh_call 7 (some 42) 26 #[v5, .agg #[.int .i64 x0, .int .i64 y0, .int .i64 u0', .slice sa1 sn1 sc1], .agg #[.int .i64 p0, .string s0, .int .i64 z0, .slice sa2 sn2 sc2]] (by kernel_rfl) rfl rfl (by rfl) (by kernel_rfl) ?_
        refine HFC.mono ?_
        rintro e6 w6 ⟨v6, rfl, hown7, hk6, hb6⟩
        have hS6 : (fun U : World => U.heap[wr.heap.size]? = some (.cells #[.int .i64 x0, .int .i64 y0, .int .i64 u0', .slice sa1 sn1 sc1] 61 (0, 0)) ∧ U.heap[w.heap.size + 1]? = some (.cells #[.int .i64 p, .string s, .int .i64 z, .slice (some ⟨g2, off2, none⟩) n2 cap2] 64 (0, 0)) ∧ U.cell? ⟨g2, off2 + m * 4, none⟩ = some (.int .i64 p0) ∧ U.cell? ⟨g2, off2 + m * 4 + 1, none⟩ = some (.string s0) ∧ U.cell? ⟨g2, off2 + m * 4 + 2, none⟩ = some (.int .i64 z0) ∧ U.cell? ⟨g2, off2 + m * 4 + 3, none⟩ = some (.slice sa2 sn2 sc2)) w6 := HSU.out _ (hkU.trans hk6) (hbU.trans hb6)
        refine ⟨_, rfl, hS6, ?_⟩
        simp only [Act.put, List.setIfInBounds_toArray, List.set_cons_zero, List.set_cons_succ]
        refine wh_val 8 (some 0) v6 w6 (by kernel_rfl) rfl rfl (by rfl) (by first | rfl | (go_simp; done)) hS6 ?_
        simp only [Act.put, List.setIfInBounds_toArray, List.set_cons_zero]
        refine wh_done (by kernel_rfl) ?_
        have hk7 : Hid (KeepO 5 w2 w6) := (HK.out.trans kW3.out).trans (hkU.trans hk6)
        have hb7 : Hid (Below B w2 w6) := (HB.out.trans bW3.out).trans (hbU.trans hb6)
        clear hS3 hS6 hk6 hb6 HFC HF hbU hkU hownU HSU HD q3 bW3 kW3 HK HB hbr HBKr
        clear HKW hTl h0i
        go_wp2
        go_roundw
        case rel => exact ⟨m + 1, _, hlt, by go_num, HNX, hown7, hk7, hb7⟩
        case measure => simp [intOf]; omega
    · have hmn : m = n2 := by omega
      have hltI : ¬ (m : Int) < (n2 : Int) := by omega
      have HCE : Hid (cs ++ en = bs ++ (fr ++ (jn ts ++ en))) := by
        unfold Hid
        rw [HC.out, hmn, List.take_of_length_le (by rw [HN2.out.2.2.1]; exact Nat.le_refl _)]
        simp
      have k0 := (cell_of_block HBKr.1 0).trans rfl
      have hbz : Hid (Below B w wr) := hbr
      have hkz : Hid (KeepO 5 w wr) := (hkW.out.trans hkW2.out).trans HK.out
      clear IH HALL HTS HJ HRQ K2 HPB HBK HBKr hmn hbr HK HB HC
      go_wp2_with fail
      refine (HEE.out _).mono ?_
      rintro e w8 ⟨rfl, hw8⟩
      obtain rfl := hw8.symm
      clear hw8 HEE k0
      go_wp2_with (at_builtin; refine Lib.wpList_append_own_string _ rfl _ _ 67 9 rfl B 5 i0 Tryz.underlying67 Tryz.underlying9 hinf hz0 hz1 hz2 _ _ _ rfl hownr S rfl ?d1 ?d2 ?d3 ?_)
      case d1 => unfold maxLen; omega
      case d2 => omega
      case d3 => exact hsr
      intro v6 w6 hown6 hgrow6 _
      have hown7 : w6.ownsRow B 5 1 v6 (cs ++ en).length (bv (cs ++ en)) := by
        rw [hscS.out, bv_app] at hown6
        rw [List.length_append]; exact hown6
      have hb7 : Hid (Below B w w6) := hbz.out.grown hgrow6 hsr (ownsRow_block hownr)
      have hk7 : Hid (KeepO 5 w w6) := hkz.out.app0 hownr hgrow6
      clear hown6 hgrow6 hownr hbz hkz
      go_wp2
      go_ret
      rw [HCE.out] at hown7
      exact ⟨_, rfl, hown7, hk7.out, hb7.out⟩

end Go.Proofs.YtljnciclbjcinaaGreatDoor

namespace Go.Proofs.YtljnciclbjcinaaGreatDoor

theorem implVText (L : List Nd) (V : List Vn) (hG : goodT L = true) (hV : V.length ≤ 100) (hvb : ∀ v, -9223372036854775808 ≤ vnAt V v ∧ vnAt V v ≤ 9223372036854775807) (hvt : ∀ v, (vtAt V v).size ≤ 1048576) : ∀ (f g k v : Nat), k < L.length → VtI L V f g k v
  | 0, _, _, _, _ => fun _ _ _ _ _ _ _ _ _ _ _ _ _ h => h.elim
  | _ + 1, 0, _, _, _ => fun _ _ _ _ _ _ _ _ _ _ _ _ _ _ _ h => h.elim
  | f + 1, g + 1, k, v, hk => implVText_step L V hG hV hvb hvt f g k v hk (fun k' hk' v' _ => implVText L V hG hV hvb hvt f g k' v' (kids_mem hk').2)

end Go.Proofs.YtljnciclbjcinaaGreatDoor

namespace Go.Proofs.YtljnciclbjcinaaGreatDoor
open Go.ChangeShapes Go.WideShapes Go.ChangeAt Go.RowKit

set_option maxRecDepth 100000 in
set_option maxHeartbeats 3200000 in
theorem implFittingV (a a' : Option Addr) (b off cap b' off' cap' : Nat) (L : List Nd) (V : List Vn) (w : World) (ha : Hid (L ≠ [] → a = some ⟨b, off, none⟩ ∧ b < w.heap.size)) (hL : Hid (ndAt w b off L)) (hlen : L.length ≤ 1048576) (ha' : Hid (V ≠ [] → a' = some ⟨b', off', none⟩ ∧ b' < w.heap.size)) (hV : Hid (vlAt w b' off' V)) (hlen' : V.length ≤ 1048576) (hVs : Hid (∀ x ∈ V, x.2.1.size ≤ 1048576)) (hT : Hid (Tabs w)) (hB : Hid (BTabs w)) (hU : Hid (UTabs w)) :
    Calls Tryz.prog 25 #[.slice a L.length cap, .slice a' V.length cap'] w fun e w' => ∃ (x y u : Int) (sa : Option Addr) (sn sc : Nat) (p : Int) (s : ByteArray) (q : Int) (ta : Option Addr) (tn tc : Nat), e = .returned (.tuple #[.agg #[.int .i64 x, .int .i64 y, .int .i64 u, .slice sa sn sc], .agg #[.int .i64 p, .string s, .int .i64 q, .slice ta tn tc], .bool (fitR L V)]) ∧ Hid (fitR L V = true → x = kdAt L 0 ∧ y = nAt L 0 ∧ p = vnAt V 0 ∧ s = vtAt V 0 ∧ RN L (w.heap.size + 2) w'.heap.size L.length w' 0 (.slice sa sn sc) ∧ RV V (w.heap.size + 2) w'.heap.size V.length w' 0 (.slice ta tn tc)) ∧ Below w.heap.size w w' := by
  have HGT : Hid (∀ W, Below w.heap.size w W → Calls Tryz.prog 32 #[.slice a L.length cap] W fun e w' => ∃ (x y u : Int) (sa : Option Addr) (sn sc : Nat), e = .returned (.tuple #[.agg #[.int .i64 x, .int .i64 y, .int .i64 u, .slice sa sn sc], .bool (goodT L)]) ∧ Hid (goodT L = true → x = kdAt L 0 ∧ y = nAt L 0 ∧ u = upAt L 0 ∧ RN L W.heap.size w'.heap.size L.length w' 0 (.slice sa sn sc)) ∧ Below W.heap.size W w') := fun W hW =>
    implGoodTree a b off cap L W (fun h => ⟨(ha.out h).1, Nat.lt_of_lt_of_le (ha.out h).2 hW.size⟩) (fun i hi => (hL.out.below hW (ha.out (fun e => by simp [e] at hi)).2) i hi) hlen (hT.out.below hW (Nat.le_refl _))
  have HOF : Hid (V.length ≤ 100 → ∀ W, Below w.heap.size w W → Calls Tryz.prog 43 #[.slice a' V.length cap'] W fun e w' => ∃ (p : Int) (s : ByteArray) (q : Int) (ta : Option Addr) (tn tc : Nat), e = .returned (.tuple #[.agg #[.int .i64 p, .string s, .int .i64 q, .slice ta tn tc], .bool (shpV (vuAt V) V.length)]) ∧ Hid (shpV (vuAt V) V.length = true → p = vnAt V 0 ∧ s = vtAt V 0 ∧ q = vuAt V 0 ∧ RV V W.heap.size w'.heap.size V.length w' 0 (.slice ta tn tc)) ∧ Below W.heap.size W w') := fun hl W hW =>
    implTreeOfV a' b' off' cap' V W (fun h => ⟨(ha'.out h).1, Nat.lt_of_lt_of_le (ha'.out h).2 hW.size⟩) (fun i hi => (hV.out.below hW (ha'.out (fun e => by simp [e] at hi)).2) i hi) hl
  obtain ⟨R, hR⟩ : ∃ R, Hid (fitR L V = R) := ⟨_, rfl⟩
  rw [hR.out]
  obtain ⟨G, hG⟩ : ∃ G, Hid (goodT L = G) := ⟨_, rfl⟩
  rw [hG.out] at HGT
  have HFT : Hid (goodT L = true → V.length ≤ 100 → shpV (vuAt V) V.length = true → ∀ (W : World) (lo hi lo' hi' : Nat) (u z : Int) (sl sl' : Value), Below w.heap.size w W → RN L lo hi L.length W 0 sl → hi ≤ W.heap.size → RV V lo' hi' V.length W 0 sl' → hi' ≤ W.heap.size →
      Calls Tryz.prog 44 #[.agg #[.int .i64 (kdAt L 0), .int .i64 (nAt L 0), .int .i64 u, sl], .agg #[.int .i64 (vnAt V 0), .string (vtAt V 0), .int .i64 z, sl']] W fun e w' => e = .returned (.bool (fitM L V L.length 0 0)) ∧ Below W.heap.size W w') := fun g1 g2 g3 W lo hi lo' hi' u z sl sl' hW h1 h2 h3 h4 =>
    implFits L V g1 g2 hVs.out L.length V.length 0 0 (ups_good12 g1).1 (by unfold shpV at g3; simp at g3; omega) W lo hi lo' hi' u z sl sl' h1 h2 h3 h4 (hB.out.below hW (Nat.le_refl _)) (Utf8Tabs_below hU.out hW)
  obtain ⟨W0, hW0⟩ : ∃ W, (w.alloc (.cells #[.int .i64 0, .int .i64 0, .int .i64 0, .slice none 0 0] 61)).alloc (.cells #[.int .i64 0, .string ⟨#[]⟩, .int .i64 0, .slice none 0 0] 64) = W := ⟨_, rfl⟩
  have hb0 : Below w.heap.size w W0 := by rw [← hW0]; exact ((Below.refl _ _).alloc (Nat.le_refl _) _).alloc (by simp) _
  have z10 : W0.heap[w.heap.size]? = some (.cells #[.int .i64 0, .int .i64 0, .int .i64 0, .slice none 0 0] 61 (0, 0)) := by rw [← hW0]; exact (Below.heap_alloc _ _ _ (by simp)).trans (heap_alloc_new _ _)
  have z20 : W0.heap[w.heap.size + 1]? = some (.cells #[.int .i64 0, .string ⟨#[]⟩, .int .i64 0, .slice none 0 0] 64 (0, 0)) := by
    rw [← hW0]
    have e : w.heap.size + 1 = (w.alloc (.cells #[.int .i64 0, .int .i64 0, .int .i64 0, .slice none 0 0] 61)).heap.size := by simp
    rw [e]
    exact heap_alloc_new _ _
  go_enter Tryz.func25, Tryz.ntmps25
  go_wp2_with fail
  refine (HGT.out _ hb0).mono ?_
  rintro e1 w1 ⟨x, y, u, sa, sn, sc, rfl, HR1, B1⟩
  have hb1 := below2 hb0 B1
  have z11 := (B1.block _ (lt_of_block z10)).trans z10
  have z21 := (B1.block _ (lt_of_block z20)).trans z20
  have hl1 := lt_of_block z21
  have hW0s : w.heap.size + 2 ≤ W0.heap.size := by rw [← hW0]; simp
  clear HGT B1 hW0 hb0 z10 z20
  obtain ⟨W1, hW1⟩ : ∃ W, w1.alloc (.cells #[.int .i64 x, .int .i64 y, .int .i64 u, .slice sa sn sc] 61) = W := ⟨_, rfl⟩
  have hbW1 : Below w1.heap.size w1 W1 := by rw [← hW1]; exact (Below.refl _ _).alloc (Nat.le_refl _) _
  have q7W : W1.heap[w1.heap.size]? = some (.cells #[.int .i64 x, .int .i64 y, .int .i64 u, .slice sa sn sc] 61 (0, 0)) := by rw [← hW1]; exact heap_alloc_new _ _
  have z1W := (hbW1.block _ (by omega)).trans z11
  have z2W := (hbW1.block _ (by omega)).trans z21
  have hbwW := below2 hb1 hbW1
  obtain ⟨N, hN⟩ : ∃ N : Int, (V.length : Int) = N := ⟨_, rfl⟩
  have HN : Hid ((V.length : Int) = N) := hN
  by_cases hbad : G = false ∨ 100 < N
  · obtain rfl : R = false := by
      rw [← hR.out]
      unfold fitR
      rcases hbad with h | h
      · rw [hG.out, h]; rfl
      · have : ¬ V.length ≤ 100 := by have := HN.out; omega
        simp [shpOk, this]
    obtain ⟨G1, hG1⟩ : ∃ G : World, (((W1.setCell ⟨w.heap.size, 0, none⟩ (.int .i64 0)).setCell ⟨w.heap.size, 1, none⟩ (.int .i64 0)).setCell ⟨w.heap.size, 2, none⟩ (.int .i64 0)).setCell ⟨w.heap.size, 3, none⟩ (.slice none 0 0) = G := ⟨_, rfl⟩
    obtain ⟨rG1, hGo1, hGs1, hGb1⟩ := set4 z1W _ _ _ _ hG1
    have z2' := (hGo1 (w.heap.size + 1) (by omega)).trans z2W
    obtain ⟨G2, hG2⟩ : ∃ G : World, (((G1.setCell ⟨w.heap.size + 1, 0, none⟩ (.int .i64 0)).setCell ⟨w.heap.size + 1, 1, none⟩ (.string ⟨#[]⟩)).setCell ⟨w.heap.size + 1, 2, none⟩ (.int .i64 0)).setCell ⟨w.heap.size + 1, 3, none⟩ (.slice none 0 0) = G := ⟨_, rfl⟩
    obtain ⟨rG2, hGo2, hGs2, hGb2⟩ := set4 z2' _ _ _ _ hG2
    have rG1' := (hGo2 w.heap.size (by omega)).trans rG1
    have bG2 := hGb2 _ _ (by omega) (hGb1 _ _ (Nat.le_refl _) hbwW)
    have e0 := (cell_of_block z1W 0).trans rfl
    have e1 := (cell_of_block z1W 1).trans rfl
    have e2 := (cell_of_block z1W 2).trans rfl
    have e3 := (cell_of_block z1W 3).trans rfl
    have f0 := free_of_block z1W 0
    have f1 := free_of_block z1W 1
    have f2 := free_of_block z1W 2
    have f3 := free_of_block z1W 3
    have g0 := (cell_of_block z2' 0).trans rfl
    have g1 := (cell_of_block z2' 1).trans rfl
    have g2 := (cell_of_block z2' 2).trans rfl
    have g3 := (cell_of_block z2' 3).trans rfl
    have hh0 := free_of_block z2' 0
    have hh1 := free_of_block z2' 1
    have hh2 := free_of_block z2' 2
    have hh3 := free_of_block z2' 3
    have k0 := (cell_of_block rG1' 0).trans rfl
    have k1 := (cell_of_block rG1' 1).trans rfl
    have k2 := (cell_of_block rG1' 2).trans rfl
    have k3 := (cell_of_block rG1' 3).trans rfl
    have l0 := (cell_of_block rG2 0).trans rfl
    have l1 := (cell_of_block rG2 1).trans rfl
    have l2 := (cell_of_block rG2 2).trans rfl
    have l3 := (cell_of_block rG2 3).trans rfl
    clear z1W z2W z2' rG1 rG2 rG1' hGo1 hGo2 hGb1 hGb2 hGs1 hGs2 q7W hbwW HFT HOF HR1 z11 z21 hbW1
    cases G with
    | false =>
      clear hbad
      go_wp2
      exact bodyPost_ret (v := .tuple #[.agg #[.int .i64 0, .int .i64 0, .int .i64 0, .slice none 0 0], .agg #[.int .i64 0, .string ⟨#[]⟩, .int .i64 0, .slice none 0 0], .bool false]) (by simp [results, Tryz.results25, go_sem, k0, k1, k2, k3, l0, l1, l2, l3]) rfl ⟨0, 0, 0, none, 0, 0, 0, ⟨#[]⟩, 0, none, 0, 0, rfl, (fun h => by simp at h), bG2⟩
    | true =>
      have hN1 : 100 < N := hbad.resolve_left (by simp)
      clear hbad
      go_wp2
      exact bodyPost_ret (v := .tuple #[.agg #[.int .i64 0, .int .i64 0, .int .i64 0, .slice none 0 0], .agg #[.int .i64 0, .string ⟨#[]⟩, .int .i64 0, .slice none 0 0], .bool false]) (by simp [results, Tryz.results25, go_sem, k0, k1, k2, k3, l0, l1, l2, l3]) rfl ⟨0, 0, 0, none, 0, 0, 0, ⟨#[]⟩, 0, none, 0, 0, rfl, (fun h => by simp at h), bG2⟩
  · have hGt : G = true := by
      cases G with
      | true => rfl
      | false => exact absurd (Or.inl rfl) hbad
    subst hGt
    have hN1 : ¬ 100 < N := fun h => hbad (Or.inr h)
    have hl100 : V.length ≤ 100 := by have := HN.out; omega
    have HOF1 := HOF.out hl100 W1 hbwW
    have HFT1 := fun hp => HFT.out hG.out hl100 hp
    obtain ⟨P, hP⟩ : ∃ P, shpV (vuAt V) V.length = P := ⟨_, rfl⟩
    have HRP : Hid (R = (P && fitM L V L.length 0 0)) := by
      unfold Hid
      rw [← hR.out]
      unfold fitR shpOk
      rw [hG.out, hP]
      simp [hl100]
    rw [hP] at HOF1 HFT1
    have HFT2 : Hid (P = true → ∀ (W : World) (lo hi lo' hi' : Nat) (u z : Int) (sl sl' : Value), Below w.heap.size w W → RN L lo hi L.length W 0 sl → hi ≤ W.heap.size → RV V lo' hi' V.length W 0 sl' → hi' ≤ W.heap.size →
      Calls Tryz.prog 44 #[.agg #[.int .i64 (kdAt L 0), .int .i64 (nAt L 0), .int .i64 u, sl], .agg #[.int .i64 (vnAt V 0), .string (vtAt V 0), .int .i64 z, sl']] W fun e w' => e = .returned (.bool (fitM L V L.length 0 0)) ∧ Below W.heap.size W w') := HFT1
    have HR1' := HR1.out (by trivial)
    have HRN : Hid (x = kdAt L 0 ∧ y = nAt L 0 ∧ u = upAt L 0 ∧ RN L (w.heap.size + 2) w1.heap.size L.length w1 0 (.slice sa sn sc)) := ⟨HR1'.1, HR1'.2.1, HR1'.2.2.1, R4.wide (by omega) (Nat.le_refl _) HR1'.2.2.2⟩
    clear HFT HFT1 HR1 HR1' HOF hP hG hR hbad
    go_wp2_with fail
    refine HOF1.mono ?_
    rintro e2 w2 ⟨p, s, q, ta, tn, tc, rfl, HR2, B2⟩
    have hb2 := below2 hbwW B2
    obtain ⟨q7, hq7⟩ : ∃ z, w1.heap.size = z := ⟨_, rfl⟩
    have q72 := (B2.block _ (lt_of_block q7W)).trans q7W
    have z12 := (B2.block _ (lt_of_block z1W)).trans z1W
    have z22 := (B2.block _ (lt_of_block z2W)).trans z2W
    have B02 := below2 hbW1 B2
    clear HOF1 B2 hW1 q7W z1W z2W hbwW
    obtain ⟨W2, hW2⟩ : ∃ W, w2.alloc (.cells #[.int .i64 p, .string s, .int .i64 q, .slice ta tn tc] 64) = W := ⟨_, rfl⟩
    have hbW2 : Below w2.heap.size w2 W2 := by rw [← hW2]; exact (Below.refl _ _).alloc (Nat.le_refl _) _
    have q9W : W2.heap[w2.heap.size]? = some (.cells #[.int .i64 p, .string s, .int .i64 q, .slice ta tn tc] 64 (0, 0)) := by rw [← hW2]; exact heap_alloc_new _ _
    have q7W := (hbW2.block _ (lt_of_block q72)).trans q72
    have z1 := (hbW2.block _ (lt_of_block z12)).trans z12
    have z2 := (hbW2.block _ (lt_of_block z22)).trans z22
    have hbF := below2 hb2 hbW2
    have hRNW : Hid (RN L (w.heap.size + 2) w1.heap.size L.length W2 0 (.slice sa sn sc) ∧ (P = true → RV V W1.heap.size w2.heap.size V.length W2 0 (.slice ta tn tc))) := ⟨R4.below (R4.below HRN.out.2.2.2 B02 (Nat.le_refl _)) hbW2 (by have := B02.size; omega), fun h => R4.below (HR2.out h).2.2.2 hbW2 (Nat.le_refl _)⟩
    obtain ⟨q9, hq9⟩ : ∃ z, w2.heap.size = z := ⟨_, rfl⟩
    have hq79 : w.heap.size + 1 < q7 ∧ q7 < q9 := by have := B02.size; have := lt_of_block q72; omega
    rw [hq7] at q7W q72
    rw [hq9] at q9W
    have hS0 : (fun W' : World => W'.heap[q7]? = some (.cells #[.int .i64 x, .int .i64 y, .int .i64 u, .slice sa sn sc] 61 (0, 0)) ∧ W'.heap[q9]? = some (.cells #[.int .i64 p, .string s, .int .i64 q, .slice ta tn tc] 64 (0, 0))) W2.drew := ⟨q7W, q9W⟩
    have hlW2 : q9 < W2.drew.heap.size := lt_of_block q9W
    have hbD : Below w.heap.size w W2.drew := hbF.drew
    have hRND : Hid (RN L (w.heap.size + 2) q7 L.length W2.drew 0 (.slice sa sn sc) ∧ (P = true → RV V W1.heap.size q9 V.length W2.drew 0 (.slice ta tn tc))) := ⟨by rw [← hq7]; exact R4.keep hRNW.out.1 fun _ _ _ => rfl, fun h => by rw [← hq9]; exact R4.keep (hRNW.out.2 h) fun _ _ _ => rfl⟩
    have hz12 : Hid (W2.drew.heap[w.heap.size]? = some (.cells #[.int .i64 0, .int .i64 0, .int .i64 0, .slice none 0 0] 61 (0, 0)) ∧ W2.drew.heap[w.heap.size + 1]? = some (.cells #[.int .i64 0, .string ⟨#[]⟩, .int .i64 0, .slice none 0 0] 64 (0, 0))) := ⟨z1, z2⟩
    clear hRNW z11 z21 z12 z22 q72 q7W q9W z1 z2
    try rw [hq7]
    try rw [hq9]
    go_wp2_with fail
    refine wh_begin (fun W' : World => W'.heap[q7]? = some (.cells #[.int .i64 x, .int .i64 y, .int .i64 u, .slice sa sn sc] 61 (0, 0)) ∧ W'.heap[q9]? = some (.cells #[.int .i64 p, .string s, .int .i64 q, .slice ta tn tc] 64 (0, 0))) (by kernel_rfl) ?_
    generalize W2.drew = W3 at hS0 hz12 hbD hRND hlW2 ⊢
    refine wh_take 0 (some 30) (.agg #[.int .i64 x, .int .i64 y, .int .i64 u, .slice sa sn sc]) rfl rfl (by kernel_rfl) (by kernel_rfl) (by kernel_rfl) (fun _ _ _ h => h) hS0 (by rfl) (fun w' hS => by have q0 := (cell_of_block hS.1 0).trans rfl; have q1 := (cell_of_block hS.1 1).trans rfl; have q2 := (cell_of_block hS.1 2).trans rfl; have q3 := (cell_of_block hS.1 3).trans rfl; first | rfl | (go_simp; done)) ?_
    simp only [Act.put, List.setIfInBounds_toArray, List.set_cons_zero, List.set_cons_succ]
    refine wh_take 1 (some 31) (.agg #[.int .i64 p, .string s, .int .i64 q, .slice ta tn tc]) rfl rfl (by kernel_rfl) (by kernel_rfl) (by kernel_rfl) (fun _ _ _ h => h) hS0 (by rfl) (fun w' hS => by have q0 := (cell_of_block hS.2 0).trans rfl; have q1 := (cell_of_block hS.2 1).trans rfl; have q2 := (cell_of_block hS.2 2).trans rfl; have q3 := (cell_of_block hS.2 3).trans rfl; first | rfl | (go_simp; done)) ?_
    simp only [Act.put, List.setIfInBounds_toArray, List.set_cons_zero, List.set_cons_succ]
    refine wh_take 2 (some 32) (.bool P) rfl rfl (by kernel_rfl) (by kernel_rfl) (by kernel_rfl) (fun _ _ _ h => h) hS0 (by rfl) (fun w' hS => by first | rfl | (go_simp; done)) ?_
    simp only [Act.put, List.setIfInBounds_toArray, List.set_cons_zero, List.set_cons_succ]
    refine wh_take 3 (some 33) (.bool P) rfl rfl (by kernel_rfl) (by kernel_rfl) (by kernel_rfl) (fun _ _ _ h => h) hS0 (by rfl) (fun w' hS => by first | rfl | (go_simp; done)) ?_
    simp only [Act.put, List.setIfInBounds_toArray, List.set_cons_zero, List.set_cons_succ]
    cases P with
    | false =>
      obtain rfl : R = false := by rw [HRP.out]; rfl
      refine wh_no 4 (some 34) rfl rfl (by kernel_rfl) (by kernel_rfl) (by kernel_rfl) (fun _ _ _ h => h) hS0 (by rfl) ?_
      simp only [Act.put, List.setIfInBounds_toArray, List.set_cons_zero, List.set_cons_succ]
      refine wh_no 5 (some 35) rfl rfl (by kernel_rfl) (by kernel_rfl) (by kernel_rfl) (fun _ _ _ h => h) hS0 (by rfl) ?_
      simp only [Act.put, List.setIfInBounds_toArray, List.set_cons_zero, List.set_cons_succ]
      refine wh_no 6 (some 36) rfl rfl (by kernel_rfl) (by kernel_rfl) (by kernel_rfl) (fun _ _ _ h => h) hS0 (by rfl) ?_
      simp only [Act.put, List.setIfInBounds_toArray, List.set_cons_zero, List.set_cons_succ]
      refine wh_take 7 (some 37) (.bool false) rfl rfl (by kernel_rfl) (by kernel_rfl) (by kernel_rfl) (fun _ _ _ h => h) hS0 (by rfl) (fun w' hS => by first | rfl | (go_simp; done)) ?_
      simp only [Act.put, List.setIfInBounds_toArray, List.set_cons_zero, List.set_cons_succ]
      have z1 := hz12.out.1
      have z2 := hz12.out.2
      have hSF := hS0
      have hbF := hbD
      clear HFT2 HRN hRND hS0
      obtain ⟨G1, hG1⟩ : ∃ G : World, (((W3.setCell ⟨w.heap.size, 0, none⟩ (.int .i64 x)).setCell ⟨w.heap.size, 1, none⟩ (.int .i64 y)).setCell ⟨w.heap.size, 2, none⟩ (.int .i64 u)).setCell ⟨w.heap.size, 3, none⟩ (.slice sa sn sc) = G := ⟨_, rfl⟩
      obtain ⟨rG1, hGo1, hGs1, hGb1⟩ := set4 z1 _ _ _ _ hG1
      have z2' := (hGo1 _ (by omega)).trans z2
      obtain ⟨G2, hG2⟩ : ∃ G : World, (((G1.setCell ⟨w.heap.size + 1, 0, none⟩ (.int .i64 p)).setCell ⟨w.heap.size + 1, 1, none⟩ (.string s)).setCell ⟨w.heap.size + 1, 2, none⟩ (.int .i64 q)).setCell ⟨w.heap.size + 1, 3, none⟩ (.slice ta tn tc) = G := ⟨_, rfl⟩
      obtain ⟨rG2, hGo2, hGs2, hGb2⟩ := set4 z2' _ _ _ _ hG2
      have rG1' := (hGo2 w.heap.size (by omega)).trans rG1
      have bG2 := hGb2 _ _ (by omega) (hGb1 _ _ (Nat.le_refl _) hbF)
      have hSG1 : (fun W' : World => W'.heap[q7]? = some (.cells #[.int .i64 x, .int .i64 y, .int .i64 u, .slice sa sn sc] 61 (0, 0)) ∧ W'.heap[q9]? = some (.cells #[.int .i64 p, .string s, .int .i64 q, .slice ta tn tc] 64 (0, 0))) G1 := ⟨(hGo1 q7 (by omega)).trans hSF.1, (hGo1 q9 (by omega)).trans hSF.2⟩
      have hSG2 : (fun W' : World => W'.heap[q7]? = some (.cells #[.int .i64 x, .int .i64 y, .int .i64 u, .slice sa sn sc] 61 (0, 0)) ∧ W'.heap[q9]? = some (.cells #[.int .i64 p, .string s, .int .i64 q, .slice ta tn tc] 64 (0, 0))) G2 := ⟨(hGo2 q7 (by omega)).trans hSG1.1, (hGo2 q9 (by omega)).trans hSG1.2⟩
      have e0 := (cell_of_block z1 0).trans rfl
      have e1 := (cell_of_block z1 1).trans rfl
      have e2 := (cell_of_block z1 2).trans rfl
      have e3 := (cell_of_block z1 3).trans rfl
      have f0 := free_of_block z1 0
      have f1 := free_of_block z1 1
      have f2 := free_of_block z1 2
      have f3 := free_of_block z1 3
      have g0 := (cell_of_block z2' 0).trans rfl
      have g1 := (cell_of_block z2' 1).trans rfl
      have g2 := (cell_of_block z2' 2).trans rfl
      have g3 := (cell_of_block z2' 3).trans rfl
      have hh0 := free_of_block z2' 0
      have hh1 := free_of_block z2' 1
      have hh2 := free_of_block z2' 2
      have hh3 := free_of_block z2' 3
      have k0 := (cell_of_block rG1' 0).trans rfl
      have k1 := (cell_of_block rG1' 1).trans rfl
      have k2 := (cell_of_block rG1' 2).trans rfl
      have k3 := (cell_of_block rG1' 3).trans rfl
      have l0 := (cell_of_block rG2 0).trans rfl
      have l1 := (cell_of_block rG2 1).trans rfl
      have l2 := (cell_of_block rG2 2).trans rfl
      have l3 := (cell_of_block rG2 3).trans rfl
      refine wh_skip 8 none G1 (by kernel_rfl) rfl rfl (by rfl) (by rw [← hG1]; go_simp) hSG1 ?_
      simp only [Act.put]
      refine wh_skip 9 none G2 (by kernel_rfl) rfl rfl (by rfl) (by rw [← hG2]; go_simp) hSG2 ?_
      simp only [Act.put]
      refine wh_val 10 (some 6) (.bool false) G2 (by kernel_rfl) rfl rfl (by rfl) (by first | rfl | (go_simp; done)) hSG2 ?_
      simp only [Act.put, List.setIfInBounds_toArray, List.set_cons_zero, List.set_cons_succ]
      refine wh_done (by kernel_rfl) ?_
      clear hSG1 hSG2 hSF z1 z2 z2' rG1 rG2 rG1' hGo1 hGo2 hGb1 hGb2 hGs1 hGs2 hG1 hG2 e0 e1 e2 e3 g0 g1 g2 g3 f0 f1 f2 f3 hh0 hh1 hh2 hh3
      go_wp2
      exact bodyPost_ret (v := .tuple #[.agg #[.int .i64 x, .int .i64 y, .int .i64 u, .slice sa sn sc], .agg #[.int .i64 p, .string s, .int .i64 q, .slice ta tn tc], .bool false]) (by simp [results, Tryz.results25, go_sem, k0, k1, k2, k3, l0, l1, l2, l3]) rfl ⟨x, y, u, sa, sn, sc, p, s, q, ta, tn, tc, rfl, (fun h => by simp at h), bG2⟩
    | true =>
      have HR2' := HR2.out (by trivial)
      have hFC := HFT2.out (by trivial) W3 (w.heap.size + 2) q7 W1.heap.size q9 u q (.slice sa sn sc) (.slice ta tn tc) hbD hRND.out.1 (by omega) (hRND.out.2 (by trivial)) (by omega)
      rw [← HRN.out.1, ← HRN.out.2.1, ← HR2'.1, ← HR2'.2.1] at hFC
      obtain ⟨F, hF⟩ : ∃ F, fitM L V L.length 0 0 = F := ⟨_, rfl⟩
      rw [hF] at hFC HRP
      obtain rfl : R = F := by rw [HRP.out]; simp
      have HEQ : Hid (x = kdAt L 0 ∧ y = nAt L 0 ∧ p = vnAt V 0 ∧ s = vtAt V 0) := ⟨HRN.out.1, HRN.out.2.1, HR2'.1, HR2'.2.1⟩
      have HT3 : Hid (RN L (w.heap.size + 2) q7 L.length W3 0 (.slice sa sn sc) ∧ RV V W1.heap.size q9 V.length W3 0 (.slice ta tn tc) ∧ w.heap.size + 2 ≤ W1.heap.size) := ⟨hRND.out.1, hRND.out.2 (by trivial), by have := hbW1.size; omega⟩
      clear hF HRP HFT2 HRN hRND HR2'
      refine wh_take 4 (some 34) (.agg #[.int .i64 x, .int .i64 y, .int .i64 u, .slice sa sn sc]) rfl rfl (by kernel_rfl) (by kernel_rfl) (by kernel_rfl) (fun _ _ _ h => h) hS0 (by rfl) (fun w' hS => by have q0 := (cell_of_block hS.1 0).trans rfl; have q1 := (cell_of_block hS.1 1).trans rfl; have q2 := (cell_of_block hS.1 2).trans rfl; have q3 := (cell_of_block hS.1 3).trans rfl; first | rfl | (go_simp; done)) ?_
      simp only [Act.put, List.setIfInBounds_toArray, List.set_cons_zero, List.set_cons_succ]
      refine wh_take 5 (some 35) (.agg #[.int .i64 p, .string s, .int .i64 q, .slice ta tn tc]) rfl rfl (by kernel_rfl) (by kernel_rfl) (by kernel_rfl) (fun _ _ _ h => h) hS0 (by rfl) (fun w' hS => by have q0 := (cell_of_block hS.2 0).trans rfl; have q1 := (cell_of_block hS.2 1).trans rfl; have q2 := (cell_of_block hS.2 2).trans rfl; have q3 := (cell_of_block hS.2 3).trans rfl; first | rfl | (go_simp; done)) ?_
      simp only [Act.put, List.setIfInBounds_toArray, List.set_cons_zero, List.set_cons_succ]
      refine wh_call 6 (some 36) 44 #[.agg #[.int .i64 x, .int .i64 y, .int .i64 u, .slice sa sn sc], .agg #[.int .i64 p, .string s, .int .i64 q, .slice ta tn tc]] (by kernel_rfl) rfl rfl (by rfl) (by kernel_rfl) ?_
      refine hFC.mono ?_
      rintro e3 w3 ⟨rfl, B3⟩
      have hSF : (fun W' : World => W'.heap[q7]? = some (.cells #[.int .i64 x, .int .i64 y, .int .i64 u, .slice sa sn sc] 61 (0, 0)) ∧ W'.heap[q9]? = some (.cells #[.int .i64 p, .string s, .int .i64 q, .slice ta tn tc] 64 (0, 0))) w3 := ⟨(B3.block _ (by omega)).trans hS0.1, (B3.block _ (by omega)).trans hS0.2⟩
      refine ⟨_, rfl, hSF, ?_⟩
      simp only [Act.put, List.setIfInBounds_toArray, List.set_cons_zero, List.set_cons_succ]
      refine wh_take 7 (some 37) (.bool R) rfl rfl (by kernel_rfl) (by kernel_rfl) (by kernel_rfl) (fun _ _ _ h => h) hSF (by rfl) (fun w' hS => by first | rfl | (go_simp; done)) ?_
      simp only [Act.put, List.setIfInBounds_toArray, List.set_cons_zero, List.set_cons_succ]
      have z1 : w3.heap[w.heap.size]? = _ := (B3.block _ (by omega)).trans hz12.out.1
      have z2 : w3.heap[w.heap.size + 1]? = _ := (B3.block _ (by omega)).trans hz12.out.2
      have hbF := below2 hbD B3
      have HT4 : Hid (RN L (w.heap.size + 2) q7 L.length w3 0 (.slice sa sn sc) ∧ RV V W1.heap.size q9 V.length w3 0 (.slice ta tn tc) ∧ q9 < w3.heap.size) := ⟨R4.keep HT3.out.1 (fun g _ h2 => B3.block g (by omega)), R4.keep HT3.out.2.1 (fun g _ h2 => B3.block g (by omega)), by have := B3.size; omega⟩
      clear hFC hS0 B3
      obtain ⟨G1, hG1⟩ : ∃ G : World, (((w3.setCell ⟨w.heap.size, 0, none⟩ (.int .i64 x)).setCell ⟨w.heap.size, 1, none⟩ (.int .i64 y)).setCell ⟨w.heap.size, 2, none⟩ (.int .i64 u)).setCell ⟨w.heap.size, 3, none⟩ (.slice sa sn sc) = G := ⟨_, rfl⟩
      obtain ⟨rG1, hGo1, hGs1, hGb1⟩ := set4 z1 _ _ _ _ hG1
      have z2' := (hGo1 _ (by omega)).trans z2
      obtain ⟨G2, hG2⟩ : ∃ G : World, (((G1.setCell ⟨w.heap.size + 1, 0, none⟩ (.int .i64 p)).setCell ⟨w.heap.size + 1, 1, none⟩ (.string s)).setCell ⟨w.heap.size + 1, 2, none⟩ (.int .i64 q)).setCell ⟨w.heap.size + 1, 3, none⟩ (.slice ta tn tc) = G := ⟨_, rfl⟩
      obtain ⟨rG2, hGo2, hGs2, hGb2⟩ := set4 z2' _ _ _ _ hG2
      have rG1' := (hGo2 w.heap.size (by omega)).trans rG1
      have bG2 := hGb2 _ _ (by omega) (hGb1 _ _ (Nat.le_refl _) hbF)
      have hq9G : q9 < G2.heap.size := by have := HT4.out.2.2; omega
      have hW1l := HT3.out.2.2
      have HTG : Hid (x = kdAt L 0 ∧ y = nAt L 0 ∧ p = vnAt V 0 ∧ s = vtAt V 0 ∧ RN L (w.heap.size + 2) G2.heap.size L.length G2 0 (.slice sa sn sc) ∧ RV V (w.heap.size + 2) G2.heap.size V.length G2 0 (.slice ta tn tc)) :=
        ⟨HEQ.out.1, HEQ.out.2.1, HEQ.out.2.2.1, HEQ.out.2.2.2, R4.wide (Nat.le_refl _) (by omega) (R4.keep HT4.out.1 (fun g h1 h2 => (hGo2 g (by omega)).trans (hGo1 g (by omega)))), R4.wide hW1l (by omega) (R4.keep HT4.out.2.1 (fun g h1 h2 => (hGo2 g (by omega)).trans (hGo1 g (by omega))))⟩
      have hSG1 : (fun W' : World => W'.heap[q7]? = some (.cells #[.int .i64 x, .int .i64 y, .int .i64 u, .slice sa sn sc] 61 (0, 0)) ∧ W'.heap[q9]? = some (.cells #[.int .i64 p, .string s, .int .i64 q, .slice ta tn tc] 64 (0, 0))) G1 := ⟨(hGo1 q7 (by omega)).trans hSF.1, (hGo1 q9 (by omega)).trans hSF.2⟩
      have hSG2 : (fun W' : World => W'.heap[q7]? = some (.cells #[.int .i64 x, .int .i64 y, .int .i64 u, .slice sa sn sc] 61 (0, 0)) ∧ W'.heap[q9]? = some (.cells #[.int .i64 p, .string s, .int .i64 q, .slice ta tn tc] 64 (0, 0))) G2 := ⟨(hGo2 q7 (by omega)).trans hSG1.1, (hGo2 q9 (by omega)).trans hSG1.2⟩
      have e0 := (cell_of_block z1 0).trans rfl
      have e1 := (cell_of_block z1 1).trans rfl
      have e2 := (cell_of_block z1 2).trans rfl
      have e3 := (cell_of_block z1 3).trans rfl
      have f0 := free_of_block z1 0
      have f1 := free_of_block z1 1
      have f2 := free_of_block z1 2
      have f3 := free_of_block z1 3
      have g0 := (cell_of_block z2' 0).trans rfl
      have g1 := (cell_of_block z2' 1).trans rfl
      have g2 := (cell_of_block z2' 2).trans rfl
      have g3 := (cell_of_block z2' 3).trans rfl
      have hh0 := free_of_block z2' 0
      have hh1 := free_of_block z2' 1
      have hh2 := free_of_block z2' 2
      have hh3 := free_of_block z2' 3
      have k0 := (cell_of_block rG1' 0).trans rfl
      have k1 := (cell_of_block rG1' 1).trans rfl
      have k2 := (cell_of_block rG1' 2).trans rfl
      have k3 := (cell_of_block rG1' 3).trans rfl
      have l0 := (cell_of_block rG2 0).trans rfl
      have l1 := (cell_of_block rG2 1).trans rfl
      have l2 := (cell_of_block rG2 2).trans rfl
      have l3 := (cell_of_block rG2 3).trans rfl
      refine wh_skip 8 none G1 (by kernel_rfl) rfl rfl (by rfl) (by rw [← hG1]; go_simp) hSG1 ?_
      simp only [Act.put]
      refine wh_skip 9 none G2 (by kernel_rfl) rfl rfl (by rfl) (by rw [← hG2]; go_simp) hSG2 ?_
      simp only [Act.put]
      refine wh_val 10 (some 6) (.bool R) G2 (by kernel_rfl) rfl rfl (by rfl) (by first | rfl | (go_simp; done)) hSG2 ?_
      simp only [Act.put, List.setIfInBounds_toArray, List.set_cons_zero, List.set_cons_succ]
      refine wh_done (by kernel_rfl) ?_
      clear hSG1 hSG2 hSF z1 z2 z2' rG1 rG2 rG1' hGo1 hGo2 hGb1 hGb2 hGs1 hGs2 hG1 hG2 e0 e1 e2 e3 g0 g1 g2 g3 f0 f1 f2 f3 hh0 hh1 hh2 hh3
      go_wp2
      exact bodyPost_ret (v := .tuple #[.agg #[.int .i64 x, .int .i64 y, .int .i64 u, .slice sa sn sc], .agg #[.int .i64 p, .string s, .int .i64 q, .slice ta tn tc], .bool R]) (by simp [results, Tryz.results25, go_sem, k0, k1, k2, k3, l0, l1, l2, l3]) rfl ⟨x, y, u, sa, sn, sc, p, s, q, ta, tn, tc, rfl, (fun _ => HTG.out), bG2⟩

end Go.Proofs.YtljnciclbjcinaaGreatDoor

namespace Go.Proofs.YtljnciclbjcinaaGreatDoor
open Go.ChangeShapes Go.WideShapes Go.ChangeAt Go.RowKit

theorem fitR_yes {L : List Nd} {V : List Vn} (h : fitR L V = true) : goodT L = true ∧ V.length ≤ 100 ∧ shpV (vuAt V) V.length = true ∧ fitM L V L.length 0 0 = true ∧ 0 < L.length ∧ 0 < V.length := by
  unfold fitR shpOk at h
  rw [Bool.and_eq_true, Bool.and_eq_true] at h
  obtain ⟨h1, h23, h4⟩ := h
  have h5 := (ups_good12 h1).1
  rw [Bool.and_eq_true, decide_eq_true_eq] at h23
  obtain ⟨h3, h2⟩ := h23
  have h6 : 0 < V.length := by
    have h7 := h3
    unfold shpV at h7
    simp at h7
    omega
  exact ⟨h1, h2, h3, h4, h5, h6⟩

set_option maxRecDepth 100000 in
set_option maxHeartbeats 1600000 in
theorem implValueText (a a' : Option Addr) (b off cap b' off' cap' : Nat) (L : List Nd) (V : List Vn) (w : World) (ha : Hid (L ≠ [] → a = some ⟨b, off, none⟩ ∧ b < w.heap.size)) (hL : Hid (ndAt w b off L)) (hlen : L.length ≤ 1048576) (ha' : Hid (V ≠ [] → a' = some ⟨b', off', none⟩ ∧ b' < w.heap.size)) (hV : Hid (vlAt w b' off' V)) (hlen' : V.length ≤ 1048576) (hVs : Hid (∀ x ∈ V, x.2.1.size ≤ 1048576)) (hvb : Hid (∀ v, -9223372036854775808 ≤ vnAt V v ∧ vnAt V v ≤ 9223372036854775807)) (hvt : Hid (∀ v, (vtAt V v).size ≤ 1048576)) (hT : Hid (Tabs w)) (hB : Hid (BTabs w)) (hU : Hid (UTabs w)) (hPw : Hid (∀ U, Below w.heap.size w U → Lib.TabIs Tryz.prog U "internal/strconv.uint64pow10" .u64 Lib.pow10Tab)) :
    Calls Tryz.prog 10 #[.slice a L.length cap, .slice a' V.length cap'] w fun e w' => e = .returned (.tuple #[.string (vtT L V), .bool (fitR L V)]) ∧ Below w.heap.size w w' := by
  have H := implFittingV a a' b off cap b' off' cap' L V w ha hL hlen ha' hV hlen' hVs hT hB hU
  have HC : Hid (fitR L V = true → ∀ (U : World) (u q : Int) (sl sl' : Value) (lo hi lo' hi' : Nat), Below w.heap.size w U → hi ≤ U.heap.size → hi' ≤ U.heap.size → RN L lo hi L.length U 0 sl → RV V lo' hi' V.length U 0 sl' → Calls Tryz.prog 26 #[.slice none 0 0, .agg #[.int .i64 (kdAt L 0), .int .i64 (nAt L 0), .int .i64 u, sl], .agg #[.int .i64 (vnAt V 0), .string (vtAt V 0), .int .i64 q, sl']] U (FrP U.heap.size [] (vtx L V L.length 0 0) U)) := fun hf U u q sl sl' lo hi lo' hi' hUb h1 h2 h3 h4 => by
    obtain ⟨g1, g2, g3, g4, g5, g6⟩ := fitR_yes hf
    have hl := vtx_len (L := L) g3 hvb.out hvt.out L.length 0 0 g6
    have hn := nxt_le (U := vuAt V) (n := V.length) (a := 0) (show 0 + 1 ≤ V.length by omega)
    have h9 : 3145740 * (nxt (vuAt V) V.length 0 (0 + 1) - 0) ≤ 3145740 * 100 := Nat.mul_le_mul_left _ (by omega)
    exact implVText L V g1 g2 hvb.out hvt.out L.length V.length 0 0 g5 U U.heap.size lo hi lo' hi' u q sl sl' (.slice none 0 0) [] g4 h3 h1 h4 h2 (Nat.le_refl _) (World.ownsRow_nil _ _ _ _) (by simp; omega) (fun w' h => hPw.out w' (below2 hUb h))
  obtain ⟨R, hR⟩ : ∃ R, fitR L V = R := ⟨_, rfl⟩
  have HV : Hid (vtT L V = if R = true then bsV (vtx L V L.length 0 0) else ⟨#[]⟩) := by unfold Hid vtT; rw [hR]
  rw [hR] at H HC ⊢
  obtain ⟨X, hX⟩ : ∃ X, vtT L V = X := ⟨_, rfl⟩
  rw [hX] at HV ⊢
  clear ha hL ha' hV hVs hT hB hU hPw hR hX hvb hvt
  go_enter Tryz.func10, Tryz.ntmps10
  go_wp2_with fail
  refine H.mono ?_
  rintro e w1 ⟨x, y, u, sa, sn, sc, p, s, q, ta, tn, tc, rfl, HT, hb⟩
  clear H
  obtain ⟨U, hU⟩ : ∃ U, (w1.alloc (.cells #[.int .i64 x, .int .i64 y, .int .i64 u, .slice sa sn sc] 61)).alloc (.cells #[.int .i64 p, .string s, .int .i64 q, .slice ta tn tc] 64) = U := ⟨_, rfl⟩
  have hb1 : Below w1.heap.size w1 U := by rw [← hU]; exact ((Below.refl _ _).alloc (Nat.le_refl _) _).alloc (by simp) _
  have hbU : Hid (Below w.heap.size w U) := below2 hb hb1
  cases R with
  | false =>
    have hX : X = ⟨#[]⟩ := HV.out
    subst hX
    clear HC HV HT hb1
    go_wp2
    go_ret2
    exact ⟨rfl, hbU.out⟩
  | true =>
    have hX : X = bsV (vtx L V L.length 0 0) := HV.out
    obtain ⟨t1, t2, t3, t4, t5, t6⟩ := HT.out rfl
    have HC1 := HC.out rfl U u q (.slice sa sn sc) (.slice ta tn tc) _ _ _ _ hbU.out hb1.size hb1.size (R4.below t5 hb1 (Nat.le_refl _)) (R4.below t6 hb1 (Nat.le_refl _))
    rw [← t1, ← t2, ← t3, ← t4] at HC1
    have q1 : U.heap[w1.heap.size]? = some (.cells #[.int .i64 x, .int .i64 y, .int .i64 u, .slice sa sn sc] 61 (0, 0)) := by rw [← hU]; exact (Below.heap_alloc _ _ _ (by simp)).trans (heap_alloc_new _ _)
    have q2 : U.heap[w1.heap.size + 1]? = some (.cells #[.int .i64 p, .string s, .int .i64 q, .slice ta tn tc] 64 (0, 0)) := by
      rw [← hU]
      have e : w1.heap.size + 1 = (w1.alloc (.cells #[.int .i64 x, .int .i64 y, .int .i64 u, .slice sa sn sc] 61)).heap.size := by simp
      rw [e]
      exact heap_alloc_new _ _
    have k0 := (cell_of_block q1 0).trans rfl
    have k1 := (cell_of_block q1 1).trans rfl
    have k2 := (cell_of_block q1 2).trans rfl
    have k3 := (cell_of_block q1 3).trans rfl
    have l0 := (cell_of_block q2 0).trans rfl
    have l1 := (cell_of_block q2 1).trans rfl
    have l2 := (cell_of_block q2 2).trans rfl
    have l3 := (cell_of_block q2 3).trans rfl
    clear q1 q2 t1 t2 t3 t4 t5 t6 HT HC HV hb1 hb
    unfold FrP at HC1
    go_wp2_with fail
    refine HC1.mono ?_
    rintro e w2 ⟨v2, rfl, hown, _, hb2⟩
    rw [List.nil_append] at hown
    have hcv := owned_string (P := Tryz.prog) 67 9 5 Tryz.underlying67 Tryz.underlying5 Tryz.underlying9 hown
    have hbz : Hid (Below w.heap.size w w2) := below2 hbU.out hb2
    have hX2 : (⟨(vtx L V L.length 0 0).toArray⟩ : ByteArray) = X := hX.symm
    rw [hX2] at hcv
    clear hown hb2 hX hX2 HC1 k0 k1 k2 k3 l0 l1 l2 l3 hbU
    go_wp2
    go_ret2
    exact ⟨rfl, hbz.out⟩

end Go.Proofs.YtljnciclbjcinaaGreatDoor

namespace Go.Proofs.YtljnciclbjcinaaGreatDoor
open Go.ChangeShapes Go.WideShapes Go.ChangeAt Go.RowKit

theorem vals_keepT {w w' : World} {b off : Nat} {V : List Vn} {a : Option Addr} (h : vlAt w b off V) (ha : V ≠ [] → a = some ⟨b, off, none⟩ ∧ b < w.heap.size) (hb : Below w.heap.size w w') : vlAt w' b off V := fun i hi => (h.below hb (ha (fun e => by simp [e] at hi)).2) i hi
theorem nds_keepT {w w' : World} {b off : Nat} {V : List Nd} {a : Option Addr} (h : ndAt w b off V) (ha : V ≠ [] → a = some ⟨b, off, none⟩ ∧ b < w.heap.size) (hb : Below w.heap.size w w') : ndAt w' b off V := fun i hi => (h.below hb (ha (fun e => by simp [e] at hi)).2) i hi
theorem vn_bounds {V : List Vn} (h : fitsV V) (v : Nat) : -9223372036854775808 ≤ vnAt V v ∧ vnAt V v ≤ 9223372036854775807 := by
  by_cases hv : v < V.length
  · rw [vnAt_get V v hv]
    have := h V[v] (List.getElem_mem hv)
    omega
  · unfold vnAt
    rw [List.getD_eq_getElem?_getD, List.getElem?_eq_none (by omega)]
    simp
theorem vt_bounds {V : List Vn} (h : Hid (∀ x ∈ V, x.2.1.size ≤ 1048576)) : Hid (∀ v, (vtAt V v).size ≤ 1048576) := fun v => by
  by_cases hv : v < V.length
  · rw [vtAt_get V v hv]
    exact h.out _ (List.getElem_mem hv)
  · unfold vtAt
    rw [List.getD_eq_getElem?_getD, List.getElem?_eq_none (by omega)]
    simp [ByteArray.size]

set_option maxRecDepth 100000 in
set_option maxHeartbeats 1600000 in
theorem valueText_walk (a0 : Option Addr) (a1 : Option Addr) (cap0 : Nat) (cap1 : Nat) (L0 : List Nd) (V1 : List Vn) (w : World) (h0 : IsNds w a0 L0) (h1 : IsVals w a1 V1) (hTT : Tabs w ∧ BTabs w ∧ UTabs w ∧ Lib.TabIs Tryz.prog w "internal/strconv.uint64pow10" .u64 Lib.pow10Tab) :
    Calls Tryz.prog 3 #[.slice a0 L0.length cap0, .slice a1 V1.length cap1] w fun e w' => e = .returned (.bool true) ∧ Below w.heap.size w w' := by
  obtain ⟨b0, off0, ha0, hL0, hlen0, hfit0⟩ := h0
  obtain ⟨b1, off1, ha1, hL1, hlen1, hfit1⟩ := h1
  have HSZ := szNdsR a0 cap0 L0.length w hlen0
  have HT : Hid (Tabs w) := hTT.1
  have HB : Hid (BTabs w) := hTT.2.1
  have HU : Hid (UTabs w) := hTT.2.2.1
  have HPW : Hid (∀ U, Below w.heap.size w U → Lib.TabIs Tryz.prog U "internal/strconv.uint64pow10" .u64 Lib.pow10Tab) := fun U h => Lib.tabBelow_of_tabIs hTT.2.2.2 U h
  have HVB : Hid (∀ v, -9223372036854775808 ≤ vnAt V1 v ∧ vnAt V1 v ≤ 9223372036854775807) := vn_bounds hfit1
  have HA0 : Hid (L0 ≠ [] → a0 = some ⟨b0, off0, none⟩ ∧ b0 < w.heap.size) := ha0
  have HL0 : Hid (ndAt w b0 off0 L0) := hL0
  have HA1 : Hid (V1 ≠ [] → a1 = some ⟨b1, off1, none⟩ ∧ b1 < w.heap.size) := ha1
  have HL1 : Hid (vlAt w b1 off1 V1) := hL1
  have HFS1 : Hid (∀ x ∈ V1, x.2.1.size ≤ 9223372036854775807) := fun x hx => (hfit1 x hx).2.1
  have KA : Hid (∀ W, Below w.heap.size w W → (L0 ≠ [] → a0 = some ⟨b0, off0, none⟩ ∧ b0 < W.heap.size) ∧ ndAt W b0 off0 L0 ∧ (V1 ≠ [] → a1 = some ⟨b1, off1, none⟩ ∧ b1 < W.heap.size) ∧ vlAt W b1 off1 V1) := fun W hW => ⟨fun h => ⟨(ha0 h).1, Nat.lt_of_lt_of_le (ha0 h).2 hW.size⟩, nds_keepT hL0 ha0 hW, fun h => ⟨(ha1 h).1, Nat.lt_of_lt_of_le (ha1 h).2 hW.size⟩, vals_keepT hL1 ha1 hW⟩
  clear hTT ha0 hL0 hfit0 ha1 hL1 hfit1
  go_enter Tryz.func3, Tryz.ntmps3
  go_wp2_with fail
  refine HSZ.mono ?_
  rintro e w0 ⟨r0, rfl, hr90, hr0, rfl⟩
  clear HSZ
  by_cases hneg0 : r0 < 0
  · go_wp2
    go_ret
    exact ⟨rfl, Below.refl _ _⟩
  · have hlb0 : L0.length ≤ 1048576 := hr0 (by omega)
    have hnn0 : 0 ≤ r0 ∧ r0 ≤ 1048576 := ⟨by omega, hr90.2⟩
    have hbb0 : Below w0.heap.size w0 w0 := Below.refl _ _
    clear hr0 hr90
    obtain ⟨y0a, y0b, y1a, y1b⟩ := KA.out w0 hbb0
    have HS := szVals a1 b1 off1 cap1 V1 r0 w0 y1a y1b hlen1 HFS1 hnn0
    clear y0a y0b y1a y1b
    clear HFS1 hnn0
    go_wp2_with fail
    refine HS.mono ?_
    rintro e w1 ⟨r1, rfl, hr91, hr1, hbq⟩
    have hbb1 := below2 hbb0 hbq
    clear HS hbq hbb0 hneg0
    by_cases hneg1 : r1 < 0
    · go_wp2
      go_ret
      exact ⟨rfl, hbb1⟩
    · obtain ⟨hlb1, hVs1⟩ := hr1 (by omega)
      have HVs1 : Hid (∀ x ∈ V1, x.2.1.size ≤ 1048576) := hVs1
      have hnn1 : 0 ≤ r1 ∧ r1 ≤ 1048576 := ⟨by omega, hr91.2⟩
      clear hVs1 hr1 hr91
      clear hnn1
      obtain ⟨y0a, y0b, y1a, y1b⟩ := KA.out w1 hbb1
      have HC := toNds a0 b0 off0 cap0 L0 w1 y0a y0b hlb0
      clear y0a y0b y1a y1b
      go_wp2_with fail
      refine HC.mono ?_
      rintro e w2 ⟨rfl, hlp0, hnp0, _, hbq⟩
      have hbb2 := below2 hbb1 hbq
      clear HC hbq hbb1
      obtain ⟨y0a, y0b, y1a, y1b⟩ := KA.out w2 hbb2
      have HC := toVals a1 b1 off1 cap1 V1 w2 y1a y1b hlb1
      clear y0a y0b y1a y1b
      go_wp2_with fail
      refine HC.mono ?_
      rintro e w3 ⟨rfl, hlp1, hnp1, _, hbq⟩
      have hbb3 := below2 hbb2 hbq
      replace hnp0 := hnp0.below hbq hlp0
      replace hlp0 := Nat.lt_of_lt_of_le hlp0 hbq.size
      clear HC hbq hbb2
      clear hneg1
      have HC := specValueText (some ⟨w1.heap.size, 0, none⟩) (some ⟨w2.heap.size, 0, none⟩) w1.heap.size 0 L0.length w2.heap.size 0 V1.length L0 V1 w3 (fun _ => ⟨rfl, hlp0⟩) hnp0 hlb0 (fun _ => ⟨rfl, hlp1⟩) hnp1 hlb1 HVs1 HVB (vt_bounds HVs1)
      clear hlp0 hnp0 hlp1 hnp1
      go_wp2_with fail
      refine HC.mono ?_
      rintro e w4 ⟨rfl, hbq⟩
      have hbb4 := below2 hbb3 hbq
      clear HC hbq hbb3
      obtain ⟨y0a, y0b, y1a, y1b⟩ := KA.out w4 hbb4
      have HC := toNds a0 b0 off0 cap0 L0 w4 y0a y0b hlb0
      clear y0a y0b y1a y1b
      go_wp2_with fail
      refine HC.mono ?_
      rintro e w5 ⟨rfl, hlq0, hnq0, _, hbq⟩
      have hbb5 := below2 hbb4 hbq
      clear HC hbq hbb4
      obtain ⟨y0a, y0b, y1a, y1b⟩ := KA.out w5 hbb5
      have HC := toVals a1 b1 off1 cap1 V1 w5 y1a y1b hlb1
      clear y0a y0b y1a y1b
      go_wp2_with fail
      refine HC.mono ?_
      rintro e w6 ⟨rfl, hlq1, hnq1, _, hbq⟩
      have hbb6 := below2 hbb5 hbq
      replace hnq0 := hnq0.below hbq hlq0
      replace hlq0 := Nat.lt_of_lt_of_le hlq0 hbq.size
      clear HC hbq hbb5
      have HC := implValueText (some ⟨w4.heap.size, 0, none⟩) (some ⟨w5.heap.size, 0, none⟩) w4.heap.size 0 L0.length w5.heap.size 0 V1.length L0 V1 w6 (fun _ => ⟨rfl, hlq0⟩) hnq0 hlb0 (fun _ => ⟨rfl, hlq1⟩) hnq1 hlb1 HVs1 HVB (vt_bounds HVs1) (HT.out.below hbb6 (Nat.le_refl _)) (HB.out.below hbb6 (Nat.le_refl _)) (Utf8Tabs_below HU.out hbb6) (fun U h => HPW.out U (below2 hbb6 h))
      obtain ⟨X, hX⟩ : ∃ y, vtT L0 V1 = y := ⟨_, rfl⟩
      obtain ⟨F, hF⟩ : ∃ y, fitR L0 V1 = y := ⟨_, rfl⟩
      rw [hX, hF] at HC ⊢
      clear hX hF
      go_wp2_with fail
      refine HC.mono ?_
      rintro e w7 ⟨rfl, hbq⟩
      have hbb7 := below2 hbb6 hbq
      replace hnq0 := hnq0.below hbq hlq0
      replace hlq0 := Nat.lt_of_lt_of_le hlq0 hbq.size
      replace hnq1 := hnq1.below hbq hlq1
      replace hlq1 := Nat.lt_of_lt_of_le hlq1 hbq.size
      clear HC hbq hbb6 HT HB HU HPW HVB
      obtain ⟨y0a, y0b, y1a, y1b⟩ := KA.out w7 hbb7
      have HC := toNds a0 b0 off0 cap0 L0 w7 y0a y0b hlb0
      clear y0a y0b y1a y1b
      go_wp2_with fail
      refine HC.mono ?_
      rintro e w8 ⟨rfl, hlr, hnr, _, hbq⟩
      have hbb8 := below2 hbb7 hbq
      replace hnq0 := hnq0.below hbq hlq0
      replace hlq0 := Nat.lt_of_lt_of_le hlq0 hbq.size
      replace hnq1 := hnq1.below hbq hlq1
      replace hlq1 := Nat.lt_of_lt_of_le hlq1 hbq.size
      clear HC hbq hbb7
      have HC := eqNds (some ⟨w4.heap.size, 0, none⟩) (some ⟨w7.heap.size, 0, none⟩) w4.heap.size 0 L0.length w7.heap.size 0 L0.length L0 w8 (fun _ => ⟨rfl, hlq0⟩) (fun _ => ⟨rfl, hlr⟩) hnq0 hnr hlen0
      clear hnr hlr hnq0 hlq0
      go_wp2_with fail
      refine HC.mono ?_
      rintro e w9 ⟨rfl, hbq⟩
      have hbb9 := below2 hbb8 hbq
      replace hnq1 := hnq1.below hbq hlq1
      replace hlq1 := Nat.lt_of_lt_of_le hlq1 hbq.size
      clear HC hbq hbb8
      obtain ⟨y0a, y0b, y1a, y1b⟩ := KA.out w9 hbb9
      have HC := toVals a1 b1 off1 cap1 V1 w9 y1a y1b hlb1
      clear y0a y0b y1a y1b
      go_wp2_with fail
      refine HC.mono ?_
      rintro e w10 ⟨rfl, hlr, hnr, _, hbq⟩
      have hbb10 := below2 hbb9 hbq
      replace hnq1 := hnq1.below hbq hlq1
      replace hlq1 := Nat.lt_of_lt_of_le hlq1 hbq.size
      clear HC hbq hbb9
      have HC := eqVals (some ⟨w5.heap.size, 0, none⟩) (some ⟨w9.heap.size, 0, none⟩) w5.heap.size 0 V1.length w9.heap.size 0 V1.length V1 w10 (fun _ => ⟨rfl, hlq1⟩) (fun _ => ⟨rfl, hlr⟩) hnq1 hnr hlen1
      clear hnr hlr hnq1 hlq1
      go_wp2_with fail
      refine HC.mono ?_
      rintro e w11 ⟨rfl, hbq⟩
      have hbb11 := below2 hbb10 hbq
      clear HC hbq hbb10
      go_wp2
      go_ret
      exact ⟨rfl, hbb11⟩

end Go.Proofs.YtljnciclbjcinaaGreatDoor
