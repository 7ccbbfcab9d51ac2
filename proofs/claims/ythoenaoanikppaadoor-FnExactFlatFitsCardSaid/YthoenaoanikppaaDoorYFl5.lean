/-
  The core types of a type with parts: the program's side.
-/
import Derived.Test.YthoenaoanikppaaDoorYFl4
namespace Go.Proofs.YthoenaoanikppaaDoor
open Go.ChangeShapes Go.WideShapes Go.ChangeAt Go.RowKit

set_option maxRecDepth 100000 in
set_option maxHeartbeats 6400000 in
theorem implFlat_rec (L : List Nd) (hG : goodT L = true) (f p e : Nat) (he : isEnd L p e) (hpf : L.length - p ≤ f + 1) (hx : kdAt L p = 14) (ih : ∀ c ec, L.length - c ≤ f → isEnd L c ec → FlatTold L f c ec) : FlatTold L (f + 1) p e := by
  intro w b off cap hb hL
  have hU := ups_good hG
  obtain ⟨i0, hi, hz0, hz1, hz2⟩ := info_parts Tryd.infoY
  have HP := implParts L hU p e he b off cap w hb hL
  have hlen := segL_len (L := L) he.1
  have hpe := he.1
  have c0 := (hL 0 (by omega)).1
  rw [segL_zero] at c0
  simp only [Nat.zero_mul, Nat.add_zero] at c0
  rw [hx] at c0
  have hF : Hid (flat L (f + 1) p = (kidsOf L p).flatMap (flat L f)) := by
    unfold Hid
    conv => lhs; unfold flat
    rw [if_neg (by omega), if_neg (by omega), if_neg (by omega), if_pos hx]
  have hFl := flat_len hU (f + 1) p e he
  rw [hF.out] at hFl ⊢
  obtain ⟨R, hR⟩ : ∃ R, (kidsOf L p).flatMap (flat L f) = R := ⟨_, rfl⟩
  have HR : Hid ((kidsOf L p).flatMap (flat L f) = R) := hR
  have hRL := congrArg List.length hR
  rw [hR]
  clear hR
  obtain ⟨n, hn⟩ : ∃ n, (segL L p e).length = n := ⟨_, rfl⟩
  have hn0 : (0 : Int) < n := by omega
  rw [hn] at HP ⊢
  have h80 : ((kidsOf L p).flatMap (flat L f)).length ≤ 80 := by have h3 := he.2.1; have h4 := hU.2.1; omega
  have HKP : Hid (∀ i (h : i < (kidsOf L p).length), isEnd L (kidsOf L p)[i] (endAt (kidsOf L p) e i) ∧ flat L f (kidsOf L p)[i] ≠ [] ∧ L.length - (kidsOf L p)[i] ≤ f) := fun i h => by
    have hm := kids_mem (List.getElem_mem h)
    exact ⟨parts_end hU he i h, flat_pos hG f _ hm.2 (by omega), by omega⟩
  have hKL : (kidsOf L p).length ≤ 40 := Nat.le_trans (kids_le L p) hU.2.1
  have IH : Hid (∀ c ec, L.length - c ≤ f → isEnd L c ec → FlatTold L f c ec) := ih
  clear ih hF hL hFl hlen hn hx hpf
  go_enter Tryd.func20, Tryd.ntmps20
  go_wp2_with fail
  refine HP.mono ?_
  rintro e1 w1 ⟨v, rfl, hpa, hb1⟩
  clear HP
  obtain ⟨pa, pc, rfl, hpa⟩ := hpa
  obtain ⟨K, hK⟩ : ∃ K, kidsOf L p = K := ⟨_, rfl⟩
  have HPA : Hid (∀ i (h : i < K.length), ∃ g gi ci, pa = some ⟨g, 0, none⟩ ∧ g < w1.heap.size ∧ gi < w1.heap.size ∧ w1.cell? ⟨g, i, none⟩ = some (.slice (some ⟨gi, 0, none⟩) (segL L K[i] (endAt K e i)).length ci) ∧ ndAt w1 gi 0 (segL L K[i] (endAt K e i))) := by
    subst hK
    intro i h
    obtain ⟨g, gi, ci, x1, _, x3, _, x5, x6, x7⟩ := hpa i h
    exact ⟨g, gi, ci, x1, x3, x5, x6, x7⟩
  rw [hK] at h80 HKP hKL HR
  rw [hK]
  clear hpa hK hRL
  go_wp2
  go_loopw [3, 29] (fun v i wr => ∃ m : Nat, m ≤ K.length ∧ i = .int .i64 (m : Int) ∧ wr.ownsRow w1.heap.size 3 1 v ((K.take m).flatMap (flat L f)).length (iy ((K.take m).flatMap (flat L f))) ∧ Below w1.heap.size w1 wr) (fun _ i _ => K.length - (intOf i).toNat)
  case atStart => exact ⟨0, by omega, rfl, World.ownsRow_nil _ _ _ _, Below.refl _ _⟩
  case round =>
    obtain ⟨m, hm, rfl, hrow, hnx⟩ := hrel
    have hsz := hnx.size
    by_cases hlt : m < K.length
    · obtain ⟨g, gi, ci, rfl, g1, g2, k0, k1⟩ := HPA.out m hlt
      obtain ⟨q1, q2, q3⟩ := HKP.out m hlt
      have d0 := keepCell hnx g1 k0
      have HC := IH.out K[m] (endAt K e m) q3 q1 wr gi 0 ci (by omega) (k1.below hnx g2)
      have HS : Hid ((K.take (m + 1)).flatMap (flat L f) = (K.take m).flatMap (flat L f) ++ flat L f K[m]) := take_flat_succ _ hlt
      have hle := take_flat_le (flat L f) K (m + 1)
      rw [HS.out, List.length_append] at hle
      obtain ⟨D, hD⟩ : ∃ D, flat L f K[m] = D := ⟨_, rfl⟩
      rw [hD] at HC HS hle q2
      obtain ⟨A, hA⟩ : ∃ A, (K.take m).flatMap (flat L f) = A := ⟨_, rfl⟩
      rw [hA] at hrow HS hle
      have hD0 : 0 < D.length := List.length_pos_iff.2 q2
      obtain ⟨sl, hsl⟩ : ∃ sl, (segL L K[m] (endAt K e m)).length = sl := ⟨_, rfl⟩
      rw [hsl] at d0 HC
      have h80' : A.length + D.length ≤ 80 := by omega
      clear hD hA k0 k1 q1 q2 q3 hsl hle
      go_wp2_with fail
      refine HC.mono ?_
      rintro e2 w2 ⟨v2, rfl, hown2, hb2⟩
      clear HC
      obtain ⟨gb, bc, rfl, _⟩ := own_pos hown2 hD0
      have hrow2 : w2.ownsRow w1.heap.size 3 1 _ A.length (iy A) := own_keep hrow fun k hk => by
        obtain ⟨cu, hcu, _⟩ := own_at hrow hk
        exact hb2.block k (lt_of_block hcu)
      have hnx2 : Below w1.heap.size w1 w2 := below2 hnx hb2
      have hnews : ∀ j u, (iy D)[j]? = some u → w2.cell? ((⟨gb, 0, none⟩ : Addr).add j) = some u := fun j u hu => by
        rw [Addr.add_lit, Nat.zero_add]
        have hj : j < D.length := by
          rcases Nat.lt_or_ge j (iy D).length with h | h
          · rw [iy_len] at h; exact h
          · rw [List.getElem?_eq_none h] at hu; simp at hu
        exact (hown2.cellAt j (by omega)).trans hu
      have hsz2 := hnx2.size
      go_wp2_with (at_builtin; refine wpList_append_own _ rfl _ _ 40 rfl w1.heap.size 3 i0 (.int .i64 0) 1 8 Tryd.underlying40 hi hz0 hz1 hz2 rfl (by decide) _ _ _ rfl hrow2 ⟨gb, 0, none⟩ D.length _ (iy D) rfl (by rw [iy_len]; omega) hnews (iy_one _) (by unfold maxLen; omega) (by omega) (by omega) ?_)
      intro v' w3 hown' hgrow' _
      rw [iy_app, ← HS.out] at hown'
      have hl3 : A.length + D.length = ((K.take (m + 1)).flatMap (flat L f)).length := by rw [HS.out, List.length_append]
      rw [hl3] at hown'
      have hb3 : Below w1.heap.size w1 w3 := hnx2.grown hgrow' (by omega) (ownsRow_block hrow2)
      clear hgrow' hl3 hrow hrow2 hown2
      go_wp2
      go_roundw
      case rel => exact ⟨m + 1, by omega, by go_num, hown', hb3⟩
      case measure => simp [intOf]; omega
    · obtain rfl : m = K.length := by omega
      rw [List.take_length] at hrow
      obtain ⟨va, vc, rfl⟩ := ownsRow_shape hrow
      have hbb := hb1.trans (hnx.mono hb1.size)
      have hs1 := hb1.size
      go_wp2
      go_ret
      exact ⟨_, rfl, by rw [← HR.out]; exact own_base hrow hs1, hbb⟩

set_option maxRecDepth 100000 in
set_option maxHeartbeats 6400000 in
theorem implFlat_var (L : List Nd) (hG : goodT L = true) (f p e : Nat) (he : isEnd L p e) (hpf : L.length - p ≤ f + 1) (hx : kdAt L p = 15 ∨ kdAt L p = 17 ∨ kdAt L p = 18) (ih : ∀ c ec, L.length - c ≤ f → isEnd L c ec → FlatTold L f c ec) : FlatTold L (f + 1) p e := by
  intro w b off cap hb hL
  have hU := ups_good hG
  obtain ⟨i0, hi, hz0, hz1, hz2⟩ := info_parts Tryd.infoY
  have HP := implParts L hU p e he b off cap w hb hL
  have hlen := segL_len (L := L) he.1
  have hpe := he.1
  have c0 := (hL 0 (by omega)).1
  rw [segL_zero] at c0
  simp only [Nat.zero_mul, Nat.add_zero] at c0
  have hF : Hid (flat L (f + 1) p = 127 :: (kidsOf L p).foldl (fun acc c => joinR acc (flat L f c)) []) := by
    unfold Hid
    conv => lhs; unfold flat
    rw [if_neg (by omega), if_neg (by omega), if_neg (by omega), if_neg (by omega), if_pos hx]
  rw [hF.out]
  obtain ⟨R, hR⟩ : ∃ R, 127 :: (kidsOf L p).foldl (fun acc c => joinR acc (flat L f c)) [] = R := ⟨_, rfl⟩
  have HR : Hid (127 :: (kidsOf L p).foldl (fun acc c => joinR acc (flat L f c)) [] = R) := hR
  rw [hR]
  clear hR
  have HKN : Hid (0 < (kidsOf L p).length) := good_kids hG (by have := he.2.1; omega) (by omega)
  obtain ⟨n, hn⟩ : ∃ n, (segL L p e).length = n := ⟨_, rfl⟩
  have hn0 : (0 : Int) < n := by omega
  rw [hn] at HP ⊢
  have HKP : Hid (∀ i (h : i < (kidsOf L p).length), isEnd L (kidsOf L p)[i] (endAt (kidsOf L p) e i) ∧ flat L f (kidsOf L p)[i] ≠ [] ∧ L.length - (kidsOf L p)[i] ≤ f ∧ (flat L f (kidsOf L p)[i]).length ≤ 80) := fun i h => by
    have hm := kids_mem (List.getElem_mem h)
    exact ⟨parts_end hU he i h, flat_pos hG f _ hm.2 (by omega), by omega, kid_flat_len hU f he _ (List.getElem_mem h)⟩
  have h80 : Hid (∀ m, (((kidsOf L p).take m).foldl (fun acc c => joinR acc (flat L f c)) []).length ≤ 80) := fold_flat_len hU f he
  have hKL : (kidsOf L p).length ≤ 40 := Nat.le_trans (kids_le L p) hU.2.1
  have IH : Hid (∀ c ec, L.length - c ≤ f → isEnd L c ec → FlatTold L f c ec) := ih
  clear ih hF hL hlen hn hpf
  obtain ⟨x, hxe⟩ : ∃ x, kdAt L p = x := ⟨_, rfl⟩
  rw [hxe] at c0 hx
  clear hxe
  rcases hx with rfl | rfl | rfl
  all_goals
    go_enter Tryd.func20, Tryd.ntmps20
    go_wp2_with fail
    refine HP.mono ?_
    rintro e1 w1 ⟨v, rfl, hpa, hb1⟩
    clear HP
    obtain ⟨pa, pc, rfl, hpa⟩ := hpa
    obtain ⟨K, hK⟩ : ∃ K, kidsOf L p = K := ⟨_, rfl⟩
    have HPA : Hid (∀ i (h : i < K.length), ∃ g gi ci, pa = some ⟨g, 0, none⟩ ∧ g < w1.heap.size ∧ gi < w1.heap.size ∧ w1.cell? ⟨g, i, none⟩ = some (.slice (some ⟨gi, 0, none⟩) (segL L K[i] (endAt K e i)).length ci) ∧ ndAt w1 gi 0 (segL L K[i] (endAt K e i))) := by
      subst hK
      intro i h
      obtain ⟨g, gi, ci, x1, _, x3, _, x5, x6, x7⟩ := hpa i h
      exact ⟨g, gi, ci, x1, x3, x5, x6, x7⟩
    rw [hK] at h80 HKP hKL HKN HR
    rw [hK]
    clear hpa hK
    go_wp2
    go_loopw [6, 46] (fun v i wr => ∃ m : Nat, m ≤ K.length ∧ i = .int .i64 (m : Int) ∧ wr.ownsRow w1.heap.size 3 1 v ((K.take m).foldl (fun acc c => joinR acc (flat L f c)) []).length (iy ((K.take m).foldl (fun acc c => joinR acc (flat L f c)) [])) ∧ Hid (0 < m → 0 < ((K.take m).foldl (fun acc c => joinR acc (flat L f c)) []).length) ∧ Below w1.heap.size w1 wr) (fun _ i _ => K.length - (intOf i).toNat)
    case atStart => exact ⟨0, by omega, rfl, World.ownsRow_nil _ _ _ _, fun h => absurd h (by omega), Below.refl _ _⟩
    case round =>
      obtain ⟨m, hm, rfl, hrow, hpos, hnx⟩ := hrel
      have hsz := hnx.size
      by_cases hlt : m < K.length
      · obtain ⟨g, gi, ci, rfl, g1, g2, k0, k1⟩ := HPA.out m hlt
        obtain ⟨q1, q2, q3, q4⟩ := HKP.out m hlt
        have d0 := keepCell hnx g1 k0
        have HC := IH.out K[m] (endAt K e m) q3 q1 wr gi 0 ci (by omega) (k1.below hnx g2)
        have HS : Hid ((K.take (m + 1)).foldl (fun acc c => joinR acc (flat L f c)) [] = joinR ((K.take m).foldl (fun acc c => joinR acc (flat L f c)) []) (flat L f K[m])) := take_fold_succ _ hlt
        have hle := h80.out m
        obtain ⟨D, hD⟩ : ∃ D, flat L f K[m] = D := ⟨_, rfl⟩
        rw [hD] at HC HS q2 q4
        obtain ⟨A, hA⟩ : ∃ A, (K.take m).foldl (fun acc c => joinR acc (flat L f c)) [] = A := ⟨_, rfl⟩
        rw [hA] at hrow HS hle
        have hD0 : 0 < D.length := List.length_pos_iff.2 q2
        obtain ⟨sl, hsl⟩ : ∃ sl, (segL L K[m] (endAt K e m)).length = sl := ⟨_, rfl⟩
        rw [hsl] at d0 HC
        clear hD hA k0 k1 q1 q2 q3 hsl hpos
        go_wp2_with fail
        refine HC.mono ?_
        rintro e2 w2 ⟨v2, rfl, hown2, hb2⟩
        clear HC
        have hrow2 : w2.ownsRow w1.heap.size 3 1 _ A.length (iy A) := own_keep hrow fun k hk => by
          obtain ⟨cu, hcu, _⟩ := own_at hrow hk
          exact hb2.block k (lt_of_block hcu)
        have hnx2 : Below w1.heap.size w1 w2 := below2 hnx hb2
        have hsz2 := hnx2.size
        have HJ := implJoin w1.heap.size _ v2 A D w2 hsz2 hrow2 (own_base hown2 hsz) (fun k hk e3 => by
          obtain ⟨cu, hcu, _⟩ := own_at hrow hk
          have h1 := lt_of_block hcu
          have h2 := ownsRow_block hown2 k e3
          omega) (by omega) (by omega)
        go_wp2_with fail
        refine HJ.mono ?_
        rintro e3 w3 ⟨v3, rfl, hown3, hb3⟩
        clear HJ
        have hnx3 : Below w1.heap.size w1 w3 := hnx2.trans hb3
        rw [← HS.out] at hown3
        have HPS : Hid (0 < m + 1 → 0 < ((K.take (m + 1)).foldl (fun acc c => joinR acc (flat L f c)) []).length) := fun _ => by
          rw [HS.out, joinR_len]; omega
        clear hrow hrow2 hown2 hb2 hb3
        go_wp2
        go_roundw
        case rel => exact ⟨m + 1, by omega, by go_num, hown3, HPS, hnx3⟩
        case measure => simp [intOf]; omega
      · obtain rfl : m = K.length := by omega
        have hle := h80.out K.length
        have hp0 := hpos.out HKN.out
        rw [List.take_length] at hrow hle hp0
        obtain ⟨A, hA⟩ : ∃ A, K.foldl (fun acc c => joinR acc (flat L f c)) [] = A := ⟨_, rfl⟩
        rw [hA] at hrow hle hp0 HR
        clear hA hpos
        obtain ⟨g1, c1, rfl, _⟩ := own_pos hrow hp0
        obtain ⟨cu, hcu, hg1b⟩ := own_at hrow (g := g1) rfl
        have hg1 := lt_of_block hcu
        obtain ⟨na, hna⟩ : ∃ na, A.length = na := ⟨_, rfl⟩
        rw [hna] at hrow hle hp0
        have HNA : Hid (na = A.length) := hna.symm
        rw [hna]
        clear hna
        have hbw : Below w.heap.size w wr := hb1.trans (hnx.mono hb1.size)
        have HCC := concatI (wr.heap.size + 1) wr.heap.size g1 1 c1 na A ((wr.alloc (.cells #[.int .i64 127] 3)).alloc (.cells #[.slice (some ⟨wr.heap.size, 0, none⟩) 1 1, .slice (some ⟨g1, 0, none⟩) na c1] 40)) HNA.out hp0 (by omega) (newCell (by simp) rfl) (newCell (by simp) rfl) (by simp) (by simp; omega) (by simp; omega)
          (pastCell (by simp) (newCell rfl rfl)) (fun j hj => pastCell (by simp; omega) (pastCell hg1 ((hrow.cellAt j (by rw [HNA.out]; omega)).trans (by simp [iy, hj]))))
        have hws : w.heap.size ≤ wr.heap.size := hbw.size
        go_wp2_with fail
        refine HCC.mono ?_
        rintro e4 w4 ⟨v4, rfl, hown4, hb4⟩
        clear HCC
        have hfin : Below w.heap.size w w4 := below2 ((hbw.alloc hws _).alloc (by simp; omega) _) hb4
        have hown5 : w4.ownsRow w.heap.size 3 1 v4 (na + 1) (iy (127 :: A)) := own_base hown4 (by simp; omega)
        clear hown4 hb4 hrow hcu
        go_wp2
        go_ret
        exact ⟨_, rfl, by rw [← HR.out, List.length_cons, ← HNA.out]; exact hown5, hfin⟩

theorem implFlat (L : List Nd) (hG : goodT L = true) : ∀ (f p e : Nat), L.length - p ≤ f → isEnd L p e → FlatTold L f p e
  | 0, p, e, hf, he => by have h1 := he.1; have h2 := he.2.1; omega
  | f + 1, p, e, hf, he => by
    have hpl : p < L.length := by have h1 := he.1; have h2 := he.2.1; omega
    have ih := implFlat L hG f
    by_cases h14 : kdAt L p = 14
    · exact implFlat_rec L hG f p e he hf h14 ih
    · by_cases hv : kdAt L p = 15 ∨ kdAt L p = 17 ∨ kdAt L p = 18
      · exact implFlat_var L hG f p e he hf hv ih
      · exact implFlat_leaf L f p e he (good_kind hG hpl) ⟨h14, fun h => hv (Or.inl h), fun h => hv (Or.inr (Or.inl h)), fun h => hv (Or.inr (Or.inr h))⟩

end Go.Proofs.YthoenaoanikppaaDoor
