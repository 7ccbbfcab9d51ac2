/-
  The core types of a type with parts: the specification's side.
-/
import Derived.Test.YthoenaoanikppaaDoorYFl6
import Derived.Test.YthoenaoanikppaaDoorYFl5
namespace Go.Proofs.YthoenaoanikppaaDoor
open Go.ChangeShapes Go.WideShapes Go.ChangeAt Go.RowKit

set_option maxRecDepth 100000 in
set_option maxHeartbeats 6400000 in
theorem specCore_rec (L : List Nd) (hG : goodT L = true) (f k e : Nat) (hke : isEnd L k e) (hkf : L.length - k ≤ f + 1) (hx : kdAt L k = 14) (ih : ∀ c, c < L.length → L.length - c ≤ f → CoreTold L f c) : CoreTold L (f + 1) k := by
  intro w lo hi sl htr hhi
  have hU := ups_good hG
  have hkl : k < L.length := by have h1 := hke.1; have h2 := hke.2.1; omega
  obtain ⟨i0, hi0, hz0, hz1, hz2⟩ := info_parts Tryd.infoY
  obtain ⟨G, cap, rfl, l1, l2, hE⟩ := htr.ents (good_kids hG hkl (Or.inr (Or.inl hx)))
  have hF : Hid (flat L (f + 1) k = (kidsOf L k).flatMap (flat L f)) := by
    unfold Hid
    conv => lhs; unfold flat
    rw [if_neg (by omega), if_neg (by omega), if_neg (by omega), if_pos hx]
  have hFl := flat_len hU (f + 1) k e hke
  rw [hF.out] at hFl ⊢
  have h80 : ((kidsOf L k).flatMap (flat L f)).length ≤ 80 := by have h3 := hke.2.1; have h4 := hU.2.1; omega
  have HKP : Hid (∀ i (h : i < (kidsOf L k).length), flat L f (kidsOf L k)[i] ≠ [] ∧ (kidsOf L k)[i] < L.length ∧ L.length - (kidsOf L k)[i] ≤ f) := fun i h => by
    have hm := kids_mem (List.getElem_mem h)
    exact ⟨flat_pos hG f _ hm.2 (by omega), hm.2, by omega⟩
  have hKL : (kidsOf L k).length ≤ 40 := Nat.le_trans (kids_le L k) hU.2.1
  have IH : Hid (∀ c, c < L.length → L.length - c ≤ f → CoreTold L f c) := ih
  have HE : Hid (∀ j (h : j < (kidsOf L k).length), EntAt L lo hi f w G j (some (kidsOf L k)[j])) := hE
  obtain ⟨R, hR⟩ : ∃ R, (kidsOf L k).flatMap (flat L f) = R := ⟨_, rfl⟩
  have HR : Hid ((kidsOf L k).flatMap (flat L f) = R) := hR
  rw [hR]
  obtain ⟨K, hK⟩ : ∃ K, kidsOf L k = K := ⟨_, rfl⟩
  rw [hK] at HE HR h80 hKL HKP
  rw [hK, hx]
  obtain ⟨y, hye⟩ : ∃ y, nAt L k = y := ⟨_, rfl⟩
  rw [hye]
  clear hye hR hE hF hFl ih htr hK hx
  have hGl : G < w.heap.size := by omega
  have hwa := fun o => (Below.refl w.heap.size w).alloc (Nat.le_refl _) o
  go_enter Tryd.func19, Tryd.ntmps19
  go_wp2
  go_loopw [3, 31] (fun v i wr => ∃ m : Nat, m ≤ K.length ∧ i = .int .i64 (m : Int) ∧ wr.ownsRow w.heap.size 3 1 v ((K.take m).flatMap (flat L f)).length (iy ((K.take m).flatMap (flat L f))) ∧ Below w.heap.size w wr) (fun _ i _ => K.length - (intOf i).toNat)
  case atStart => exact ⟨0, by omega, rfl, World.ownsRow_nil _ _ _ _, hwa _⟩
  case round =>
    obtain ⟨m, hm, rfl, hrow, hnx⟩ := hrel
    have hsz := hnx.size
    by_cases hlt : m < K.length
    · obtain ⟨kx, ny, sa, sn, sc, d0, d1, d2, hent⟩ := ((HE.out m hlt).keep (hnx.block G hGl) (fun g _ hg => hnx.block g (by omega))).shape
      obtain ⟨c, e1, e2, e3, e4⟩ := hent.resolve_left (fun h => by have := h.1; simp at this)
      obtain ⟨q2, q3, q4⟩ := HKP.out m hlt
      have e1' : K[m] = c := by simpa using e1
      rw [e1'] at q2 q3 q4
      have HCC := fun o => IH.out c q3 q4 (wr.alloc o) lo hi (.slice sa sn sc) (e4.below ((Below.refl wr.heap.size wr).alloc (Nat.le_refl _) o) (by omega)) (by simp; omega)
      have HS : Hid ((K.take (m + 1)).flatMap (flat L f) = (K.take m).flatMap (flat L f) ++ flat L f c) := by unfold Hid; rw [← e1']; exact take_flat_succ _ hlt
      have hle := take_flat_le (flat L f) K (m + 1)
      rw [HS.out, List.length_append] at hle
      rw [← e2, ← e3] at HCC
      obtain ⟨D, hD⟩ : ∃ D, flat L f c = D := ⟨_, rfl⟩
      rw [hD] at HCC HS hle q2
      obtain ⟨A, hA⟩ : ∃ A, (K.take m).flatMap (flat L f) = A := ⟨_, rfl⟩
      rw [hA] at hrow HS hle
      have hD0 : 0 < D.length := List.length_pos_iff.2 q2
      have h80' : A.length + D.length ≤ 80 := by omega
      have HC : Hid (∀ o, Calls Tryd.prog 19 #[.agg #[.int .i64 kx, .int .i64 ny, .slice sa sn sc]] (wr.alloc o) fun r w' => ∃ v, r = .returned v ∧ w'.ownsRow (wr.alloc o).heap.size 3 1 v D.length (iy D) ∧ Below (wr.alloc o).heap.size (wr.alloc o) w') := HCC
      have hwn := fun o => hnx.alloc hsz o
      clear HCC hD hA e1 e2 e3 e4 q2 q3 q4 hle hent e1'
      go_wp2_with fail
      refine (HC.out _).mono ?_
      rintro r2 w2 ⟨v2, rfl, hown2, hb2⟩
      clear HC
      obtain ⟨gb, bc, rfl, _⟩ := own_pos hown2 hD0
      have hbb2 : Below wr.heap.size wr w2 := below2 ((Below.refl wr.heap.size wr).alloc (Nat.le_refl _) _) hb2
      have hrow2 : w2.ownsRow w.heap.size 3 1 _ A.length (iy A) := own_keep hrow fun k hk => by
        obtain ⟨cu, hcu, _⟩ := own_at hrow hk
        exact hbb2.block k (lt_of_block hcu)
      have hnx2 : Below w.heap.size w w2 := below2 hnx hbb2
      have hnews : ∀ j u, (iy D)[j]? = some u → w2.cell? ((⟨gb, 0, none⟩ : Addr).add j) = some u := fun j u hu => by
        rw [Addr.add_lit, Nat.zero_add]
        have hj : j < D.length := by
          rcases Nat.lt_or_ge j (iy D).length with h | h
          · rw [iy_len] at h; exact h
          · rw [List.getElem?_eq_none h] at hu; simp at hu
        exact (hown2.cellAt j (by omega)).trans hu
      have hsz2 := hnx2.size
      go_wp2_with (at_builtin; refine wpList_append_own _ rfl _ _ 40 rfl w.heap.size 3 i0 (.int .i64 0) 1 8 Tryd.underlying40 hi0 hz0 hz1 hz2 rfl (by decide) _ _ _ rfl hrow2 ⟨gb, 0, none⟩ D.length _ (iy D) rfl (by rw [iy_len]; omega) hnews (iy_one _) (by unfold maxLen; omega) (by omega) (by omega) ?_)
      intro v' w3 hown' hgrow' _
      rw [iy_app, ← HS.out] at hown'
      have hl3 : A.length + D.length = ((K.take (m + 1)).flatMap (flat L f)).length := by rw [HS.out, List.length_append]
      rw [hl3] at hown'
      have hb3 : Below w.heap.size w w3 := hnx2.grown hgrow' (by omega) (ownsRow_block hrow2)
      clear hgrow' hl3 hrow hrow2 hown2 hb2
      go_wp2
      go_roundw
      case rel => exact ⟨m + 1, by omega, by go_num, hown', hb3⟩
      case measure => simp [intOf]; omega
    · obtain rfl : m = K.length := by omega
      rw [List.take_length] at hrow
      obtain ⟨va, vc, rfl⟩ := ownsRow_shape hrow
      go_wp2
      go_ret
      exact ⟨_, rfl, by rw [← HR.out]; exact hrow, hnx⟩

end Go.Proofs.YthoenaoanikppaaDoor
