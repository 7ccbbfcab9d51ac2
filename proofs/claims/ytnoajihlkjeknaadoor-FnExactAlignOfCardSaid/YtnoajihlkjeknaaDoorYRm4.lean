/-
  Rooms of records: the specification's side.
-/
import Derived.Test.YtnoajihlkjeknaaDoorYRm3
namespace Go.Proofs.YtnoajihlkjeknaaDoor
open Go.ChangeShapes Go.WideShapes Go.ChangeAt Go.RowKit

def recF (L : List Nd) (f : Nat) (K : List Nat) : Nat × Nat := K.foldl (fun s c => recS s (rm L f c)) (0, 1)
theorem recF_succ (L : List Nd) (f : Nat) {K : List Nat} {m : Nat} (h : m < K.length) : recF L f (K.take (m + 1)) = recS (recF L f (K.take m)) (rm L f K[m]) := by unfold recF; exact fold_succ _ _ h
theorem recF_bound {L : List Nd} (hU : ups L) (f : Nat) {p e : Nat} (he : isEnd L p e) (m : Nat) : (recF L f ((kidsOf L p).take m)).1 ≤ 640 ∧ 1 ≤ (recF L f ((kidsOf L p).take m)).2 ∧ (recF L f ((kidsOf L p).take m)).2 ≤ 8 := by
  obtain ⟨h1, h2⟩ := rm_kids hU f he
  have h3 := recF_le (rm L f) ((kidsOf L p).take m) (0, 1) (by simp) (by simp) (fun c hc => (h1 c (List.mem_of_mem_take hc)).2)
  have h4 := sum_take_le (fun c => (rm L f c).1 + 8) (kidsOf L p) m
  unfold recF
  simp only at h3
  omega

set_option maxRecDepth 100000 in
set_option maxHeartbeats 6400000 in
theorem specRoom_rec (L : List Nd) (hG : goodT L = true) (f k e : Nat) (hke : isEnd L k e) (hkf : L.length - k ≤ f + 1) (hx : kdAt L k = 14) (ih : ∀ c, c < L.length → L.length - c ≤ f → RoomTold L f c) : RoomTold L (f + 1) k := by
  intro w lo hi sl htr hhi
  have hU := ups_good hG
  have hkl : k < L.length := by have h1 := hke.1; have h2 := hke.2.1; omega
  obtain ⟨G, cap, rfl, l1, l2, hE⟩ := htr.ents (good_kids hG hkl (Or.inr (Or.inl hx)))
  have hF : Hid (rm L (f + 1) k = recE (recF L f (kidsOf L k))) := by
    unfold Hid
    conv => lhs; unfold rm
    rw [if_pos hx]; rfl
  rw [hF.out]
  have HB : Hid (∀ m, (recF L f ((kidsOf L k).take m)).1 ≤ 640 ∧ 1 ≤ (recF L f ((kidsOf L k).take m)).2 ∧ (recF L f ((kidsOf L k).take m)).2 ≤ 8) := fun m => recF_bound hU f hke m
  have HKP : Hid (∀ i (h : i < (kidsOf L k).length), ((rm L f (kidsOf L k)[i]).1 ≤ 640 ∧ 1 ≤ (rm L f (kidsOf L k)[i]).2 ∧ (rm L f (kidsOf L k)[i]).2 ≤ 8) ∧ (kidsOf L k)[i] < L.length ∧ L.length - (kidsOf L k)[i] ≤ f) := fun i h => by
    have hm := kids_mem (List.getElem_mem h)
    exact ⟨(rm_kids hU f hke).1 _ (List.getElem_mem h), hm.2, by omega⟩
  have hKL : (kidsOf L k).length ≤ 40 := Nat.le_trans (kids_le L k) hU.2.1
  have IH : Hid (∀ c, c < L.length → L.length - c ≤ f → RoomTold L f c) := ih
  have HE : Hid (∀ j (h : j < (kidsOf L k).length), EntAt L lo hi f w G j (some (kidsOf L k)[j])) := hE
  obtain ⟨K, hK⟩ : ∃ K, kidsOf L k = K := ⟨_, rfl⟩
  rw [hK] at HE HB hKL HKP ⊢
  rw [hx]
  obtain ⟨y, hye⟩ : ∃ y, nAt L k = y := ⟨_, rfl⟩
  rw [hye]
  obtain ⟨⟨S1, S2⟩, hR⟩ : ∃ R, recE (recF L f K) = R := ⟨_, rfl⟩
  have HR : Hid (recE (recF L f K) = (S1, S2)) := hR
  rw [hR]
  simp only
  clear hye hE hF ih htr hK hx hR
  have hGl : G < w.heap.size := by omega
  have hwa := fun o => (Below.refl w.heap.size w).alloc (Nat.le_refl _) o
  go_enter Tryd.func31, Tryd.ntmps31
  go_wp2
  go_loopw [4, 5, 53] (fun v4 v5 i wr => ∃ m s a : Nat, m ≤ K.length ∧ v4 = .int .i64 (s : Int) ∧ v5 = .int .i64 (a : Int) ∧ i = .int .i64 (m : Int) ∧ Hid (recF L f (K.take m) = (s, a)) ∧ Below w.heap.size w wr) (fun _ _ i _ => K.length - (intOf i).toNat)
  case atStart => exact ⟨0, 0, 1, by omega, rfl, rfl, rfl, rfl, hwa _⟩
  case round =>
    obtain ⟨m, s, a, hm, rfl, rfl, rfl, HS, hnx⟩ := hrel
    have hsz := hnx.size
    have hb3 := HB.out m
    rw [HS.out] at hb3
    obtain ⟨b1, b2, b3⟩ := hb3
    simp only at b1 b2 b3
    by_cases hlt : m < K.length
    · obtain ⟨kx, ny, sa, sn, sc, d0, d1, d2, hent⟩ := ((HE.out m hlt).keep (hnx.block G hGl) (fun g _ hg => hnx.block g (by omega))).shape
      obtain ⟨c, e1, e2, e3, e4⟩ := hent.resolve_left (fun h => by have := h.1; simp at this)
      obtain ⟨q2, q3, q4⟩ := HKP.out m hlt
      have e1' : K[m] = c := by simpa using e1
      rw [e1'] at q2 q3 q4
      have HCC := fun o => IH.out c q3 q4 (wr.alloc o) lo hi (.slice sa sn sc) (e4.below ((Below.refl wr.heap.size wr).alloc (Nat.le_refl _) o) (by omega)) (by simp; omega)
      have HS2 := recF_succ L f hlt
      rw [e1', HS.out] at HS2
      rw [← e2, ← e3] at HCC
      obtain ⟨⟨n1, a1⟩, hD⟩ : ∃ D, rm L f c = D := ⟨_, rfl⟩
      rw [hD] at HCC HS2 q2
      simp only [recS] at HCC HS2 q2
      obtain ⟨q5, q6, q7⟩ := q2
      have HC : Hid (∀ o, Calls Tryd.prog 31 #[.agg #[.int .i64 kx, .int .i64 ny, .slice sa sn sc]] (wr.alloc o) fun r w' => r = .returned (.tuple #[.int .i64 (n1 : Int), .int .i64 (a1 : Int)]) ∧ Below (wr.alloc o).heap.size (wr.alloc o) w') := HCC
      have hul := up_le s a1
      have HU := specUp s a1 (by omega) q6 q7
      have hwn := fun o => hnx.alloc hsz o
      obtain ⟨u, hu⟩ : ∃ u, up s a1 = u := ⟨_, rfl⟩
      rw [hu] at HS2 hul HU
      have H2 : Hid (recF L f (K.take (m + 1)) = (u + n1, max a a1)) := HS2
      have hun : u ≤ 647 := by omega
      clear HCC hD hu hul e1 e2 e3 e4 q3 q4 hent e1' HS2
      by_cases hgt : a < a1
      · have hmx : max a a1 = a1 := by omega
        rw [hmx] at H2
        clear hmx
        go_wp2_with fail
        refine (HC.out _).mono ?_
        rintro r2 w2 ⟨rfl, hb2⟩
        clear HC
        have hnx2 : Below w.heap.size w w2 := below2 (hwn _) hb2
        clear hb2 hwn
        go_wp2_with (go_at_call 54; refine (HU _).mono ?_; rintro e w1 ⟨rfl, hw⟩; obtain rfl := hw.symm)
        go_roundw
        case rel => exact ⟨m + 1, u + n1, a1, by omega, by go_num, rfl, by go_num, H2, hnx2⟩
        case measure => simp [intOf]; omega
      · have hmx : max a a1 = a := by omega
        rw [hmx] at H2
        clear hmx
        go_wp2_with fail
        refine (HC.out _).mono ?_
        rintro r2 w2 ⟨rfl, hb2⟩
        clear HC
        have hnx2 : Below w.heap.size w w2 := below2 (hwn _) hb2
        clear hb2 hwn
        go_wp2_with (go_at_call 54; refine (HU _).mono ?_; rintro e w1 ⟨rfl, hw⟩; obtain rfl := hw.symm)
        go_roundw
        case rel => exact ⟨m + 1, u + n1, a, by omega, by go_num, rfl, by go_num, H2, hnx2⟩
        case measure => simp [intOf]; omega
    · obtain rfl : m = K.length := by omega
      rw [List.take_length] at HS
      have HU := specUp s a (by omega) b2 b3
      have hr := HR.out
      rw [HS.out] at hr
      simp only [recE, Prod.mk.injEq] at hr
      obtain ⟨hr1, rfl⟩ := hr
      rw [hr1] at HU
      clear hr1
      go_wp2_with (go_at_call 54; refine (HU _).mono ?_; rintro e w1 ⟨rfl, hw⟩; obtain rfl := hw.symm)
      refine bodyPost_ret ?_ rfl ⟨rfl, hnx⟩
      simp [results, Tryd.results31, go_sem]

end Go.Proofs.YtnoajihlkjeknaaDoor
