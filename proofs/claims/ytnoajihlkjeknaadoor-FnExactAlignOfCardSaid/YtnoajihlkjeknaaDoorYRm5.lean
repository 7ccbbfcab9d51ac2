/-
  Rooms of what has a number ahead: the specification's side.
-/
import Derived.Test.YtnoajihlkjeknaaDoorYRm4
namespace Go.Proofs.YtnoajihlkjeknaaDoor
open Go.ChangeShapes Go.WideShapes Go.ChangeAt Go.RowKit

def rcase (L : List Nd) (f : Nat) : Option Nat → Nat × Nat
  | none => (0, 1)
  | some c => rm L f c
def varC (L : List Nd) (f : Nat) (cs : List (Option Nat)) : Nat × Nat := cs.foldl (fun s o => varS s (rcase L f o)) (0, 1)
def varF (L : List Nd) (f : Nat) (K : List Nat) : Nat × Nat := K.foldl (fun s c => varS s (rm L f c)) (0, 1)
theorem varC_succ (L : List Nd) (f : Nat) {cs : List (Option Nat)} {m : Nat} (h : m < cs.length) : varC L f (cs.take (m + 1)) = varS (varC L f (cs.take m)) (rcase L f cs[m]) := by unfold varC; exact fold_succ _ _ h
theorem varF_succ (L : List Nd) (f : Nat) {K : List Nat} {m : Nat} (h : m < K.length) : varF L f (K.take (m + 1)) = varS (varF L f (K.take m)) (rm L f K[m]) := by unfold varF; exact fold_succ _ _ h
theorem varC_map (L : List Nd) (f : Nat) : ∀ (K : List Nat) (s : Nat × Nat), (K.map some).foldl (fun s o => varS s (rcase L f o)) s = K.foldl (fun s c => varS s (rm L f c)) s
  | [], _ => rfl
  | _ :: r, _ => varC_map L f r _
theorem varC_cases (L : List Nd) (f k : Nat) : varC L f (casesOf L k) = varF L f (kidsOf L k) := by
  unfold varC varF casesOf
  split
  · show (List.map some (kidsOf L k)).foldl _ (varS (0, 1) (0, 1)) = _
    rw [varC_map]; rfl
  · rw [varC_map]
theorem cases_le (L : List Nd) (k : Nat) : (casesOf L k).length ≤ (kidsOf L k).length + 1 := by unfold casesOf; split <;> simp
theorem cases_kid {L : List Nd} {k c : Nat} (h : some c ∈ casesOf L k) : c ∈ kidsOf L k := by
  unfold casesOf at h
  split at h <;> simpa using h
theorem rcase_bound {L : List Nd} (hU : ups L) (f : Nat) {p e : Nat} (he : isEnd L p e) : ∀ o ∈ casesOf L p, (rcase L f o).1 ≤ 640 ∧ 1 ≤ (rcase L f o).2 ∧ (rcase L f o).2 ≤ 8 := fun o ho => by
  cases o with
  | none => simp [rcase]
  | some c => exact (rm_kids hU f he).1 c (cases_kid ho)

set_option maxRecDepth 100000 in
set_option maxHeartbeats 12800000 in
theorem specRoom_var (L : List Nd) (hG : goodT L = true) (f k e : Nat) (hke : isEnd L k e) (hkf : L.length - k ≤ f + 1) (hx : kdAt L k = 15 ∨ kdAt L k = 17 ∨ kdAt L k = 18) (h1 : kdAt L k = 17 → (kidsOf L k).length = 1) (ih : ∀ c, c < L.length → L.length - c ≤ f → RoomTold L f c) : RoomTold L (f + 1) k := by
  intro w lo hi sl htr hhi
  have hU := ups_good hG
  have hkl : k < L.length := by have h1 := hke.1; have h2 := hke.2.1; omega
  have hK0 := good_kids hG hkl (show kdAt L k = 13 ∨ kdAt L k = 14 ∨ kdAt L k = 15 ∨ kdAt L k = 17 ∨ kdAt L k = 18 by omega)
  have hF : Hid (rm L (f + 1) k = varE (varC L f (casesOf L k))) := by
    unfold Hid
    rw [varC_cases]
    conv => lhs; unfold rm
    rw [if_neg (by omega), if_pos hx]; rfl
  have hgc := rcase_bound hU f hke
  have HGC : Hid (∀ i (h : i < (casesOf L k).length), ((rcase L f (casesOf L k)[i]).1 ≤ 640 ∧ 1 ≤ (rcase L f (casesOf L k)[i]).2 ∧ (rcase L f (casesOf L k)[i]).2 ≤ 8) ∧ ∀ c, (casesOf L k)[i] = some c → c < L.length ∧ L.length - c ≤ f) := fun i h => by
    refine ⟨hgc _ (List.getElem_mem h), fun c hc => ?_⟩
    have hm := kids_mem (cases_kid (show some c ∈ casesOf L k by rw [← hc]; exact List.getElem_mem h))
    omega
  have HAC : Hid (∀ m, (varC L f ((casesOf L k).take m)).1 ≤ 640 ∧ 1 ≤ (varC L f ((casesOf L k).take m)).2 ∧ (varC L f ((casesOf L k).take m)).2 ≤ 8) := fun m => varF_le (rcase L f) 640 _ (0, 1) (by simp) (by simp) (by simp) (fun o ho => hgc o (List.mem_of_mem_take ho))
  have hCL : (casesOf L k).length ≤ 41 := by have := cases_le L k; have := Nat.le_trans (kids_le L k) hU.2.1; omega
  have IH : Hid (∀ c, c < L.length → L.length - c ≤ f → RoomTold L f c) := ih
  rw [hF.out]
  have HCS := fun o1 => specCases L f k (w.alloc o1) lo hi sl (htr.below ((Below.refl w.heap.size w).alloc (Nat.le_refl _) o1) hhi) (by simp; omega) hK0 h1
  obtain ⟨sa0, sc0, rfl, _⟩ := htr
  obtain ⟨⟨S1, S2⟩, hR⟩ : ∃ R, varE (varC L f (casesOf L k)) = R := ⟨_, rfl⟩
  have HR : Hid (varE (varC L f (casesOf L k)) = (S1, S2)) := hR
  rw [hR]
  simp only
  obtain ⟨cs, hcs⟩ : ∃ cs, casesOf L k = cs := ⟨_, rfl⟩
  obtain ⟨kn, hkn⟩ : ∃ kn, (kidsOf L k).length = kn := ⟨_, rfl⟩
  rw [hcs] at HR HAC HGC HCS hCL
  rw [hkn] at HCS ⊢
  obtain ⟨x, hxe⟩ : ∃ x, kdAt L k = x := ⟨_, rfl⟩
  obtain ⟨y, hye⟩ : ∃ y, nAt L k = y := ⟨_, rfl⟩
  rw [hxe] at hx HCS ⊢
  rw [hye] at HCS ⊢
  have HC0 : Hid (∀ o1, Calls Tryd.prog 55 #[.agg #[.int .i64 x, .int .i64 y, .slice sa0 kn sc0]] (w.alloc o1) fun e w' => ∃ G cap, e = .returned (.slice (some ⟨G, 0, none⟩) cs.length cap) ∧ (G < hi ∨ (w.alloc o1).heap.size ≤ G) ∧ G < w'.heap.size ∧ (∀ j (h : j < cs.length), EntAt L lo hi f w' G j cs[j]) ∧ Below (w.alloc o1).heap.size (w.alloc o1) w') := HCS
  clear HCS hcs hkn hR hF hgc ih hxe hye h1 hK0
  have hwa := fun o1 => (Below.refl w.heap.size w).alloc (Nat.le_refl _) o1
  rcases hx with rfl | rfl | rfl
  all_goals
    go_enter Tryd.func31, Tryd.ntmps31
    go_wp2_with fail
    refine (HC0.out _).mono ?_
    rintro r1 w2 ⟨G, gcap, rfl, hG1, hG2, hE, hb2⟩
    clear HC0
    have hbw2 : Below w.heap.size w w2 := below2 (hwa _) hb2
    have HE : Hid (∀ j (h : j < cs.length), EntAt L lo hi f w2 G j cs[j]) := hE
    have hs2 := hbw2.size
    clear hE hG1 hb2 hwa
    go_wp2
    go_loopw [10, 11, 83] (fun v4 v5 i wr => ∃ m s a : Nat, m ≤ cs.length ∧ v4 = .int .i64 (s : Int) ∧ v5 = .int .i64 (a : Int) ∧ i = .int .i64 (m : Int) ∧ Hid (varC L f (cs.take m) = (s, a)) ∧ Below w2.heap.size w2 wr) (fun _ _ i _ => cs.length - (intOf i).toNat)
    case atStart => exact ⟨0, 0, 1, by omega, rfl, rfl, rfl, rfl, Below.refl _ _⟩
    case round =>
      obtain ⟨m, s, a, hm, rfl, rfl, rfl, HS, hnx⟩ := hrel
      have hsz := hnx.size
      have hb3 := HAC.out m
      rw [HS.out] at hb3
      obtain ⟨b1, b2, b3⟩ := hb3
      simp only at b1 b2 b3
      by_cases hlt : m < cs.length
      · obtain ⟨kx, ny, sa, sn, sc, d0, d1, d2, hent⟩ := ((HE.out m hlt).keep (hnx.block G hG2) (fun g _ hg => hnx.block g (by omega))).shape
        obtain ⟨q1, q2⟩ := HGC.out m hlt
        have HCC : Hid (∀ o, Calls Tryd.prog 31 #[.agg #[.int .i64 kx, .int .i64 ny, .slice sa sn sc]] (wr.alloc o) fun r w' => r = .returned (.tuple #[.int .i64 ((rcase L f cs[m]).1 : Int), .int .i64 ((rcase L f cs[m]).2 : Int)]) ∧ Below (wr.alloc o).heap.size (wr.alloc o) w') := fun o => by
          rcases hent with ⟨e1, e2, e3, e4⟩ | ⟨c, e1, e2, e3, e4⟩
          · rw [e1, e2, e3, e4]
            exact specRoom_none _
          · rw [e1, e2, e3]
            obtain ⟨r1, r2⟩ := q2 c e1
            exact IH.out c r1 r2 (wr.alloc o) lo hi (.slice sa sn sc) (e4.below ((Below.refl wr.heap.size wr).alloc (Nat.le_refl _) o) (by omega)) (by simp; omega)
        have HS2 := varC_succ L f hlt
        rw [HS.out] at HS2
        obtain ⟨⟨n1, a1⟩, hD⟩ : ∃ D, rcase L f cs[m] = D := ⟨_, rfl⟩
        rw [hD] at HCC HS2 q1
        simp only [varS] at HCC HS2 q1
        obtain ⟨q5, q6, q7⟩ := q1
        have H2 : Hid (varC L f (cs.take (m + 1)) = (max s n1, max a a1)) := HS2
        have hwn := fun o => hnx.alloc hsz o
        clear hD q2 hent HS2
        by_cases hg1 : s < n1
        · have hm1 : max s n1 = n1 := by omega
          rw [hm1] at H2
          clear hm1
          by_cases hgt : a < a1
          · have hmx : max a a1 = a1 := by omega
            rw [hmx] at H2
            clear hmx
            go_wp2_with fail
            refine (HCC.out _).mono ?_
            rintro r2 w3 ⟨rfl, hb2⟩
            clear HCC
            have hnx2 : Below w2.heap.size w2 w3 := below2 (hwn _) hb2
            clear hb2 hwn
            go_wp2
            go_roundw
            case rel => exact ⟨m + 1, n1, a1, by omega, rfl, rfl, by go_num, H2, hnx2⟩
            case measure => simp [intOf]; omega
          · have hmx : max a a1 = a := by omega
            rw [hmx] at H2
            clear hmx
            go_wp2_with fail
            refine (HCC.out _).mono ?_
            rintro r2 w3 ⟨rfl, hb2⟩
            clear HCC
            have hnx2 : Below w2.heap.size w2 w3 := below2 (hwn _) hb2
            clear hb2 hwn
            go_wp2
            go_roundw
            case rel => exact ⟨m + 1, n1, a, by omega, rfl, rfl, by go_num, H2, hnx2⟩
            case measure => simp [intOf]; omega
        · have hm1 : max s n1 = s := by omega
          rw [hm1] at H2
          clear hm1
          by_cases hgt : a < a1
          · have hmx : max a a1 = a1 := by omega
            rw [hmx] at H2
            clear hmx
            go_wp2_with fail
            refine (HCC.out _).mono ?_
            rintro r2 w3 ⟨rfl, hb2⟩
            clear HCC
            have hnx2 : Below w2.heap.size w2 w3 := below2 (hwn _) hb2
            clear hb2 hwn
            go_wp2
            go_roundw
            case rel => exact ⟨m + 1, s, a1, by omega, rfl, rfl, by go_num, H2, hnx2⟩
            case measure => simp [intOf]; omega
          · have hmx : max a a1 = a := by omega
            rw [hmx] at H2
            clear hmx
            go_wp2_with fail
            refine (HCC.out _).mono ?_
            rintro r2 w3 ⟨rfl, hb2⟩
            clear HCC
            have hnx2 : Below w2.heap.size w2 w3 := below2 (hwn _) hb2
            clear hb2 hwn
            go_wp2
            go_roundw
            case rel => exact ⟨m + 1, s, a, by omega, rfl, rfl, by go_num, H2, hnx2⟩
            case measure => simp [intOf]; omega
      · obtain rfl : m = cs.length := by omega
        rw [List.take_length] at HS
        have HU1 : Hid (∀ X : Int, X = 1 → ∀ w, Calls Tryd.prog 54 #[.int .i64 X, .int .i64 (a : Int)] w fun e w' => e = .returned (.int .i64 ((up 1 a : Nat) : Int)) ∧ w' = w) := fun X hX w => by subst hX; exact specUp 1 a (by omega) b2 b3 w
        have hul := up_le 1 a
        have hr := HR.out
        rw [HS.out] at hr
        simp only [varE, Prod.mk.injEq] at hr
        obtain ⟨hr1, rfl⟩ := hr
        obtain ⟨u, hu⟩ : ∃ u, up 1 a = u := ⟨_, rfl⟩
        rw [hu] at HU1 hul hr1
        have HU2 : Hid (∀ X : Int, X = ((u + s : Nat) : Int) → ∀ w, Calls Tryd.prog 54 #[.int .i64 X, .int .i64 (a : Int)] w fun e w' => e = .returned (.int .i64 ((S1 : Nat) : Int)) ∧ w' = w) := fun X hX w => by subst hX; have := specUp (u + s) a (by omega) b2 b3 w; rw [hr1] at this; exact this
        have hu9 : u ≤ 9 := by omega
        have hnw := below2 hbw2 hnx
        clear hr1 hu hul
        go_wp2_with fail
        refine (HU1.out _ (by go_num) _).mono ?_
        rintro e w1 ⟨rfl, hw⟩
        obtain rfl := hw.symm
        go_wp2_with fail
        refine (HU2.out _ (by go_num) _).mono ?_
        rintro e w1 ⟨rfl, hw⟩
        obtain rfl := hw.symm
        go_wp2
        refine bodyPost_ret ?_ rfl ⟨rfl, hnw⟩
        simp [results, Tryd.results31, go_sem]

end Go.Proofs.YtnoajihlkjeknaaDoor
