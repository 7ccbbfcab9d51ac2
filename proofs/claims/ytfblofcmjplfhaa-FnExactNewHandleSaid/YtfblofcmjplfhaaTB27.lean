/-
  The law on a new handle: the frame over both contracts. (Made by a generator.)
-/
import Derived.Test.YtfblofcmjplfhaaTB26
import Derived.Deep.CutRange
import Derived.Deep.DeepCutAuto
namespace Go.Proofs.Ytfblofcmjplfhaa
open Go.ChangeShapes Go.WideShapes Go.ChangeAt Go.RowKit

/-- What is told lies behind a block that was laid at any time. -/
structure OutAt (W : World) (lo : Nat) (w' : World) (s : Value) (S1 : List Hd) (F1 : List Int) : Prop where
  out : ∃ y v u, s = .pointer (some ⟨y, 0, none⟩) ∧ lo ≤ y ∧ w'.heap[y]? = some (.cells #[v, u] 30 (0, 0)) ∧ TabO lo w' v u S1 F1
  bel : Below W.heap.size W w'
theorem own_other {w : World} {B g : Nat} {v u : Value} {S : List Hd} {F : List Int} {cs : Array Value} {t : TypeId} (h : TabO B w v u S F) (hb : w.heap[g]? = some (.cells cs t (0, 0))) (h1 : t ≠ 38) (h2 : t ≠ 3) : v.ownBlock ≠ some g ∧ u.ownBlock ≠ some g := by
  refine ⟨fun e => ?_, fun e => ?_⟩
  · obtain ⟨cur, hc, _⟩ := own_at h.hds e
    rw [hb] at hc
    simp at hc
    exact h1 (by first | exact hc.2 | exact hc.2.1)
  · obtain ⟨cur, hc, _⟩ := own_at h.ints e
    rw [hb] at hc
    simp at hc
    exact h2 (by first | exact hc.2 | exact hc.2.1)
theorem tab_other {w w' : World} {B B' : Nat} {v u v' u' : Value} {S S' : List Hd} {F F' : List Int} (h : TabO B w v u S F) (_k : TabO B' w v' u' S' F') (hl : ∀ g, v.ownBlock = some g ∨ u.ownBlock = some g → ¬ (v'.ownBlock = some g ∨ u'.ownBlock = some g)) (hs : ∀ g, g < w.heap.size → v'.ownBlock ≠ some g → u'.ownBlock ≠ some g → w'.heap[g]? = w.heap[g]?) : TabO B w' v u S F :=
  ⟨own_keep h.hds (fun g hg => by obtain ⟨cur, hc, _⟩ := own_at h.hds hg; have := hl g (.inl hg); exact hs g (lt_of_block hc) (fun e => this (.inl e)) (fun e => this (.inr e))),
   own_keep h.ints (fun g hg => by obtain ⟨cur, hc, _⟩ := own_at h.ints hg; have := hl g (.inr hg); exact hs g (lt_of_block hc) (fun e => this (.inl e)) (fun e => this (.inr e)))⟩

set_option maxRecDepth 100000 in
set_option maxHeartbeats 1600000 in
theorem markTabO (B : Nat) (v u : Value) (S : List Hd) (F : List Int) (w : World) (hT : Hid (TabO B w v u S F)) (lS : S.length ≤ 1048576) (lF : F.length ≤ 1048576) (hB : Hid (B ≤ w.heap.size)) :
    Calls Try.prog 17 #[.agg #[v, u], .int .i64 1] w fun e w' => e = .returned (.int .i64 (1 + 6 * (S.length : Int) + (F.length : Int))) ∧ Hid (Marked B w' v u S.length F.length) ∧ Hid (Below B w w') ∧ Hid (∀ g, g < w.heap.size → v.ownBlock ≠ some g → u.ownBlock ≠ some g → w'.heap[g]? = w.heap[g]?) := by
  obtain ⟨W, hW⟩ : ∃ W, w.alloc (.cells #[v, u] 30) = W := ⟨_, rfl⟩
  obtain ⟨z, hz⟩ : ∃ z, w.heap.size = z := ⟨_, rfl⟩
  have hb0 : Below w.heap.size w W := by rw [← hW]; exact bel_alloc (Below.refl _ _) _
  have hx0 : W.heap[z]? = some (.cells #[v, u] 30 (0, 0)) := by rw [← hW, ← hz]; exact heap_alloc_new _ _
  have hTW := hT.out.below hb0
  have M1 := markHds B v S W hTW.hds lS
  obtain ⟨n, hn⟩ : ∃ n, S.length = n := ⟨_, rfl⟩
  obtain ⟨m, hm⟩ : ∃ m, F.length = m := ⟨_, rfl⟩
  obtain ⟨a, c, b, d, rfl, rfl, _, _⟩ := hT.out.shape
  have HT : Hid (TabO B W (.slice a S.length c) (.slice b F.length d) S F) := hTW
  have HB0 : Hid (Below w.heap.size w W ∧ w.heap.size = z ∧ W.heap.size = z + 1) := ⟨hb0, hz, by rw [← hW, ← hz]; simp⟩
  have HN : Hid (S.length = n ∧ F.length = m) := ⟨hn, hm⟩
  rw [hn] at M1 hx0 hW lS HT ⊢
  rw [hm] at hx0 hW lF HT ⊢
  have p0 : W.cell? ⟨z, 0, none⟩ = some (.slice a n c) := (cell_of_block hx0 0).trans rfl
  clear hb0 hT hTW hn hm
  go_enter Try.func17, Try.ntmps17
  go_wp2_with fail
  clear hW hz p0
  refine M1.mono ?_
  rintro e w1 ⟨rfl, ho1, hg1, hs1⟩
  have hzb : some z ≠ (Value.slice a n c).ownBlock := fun e => by
    obtain ⟨cur, hc, _⟩ := own_at ho1.out e.symm
    have h2 := own_at HT.out.hds e.symm
    obtain ⟨cur2, hc2, _⟩ := h2
    rw [hx0] at hc2
    simp at hc2
  have hx1 := (hg1.out.block z (lt_of_block hx0) hzb).trans hx0
  have p1 : w1.cell? ⟨z, 1, none⟩ = some (.slice b m d) := (cell_of_block hx1 1).trans rfl
  have ho2 : w1.ownsRow B 3 1 (.slice b m d) F.length (iv F) := own_keep HT.out.ints (fun g hg => by
    obtain ⟨cur, hc, _⟩ := own_at HT.out.ints hg
    refine hg1.out.block g (lt_of_block hc) (fun e => ?_)
    obtain ⟨cur2, hc2, _⟩ := own_at HT.out.hds e.symm
    rw [hc] at hc2
    simp at hc2)
  have M2 := markIntsK B (.slice b m d) F (1 + 6 * (n : Int)) w1 ho2 (by rw [HN.out.2]; exact lF) (by omega) (by omega)
  rw [HN.out.2] at M2
  have HO1 : Hid (w1.ownsRow B 38 6 (.slice a n c) n (hv (marksH n))) := ho1
  have HG1 : Hid (W.grownBy w1 (Value.slice a n c).ownBlock ∧ w1.heap.size = W.heap.size) := ⟨hg1.out, hs1⟩
  clear ho1 hg1 hs1 hx0 hx1 M1 hzb ho2
  obtain ⟨q, hq⟩ : ∃ q : Int, 1 + 6 * (n : Int) = q := ⟨_, rfl⟩
  rw [hq] at M2 ⊢
  have HQ : Hid (1 + 6 * (n : Int) = q) := hq
  clear hq
  go_wp2_with fail
  refine M2.mono ?_
  rintro e w2 ⟨rfl, ho2, hg2, hs2⟩
  have HO2 : Hid (w2.ownsRow B 3 1 (.slice b m d) m (iv (marksK q m))) := ho2
  have HG2 : Hid (w1.grownBy w2 (Value.slice b m d).ownBlock ∧ w2.heap.size = w1.heap.size) := ⟨hg2.out, hs2⟩
  clear ho2 hg2 hs2 M2 p1
  go_wp2
  go_ret
  have hBW : Below B w W := HB0.out.1.mono hB.out
  have hsz := HB0.out.2.1
  have hszW := HB0.out.2.2
  have hsz1 := HG1.out.2
  have hsz2 := HG2.out.2
  have hBz := hB.out
  have b1 : Below B W w1 := (Below.refl B W).grown HG1.out.1 (by omega) (fun k hk => by obtain ⟨_, _, h⟩ := own_at HO1.out hk; exact h)
  have b2 : Below B w1 w2 := (Below.refl B w1).grown HG2.out.1 (by omega) (fun k hk => by obtain ⟨_, _, h⟩ := own_at HO2.out hk; exact h)
  refine ⟨by rw [HQ.out]; rfl, ?_, hBW.trans (b1.trans b2), fun g h2 h3 h4 => ?_⟩
  · have hk := own_keep HO1.out (w' := w2) (fun g hg => by
      obtain ⟨cur, hc, _⟩ := own_at HO1.out hg
      refine HG2.out.1.block g (lt_of_block hc) (fun e => ?_)
      obtain ⟨cur2, hc2, _⟩ := own_at HT.out.ints e.symm
      obtain ⟨cur3, hc3, _⟩ := own_at HT.out.hds hg
      rw [hc3] at hc2
      simp at hc2)
    refine ⟨?_, ?_⟩
    · rw [marksH_len]; exact hk
    · rw [marksK_len, HQ.out]; exact HO2.out
  · exact (HG2.out.1.block g (by omega) (fun e => h4 e.symm)).trans ((HG1.out.1.block g (by omega) (fun e => h3 e.symm)).trans (HB0.out.1.block g h2))

set_option maxRecDepth 1000000 in
set_option maxHeartbeats 3200000 in
theorem tab_new (a : Option Addr) (c : Nat) (b : Option Addr) (d : Nat) (S : List Hd) (F : List Int) (q0 : Hd) (S1 : List Hd) (F1 : List Int) (C1 : Int) (C2 : Int) (w : World) (hI : IsTab w a b S F)
    (SP : Hid (∀ (w' : World) a b c d, S.length ≤ 1048576 → F.length ≤ 1048576 → Hds w' a S → Ints w' b F → F.length ≤ d → Calls Try.prog 14 #[tabV a S.length c b F.length d, hdV q0] w' fun e w'' => ∃ v u, e = .returned (.tuple #[.agg #[v, u], .int .i64 C1, .int .i64 C2]) ∧ Hid (TabO w'.heap.size w'' v u S1 F1) ∧ Below w'.heap.size w' w''))
    (IM : Hid (∀ (w' : World) a b c d, S.length ≤ 1048576 → F.length ≤ 1048576 → Hds w' a S → Ints w' b F → F.length ≤ d → Calls Try.prog 16 #[tabV a S.length c b F.length d, hdV q0] w' fun e w'' => ∃ v u, e = .returned (.tuple #[.agg #[v, u], .int .i64 C1, .int .i64 C2]) ∧ Hid (TabO w'.heap.size w'' v u S1 F1) ∧ Below w'.heap.size w' w''))
    (hl : Hid (S.length ≤ 1048576 → F.length ≤ 1048576 → S1.length ≤ 1048576 ∧ F1.length ≤ 1048576)) :
    Calls Try.prog 4 #[tabV a S.length c b F.length d, hdV q0] w fun e w' => e = .returned (.bool true) ∧ Below w.heap.size w w' := by
  have Z := szTab a b S.length c F.length d
  have HI : Hid (IsTab w a b S F) := hI
  have hlS := hI.lS
  have hlF := hI.lF
  obtain ⟨z, hz⟩ : ∃ z, w.heap.size = z := ⟨_, rfl⟩
  have TH0 := toHd1 q0
  unfold tabV at SP IM Z ⊢
  unfold hdV at SP IM TH0 ⊢
  obtain ⟨W0, hW0⟩ : ∃ W, ((w.alloc (.cells #[.slice a S.length c, .slice b F.length d] 25)).alloc (.cells #[.bool q0.u, .int .i64 q0.r, .int .i64 q0.p, .bool q0.o, .int .i64 q0.l, .int .i64 q0.s] 35)) = W := ⟨_, rfl⟩
  have hb0 : Below w.heap.size w W0 := by rw [← hW0]; exact (bel_alloc (bel_alloc (Below.refl _ _) _) _)
  have bz : W0.heap[z]? = some (.cells #[.slice a S.length c, .slice b F.length d] 25 (0, 0)) := by
    have h := heap_alloc_new w (.cells #[.slice a S.length c, .slice b F.length d] 25)
    have e : w.heap.size = z := by exact hz
    rw [e] at h
    rw [← hW0]
    exact (Below.heap_alloc _ _ _ (lt_of_block h)).trans h
  have bq0 : W0.heap[z + 1]? = some (.cells #[.bool q0.u, .int .i64 q0.r, .int .i64 q0.p, .bool q0.o, .int .i64 q0.l, .int .i64 q0.s] 35 (0, 0)) := by
    have h := heap_alloc_new (w.alloc (.cells #[.slice a S.length c, .slice b F.length d] 25)) (.cells #[.bool q0.u, .int .i64 q0.r, .int .i64 q0.p, .bool q0.o, .int .i64 q0.l, .int .i64 q0.s] 35)
    have e : (w.alloc (.cells #[.slice a S.length c, .slice b F.length d] 25)).heap.size = z + 1 := by simp [hz]
    rw [e] at h
    rw [← hW0]
    exact h
  have HB0 : Hid (Below w.heap.size w W0 ∧ w.heap.size = z) := ⟨hb0, hz⟩
  have HB : Hid (Below w.heap.size w W0) := hb0
  have Lz : Hid (z + 1 + 1 ≤ W0.heap.size) := by unfold Hid; rw [← hW0]; simp [hz]
  have SZ := Z W0 (by omega) (by omega)
  have pz0 : W0.cell? ⟨z, 0, none⟩ = some (.slice a S.length c) := (cell_of_block bz 0).trans rfl
  have pz1 : W0.cell? ⟨z, 1, none⟩ = some (.slice b F.length d) := (cell_of_block bz 1).trans rfl
  clear Z hb0 hlS hlF hI
  go_enter Try.func4, Try.ntmps4
  go_wp2_with fail
  clear hW0 hz pz0 pz1
  refine SZ.mono ?_
  rintro e w1 ⟨r, rfl, hr, hb1⟩
  replace bz := (hb1.block (z) (lt_of_block bz)).trans bz
  replace bq0 := (hb1.block (z + 1) (lt_of_block bq0)).trans bq0
  replace Lz : Hid (z + 1 + 1 ≤ w1.heap.size) := Nat.le_trans Lz.out hb1.size
  replace HB : Hid (Below w.heap.size w w1) := bel_step HB.out hb1
  clear hb1 SZ
  by_cases hr0 : r < 0
  · go_wp2
    go_ret
    exact ⟨rfl, HB.out⟩
  · obtain ⟨lS, lF⟩ := hr (by omega)
    have TT : Hid (∀ w', Below w.heap.size w w' → Calls Try.prog 11 #[.agg #[.slice a S.length c, .slice b F.length d]] w' fun e w'' => ∃ v u, e = .returned (.agg #[v, u]) ∧ Hid (TabO w'.heap.size w'' v u S F) ∧ Below w'.heap.size w' w'') := fun w' hb => toTab a b c d S F w' (HI.out.hds.below hb) (HI.out.ints.below hb) lS lF
    obtain ⟨lS1, lF1⟩ := hl.out lS lF
    clear hr
    have HLO : Hid (z + 1 + 1 ≤ w1.heap.size) := Lz.out
    go_upto_region 5 with fail
    go_cut [6, 7, 8] (fun sa sb sc wx => Hid (OutAt w1 (z + 1 + 1) wx sa S1 F1) ∧ sb = .int .i64 C1 ∧ sc = .int .i64 C2)
    case first =>
      go_wp2
      have KZ : ∀ w', Keeps w1 w' → w'.heap[z]? = some (.cells #[.slice a S.length c, .slice b F.length d] 25 (0, 0)) := fun w' h => (h.below.block z (lt_of_block bz)).trans bz
      have KQ : ∀ w', Keeps w1 w' → w'.heap[z + 1]? = some (.cells #[.bool q0.u, .int .i64 q0.r, .int .i64 q0.p, .bool q0.o, .int .i64 q0.l, .int .i64 q0.s] 35 (0, 0)) := fun w' h => (h.below.block (z + 1) (lt_of_block bq0)).trans bq0
      refine wh_begin (Keeps w1) (by kernel_rfl) ?_
      have hS : Keeps w1 w1.drew := Keeps.drew w1
      refine wh_take 0 (some 25) (.agg #[.slice a S.length c, .slice b F.length d]) rfl rfl (by kernel_rfl) (by kernel_rfl) (by kernel_rfl) (fun _ _ _ h => h) hS (by rfl) (fun w' hS => by have hq := KZ _ hS; have q0 : w'.cell? ⟨z, 0, none⟩ = some (.slice a S.length c) := (cell_of_block hq 0).trans rfl; have q1 : w'.cell? ⟨z, 1, none⟩ = some (.slice b F.length d) := (cell_of_block hq 1).trans rfl; clear hq; go_simp) ?_
      simp only [Act.put, List.setIfInBounds_toArray, List.set_cons_zero, List.set_cons_succ]
      refine wh_take 2 (some 27) (.agg #[.bool q0.u, .int .i64 q0.r, .int .i64 q0.p, .bool q0.o, .int .i64 q0.l, .int .i64 q0.s]) rfl rfl (by kernel_rfl) (by kernel_rfl) (by kernel_rfl) (fun _ _ _ h => h) hS (by rfl) (fun w' hS => by have hq := KQ _ hS; have j0 : w'.cell? ⟨z + 1, 0, none⟩ = some (.bool q0.u) := (cell_of_block hq 0).trans rfl; have j1 : w'.cell? ⟨z + 1, 1, none⟩ = some (.int .i64 q0.r) := (cell_of_block hq 1).trans rfl; have j2 : w'.cell? ⟨z + 1, 2, none⟩ = some (.int .i64 q0.p) := (cell_of_block hq 2).trans rfl; have j3 : w'.cell? ⟨z + 1, 3, none⟩ = some (.bool q0.o) := (cell_of_block hq 3).trans rfl; have j4 : w'.cell? ⟨z + 1, 4, none⟩ = some (.int .i64 q0.l) := (cell_of_block hq 4).trans rfl; have j5 : w'.cell? ⟨z + 1, 5, none⟩ = some (.int .i64 q0.s) := (cell_of_block hq 5).trans rfl; clear hq; go_simp) ?_
      simp only [Act.put, List.setIfInBounds_toArray, List.set_cons_zero, List.set_cons_succ]
      obtain ⟨W0, hW⟩ : ∃ G, w1.drew = G := ⟨_, rfl⟩
      rw [hW] at hS ⊢
      clear hW KZ KQ
      refine wh_two 1 9 (by kernel_rfl) ?_ ?_
      · refine wo_call (some 26) 11 #[.agg #[.slice a S.length c, .slice b F.length d]] rfl rfl (by rfl) (by kernel_rfl) ?_
        refine (TT.out W0 (bel_step HB.out hS.below)).mono ?_
        rintro e v1 ⟨v, u, rfl, Ti, hb⟩
        obtain ⟨ai, ci, ei, di, rfl, rfl, hsi, hii, hdi⟩ := Ti.out.shape2
        clear Ti
        replace hS := hS.step hb
        refine ⟨_, rfl, hS, ?_⟩
        simp only [Act.put, List.setIfInBounds_toArray, List.set_cons_zero, List.set_cons_succ]
        clear hb
        refine wh_two 3 9 (by kernel_rfl) ?_ ?_
        · refine wo_call (some 28) 15 #[.agg #[.bool q0.u, .int .i64 q0.r, .int .i64 q0.p, .bool q0.o, .int .i64 q0.l, .int .i64 q0.s]] rfl rfl (by rfl) (by kernel_rfl) ?_
          refine (TH0 v1).mono ?_
          rintro e v2 ⟨rfl, hb⟩
          replace hsi := hsi.below hb
          replace hii := hii.below hb
          replace hS := hS.step hb
          refine ⟨_, rfl, hS, ?_⟩
          simp only [Act.put, List.setIfInBounds_toArray, List.set_cons_zero, List.set_cons_succ]
          clear hb
          refine wh_two 4 9 (by kernel_rfl) ?_ ?_
          · refine wo_call (some 29) 14 #[.agg #[.slice ai S.length ci, .slice ei F.length di], .agg #[.bool q0.u, .int .i64 q0.r, .int .i64 q0.p, .bool q0.o, .int .i64 q0.l, .int .i64 q0.s]] rfl rfl (by rfl) (by kernel_rfl) ?_
            refine (SP.out v2 ai ei ci di lS lF hsi hii hdi).mono ?_
            rintro e v3 ⟨v, u, rfl, TN, hb⟩
            replace TN : Hid (TabO (z + 1 + 1) v3 v u S1 F1) := TN.out.base (by have h1 := HLO.out; have h2 := hS.below.size; omega)
            replace hS := hS.step hb
            refine ⟨_, rfl, hS, ?_⟩
            simp only [Act.put, List.setIfInBounds_toArray, List.set_cons_zero, List.set_cons_succ]
            clear hb
            obtain ⟨an, cn, en, dn, rfl, rfl, _, _, _⟩ := TN.out.shape2
            replace TN : TabO (z + 1 + 1) v3 (.slice an S1.length cn) (.slice en F1.length dn) S1 F1 := TN
            refine wh_take 5 (some 24) (.tuple #[.agg #[.slice an S1.length cn, .slice en F1.length dn], .int .i64 C1, .int .i64 C2]) rfl rfl (by kernel_rfl) (by kernel_rfl) (by kernel_rfl) (fun _ _ _ h => h) hS (by rfl) (fun w' hS => by go_simp) ?_
            simp only [Act.put, List.setIfInBounds_toArray, List.set_cons_zero, List.set_cons_succ]
            refine wh_take 6 (some 30) (.agg #[.slice an S1.length cn, .slice en F1.length dn]) rfl rfl (by kernel_rfl) (by kernel_rfl) (by kernel_rfl) (fun _ _ _ h => h) hS (by rfl) (fun w' hS => by first | rfl | go_simp) ?_
            simp only [Act.put, List.setIfInBounds_toArray, List.set_cons_zero, List.set_cons_succ]
            refine wh_take 7 (some 31) (.int .i64 C1) rfl rfl (by kernel_rfl) (by kernel_rfl) (by kernel_rfl) (fun _ _ _ h => h) hS (by rfl) (fun w' hS => by first | rfl | go_simp) ?_
            simp only [Act.put, List.setIfInBounds_toArray, List.set_cons_zero, List.set_cons_succ]
            refine wh_take 8 (some 32) (.int .i64 C2) rfl rfl (by kernel_rfl) (by kernel_rfl) (by kernel_rfl) (fun _ _ _ h => h) hS (by rfl) (fun w' hS => by first | rfl | go_simp) ?_
            simp only [Act.put, List.setIfInBounds_toArray, List.set_cons_zero, List.set_cons_succ]
            obtain ⟨y, hy⟩ : ∃ y, v3.heap.size = y := ⟨_, rfl⟩
            have hba : Below v3.heap.size v3 (v3.alloc (.cells #[.slice none 0 0, .slice none 0 0] 30)) := bel_alloc (Below.refl _ _) _
            have hS1 := hS.step hba
            refine wh_val 9 (some 6) (.pointer (some ⟨v3.heap.size, 0, none⟩)) (v3.alloc (.cells #[.slice none 0 0, .slice none 0 0] 30)) (by kernel_rfl) rfl rfl (by rfl) (by go_simp) hS1 ?_
            simp only [Act.put, List.setIfInBounds_toArray, List.set_cons_zero, List.set_cons_succ]
            have by_ : (v3.alloc (.cells #[.slice none 0 0, .slice none 0 0] 30)).heap[y]? = some (.cells #[.slice none 0 0, .slice none 0 0] 30 (0, 0)) := by rw [← hy]; exact heap_alloc_new _ _
            have hly : z + 1 + 1 ≤ y := by have h1 := HLO.out; have h2 := hS.below.size; omega
            have hyW : w1.heap.size ≤ y := by have h2 := hS.below.size; omega
            replace TN := TN.below hba
            rw [hy]
            obtain ⟨v4, hW⟩ : ∃ G, v3.alloc (.cells #[.slice none 0 0, .slice none 0 0] 30) = G := ⟨_, rfl⟩
            rw [hW] at hS1 by_ ⊢
            rw [hW] at TN
            replace hS := hS1
            clear hS1 hba hW hy
            have j0 : v4.cell? ⟨y, 0, none⟩ = some (.slice none 0 0) := (cell_of_block by_ 0).trans rfl
            have g0 := free_of_block by_ 0
            have j1 : v4.cell? ⟨y, 1, none⟩ = some (.slice none 0 0) := (cell_of_block by_ 1).trans rfl
            have g1 := free_of_block by_ 1
            obtain ⟨VE, hE⟩ : ∃ G, ((v4.setCell ⟨y, 0, none⟩ (.slice an S1.length cn)).setCell ⟨y, 1, none⟩ (.slice en F1.length dn)) = G := ⟨_, rfl⟩
            obtain ⟨s1, s2, s3, s4⟩ := set2T by_ _ _ hE
            have hnb := own_other TN by_ (by decide) (by decide)
            have TE : TabO (z + 1 + 1) VE (.slice an S1.length cn) (.slice en F1.length dn) S1 F1 := ⟨own_keep TN.hds (fun g hg => s2 g (fun e => hnb.1 (e ▸ hg))), own_keep TN.ints (fun g hg => s2 g (fun e => hnb.2 (e ▸ hg)))⟩
            have hSE : Keeps w1 VE := ⟨s4 _ _ hyW hS.below⟩
            refine wh_skip 10 none VE (by kernel_rfl) rfl rfl (by rfl) (by rw [← hE]; go_simp) hSE ?_
            simp only [Act.put]
            refine wh_val 11 (some 7) (.int .i64 C1) VE (by kernel_rfl) rfl rfl (by rfl) (by rfl) hSE ?_
            simp only [Act.put, List.setIfInBounds_toArray, List.set_cons_zero, List.set_cons_succ]
            refine wh_val 12 (some 8) (.int .i64 C2) VE (by kernel_rfl) rfl rfl (by rfl) (by rfl) hSE ?_
            simp only [Act.put, List.setIfInBounds_toArray, List.set_cons_zero, List.set_cons_succ]
            refine wh_done (by kernel_rfl) ?_
            go_wp2
            go_meet
            exact ⟨⟨⟨y, _, _, rfl, hly, s1, TE⟩, hSE.below⟩, rfl, rfl⟩
          · obtain ⟨y, hy⟩ : ∃ y, v2.heap.size = y := ⟨_, rfl⟩
            have hba : Below v2.heap.size v2 (v2.alloc (.cells #[.slice none 0 0, .slice none 0 0] 30)) := bel_alloc (Below.refl _ _) _
            have hS1 := hS.step hba
            refine wo_val (some 6) (.pointer (some ⟨v2.heap.size, 0, none⟩)) (v2.alloc (.cells #[.slice none 0 0, .slice none 0 0] 30)) rfl rfl (by rfl) (by go_simp) hS1 ?_
            simp only [Act.put, List.setIfInBounds_toArray, List.set_cons_zero, List.set_cons_succ]
            have by_ : (v2.alloc (.cells #[.slice none 0 0, .slice none 0 0] 30)).heap[y]? = some (.cells #[.slice none 0 0, .slice none 0 0] 30 (0, 0)) := by rw [← hy]; exact heap_alloc_new _ _
            have hly : z + 1 + 1 ≤ y := by have h1 := HLO.out; have h2 := hS.below.size; omega
            have hyW : w1.heap.size ≤ y := by have h2 := hS.below.size; omega
            replace hsi := hsi.below hba
            replace hii := hii.below hba
            rw [hy]
            obtain ⟨v5, hW⟩ : ∃ G, v2.alloc (.cells #[.slice none 0 0, .slice none 0 0] 30) = G := ⟨_, rfl⟩
            rw [hW] at hS1 by_ ⊢
            rw [hW] at hsi hii
            replace hS := hS1
            clear hS1 hba hW hy
            refine wh_call 4 (some 29) 14 #[.agg #[.slice ai S.length ci, .slice ei F.length di], .agg #[.bool q0.u, .int .i64 q0.r, .int .i64 q0.p, .bool q0.o, .int .i64 q0.l, .int .i64 q0.s]] (by kernel_rfl) rfl rfl (by rfl) (by kernel_rfl) ?_
            refine (SP.out v5 ai ei ci di lS lF hsi hii hdi).mono ?_
            rintro e v6 ⟨v, u, rfl, TN, hb⟩
            replace TN : Hid (TabO (z + 1 + 1) v6 v u S1 F1) := TN.out.base (by have h1 := HLO.out; have h2 := hS.below.size; omega)
            replace by_ := (hb.block y (lt_of_block by_)).trans by_
            replace hS := hS.step hb
            refine ⟨_, rfl, hS, ?_⟩
            simp only [Act.put, List.setIfInBounds_toArray, List.set_cons_zero, List.set_cons_succ]
            clear hb
            obtain ⟨an, cn, en, dn, rfl, rfl, _, _, _⟩ := TN.out.shape2
            replace TN : TabO (z + 1 + 1) v6 (.slice an S1.length cn) (.slice en F1.length dn) S1 F1 := TN
            refine wh_take 5 (some 24) (.tuple #[.agg #[.slice an S1.length cn, .slice en F1.length dn], .int .i64 C1, .int .i64 C2]) rfl rfl (by kernel_rfl) (by kernel_rfl) (by kernel_rfl) (fun _ _ _ h => h) hS (by rfl) (fun w' hS => by go_simp) ?_
            simp only [Act.put, List.setIfInBounds_toArray, List.set_cons_zero, List.set_cons_succ]
            refine wh_take 6 (some 30) (.agg #[.slice an S1.length cn, .slice en F1.length dn]) rfl rfl (by kernel_rfl) (by kernel_rfl) (by kernel_rfl) (fun _ _ _ h => h) hS (by rfl) (fun w' hS => by first | rfl | go_simp) ?_
            simp only [Act.put, List.setIfInBounds_toArray, List.set_cons_zero, List.set_cons_succ]
            refine wh_take 7 (some 31) (.int .i64 C1) rfl rfl (by kernel_rfl) (by kernel_rfl) (by kernel_rfl) (fun _ _ _ h => h) hS (by rfl) (fun w' hS => by first | rfl | go_simp) ?_
            simp only [Act.put, List.setIfInBounds_toArray, List.set_cons_zero, List.set_cons_succ]
            refine wh_take 8 (some 32) (.int .i64 C2) rfl rfl (by kernel_rfl) (by kernel_rfl) (by kernel_rfl) (fun _ _ _ h => h) hS (by rfl) (fun w' hS => by first | rfl | go_simp) ?_
            simp only [Act.put, List.setIfInBounds_toArray, List.set_cons_zero, List.set_cons_succ]
            have j0 : v6.cell? ⟨y, 0, none⟩ = some (.slice none 0 0) := (cell_of_block by_ 0).trans rfl
            have g0 := free_of_block by_ 0
            have j1 : v6.cell? ⟨y, 1, none⟩ = some (.slice none 0 0) := (cell_of_block by_ 1).trans rfl
            have g1 := free_of_block by_ 1
            obtain ⟨VE, hE⟩ : ∃ G, ((v6.setCell ⟨y, 0, none⟩ (.slice an S1.length cn)).setCell ⟨y, 1, none⟩ (.slice en F1.length dn)) = G := ⟨_, rfl⟩
            obtain ⟨s1, s2, s3, s4⟩ := set2T by_ _ _ hE
            have hnb := own_other TN by_ (by decide) (by decide)
            have TE : TabO (z + 1 + 1) VE (.slice an S1.length cn) (.slice en F1.length dn) S1 F1 := ⟨own_keep TN.hds (fun g hg => s2 g (fun e => hnb.1 (e ▸ hg))), own_keep TN.ints (fun g hg => s2 g (fun e => hnb.2 (e ▸ hg)))⟩
            have hSE : Keeps w1 VE := ⟨s4 _ _ hyW hS.below⟩
            refine wh_skip 10 none VE (by kernel_rfl) rfl rfl (by rfl) (by rw [← hE]; go_simp) hSE ?_
            simp only [Act.put]
            refine wh_val 11 (some 7) (.int .i64 C1) VE (by kernel_rfl) rfl rfl (by rfl) (by rfl) hSE ?_
            simp only [Act.put, List.setIfInBounds_toArray, List.set_cons_zero, List.set_cons_succ]
            refine wh_val 12 (some 8) (.int .i64 C2) VE (by kernel_rfl) rfl rfl (by rfl) (by rfl) hSE ?_
            simp only [Act.put, List.setIfInBounds_toArray, List.set_cons_zero, List.set_cons_succ]
            refine wh_done (by kernel_rfl) ?_
            go_wp2
            go_meet
            exact ⟨⟨⟨y, _, _, rfl, hly, s1, TE⟩, hSE.below⟩, rfl, rfl⟩
        · obtain ⟨y, hy⟩ : ∃ y, v1.heap.size = y := ⟨_, rfl⟩
          have hba : Below v1.heap.size v1 (v1.alloc (.cells #[.slice none 0 0, .slice none 0 0] 30)) := bel_alloc (Below.refl _ _) _
          have hS1 := hS.step hba
          refine wo_val (some 6) (.pointer (some ⟨v1.heap.size, 0, none⟩)) (v1.alloc (.cells #[.slice none 0 0, .slice none 0 0] 30)) rfl rfl (by rfl) (by go_simp) hS1 ?_
          simp only [Act.put, List.setIfInBounds_toArray, List.set_cons_zero, List.set_cons_succ]
          have by_ : (v1.alloc (.cells #[.slice none 0 0, .slice none 0 0] 30)).heap[y]? = some (.cells #[.slice none 0 0, .slice none 0 0] 30 (0, 0)) := by rw [← hy]; exact heap_alloc_new _ _
          have hly : z + 1 + 1 ≤ y := by have h1 := HLO.out; have h2 := hS.below.size; omega
          have hyW : w1.heap.size ≤ y := by have h2 := hS.below.size; omega
          replace hsi := hsi.below hba
          replace hii := hii.below hba
          rw [hy]
          obtain ⟨v7, hW⟩ : ∃ G, v1.alloc (.cells #[.slice none 0 0, .slice none 0 0] 30) = G := ⟨_, rfl⟩
          rw [hW] at hS1 by_ ⊢
          rw [hW] at hsi hii
          replace hS := hS1
          clear hS1 hba hW hy
          refine wh_call 3 (some 28) 15 #[.agg #[.bool q0.u, .int .i64 q0.r, .int .i64 q0.p, .bool q0.o, .int .i64 q0.l, .int .i64 q0.s]] (by kernel_rfl) rfl rfl (by rfl) (by kernel_rfl) ?_
          refine (TH0 v7).mono ?_
          rintro e v8 ⟨rfl, hb⟩
          replace hsi := hsi.below hb
          replace hii := hii.below hb
          replace by_ := (hb.block y (lt_of_block by_)).trans by_
          replace hS := hS.step hb
          refine ⟨_, rfl, hS, ?_⟩
          simp only [Act.put, List.setIfInBounds_toArray, List.set_cons_zero, List.set_cons_succ]
          clear hb
          refine wh_call 4 (some 29) 14 #[.agg #[.slice ai S.length ci, .slice ei F.length di], .agg #[.bool q0.u, .int .i64 q0.r, .int .i64 q0.p, .bool q0.o, .int .i64 q0.l, .int .i64 q0.s]] (by kernel_rfl) rfl rfl (by rfl) (by kernel_rfl) ?_
          refine (SP.out v8 ai ei ci di lS lF hsi hii hdi).mono ?_
          rintro e v9 ⟨v, u, rfl, TN, hb⟩
          replace TN : Hid (TabO (z + 1 + 1) v9 v u S1 F1) := TN.out.base (by have h1 := HLO.out; have h2 := hS.below.size; omega)
          replace by_ := (hb.block y (lt_of_block by_)).trans by_
          replace hS := hS.step hb
          refine ⟨_, rfl, hS, ?_⟩
          simp only [Act.put, List.setIfInBounds_toArray, List.set_cons_zero, List.set_cons_succ]
          clear hb
          obtain ⟨an, cn, en, dn, rfl, rfl, _, _, _⟩ := TN.out.shape2
          replace TN : TabO (z + 1 + 1) v9 (.slice an S1.length cn) (.slice en F1.length dn) S1 F1 := TN
          refine wh_take 5 (some 24) (.tuple #[.agg #[.slice an S1.length cn, .slice en F1.length dn], .int .i64 C1, .int .i64 C2]) rfl rfl (by kernel_rfl) (by kernel_rfl) (by kernel_rfl) (fun _ _ _ h => h) hS (by rfl) (fun w' hS => by go_simp) ?_
          simp only [Act.put, List.setIfInBounds_toArray, List.set_cons_zero, List.set_cons_succ]
          refine wh_take 6 (some 30) (.agg #[.slice an S1.length cn, .slice en F1.length dn]) rfl rfl (by kernel_rfl) (by kernel_rfl) (by kernel_rfl) (fun _ _ _ h => h) hS (by rfl) (fun w' hS => by first | rfl | go_simp) ?_
          simp only [Act.put, List.setIfInBounds_toArray, List.set_cons_zero, List.set_cons_succ]
          refine wh_take 7 (some 31) (.int .i64 C1) rfl rfl (by kernel_rfl) (by kernel_rfl) (by kernel_rfl) (fun _ _ _ h => h) hS (by rfl) (fun w' hS => by first | rfl | go_simp) ?_
          simp only [Act.put, List.setIfInBounds_toArray, List.set_cons_zero, List.set_cons_succ]
          refine wh_take 8 (some 32) (.int .i64 C2) rfl rfl (by kernel_rfl) (by kernel_rfl) (by kernel_rfl) (fun _ _ _ h => h) hS (by rfl) (fun w' hS => by first | rfl | go_simp) ?_
          simp only [Act.put, List.setIfInBounds_toArray, List.set_cons_zero, List.set_cons_succ]
          have j0 : v9.cell? ⟨y, 0, none⟩ = some (.slice none 0 0) := (cell_of_block by_ 0).trans rfl
          have g0 := free_of_block by_ 0
          have j1 : v9.cell? ⟨y, 1, none⟩ = some (.slice none 0 0) := (cell_of_block by_ 1).trans rfl
          have g1 := free_of_block by_ 1
          obtain ⟨VE, hE⟩ : ∃ G, ((v9.setCell ⟨y, 0, none⟩ (.slice an S1.length cn)).setCell ⟨y, 1, none⟩ (.slice en F1.length dn)) = G := ⟨_, rfl⟩
          obtain ⟨s1, s2, s3, s4⟩ := set2T by_ _ _ hE
          have hnb := own_other TN by_ (by decide) (by decide)
          have TE : TabO (z + 1 + 1) VE (.slice an S1.length cn) (.slice en F1.length dn) S1 F1 := ⟨own_keep TN.hds (fun g hg => s2 g (fun e => hnb.1 (e ▸ hg))), own_keep TN.ints (fun g hg => s2 g (fun e => hnb.2 (e ▸ hg)))⟩
          have hSE : Keeps w1 VE := ⟨s4 _ _ hyW hS.below⟩
          refine wh_skip 10 none VE (by kernel_rfl) rfl rfl (by rfl) (by rw [← hE]; go_simp) hSE ?_
          simp only [Act.put]
          refine wh_val 11 (some 7) (.int .i64 C1) VE (by kernel_rfl) rfl rfl (by rfl) (by rfl) hSE ?_
          simp only [Act.put, List.setIfInBounds_toArray, List.set_cons_zero, List.set_cons_succ]
          refine wh_val 12 (some 8) (.int .i64 C2) VE (by kernel_rfl) rfl rfl (by rfl) (by rfl) hSE ?_
          simp only [Act.put, List.setIfInBounds_toArray, List.set_cons_zero, List.set_cons_succ]
          refine wh_done (by kernel_rfl) ?_
          go_wp2
          go_meet
          exact ⟨⟨⟨y, _, _, rfl, hly, s1, TE⟩, hSE.below⟩, rfl, rfl⟩
      · obtain ⟨y, hy⟩ : ∃ y, W0.heap.size = y := ⟨_, rfl⟩
        have hba : Below W0.heap.size W0 (W0.alloc (.cells #[.slice none 0 0, .slice none 0 0] 30)) := bel_alloc (Below.refl _ _) _
        have hS1 := hS.step hba
        refine wo_val (some 6) (.pointer (some ⟨W0.heap.size, 0, none⟩)) (W0.alloc (.cells #[.slice none 0 0, .slice none 0 0] 30)) rfl rfl (by rfl) (by go_simp) hS1 ?_
        simp only [Act.put, List.setIfInBounds_toArray, List.set_cons_zero, List.set_cons_succ]
        have by_ : (W0.alloc (.cells #[.slice none 0 0, .slice none 0 0] 30)).heap[y]? = some (.cells #[.slice none 0 0, .slice none 0 0] 30 (0, 0)) := by rw [← hy]; exact heap_alloc_new _ _
        have hly : z + 1 + 1 ≤ y := by have h1 := HLO.out; have h2 := hS.below.size; omega
        have hyW : w1.heap.size ≤ y := by have h2 := hS.below.size; omega
        rw [hy]
        obtain ⟨v10, hW⟩ : ∃ G, W0.alloc (.cells #[.slice none 0 0, .slice none 0 0] 30) = G := ⟨_, rfl⟩
        rw [hW] at hS1 by_ ⊢
        replace hS := hS1
        clear hS1 hba hW hy
        refine wh_call 1 (some 26) 11 #[.agg #[.slice a S.length c, .slice b F.length d]] (by kernel_rfl) rfl rfl (by rfl) (by kernel_rfl) ?_
        refine (TT.out v10 (bel_step HB.out hS.below)).mono ?_
        rintro e v11 ⟨v, u, rfl, Ti, hb⟩
        obtain ⟨ai, ci, ei, di, rfl, rfl, hsi, hii, hdi⟩ := Ti.out.shape2
        clear Ti
        replace by_ := (hb.block y (lt_of_block by_)).trans by_
        replace hS := hS.step hb
        refine ⟨_, rfl, hS, ?_⟩
        simp only [Act.put, List.setIfInBounds_toArray, List.set_cons_zero, List.set_cons_succ]
        clear hb
        refine wh_call 3 (some 28) 15 #[.agg #[.bool q0.u, .int .i64 q0.r, .int .i64 q0.p, .bool q0.o, .int .i64 q0.l, .int .i64 q0.s]] (by kernel_rfl) rfl rfl (by rfl) (by kernel_rfl) ?_
        refine (TH0 v11).mono ?_
        rintro e v12 ⟨rfl, hb⟩
        replace hsi := hsi.below hb
        replace hii := hii.below hb
        replace by_ := (hb.block y (lt_of_block by_)).trans by_
        replace hS := hS.step hb
        refine ⟨_, rfl, hS, ?_⟩
        simp only [Act.put, List.setIfInBounds_toArray, List.set_cons_zero, List.set_cons_succ]
        clear hb
        refine wh_call 4 (some 29) 14 #[.agg #[.slice ai S.length ci, .slice ei F.length di], .agg #[.bool q0.u, .int .i64 q0.r, .int .i64 q0.p, .bool q0.o, .int .i64 q0.l, .int .i64 q0.s]] (by kernel_rfl) rfl rfl (by rfl) (by kernel_rfl) ?_
        refine (SP.out v12 ai ei ci di lS lF hsi hii hdi).mono ?_
        rintro e v13 ⟨v, u, rfl, TN, hb⟩
        replace TN : Hid (TabO (z + 1 + 1) v13 v u S1 F1) := TN.out.base (by have h1 := HLO.out; have h2 := hS.below.size; omega)
        replace by_ := (hb.block y (lt_of_block by_)).trans by_
        replace hS := hS.step hb
        refine ⟨_, rfl, hS, ?_⟩
        simp only [Act.put, List.setIfInBounds_toArray, List.set_cons_zero, List.set_cons_succ]
        clear hb
        obtain ⟨an, cn, en, dn, rfl, rfl, _, _, _⟩ := TN.out.shape2
        replace TN : TabO (z + 1 + 1) v13 (.slice an S1.length cn) (.slice en F1.length dn) S1 F1 := TN
        refine wh_take 5 (some 24) (.tuple #[.agg #[.slice an S1.length cn, .slice en F1.length dn], .int .i64 C1, .int .i64 C2]) rfl rfl (by kernel_rfl) (by kernel_rfl) (by kernel_rfl) (fun _ _ _ h => h) hS (by rfl) (fun w' hS => by go_simp) ?_
        simp only [Act.put, List.setIfInBounds_toArray, List.set_cons_zero, List.set_cons_succ]
        refine wh_take 6 (some 30) (.agg #[.slice an S1.length cn, .slice en F1.length dn]) rfl rfl (by kernel_rfl) (by kernel_rfl) (by kernel_rfl) (fun _ _ _ h => h) hS (by rfl) (fun w' hS => by first | rfl | go_simp) ?_
        simp only [Act.put, List.setIfInBounds_toArray, List.set_cons_zero, List.set_cons_succ]
        refine wh_take 7 (some 31) (.int .i64 C1) rfl rfl (by kernel_rfl) (by kernel_rfl) (by kernel_rfl) (fun _ _ _ h => h) hS (by rfl) (fun w' hS => by first | rfl | go_simp) ?_
        simp only [Act.put, List.setIfInBounds_toArray, List.set_cons_zero, List.set_cons_succ]
        refine wh_take 8 (some 32) (.int .i64 C2) rfl rfl (by kernel_rfl) (by kernel_rfl) (by kernel_rfl) (fun _ _ _ h => h) hS (by rfl) (fun w' hS => by first | rfl | go_simp) ?_
        simp only [Act.put, List.setIfInBounds_toArray, List.set_cons_zero, List.set_cons_succ]
        have j0 : v13.cell? ⟨y, 0, none⟩ = some (.slice none 0 0) := (cell_of_block by_ 0).trans rfl
        have g0 := free_of_block by_ 0
        have j1 : v13.cell? ⟨y, 1, none⟩ = some (.slice none 0 0) := (cell_of_block by_ 1).trans rfl
        have g1 := free_of_block by_ 1
        obtain ⟨VE, hE⟩ : ∃ G, ((v13.setCell ⟨y, 0, none⟩ (.slice an S1.length cn)).setCell ⟨y, 1, none⟩ (.slice en F1.length dn)) = G := ⟨_, rfl⟩
        obtain ⟨s1, s2, s3, s4⟩ := set2T by_ _ _ hE
        have hnb := own_other TN by_ (by decide) (by decide)
        have TE : TabO (z + 1 + 1) VE (.slice an S1.length cn) (.slice en F1.length dn) S1 F1 := ⟨own_keep TN.hds (fun g hg => s2 g (fun e => hnb.1 (e ▸ hg))), own_keep TN.ints (fun g hg => s2 g (fun e => hnb.2 (e ▸ hg)))⟩
        have hSE : Keeps w1 VE := ⟨s4 _ _ hyW hS.below⟩
        refine wh_skip 10 none VE (by kernel_rfl) rfl rfl (by rfl) (by rw [← hE]; go_simp) hSE ?_
        simp only [Act.put]
        refine wh_val 11 (some 7) (.int .i64 C1) VE (by kernel_rfl) rfl rfl (by rfl) (by rfl) hSE ?_
        simp only [Act.put, List.setIfInBounds_toArray, List.set_cons_zero, List.set_cons_succ]
        refine wh_val 12 (some 8) (.int .i64 C2) VE (by kernel_rfl) rfl rfl (by rfl) (by rfl) hSE ?_
        simp only [Act.put, List.setIfInBounds_toArray, List.set_cons_zero, List.set_cons_succ]
        refine wh_done (by kernel_rfl) ?_
        go_wp2
        go_meet
        exact ⟨⟨⟨y, _, _, rfl, hly, s1, TE⟩, hSE.below⟩, rfl, rfl⟩
    case rest =>
    obtain ⟨HOU, rfl, rfl⟩ := hcut
    obtain ⟨⟨ys, v, u, rfl, HLn, bnt, Tn⟩, hb⟩ := HOU.out
    obtain ⟨w2, hwq⟩ : ∃ W, wc = W := ⟨_, rfl⟩
    rw [hwq] at HOU hb bnt Tn ⊢
    clear HOU hwq HLO
    replace bz := (hb.block (z) (lt_of_block bz)).trans bz
    replace bq0 := (hb.block (z + 1) (lt_of_block bq0)).trans bq0
    replace Lz : Hid (z + 1 + 1 ≤ w2.heap.size) := Nat.le_trans Lz.out hb.size
    replace HB : Hid (Below w.heap.size w w2) := bel_step HB.out hb
    obtain ⟨an, cn, en, dn, rfl, rfl, _, _, _⟩ := Tn.shape2
    replace Tn : Hid (TabO (z + 1 + 1) w2 (.slice an S1.length cn) (.slice en F1.length dn) S1 F1) := Tn
    have HZn : Hid (z + 1 + 1 ≤ ys ∧ ys < w2.heap.size) := ⟨HLn, lt_of_block bnt⟩
    clear hb HLn
    obtain ⟨BX, hBX⟩ : ∃ z, w2.heap.size = z := ⟨_, rfl⟩
    have HVn : Hid (∀ g, (Value.slice an S1.length cn).ownBlock = some g ∨ (Value.slice en F1.length dn).ownBlock = some g → g < BX) := fun g hg => by rw [← hBX]; rcases hg with h | h; exact (Tn.out.hds.lt g h).2; exact (Tn.out.ints.lt g h).2
    have HYB : Hid (ys < BX) := by unfold Hid; rw [← hBX]; exact HZn.out.2
    have HBX : Hid (w2.heap.size = BX) := hBX
    clear hBX
    have pz0 : w2.cell? ⟨z, 0, none⟩ = some (.slice a S.length c) := (cell_of_block bz 0).trans rfl
    have pz1 : w2.cell? ⟨z, 1, none⟩ = some (.slice b F.length d) := (cell_of_block bz 1).trans rfl
    obtain ⟨Bx, hB⟩ : ∃ B, w2.heap.size = B := ⟨_, rfl⟩
    have HEx : Hid (w2.heap.size = Bx) := hB
    have HEqx : Bx = BX := by have h1 := HBX.out; omega
    have Ox : Hid (z + 1 + 1 ≤ Bx) := by unfold Hid; rw [← hB]; exact Lz.out
    clear hB
    go_wp2_with fail
    refine (TT.out w2 HB.out).mono ?_
    rintro e w3 ⟨v, u, rfl, Tx, hb⟩
    replace bz := (hb.block (z) (lt_of_block bz)).trans bz
    replace bq0 := (hb.block (z + 1) (lt_of_block bq0)).trans bq0
    replace bnt := (hb.block (ys) (lt_of_block bnt)).trans bnt
    replace Tn : Hid (TabO (z + 1 + 1) w3 (.slice an S1.length cn) (.slice en F1.length dn) S1 F1) := Tn.out.below hb
    replace Lz : Hid (z + 1 + 1 ≤ w3.heap.size) := Nat.le_trans Lz.out hb.size
    replace HB : Hid (Below w.heap.size w w3) := bel_step HB.out hb
    obtain ⟨ax, cx, ex, dx, rfl, rfl, hsx, hix, hdx⟩ := Tx.out.shape2
    rw [HEx.out] at Tx
    have HZx : Hid (Bx ≤ w3.heap.size) := by unfold Hid; rw [← HEx.out]; exact hb.size
    clear hb HEx pz0 pz1
    have HBB : Hid (Bx = BX) := HEqx
    rw [← HBB.out] at HVn HYB
    obtain ⟨yx, hyx⟩ : ∃ z, w3.heap.size = z := ⟨_, rfl⟩
    obtain ⟨w4, hN⟩ : ∃ W, (w3.alloc (.cells #[.slice ax S.length cx, .slice ex F.length dx] 30)) = W := ⟨_, rfl⟩
    have hb : Below w3.heap.size w3 w4 := by rw [← hN]; exact (bel_alloc (Below.refl _ _) _)
    have HVx : Hid (∀ g, (Value.slice ax S.length cx).ownBlock = some g ∨ (Value.slice ex F.length dx).ownBlock = some g → g < yx) := fun g hg => by rw [← hyx]; rcases hg with h | h; exact (Tx.out.hds.lt g h).2; exact (Tx.out.ints.lt g h).2
    replace bz := (hb.block (z) (lt_of_block bz)).trans bz
    replace bq0 := (hb.block (z + 1) (lt_of_block bq0)).trans bq0
    replace bnt := (hb.block (ys) (lt_of_block bnt)).trans bnt
    replace Tn : Hid (TabO (z + 1 + 1) w4 (.slice an S1.length cn) (.slice en F1.length dn) S1 F1) := Tn.out.below hb
    replace Tx : Hid (TabO (Bx) w4 (.slice ax S.length cx) (.slice ex F.length dx) S F) := Tx.out.below hb
    replace Lz : Hid (z + 1 + 1 ≤ w4.heap.size) := Nat.le_trans Lz.out hb.size
    replace HB : Hid (Below w.heap.size w w4) := bel_step HB.out hb
    have bx : w4.heap[yx]? = some (.cells #[.slice ax S.length cx, .slice ex F.length dx] 30 (0, 0)) := by
      have h := heap_alloc_new w3 (.cells #[.slice ax S.length cx, .slice ex F.length dx] 30)
      have e : w3.heap.size = yx := by exact hyx
      rw [e] at h
      rw [← hN]
      exact h
    have HAyx : Hid (w3.heap.size = yx) := hyx
    have Lyx : Hid (yx + 1 ≤ w4.heap.size) := by unfold Hid; rw [← hN]; simp [hyx]
    clear hb
    have HX1 : Hid (Bx ≤ yx ∧ ys < Bx) := ⟨by have h1 := HZx.out; have h2 := HAyx.out; omega, HYB.out⟩
    replace hsx : Hds w4 ax S := by obtain ⟨_, _, _, _, e1, e2, h1, h2, _⟩ := Tx.out.shape2; simp only [Value.slice.injEq] at e1; rw [e1.1]; exact h1
    replace hix : Ints w4 ex F := by obtain ⟨_, _, _, _, e1, e2, h1, h2, _⟩ := Tx.out.shape2; simp only [Value.slice.injEq] at e2; rw [e2.1]; exact h2
    have HLO : Hid (yx + 1 ≤ w4.heap.size) := Lyx.out
    go_upto_region 7 with fail
    go_cut [10, 11, 12] (fun sa sb sc wx => Hid (OutAt w4 (yx + 1) wx sa S1 F1) ∧ sb = .int .i64 C1 ∧ sc = .int .i64 C2)
    case first =>
      go_wp2
      clear hN hyx
      have KZ : ∀ w', Keeps w4 w' → w'.heap[z]? = some (.cells #[.slice a S.length c, .slice b F.length d] 25 (0, 0)) := fun w' h => (h.below.block z (lt_of_block bz)).trans bz
      have KQ : ∀ w', Keeps w4 w' → w'.heap[z + 1]? = some (.cells #[.bool q0.u, .int .i64 q0.r, .int .i64 q0.p, .bool q0.o, .int .i64 q0.l, .int .i64 q0.s] 35 (0, 0)) := fun w' h => (h.below.block (z + 1) (lt_of_block bq0)).trans bq0
      have KX : ∀ w', Keeps w4 w' → w'.heap[yx]? = some (.cells #[.slice ax S.length cx, .slice ex F.length dx] 30 (0, 0)) := fun w' h => (h.below.block yx (lt_of_block bx)).trans bx
      refine wh_begin (Keeps w4) (by kernel_rfl) ?_
      have hS : Keeps w4 w4.drew := Keeps.drew w4
      refine wh_take 0 (some 36) (.agg #[.slice ax S.length cx, .slice ex F.length dx]) rfl rfl (by kernel_rfl) (by kernel_rfl) (by kernel_rfl) (fun _ _ _ h => h) hS (by rfl) (fun w' hS => by have hq := KX _ hS; have q0 : w'.cell? ⟨yx, 0, none⟩ = some (.slice ax S.length cx) := (cell_of_block hq 0).trans rfl; have q1 : w'.cell? ⟨yx, 1, none⟩ = some (.slice ex F.length dx) := (cell_of_block hq 1).trans rfl; clear hq; go_simp) ?_
      simp only [Act.put, List.setIfInBounds_toArray, List.set_cons_zero, List.set_cons_succ]
      refine wh_take 1 (some 37) (.agg #[.bool q0.u, .int .i64 q0.r, .int .i64 q0.p, .bool q0.o, .int .i64 q0.l, .int .i64 q0.s]) rfl rfl (by kernel_rfl) (by kernel_rfl) (by kernel_rfl) (fun _ _ _ h => h) hS (by rfl) (fun w' hS => by have hq := KQ _ hS; have j0 : w'.cell? ⟨z + 1, 0, none⟩ = some (.bool q0.u) := (cell_of_block hq 0).trans rfl; have j1 : w'.cell? ⟨z + 1, 1, none⟩ = some (.int .i64 q0.r) := (cell_of_block hq 1).trans rfl; have j2 : w'.cell? ⟨z + 1, 2, none⟩ = some (.int .i64 q0.p) := (cell_of_block hq 2).trans rfl; have j3 : w'.cell? ⟨z + 1, 3, none⟩ = some (.bool q0.o) := (cell_of_block hq 3).trans rfl; have j4 : w'.cell? ⟨z + 1, 4, none⟩ = some (.int .i64 q0.l) := (cell_of_block hq 4).trans rfl; have j5 : w'.cell? ⟨z + 1, 5, none⟩ = some (.int .i64 q0.s) := (cell_of_block hq 5).trans rfl; clear hq; go_simp) ?_
      simp only [Act.put, List.setIfInBounds_toArray, List.set_cons_zero, List.set_cons_succ]
      obtain ⟨W0, hW⟩ : ∃ G, w4.drew = G := ⟨_, rfl⟩
      rw [hW] at hS ⊢
      clear hW KZ KQ KX
      replace hsx := hsx.below hS.below
      replace hix := hix.below hS.below
      refine wh_two 2 8 (by kernel_rfl) ?_ ?_
      · refine wo_call (some 38) 15 #[.agg #[.bool q0.u, .int .i64 q0.r, .int .i64 q0.p, .bool q0.o, .int .i64 q0.l, .int .i64 q0.s]] rfl rfl (by rfl) (by kernel_rfl) ?_
        refine (TH0 W0).mono ?_
        rintro e v1 ⟨rfl, hb⟩
        replace hsx := hsx.below hb
        replace hix := hix.below hb
        replace hS := hS.step hb
        refine ⟨_, rfl, hS, ?_⟩
        simp only [Act.put, List.setIfInBounds_toArray, List.set_cons_zero, List.set_cons_succ]
        clear hb
        refine wh_two 3 8 (by kernel_rfl) ?_ ?_
        · refine wo_call (some 39) 16 #[.agg #[.slice ax S.length cx, .slice ex F.length dx], .agg #[.bool q0.u, .int .i64 q0.r, .int .i64 q0.p, .bool q0.o, .int .i64 q0.l, .int .i64 q0.s]] rfl rfl (by rfl) (by kernel_rfl) ?_
          refine (IM.out v1 ax ex cx dx lS lF hsx hix hdx).mono ?_
          rintro e v2 ⟨v, u, rfl, TN, hb⟩
          replace TN : Hid (TabO (yx + 1) v2 v u S1 F1) := TN.out.base (by have h1 := HLO.out; have h2 := hS.below.size; omega)
          replace hS := hS.step hb
          refine ⟨_, rfl, hS, ?_⟩
          simp only [Act.put, List.setIfInBounds_toArray, List.set_cons_zero, List.set_cons_succ]
          clear hb
          obtain ⟨an, cn, en, dn, rfl, rfl, _, _, _⟩ := TN.out.shape2
          replace TN : TabO (yx + 1) v2 (.slice an S1.length cn) (.slice en F1.length dn) S1 F1 := TN
          refine wh_take 4 (some 35) (.tuple #[.agg #[.slice an S1.length cn, .slice en F1.length dn], .int .i64 C1, .int .i64 C2]) rfl rfl (by kernel_rfl) (by kernel_rfl) (by kernel_rfl) (fun _ _ _ h => h) hS (by rfl) (fun w' hS => by go_simp) ?_
          simp only [Act.put, List.setIfInBounds_toArray, List.set_cons_zero, List.set_cons_succ]
          refine wh_take 5 (some 40) (.agg #[.slice an S1.length cn, .slice en F1.length dn]) rfl rfl (by kernel_rfl) (by kernel_rfl) (by kernel_rfl) (fun _ _ _ h => h) hS (by rfl) (fun w' hS => by first | rfl | go_simp) ?_
          simp only [Act.put, List.setIfInBounds_toArray, List.set_cons_zero, List.set_cons_succ]
          refine wh_take 6 (some 41) (.int .i64 C1) rfl rfl (by kernel_rfl) (by kernel_rfl) (by kernel_rfl) (fun _ _ _ h => h) hS (by rfl) (fun w' hS => by first | rfl | go_simp) ?_
          simp only [Act.put, List.setIfInBounds_toArray, List.set_cons_zero, List.set_cons_succ]
          refine wh_take 7 (some 42) (.int .i64 C2) rfl rfl (by kernel_rfl) (by kernel_rfl) (by kernel_rfl) (fun _ _ _ h => h) hS (by rfl) (fun w' hS => by first | rfl | go_simp) ?_
          simp only [Act.put, List.setIfInBounds_toArray, List.set_cons_zero, List.set_cons_succ]
          obtain ⟨y, hy⟩ : ∃ y, v2.heap.size = y := ⟨_, rfl⟩
          have hba : Below v2.heap.size v2 (v2.alloc (.cells #[.slice none 0 0, .slice none 0 0] 30)) := bel_alloc (Below.refl _ _) _
          have hS1 := hS.step hba
          refine wh_val 8 (some 10) (.pointer (some ⟨v2.heap.size, 0, none⟩)) (v2.alloc (.cells #[.slice none 0 0, .slice none 0 0] 30)) (by kernel_rfl) rfl rfl (by rfl) (by go_simp) hS1 ?_
          simp only [Act.put, List.setIfInBounds_toArray, List.set_cons_zero, List.set_cons_succ]
          have by_ : (v2.alloc (.cells #[.slice none 0 0, .slice none 0 0] 30)).heap[y]? = some (.cells #[.slice none 0 0, .slice none 0 0] 30 (0, 0)) := by rw [← hy]; exact heap_alloc_new _ _
          have hly : yx + 1 ≤ y := by have h1 := HLO.out; have h2 := hS.below.size; omega
          have hyW : w4.heap.size ≤ y := by have h2 := hS.below.size; omega
          replace TN := TN.below hba
          rw [hy]
          obtain ⟨v3, hW⟩ : ∃ G, v2.alloc (.cells #[.slice none 0 0, .slice none 0 0] 30) = G := ⟨_, rfl⟩
          rw [hW] at hS1 by_ ⊢
          rw [hW] at TN
          replace hS := hS1
          clear hS1 hba hW hy
          have j0 : v3.cell? ⟨y, 0, none⟩ = some (.slice none 0 0) := (cell_of_block by_ 0).trans rfl
          have g0 := free_of_block by_ 0
          have j1 : v3.cell? ⟨y, 1, none⟩ = some (.slice none 0 0) := (cell_of_block by_ 1).trans rfl
          have g1 := free_of_block by_ 1
          obtain ⟨VE, hE⟩ : ∃ G, ((v3.setCell ⟨y, 0, none⟩ (.slice an S1.length cn)).setCell ⟨y, 1, none⟩ (.slice en F1.length dn)) = G := ⟨_, rfl⟩
          obtain ⟨s1, s2, s3, s4⟩ := set2T by_ _ _ hE
          have hnb := own_other TN by_ (by decide) (by decide)
          have TE : TabO (yx + 1) VE (.slice an S1.length cn) (.slice en F1.length dn) S1 F1 := ⟨own_keep TN.hds (fun g hg => s2 g (fun e => hnb.1 (e ▸ hg))), own_keep TN.ints (fun g hg => s2 g (fun e => hnb.2 (e ▸ hg)))⟩
          have hSE : Keeps w4 VE := ⟨s4 _ _ hyW hS.below⟩
          refine wh_skip 9 none VE (by kernel_rfl) rfl rfl (by rfl) (by rw [← hE]; go_simp) hSE ?_
          simp only [Act.put]
          refine wh_val 10 (some 11) (.int .i64 C1) VE (by kernel_rfl) rfl rfl (by rfl) (by rfl) hSE ?_
          simp only [Act.put, List.setIfInBounds_toArray, List.set_cons_zero, List.set_cons_succ]
          refine wh_val 11 (some 12) (.int .i64 C2) VE (by kernel_rfl) rfl rfl (by rfl) (by rfl) hSE ?_
          simp only [Act.put, List.setIfInBounds_toArray, List.set_cons_zero, List.set_cons_succ]
          refine wh_done (by kernel_rfl) ?_
          go_wp2
          go_meet
          exact ⟨⟨⟨y, _, _, rfl, hly, s1, TE⟩, hSE.below⟩, rfl, rfl⟩
        · obtain ⟨y, hy⟩ : ∃ y, v1.heap.size = y := ⟨_, rfl⟩
          have hba : Below v1.heap.size v1 (v1.alloc (.cells #[.slice none 0 0, .slice none 0 0] 30)) := bel_alloc (Below.refl _ _) _
          have hS1 := hS.step hba
          refine wo_val (some 10) (.pointer (some ⟨v1.heap.size, 0, none⟩)) (v1.alloc (.cells #[.slice none 0 0, .slice none 0 0] 30)) rfl rfl (by rfl) (by go_simp) hS1 ?_
          simp only [Act.put, List.setIfInBounds_toArray, List.set_cons_zero, List.set_cons_succ]
          have by_ : (v1.alloc (.cells #[.slice none 0 0, .slice none 0 0] 30)).heap[y]? = some (.cells #[.slice none 0 0, .slice none 0 0] 30 (0, 0)) := by rw [← hy]; exact heap_alloc_new _ _
          have hly : yx + 1 ≤ y := by have h1 := HLO.out; have h2 := hS.below.size; omega
          have hyW : w4.heap.size ≤ y := by have h2 := hS.below.size; omega
          replace hsx := hsx.below hba
          replace hix := hix.below hba
          rw [hy]
          obtain ⟨v4, hW⟩ : ∃ G, v1.alloc (.cells #[.slice none 0 0, .slice none 0 0] 30) = G := ⟨_, rfl⟩
          rw [hW] at hS1 by_ ⊢
          rw [hW] at hsx hix
          replace hS := hS1
          clear hS1 hba hW hy
          refine wh_call 3 (some 39) 16 #[.agg #[.slice ax S.length cx, .slice ex F.length dx], .agg #[.bool q0.u, .int .i64 q0.r, .int .i64 q0.p, .bool q0.o, .int .i64 q0.l, .int .i64 q0.s]] (by kernel_rfl) rfl rfl (by rfl) (by kernel_rfl) ?_
          refine (IM.out v4 ax ex cx dx lS lF hsx hix hdx).mono ?_
          rintro e v5 ⟨v, u, rfl, TN, hb⟩
          replace TN : Hid (TabO (yx + 1) v5 v u S1 F1) := TN.out.base (by have h1 := HLO.out; have h2 := hS.below.size; omega)
          replace by_ := (hb.block y (lt_of_block by_)).trans by_
          replace hS := hS.step hb
          refine ⟨_, rfl, hS, ?_⟩
          simp only [Act.put, List.setIfInBounds_toArray, List.set_cons_zero, List.set_cons_succ]
          clear hb
          obtain ⟨an, cn, en, dn, rfl, rfl, _, _, _⟩ := TN.out.shape2
          replace TN : TabO (yx + 1) v5 (.slice an S1.length cn) (.slice en F1.length dn) S1 F1 := TN
          refine wh_take 4 (some 35) (.tuple #[.agg #[.slice an S1.length cn, .slice en F1.length dn], .int .i64 C1, .int .i64 C2]) rfl rfl (by kernel_rfl) (by kernel_rfl) (by kernel_rfl) (fun _ _ _ h => h) hS (by rfl) (fun w' hS => by go_simp) ?_
          simp only [Act.put, List.setIfInBounds_toArray, List.set_cons_zero, List.set_cons_succ]
          refine wh_take 5 (some 40) (.agg #[.slice an S1.length cn, .slice en F1.length dn]) rfl rfl (by kernel_rfl) (by kernel_rfl) (by kernel_rfl) (fun _ _ _ h => h) hS (by rfl) (fun w' hS => by first | rfl | go_simp) ?_
          simp only [Act.put, List.setIfInBounds_toArray, List.set_cons_zero, List.set_cons_succ]
          refine wh_take 6 (some 41) (.int .i64 C1) rfl rfl (by kernel_rfl) (by kernel_rfl) (by kernel_rfl) (fun _ _ _ h => h) hS (by rfl) (fun w' hS => by first | rfl | go_simp) ?_
          simp only [Act.put, List.setIfInBounds_toArray, List.set_cons_zero, List.set_cons_succ]
          refine wh_take 7 (some 42) (.int .i64 C2) rfl rfl (by kernel_rfl) (by kernel_rfl) (by kernel_rfl) (fun _ _ _ h => h) hS (by rfl) (fun w' hS => by first | rfl | go_simp) ?_
          simp only [Act.put, List.setIfInBounds_toArray, List.set_cons_zero, List.set_cons_succ]
          have j0 : v5.cell? ⟨y, 0, none⟩ = some (.slice none 0 0) := (cell_of_block by_ 0).trans rfl
          have g0 := free_of_block by_ 0
          have j1 : v5.cell? ⟨y, 1, none⟩ = some (.slice none 0 0) := (cell_of_block by_ 1).trans rfl
          have g1 := free_of_block by_ 1
          obtain ⟨VE, hE⟩ : ∃ G, ((v5.setCell ⟨y, 0, none⟩ (.slice an S1.length cn)).setCell ⟨y, 1, none⟩ (.slice en F1.length dn)) = G := ⟨_, rfl⟩
          obtain ⟨s1, s2, s3, s4⟩ := set2T by_ _ _ hE
          have hnb := own_other TN by_ (by decide) (by decide)
          have TE : TabO (yx + 1) VE (.slice an S1.length cn) (.slice en F1.length dn) S1 F1 := ⟨own_keep TN.hds (fun g hg => s2 g (fun e => hnb.1 (e ▸ hg))), own_keep TN.ints (fun g hg => s2 g (fun e => hnb.2 (e ▸ hg)))⟩
          have hSE : Keeps w4 VE := ⟨s4 _ _ hyW hS.below⟩
          refine wh_skip 9 none VE (by kernel_rfl) rfl rfl (by rfl) (by rw [← hE]; go_simp) hSE ?_
          simp only [Act.put]
          refine wh_val 10 (some 11) (.int .i64 C1) VE (by kernel_rfl) rfl rfl (by rfl) (by rfl) hSE ?_
          simp only [Act.put, List.setIfInBounds_toArray, List.set_cons_zero, List.set_cons_succ]
          refine wh_val 11 (some 12) (.int .i64 C2) VE (by kernel_rfl) rfl rfl (by rfl) (by rfl) hSE ?_
          simp only [Act.put, List.setIfInBounds_toArray, List.set_cons_zero, List.set_cons_succ]
          refine wh_done (by kernel_rfl) ?_
          go_wp2
          go_meet
          exact ⟨⟨⟨y, _, _, rfl, hly, s1, TE⟩, hSE.below⟩, rfl, rfl⟩
      · obtain ⟨y, hy⟩ : ∃ y, W0.heap.size = y := ⟨_, rfl⟩
        have hba : Below W0.heap.size W0 (W0.alloc (.cells #[.slice none 0 0, .slice none 0 0] 30)) := bel_alloc (Below.refl _ _) _
        have hS1 := hS.step hba
        refine wo_val (some 10) (.pointer (some ⟨W0.heap.size, 0, none⟩)) (W0.alloc (.cells #[.slice none 0 0, .slice none 0 0] 30)) rfl rfl (by rfl) (by go_simp) hS1 ?_
        simp only [Act.put, List.setIfInBounds_toArray, List.set_cons_zero, List.set_cons_succ]
        have by_ : (W0.alloc (.cells #[.slice none 0 0, .slice none 0 0] 30)).heap[y]? = some (.cells #[.slice none 0 0, .slice none 0 0] 30 (0, 0)) := by rw [← hy]; exact heap_alloc_new _ _
        have hly : yx + 1 ≤ y := by have h1 := HLO.out; have h2 := hS.below.size; omega
        have hyW : w4.heap.size ≤ y := by have h2 := hS.below.size; omega
        replace hsx := hsx.below hba
        replace hix := hix.below hba
        rw [hy]
        obtain ⟨v6, hW⟩ : ∃ G, W0.alloc (.cells #[.slice none 0 0, .slice none 0 0] 30) = G := ⟨_, rfl⟩
        rw [hW] at hS1 by_ ⊢
        rw [hW] at hsx hix
        replace hS := hS1
        clear hS1 hba hW hy
        refine wh_call 2 (some 38) 15 #[.agg #[.bool q0.u, .int .i64 q0.r, .int .i64 q0.p, .bool q0.o, .int .i64 q0.l, .int .i64 q0.s]] (by kernel_rfl) rfl rfl (by rfl) (by kernel_rfl) ?_
        refine (TH0 v6).mono ?_
        rintro e v7 ⟨rfl, hb⟩
        replace hsx := hsx.below hb
        replace hix := hix.below hb
        replace by_ := (hb.block y (lt_of_block by_)).trans by_
        replace hS := hS.step hb
        refine ⟨_, rfl, hS, ?_⟩
        simp only [Act.put, List.setIfInBounds_toArray, List.set_cons_zero, List.set_cons_succ]
        clear hb
        refine wh_call 3 (some 39) 16 #[.agg #[.slice ax S.length cx, .slice ex F.length dx], .agg #[.bool q0.u, .int .i64 q0.r, .int .i64 q0.p, .bool q0.o, .int .i64 q0.l, .int .i64 q0.s]] (by kernel_rfl) rfl rfl (by rfl) (by kernel_rfl) ?_
        refine (IM.out v7 ax ex cx dx lS lF hsx hix hdx).mono ?_
        rintro e v8 ⟨v, u, rfl, TN, hb⟩
        replace TN : Hid (TabO (yx + 1) v8 v u S1 F1) := TN.out.base (by have h1 := HLO.out; have h2 := hS.below.size; omega)
        replace by_ := (hb.block y (lt_of_block by_)).trans by_
        replace hS := hS.step hb
        refine ⟨_, rfl, hS, ?_⟩
        simp only [Act.put, List.setIfInBounds_toArray, List.set_cons_zero, List.set_cons_succ]
        clear hb
        obtain ⟨an, cn, en, dn, rfl, rfl, _, _, _⟩ := TN.out.shape2
        replace TN : TabO (yx + 1) v8 (.slice an S1.length cn) (.slice en F1.length dn) S1 F1 := TN
        refine wh_take 4 (some 35) (.tuple #[.agg #[.slice an S1.length cn, .slice en F1.length dn], .int .i64 C1, .int .i64 C2]) rfl rfl (by kernel_rfl) (by kernel_rfl) (by kernel_rfl) (fun _ _ _ h => h) hS (by rfl) (fun w' hS => by go_simp) ?_
        simp only [Act.put, List.setIfInBounds_toArray, List.set_cons_zero, List.set_cons_succ]
        refine wh_take 5 (some 40) (.agg #[.slice an S1.length cn, .slice en F1.length dn]) rfl rfl (by kernel_rfl) (by kernel_rfl) (by kernel_rfl) (fun _ _ _ h => h) hS (by rfl) (fun w' hS => by first | rfl | go_simp) ?_
        simp only [Act.put, List.setIfInBounds_toArray, List.set_cons_zero, List.set_cons_succ]
        refine wh_take 6 (some 41) (.int .i64 C1) rfl rfl (by kernel_rfl) (by kernel_rfl) (by kernel_rfl) (fun _ _ _ h => h) hS (by rfl) (fun w' hS => by first | rfl | go_simp) ?_
        simp only [Act.put, List.setIfInBounds_toArray, List.set_cons_zero, List.set_cons_succ]
        refine wh_take 7 (some 42) (.int .i64 C2) rfl rfl (by kernel_rfl) (by kernel_rfl) (by kernel_rfl) (fun _ _ _ h => h) hS (by rfl) (fun w' hS => by first | rfl | go_simp) ?_
        simp only [Act.put, List.setIfInBounds_toArray, List.set_cons_zero, List.set_cons_succ]
        have j0 : v8.cell? ⟨y, 0, none⟩ = some (.slice none 0 0) := (cell_of_block by_ 0).trans rfl
        have g0 := free_of_block by_ 0
        have j1 : v8.cell? ⟨y, 1, none⟩ = some (.slice none 0 0) := (cell_of_block by_ 1).trans rfl
        have g1 := free_of_block by_ 1
        obtain ⟨VE, hE⟩ : ∃ G, ((v8.setCell ⟨y, 0, none⟩ (.slice an S1.length cn)).setCell ⟨y, 1, none⟩ (.slice en F1.length dn)) = G := ⟨_, rfl⟩
        obtain ⟨s1, s2, s3, s4⟩ := set2T by_ _ _ hE
        have hnb := own_other TN by_ (by decide) (by decide)
        have TE : TabO (yx + 1) VE (.slice an S1.length cn) (.slice en F1.length dn) S1 F1 := ⟨own_keep TN.hds (fun g hg => s2 g (fun e => hnb.1 (e ▸ hg))), own_keep TN.ints (fun g hg => s2 g (fun e => hnb.2 (e ▸ hg)))⟩
        have hSE : Keeps w4 VE := ⟨s4 _ _ hyW hS.below⟩
        refine wh_skip 9 none VE (by kernel_rfl) rfl rfl (by rfl) (by rw [← hE]; go_simp) hSE ?_
        simp only [Act.put]
        refine wh_val 10 (some 11) (.int .i64 C1) VE (by kernel_rfl) rfl rfl (by rfl) (by rfl) hSE ?_
        simp only [Act.put, List.setIfInBounds_toArray, List.set_cons_zero, List.set_cons_succ]
        refine wh_val 11 (some 12) (.int .i64 C2) VE (by kernel_rfl) rfl rfl (by rfl) (by rfl) hSE ?_
        simp only [Act.put, List.setIfInBounds_toArray, List.set_cons_zero, List.set_cons_succ]
        refine wh_done (by kernel_rfl) ?_
        go_wp2
        go_meet
        exact ⟨⟨⟨y, _, _, rfl, hly, s1, TE⟩, hSE.below⟩, rfl, rfl⟩
    case rest =>
    obtain ⟨HOU, rfl, rfl⟩ := hcut
    obtain ⟨⟨yg, v, u, rfl, HLg, bgt, Tg⟩, hb⟩ := HOU.out
    obtain ⟨w5, hwq⟩ : ∃ W, wc = W := ⟨_, rfl⟩
    rw [hwq] at HOU hb bgt Tg ⊢
    clear HOU hwq HLO
    replace bz := (hb.block (z) (lt_of_block bz)).trans bz
    replace bq0 := (hb.block (z + 1) (lt_of_block bq0)).trans bq0
    replace bnt := (hb.block (ys) (lt_of_block bnt)).trans bnt
    replace bx := (hb.block (yx) (lt_of_block bx)).trans bx
    replace Tn : Hid (TabO (z + 1 + 1) w5 (.slice an S1.length cn) (.slice en F1.length dn) S1 F1) := Tn.out.below hb
    replace Tx : Hid (TabO (Bx) w5 (.slice ax S.length cx) (.slice ex F.length dx) S F) := Tx.out.below hb
    replace Lz : Hid (z + 1 + 1 ≤ w5.heap.size) := Nat.le_trans Lz.out hb.size
    replace Lyx : Hid (yx + 1 ≤ w5.heap.size) := Nat.le_trans Lyx.out hb.size
    replace HB : Hid (Below w.heap.size w w5) := bel_step HB.out hb
    obtain ⟨ag, cg, eg, dg, rfl, rfl, _, _, _⟩ := Tg.shape2
    replace Tg : Hid (TabO (yx + 1) w5 (.slice ag S1.length cg) (.slice eg F1.length dg) S1 F1) := Tg
    have HZg : Hid (yx + 1 ≤ yg ∧ yg < w5.heap.size) := ⟨HLg, lt_of_block bgt⟩
    clear hb HLg
    clear hsx hix hdx
    have pgt0 : w5.cell? ⟨yg, 0, none⟩ = some (.slice ag S1.length cg) := (cell_of_block bgt 0).trans rfl
    have pgt1 : w5.cell? ⟨yg, 1, none⟩ = some (.slice eg F1.length dg) := (cell_of_block bgt 1).trans rfl
    have pnt0 : w5.cell? ⟨ys, 0, none⟩ = some (.slice an S1.length cn) := (cell_of_block bnt 0).trans rfl
    have pnt1 : w5.cell? ⟨ys, 1, none⟩ = some (.slice en F1.length dn) := (cell_of_block bnt 1).trans rfl
    have EE := eqTabO Tg Tn (by omega) (by omega)
    go_wp2_with fail
    clear hN hyx
    refine EE.mono ?_
    rintro e w6 ⟨rfl, hb⟩
    replace bz := (hb.block (z) (lt_of_block bz)).trans bz
    replace bq0 := (hb.block (z + 1) (lt_of_block bq0)).trans bq0
    replace bnt := (hb.block (ys) (lt_of_block bnt)).trans bnt
    replace bx := (hb.block (yx) (lt_of_block bx)).trans bx
    replace bgt := (hb.block (yg) (lt_of_block bgt)).trans bgt
    replace Tn : Hid (TabO (z + 1 + 1) w6 (.slice an S1.length cn) (.slice en F1.length dn) S1 F1) := Tn.out.below hb
    replace Tx : Hid (TabO (Bx) w6 (.slice ax S.length cx) (.slice ex F.length dx) S F) := Tx.out.below hb
    replace Tg : Hid (TabO (yx + 1) w6 (.slice ag S1.length cg) (.slice eg F1.length dg) S1 F1) := Tg.out.below hb
    replace Lz : Hid (z + 1 + 1 ≤ w6.heap.size) := Nat.le_trans Lz.out hb.size
    replace Lyx : Hid (yx + 1 ≤ w6.heap.size) := Nat.le_trans Lyx.out hb.size
    replace HB : Hid (Below w.heap.size w w6) := bel_step HB.out hb
    clear hb EE pgt0 pgt1 pnt0 pnt1
    go_wp2
    have KX : ∀ w', Keeps w6 w' → w'.heap[yx]? = some (.cells #[.slice ax S.length cx, .slice ex F.length dx] 30 (0, 0)) := fun w' h => (h.below.block yx (lt_of_block bx)).trans bx
    have KZ : ∀ w', Keeps w6 w' → w'.heap[z]? = some (.cells #[.slice a S.length c, .slice b F.length d] 25 (0, 0)) := fun w' h => (h.below.block z (lt_of_block bz)).trans bz
    refine wh_begin (Keeps w6) (by kernel_rfl) ?_
    have hS0 : Keeps w6 w6.drew := Keeps.drew w6
    refine wh_take 0 (some 57) (.agg #[.slice ax S.length cx, .slice ex F.length dx]) rfl rfl (by kernel_rfl) (by kernel_rfl) (by kernel_rfl) (fun _ _ _ h => h) hS0 (by rfl) (fun w' hS => by have hq := KX _ hS; have q0 : w'.cell? ⟨yx, 0, none⟩ = some (.slice ax S.length cx) := (cell_of_block hq 0).trans rfl; have q1 : w'.cell? ⟨yx, 1, none⟩ = some (.slice ex F.length dx) := (cell_of_block hq 1).trans rfl; clear hq; go_simp) ?_
    simp only [Act.put, List.setIfInBounds_toArray, List.set_cons_zero, List.set_cons_succ]
    refine wh_take 1 (some 58) (.agg #[.slice a S.length c, .slice b F.length d]) rfl rfl (by kernel_rfl) (by kernel_rfl) (by kernel_rfl) (fun _ _ _ h => h) hS0 (by rfl) (fun w' hS => by have hq := KZ _ hS; have q0 : w'.cell? ⟨z, 0, none⟩ = some (.slice a S.length c) := (cell_of_block hq 0).trans rfl; have q1 : w'.cell? ⟨z, 1, none⟩ = some (.slice b F.length d) := (cell_of_block hq 1).trans rfl; clear hq; go_simp) ?_
    simp only [Act.put, List.setIfInBounds_toArray, List.set_cons_zero, List.set_cons_succ]
    refine wh_call 2 (some 59) 11 #[.agg #[.slice a S.length c, .slice b F.length d]] (by kernel_rfl) rfl rfl (by rfl) (by kernel_rfl) ?_
    refine (TT.out _ (bel_step HB.out hS0.below)).mono ?_
    rintro e wb ⟨v, u, rfl, Tb, hbb⟩
    have hSb : Keeps w6 wb := hS0.step hbb
    refine ⟨_, rfl, hSb, ?_⟩
    obtain ⟨ab, cb, eb, db, rfl, rfl, _, _, _⟩ := Tb.out.shape2
    have Txb : Hid (TabO Bx wb (.slice ax S.length cx) (.slice ex F.length dx) S F) := Tx.out.below hSb.below
    have EE := eqTabO Txb Tb (by omega) (by omega)
    simp only [Act.put, List.setIfInBounds_toArray, List.set_cons_zero, List.set_cons_succ]
    refine wh_call 3 (some 60) 13 #[.agg #[.slice ax S.length cx, .slice ex F.length dx], .agg #[.slice ab S.length cb, .slice eb F.length db]] (by kernel_rfl) rfl rfl (by rfl) (by kernel_rfl) ?_
    refine EE.mono ?_
    rintro e w7 ⟨rfl, hbc⟩
    have hSc : Keeps w6 w7 := hSb.step hbc
    refine ⟨_, rfl, hSc, ?_⟩
    simp only [Act.put, List.setIfInBounds_toArray, List.set_cons_zero, List.set_cons_succ]
    refine wh_val 4 (some 61) (.bool false) w7 (by kernel_rfl) rfl rfl (by rfl) (by rfl) hSc ?_
    simp only [Act.put, List.setIfInBounds_toArray, List.set_cons_zero, List.set_cons_succ]
    refine wh_done (by kernel_rfl) ?_
    have hb := hSc.below
    replace bz := (hb.block (z) (lt_of_block bz)).trans bz
    replace bq0 := (hb.block (z + 1) (lt_of_block bq0)).trans bq0
    replace bnt := (hb.block (ys) (lt_of_block bnt)).trans bnt
    replace bx := (hb.block (yx) (lt_of_block bx)).trans bx
    replace bgt := (hb.block (yg) (lt_of_block bgt)).trans bgt
    replace Tn : Hid (TabO (z + 1 + 1) w7 (.slice an S1.length cn) (.slice en F1.length dn) S1 F1) := Tn.out.below hb
    replace Tx : Hid (TabO (Bx) w7 (.slice ax S.length cx) (.slice ex F.length dx) S F) := Tx.out.below hb
    replace Tg : Hid (TabO (yx + 1) w7 (.slice ag S1.length cg) (.slice eg F1.length dg) S1 F1) := Tg.out.below hb
    replace Lz : Hid (z + 1 + 1 ≤ w7.heap.size) := Nat.le_trans Lz.out hb.size
    replace Lyx : Hid (yx + 1 ≤ w7.heap.size) := Nat.le_trans Lyx.out hb.size
    replace HB : Hid (Below w.heap.size w w7) := bel_step HB.out hb
    clear hb EE Txb Tb hbb hbc hS0 hSb hSc KX KZ
    have px0 : w7.cell? ⟨yx, 0, none⟩ = some (.slice ax S.length cx) := (cell_of_block bx 0).trans rfl
    have px1 : w7.cell? ⟨yx, 1, none⟩ = some (.slice ex F.length dx) := (cell_of_block bx 1).trans rfl
    have MM := markTabO Bx (.slice ax S.length cx) (.slice ex F.length dx) S F w7 Tx lS lF (by unfold Hid; have o1 := HX1.out; have o2 := lt_of_block bx; omega)
    have hnz := own_other Tx.out bz (by decide) (by decide)
    have hnq0 := own_other Tx.out bq0 (by decide) (by decide)
    have hnnt := own_other Tx.out bnt (by decide) (by decide)
    have hnx := own_other Tx.out bx (by decide) (by decide)
    have hngt := own_other Tx.out bgt (by decide) (by decide)
    have hnn : ∀ g, (Value.slice an S1.length cn).ownBlock = some g ∨ (Value.slice en F1.length dn).ownBlock = some g → ¬ ((Value.slice ax S.length cx).ownBlock = some g ∨ (Value.slice ex F.length dx).ownBlock = some g) := fun g h1 h2 => by have o1 := HVn.out g h1; have o2 : Bx ≤ g := h2.elim (fun h => (Tx.out.hds.lt g h).1) (fun h => (Tx.out.ints.lt g h).1); omega
    have hng : ∀ g, (Value.slice ag S1.length cg).ownBlock = some g ∨ (Value.slice eg F1.length dg).ownBlock = some g → ¬ ((Value.slice ax S.length cx).ownBlock = some g ∨ (Value.slice ex F.length dx).ownBlock = some g) := fun g h1 h2 => by have o1 := HVx.out g h2; have o2 : yx + 1 ≤ g := h1.elim (fun h => (Tg.out.hds.lt g h).1) (fun h => (Tg.out.ints.lt g h).1); omega
    go_wp2_with fail
    refine MM.mono ?_
    rintro e w8 ⟨rfl, _, hbm, hcm⟩
    replace bz := (hcm.out (z) (lt_of_block bz) hnz.1 hnz.2).trans bz
    replace bq0 := (hcm.out (z + 1) (lt_of_block bq0) hnq0.1 hnq0.2).trans bq0
    replace bnt := (hcm.out (ys) (lt_of_block bnt) hnnt.1 hnnt.2).trans bnt
    replace bx := (hcm.out (yx) (lt_of_block bx) hnx.1 hnx.2).trans bx
    replace bgt := (hcm.out (yg) (lt_of_block bgt) hngt.1 hngt.2).trans bgt
    replace Tn : Hid (TabO (z + 1 + 1) w8 (.slice an S1.length cn) (.slice en F1.length dn) S1 F1) := tab_other Tn.out Tx.out hnn hcm.out
    replace Tg : Hid (TabO (yx + 1) w8 (.slice ag S1.length cg) (.slice eg F1.length dg) S1 F1) := tab_other Tg.out Tx.out hng hcm.out
    replace Lz : Hid (z + 1 + 1 ≤ w8.heap.size) := Nat.le_trans Lz.out hbm.out.size
    replace Lyx : Hid (yx + 1 ≤ w8.heap.size) := Nat.le_trans Lyx.out hbm.out.size
    replace HB : Hid (Below w.heap.size w w8) := HB.out.trans (hbm.out.mono (by have o1 := HB0.out.2; have o2 := Ox.out; omega))
    have hks : ¬ (1 + 6 * (S.length : Int) + (F.length : Int)) < 0 := by omega
    have hkd : decide ((1 + 6 * (S.length : Int) + (F.length : Int)) < 0) = false := by simpa using hks
    clear MM hbm hcm Tx hnn hng hnz hnq0 hnnt hnx hngt px0 px1
    clear bx
    have pgt0 : w8.cell? ⟨yg, 0, none⟩ = some (.slice ag S1.length cg) := (cell_of_block bgt 0).trans rfl
    have pgt1 : w8.cell? ⟨yg, 1, none⟩ = some (.slice eg F1.length dg) := (cell_of_block bgt 1).trans rfl
    have pnt0 : w8.cell? ⟨ys, 0, none⟩ = some (.slice an S1.length cn) := (cell_of_block bnt 0).trans rfl
    have pnt1 : w8.cell? ⟨ys, 1, none⟩ = some (.slice en F1.length dn) := (cell_of_block bnt 1).trans rfl
    have EE := eqTabO Tg Tn (by omega) (by omega)
    go_wp2_with fail
    refine EE.mono ?_
    rintro e w9 ⟨rfl, hb⟩
    replace bz := (hb.block (z) (lt_of_block bz)).trans bz
    replace bq0 := (hb.block (z + 1) (lt_of_block bq0)).trans bq0
    replace bnt := (hb.block (ys) (lt_of_block bnt)).trans bnt
    replace bgt := (hb.block (yg) (lt_of_block bgt)).trans bgt
    replace Tn : Hid (TabO (z + 1 + 1) w9 (.slice an S1.length cn) (.slice en F1.length dn) S1 F1) := Tn.out.below hb
    replace Tg : Hid (TabO (yx + 1) w9 (.slice ag S1.length cg) (.slice eg F1.length dg) S1 F1) := Tg.out.below hb
    replace Lz : Hid (z + 1 + 1 ≤ w9.heap.size) := Nat.le_trans Lz.out hb.size
    replace Lyx : Hid (yx + 1 ≤ w9.heap.size) := Nat.le_trans Lyx.out hb.size
    replace HB : Hid (Below w.heap.size w w9) := bel_step HB.out hb
    clear hb EE pgt0 pgt1 pnt0 pnt1
    have pgt0 : w9.cell? ⟨yg, 0, none⟩ = some (.slice ag S1.length cg) := (cell_of_block bgt 0).trans rfl
    have pgt1 : w9.cell? ⟨yg, 1, none⟩ = some (.slice eg F1.length dg) := (cell_of_block bgt 1).trans rfl
    have MM := markTabO (yx + 1) (.slice ag S1.length cg) (.slice eg F1.length dg) S1 F1 w9 Tg lS1 lF1 (by unfold Hid; have o1 := HZg.out; have o2 := lt_of_block bgt; omega)
    have hnz := own_other Tg.out bz (by decide) (by decide)
    have hnq0 := own_other Tg.out bq0 (by decide) (by decide)
    have hnnt := own_other Tg.out bnt (by decide) (by decide)
    have hngt := own_other Tg.out bgt (by decide) (by decide)
    have hnn : ∀ g, (Value.slice an S1.length cn).ownBlock = some g ∨ (Value.slice en F1.length dn).ownBlock = some g → ¬ ((Value.slice ag S1.length cg).ownBlock = some g ∨ (Value.slice eg F1.length dg).ownBlock = some g) := fun g h1 h2 => by have o1 := HVn.out g h1; have o3 := HX1.out; have o2 : yx + 1 ≤ g := h2.elim (fun h => (Tg.out.hds.lt g h).1) (fun h => (Tg.out.ints.lt g h).1); omega
    go_wp2_with fail
    refine MM.mono ?_
    rintro e w10 ⟨rfl, Tg2, hbm, hcm⟩
    replace bz := (hcm.out (z) (lt_of_block bz) hnz.1 hnz.2).trans bz
    replace bq0 := (hcm.out (z + 1) (lt_of_block bq0) hnq0.1 hnq0.2).trans bq0
    replace bnt := (hcm.out (ys) (lt_of_block bnt) hnnt.1 hnnt.2).trans bnt
    replace bgt := (hcm.out (yg) (lt_of_block bgt) hngt.1 hngt.2).trans bgt
    replace Tn : Hid (TabO (z + 1 + 1) w10 (.slice an S1.length cn) (.slice en F1.length dn) S1 F1) := tab_other Tn.out Tg.out hnn hcm.out
    replace Lz : Hid (z + 1 + 1 ≤ w10.heap.size) := Nat.le_trans Lz.out hbm.out.size
    replace Lyx : Hid (yx + 1 ≤ w10.heap.size) := Nat.le_trans Lyx.out hbm.out.size
    replace HB : Hid (Below w.heap.size w w10) := HB.out.trans (hbm.out.mono (by have o1 := HB0.out.2; have o2 := Ox.out; have o3 := HX1.out; omega))
    clear MM hbm hcm hks hkd Tg hnn hnz hnq0 hnnt hngt pgt0 pgt1
    have Tg : Hid (Marked (yx + 1) w10 (.slice ag S1.length cg) (.slice eg F1.length dg) S1.length F1.length) := Tg2
    clear Tg2
    have pgt0 : w10.cell? ⟨yg, 0, none⟩ = some (.slice ag S1.length cg) := (cell_of_block bgt 0).trans rfl
    have pgt1 : w10.cell? ⟨yg, 1, none⟩ = some (.slice eg F1.length dg) := (cell_of_block bgt 1).trans rfl
    have MM := heldTab (yx + 1) (.slice ag S1.length cg) (.slice eg F1.length dg) S1.length F1.length w10 Tg lS1 lF1
    go_wp2_with fail
    refine MM.mono ?_
    rintro e w11 ⟨rfl, hb⟩
    replace bz := (hb.block (z) (lt_of_block bz)).trans bz
    replace bq0 := (hb.block (z + 1) (lt_of_block bq0)).trans bq0
    replace bnt := (hb.block (ys) (lt_of_block bnt)).trans bnt
    replace bgt := (hb.block (yg) (lt_of_block bgt)).trans bgt
    replace Tn : Hid (TabO (z + 1 + 1) w11 (.slice an S1.length cn) (.slice en F1.length dn) S1 F1) := Tn.out.below hb
    replace Tg : Hid (Marked (yx + 1) w11 (.slice ag S1.length cg) (.slice eg F1.length dg) S1.length F1.length) := TabO.below Tg.out hb
    replace Lz : Hid (z + 1 + 1 ≤ w11.heap.size) := Nat.le_trans Lz.out hb.size
    replace Lyx : Hid (yx + 1 ≤ w11.heap.size) := Nat.le_trans Lyx.out hb.size
    replace HB : Hid (Below w.heap.size w w11) := bel_step HB.out hb
    clear MM hb pgt0 pgt1
    have hks : ¬ (1 + 6 * (S1.length : Int) + (F1.length : Int)) < 0 := by omega
    have HLO : Hid (z + 1 + 1 ≤ w11.heap.size) := Lz.out
    go_upto_region 24 with fail
    go_cut [16, 17, 18] (fun sa sb sc wx => Hid (OutAt w11 (z + 1 + 1) wx sa S1 F1) ∧ sb = .int .i64 C1 ∧ sc = .int .i64 C2)
    case first =>
      go_wp2
      have KZ : ∀ w', Keeps w11 w' → w'.heap[z]? = some (.cells #[.slice a S.length c, .slice b F.length d] 25 (0, 0)) := fun w' h => (h.below.block z (lt_of_block bz)).trans bz
      have KQ : ∀ w', Keeps w11 w' → w'.heap[z + 1]? = some (.cells #[.bool q0.u, .int .i64 q0.r, .int .i64 q0.p, .bool q0.o, .int .i64 q0.l, .int .i64 q0.s] 35 (0, 0)) := fun w' h => (h.below.block (z + 1) (lt_of_block bq0)).trans bq0
      refine wh_begin (Keeps w11) (by kernel_rfl) ?_
      have hS : Keeps w11 w11.drew := Keeps.drew w11
      refine wh_take 0 (some 95) (.agg #[.slice a S.length c, .slice b F.length d]) rfl rfl (by kernel_rfl) (by kernel_rfl) (by kernel_rfl) (fun _ _ _ h => h) hS (by rfl) (fun w' hS => by have hq := KZ _ hS; have q0 : w'.cell? ⟨z, 0, none⟩ = some (.slice a S.length c) := (cell_of_block hq 0).trans rfl; have q1 : w'.cell? ⟨z, 1, none⟩ = some (.slice b F.length d) := (cell_of_block hq 1).trans rfl; clear hq; go_simp) ?_
      simp only [Act.put, List.setIfInBounds_toArray, List.set_cons_zero, List.set_cons_succ]
      refine wh_take 2 (some 97) (.agg #[.bool q0.u, .int .i64 q0.r, .int .i64 q0.p, .bool q0.o, .int .i64 q0.l, .int .i64 q0.s]) rfl rfl (by kernel_rfl) (by kernel_rfl) (by kernel_rfl) (fun _ _ _ h => h) hS (by rfl) (fun w' hS => by have hq := KQ _ hS; have j0 : w'.cell? ⟨z + 1, 0, none⟩ = some (.bool q0.u) := (cell_of_block hq 0).trans rfl; have j1 : w'.cell? ⟨z + 1, 1, none⟩ = some (.int .i64 q0.r) := (cell_of_block hq 1).trans rfl; have j2 : w'.cell? ⟨z + 1, 2, none⟩ = some (.int .i64 q0.p) := (cell_of_block hq 2).trans rfl; have j3 : w'.cell? ⟨z + 1, 3, none⟩ = some (.bool q0.o) := (cell_of_block hq 3).trans rfl; have j4 : w'.cell? ⟨z + 1, 4, none⟩ = some (.int .i64 q0.l) := (cell_of_block hq 4).trans rfl; have j5 : w'.cell? ⟨z + 1, 5, none⟩ = some (.int .i64 q0.s) := (cell_of_block hq 5).trans rfl; clear hq; go_simp) ?_
      simp only [Act.put, List.setIfInBounds_toArray, List.set_cons_zero, List.set_cons_succ]
      obtain ⟨W0, hW⟩ : ∃ G, w11.drew = G := ⟨_, rfl⟩
      rw [hW] at hS ⊢
      clear hW KZ KQ
      refine wh_two 1 9 (by kernel_rfl) ?_ ?_
      · refine wo_call (some 96) 11 #[.agg #[.slice a S.length c, .slice b F.length d]] rfl rfl (by rfl) (by kernel_rfl) ?_
        refine (TT.out W0 (bel_step HB.out hS.below)).mono ?_
        rintro e v1 ⟨v, u, rfl, Ti, hb⟩
        obtain ⟨ai, ci, ei, di, rfl, rfl, hsi, hii, hdi⟩ := Ti.out.shape2
        clear Ti
        replace hS := hS.step hb
        refine ⟨_, rfl, hS, ?_⟩
        simp only [Act.put, List.setIfInBounds_toArray, List.set_cons_zero, List.set_cons_succ]
        clear hb
        refine wh_two 3 9 (by kernel_rfl) ?_ ?_
        · refine wo_call (some 98) 15 #[.agg #[.bool q0.u, .int .i64 q0.r, .int .i64 q0.p, .bool q0.o, .int .i64 q0.l, .int .i64 q0.s]] rfl rfl (by rfl) (by kernel_rfl) ?_
          refine (TH0 v1).mono ?_
          rintro e v2 ⟨rfl, hb⟩
          replace hsi := hsi.below hb
          replace hii := hii.below hb
          replace hS := hS.step hb
          refine ⟨_, rfl, hS, ?_⟩
          simp only [Act.put, List.setIfInBounds_toArray, List.set_cons_zero, List.set_cons_succ]
          clear hb
          refine wh_two 4 9 (by kernel_rfl) ?_ ?_
          · refine wo_call (some 99) 16 #[.agg #[.slice ai S.length ci, .slice ei F.length di], .agg #[.bool q0.u, .int .i64 q0.r, .int .i64 q0.p, .bool q0.o, .int .i64 q0.l, .int .i64 q0.s]] rfl rfl (by rfl) (by kernel_rfl) ?_
            refine (IM.out v2 ai ei ci di lS lF hsi hii hdi).mono ?_
            rintro e v3 ⟨v, u, rfl, TN, hb⟩
            replace TN : Hid (TabO (z + 1 + 1) v3 v u S1 F1) := TN.out.base (by have h1 := HLO.out; have h2 := hS.below.size; omega)
            replace hS := hS.step hb
            refine ⟨_, rfl, hS, ?_⟩
            simp only [Act.put, List.setIfInBounds_toArray, List.set_cons_zero, List.set_cons_succ]
            clear hb
            obtain ⟨an, cn, en, dn, rfl, rfl, _, _, _⟩ := TN.out.shape2
            replace TN : TabO (z + 1 + 1) v3 (.slice an S1.length cn) (.slice en F1.length dn) S1 F1 := TN
            refine wh_take 5 (some 94) (.tuple #[.agg #[.slice an S1.length cn, .slice en F1.length dn], .int .i64 C1, .int .i64 C2]) rfl rfl (by kernel_rfl) (by kernel_rfl) (by kernel_rfl) (fun _ _ _ h => h) hS (by rfl) (fun w' hS => by go_simp) ?_
            simp only [Act.put, List.setIfInBounds_toArray, List.set_cons_zero, List.set_cons_succ]
            refine wh_take 6 (some 100) (.agg #[.slice an S1.length cn, .slice en F1.length dn]) rfl rfl (by kernel_rfl) (by kernel_rfl) (by kernel_rfl) (fun _ _ _ h => h) hS (by rfl) (fun w' hS => by first | rfl | go_simp) ?_
            simp only [Act.put, List.setIfInBounds_toArray, List.set_cons_zero, List.set_cons_succ]
            refine wh_take 7 (some 101) (.int .i64 C1) rfl rfl (by kernel_rfl) (by kernel_rfl) (by kernel_rfl) (fun _ _ _ h => h) hS (by rfl) (fun w' hS => by first | rfl | go_simp) ?_
            simp only [Act.put, List.setIfInBounds_toArray, List.set_cons_zero, List.set_cons_succ]
            refine wh_take 8 (some 102) (.int .i64 C2) rfl rfl (by kernel_rfl) (by kernel_rfl) (by kernel_rfl) (fun _ _ _ h => h) hS (by rfl) (fun w' hS => by first | rfl | go_simp) ?_
            simp only [Act.put, List.setIfInBounds_toArray, List.set_cons_zero, List.set_cons_succ]
            obtain ⟨y, hy⟩ : ∃ y, v3.heap.size = y := ⟨_, rfl⟩
            have hba : Below v3.heap.size v3 (v3.alloc (.cells #[.slice none 0 0, .slice none 0 0] 30)) := bel_alloc (Below.refl _ _) _
            have hS1 := hS.step hba
            refine wh_val 9 (some 16) (.pointer (some ⟨v3.heap.size, 0, none⟩)) (v3.alloc (.cells #[.slice none 0 0, .slice none 0 0] 30)) (by kernel_rfl) rfl rfl (by rfl) (by go_simp) hS1 ?_
            simp only [Act.put, List.setIfInBounds_toArray, List.set_cons_zero, List.set_cons_succ]
            have by_ : (v3.alloc (.cells #[.slice none 0 0, .slice none 0 0] 30)).heap[y]? = some (.cells #[.slice none 0 0, .slice none 0 0] 30 (0, 0)) := by rw [← hy]; exact heap_alloc_new _ _
            have hly : z + 1 + 1 ≤ y := by have h1 := HLO.out; have h2 := hS.below.size; omega
            have hyW : w11.heap.size ≤ y := by have h2 := hS.below.size; omega
            replace TN := TN.below hba
            rw [hy]
            obtain ⟨v4, hW⟩ : ∃ G, v3.alloc (.cells #[.slice none 0 0, .slice none 0 0] 30) = G := ⟨_, rfl⟩
            rw [hW] at hS1 by_ ⊢
            rw [hW] at TN
            replace hS := hS1
            clear hS1 hba hW hy
            have j0 : v4.cell? ⟨y, 0, none⟩ = some (.slice none 0 0) := (cell_of_block by_ 0).trans rfl
            have g0 := free_of_block by_ 0
            have j1 : v4.cell? ⟨y, 1, none⟩ = some (.slice none 0 0) := (cell_of_block by_ 1).trans rfl
            have g1 := free_of_block by_ 1
            obtain ⟨VE, hE⟩ : ∃ G, ((v4.setCell ⟨y, 0, none⟩ (.slice an S1.length cn)).setCell ⟨y, 1, none⟩ (.slice en F1.length dn)) = G := ⟨_, rfl⟩
            obtain ⟨s1, s2, s3, s4⟩ := set2T by_ _ _ hE
            have hnb := own_other TN by_ (by decide) (by decide)
            have TE : TabO (z + 1 + 1) VE (.slice an S1.length cn) (.slice en F1.length dn) S1 F1 := ⟨own_keep TN.hds (fun g hg => s2 g (fun e => hnb.1 (e ▸ hg))), own_keep TN.ints (fun g hg => s2 g (fun e => hnb.2 (e ▸ hg)))⟩
            have hSE : Keeps w11 VE := ⟨s4 _ _ hyW hS.below⟩
            refine wh_skip 10 none VE (by kernel_rfl) rfl rfl (by rfl) (by rw [← hE]; go_simp) hSE ?_
            simp only [Act.put]
            refine wh_val 11 (some 17) (.int .i64 C1) VE (by kernel_rfl) rfl rfl (by rfl) (by rfl) hSE ?_
            simp only [Act.put, List.setIfInBounds_toArray, List.set_cons_zero, List.set_cons_succ]
            refine wh_val 12 (some 18) (.int .i64 C2) VE (by kernel_rfl) rfl rfl (by rfl) (by rfl) hSE ?_
            simp only [Act.put, List.setIfInBounds_toArray, List.set_cons_zero, List.set_cons_succ]
            refine wh_done (by kernel_rfl) ?_
            go_wp2
            go_meet
            exact ⟨⟨⟨y, _, _, rfl, hly, s1, TE⟩, hSE.below⟩, rfl, rfl⟩
          · obtain ⟨y, hy⟩ : ∃ y, v2.heap.size = y := ⟨_, rfl⟩
            have hba : Below v2.heap.size v2 (v2.alloc (.cells #[.slice none 0 0, .slice none 0 0] 30)) := bel_alloc (Below.refl _ _) _
            have hS1 := hS.step hba
            refine wo_val (some 16) (.pointer (some ⟨v2.heap.size, 0, none⟩)) (v2.alloc (.cells #[.slice none 0 0, .slice none 0 0] 30)) rfl rfl (by rfl) (by go_simp) hS1 ?_
            simp only [Act.put, List.setIfInBounds_toArray, List.set_cons_zero, List.set_cons_succ]
            have by_ : (v2.alloc (.cells #[.slice none 0 0, .slice none 0 0] 30)).heap[y]? = some (.cells #[.slice none 0 0, .slice none 0 0] 30 (0, 0)) := by rw [← hy]; exact heap_alloc_new _ _
            have hly : z + 1 + 1 ≤ y := by have h1 := HLO.out; have h2 := hS.below.size; omega
            have hyW : w11.heap.size ≤ y := by have h2 := hS.below.size; omega
            replace hsi := hsi.below hba
            replace hii := hii.below hba
            rw [hy]
            obtain ⟨v5, hW⟩ : ∃ G, v2.alloc (.cells #[.slice none 0 0, .slice none 0 0] 30) = G := ⟨_, rfl⟩
            rw [hW] at hS1 by_ ⊢
            rw [hW] at hsi hii
            replace hS := hS1
            clear hS1 hba hW hy
            refine wh_call 4 (some 99) 16 #[.agg #[.slice ai S.length ci, .slice ei F.length di], .agg #[.bool q0.u, .int .i64 q0.r, .int .i64 q0.p, .bool q0.o, .int .i64 q0.l, .int .i64 q0.s]] (by kernel_rfl) rfl rfl (by rfl) (by kernel_rfl) ?_
            refine (IM.out v5 ai ei ci di lS lF hsi hii hdi).mono ?_
            rintro e v6 ⟨v, u, rfl, TN, hb⟩
            replace TN : Hid (TabO (z + 1 + 1) v6 v u S1 F1) := TN.out.base (by have h1 := HLO.out; have h2 := hS.below.size; omega)
            replace by_ := (hb.block y (lt_of_block by_)).trans by_
            replace hS := hS.step hb
            refine ⟨_, rfl, hS, ?_⟩
            simp only [Act.put, List.setIfInBounds_toArray, List.set_cons_zero, List.set_cons_succ]
            clear hb
            obtain ⟨an, cn, en, dn, rfl, rfl, _, _, _⟩ := TN.out.shape2
            replace TN : TabO (z + 1 + 1) v6 (.slice an S1.length cn) (.slice en F1.length dn) S1 F1 := TN
            refine wh_take 5 (some 94) (.tuple #[.agg #[.slice an S1.length cn, .slice en F1.length dn], .int .i64 C1, .int .i64 C2]) rfl rfl (by kernel_rfl) (by kernel_rfl) (by kernel_rfl) (fun _ _ _ h => h) hS (by rfl) (fun w' hS => by go_simp) ?_
            simp only [Act.put, List.setIfInBounds_toArray, List.set_cons_zero, List.set_cons_succ]
            refine wh_take 6 (some 100) (.agg #[.slice an S1.length cn, .slice en F1.length dn]) rfl rfl (by kernel_rfl) (by kernel_rfl) (by kernel_rfl) (fun _ _ _ h => h) hS (by rfl) (fun w' hS => by first | rfl | go_simp) ?_
            simp only [Act.put, List.setIfInBounds_toArray, List.set_cons_zero, List.set_cons_succ]
            refine wh_take 7 (some 101) (.int .i64 C1) rfl rfl (by kernel_rfl) (by kernel_rfl) (by kernel_rfl) (fun _ _ _ h => h) hS (by rfl) (fun w' hS => by first | rfl | go_simp) ?_
            simp only [Act.put, List.setIfInBounds_toArray, List.set_cons_zero, List.set_cons_succ]
            refine wh_take 8 (some 102) (.int .i64 C2) rfl rfl (by kernel_rfl) (by kernel_rfl) (by kernel_rfl) (fun _ _ _ h => h) hS (by rfl) (fun w' hS => by first | rfl | go_simp) ?_
            simp only [Act.put, List.setIfInBounds_toArray, List.set_cons_zero, List.set_cons_succ]
            have j0 : v6.cell? ⟨y, 0, none⟩ = some (.slice none 0 0) := (cell_of_block by_ 0).trans rfl
            have g0 := free_of_block by_ 0
            have j1 : v6.cell? ⟨y, 1, none⟩ = some (.slice none 0 0) := (cell_of_block by_ 1).trans rfl
            have g1 := free_of_block by_ 1
            obtain ⟨VE, hE⟩ : ∃ G, ((v6.setCell ⟨y, 0, none⟩ (.slice an S1.length cn)).setCell ⟨y, 1, none⟩ (.slice en F1.length dn)) = G := ⟨_, rfl⟩
            obtain ⟨s1, s2, s3, s4⟩ := set2T by_ _ _ hE
            have hnb := own_other TN by_ (by decide) (by decide)
            have TE : TabO (z + 1 + 1) VE (.slice an S1.length cn) (.slice en F1.length dn) S1 F1 := ⟨own_keep TN.hds (fun g hg => s2 g (fun e => hnb.1 (e ▸ hg))), own_keep TN.ints (fun g hg => s2 g (fun e => hnb.2 (e ▸ hg)))⟩
            have hSE : Keeps w11 VE := ⟨s4 _ _ hyW hS.below⟩
            refine wh_skip 10 none VE (by kernel_rfl) rfl rfl (by rfl) (by rw [← hE]; go_simp) hSE ?_
            simp only [Act.put]
            refine wh_val 11 (some 17) (.int .i64 C1) VE (by kernel_rfl) rfl rfl (by rfl) (by rfl) hSE ?_
            simp only [Act.put, List.setIfInBounds_toArray, List.set_cons_zero, List.set_cons_succ]
            refine wh_val 12 (some 18) (.int .i64 C2) VE (by kernel_rfl) rfl rfl (by rfl) (by rfl) hSE ?_
            simp only [Act.put, List.setIfInBounds_toArray, List.set_cons_zero, List.set_cons_succ]
            refine wh_done (by kernel_rfl) ?_
            go_wp2
            go_meet
            exact ⟨⟨⟨y, _, _, rfl, hly, s1, TE⟩, hSE.below⟩, rfl, rfl⟩
        · obtain ⟨y, hy⟩ : ∃ y, v1.heap.size = y := ⟨_, rfl⟩
          have hba : Below v1.heap.size v1 (v1.alloc (.cells #[.slice none 0 0, .slice none 0 0] 30)) := bel_alloc (Below.refl _ _) _
          have hS1 := hS.step hba
          refine wo_val (some 16) (.pointer (some ⟨v1.heap.size, 0, none⟩)) (v1.alloc (.cells #[.slice none 0 0, .slice none 0 0] 30)) rfl rfl (by rfl) (by go_simp) hS1 ?_
          simp only [Act.put, List.setIfInBounds_toArray, List.set_cons_zero, List.set_cons_succ]
          have by_ : (v1.alloc (.cells #[.slice none 0 0, .slice none 0 0] 30)).heap[y]? = some (.cells #[.slice none 0 0, .slice none 0 0] 30 (0, 0)) := by rw [← hy]; exact heap_alloc_new _ _
          have hly : z + 1 + 1 ≤ y := by have h1 := HLO.out; have h2 := hS.below.size; omega
          have hyW : w11.heap.size ≤ y := by have h2 := hS.below.size; omega
          replace hsi := hsi.below hba
          replace hii := hii.below hba
          rw [hy]
          obtain ⟨v7, hW⟩ : ∃ G, v1.alloc (.cells #[.slice none 0 0, .slice none 0 0] 30) = G := ⟨_, rfl⟩
          rw [hW] at hS1 by_ ⊢
          rw [hW] at hsi hii
          replace hS := hS1
          clear hS1 hba hW hy
          refine wh_call 3 (some 98) 15 #[.agg #[.bool q0.u, .int .i64 q0.r, .int .i64 q0.p, .bool q0.o, .int .i64 q0.l, .int .i64 q0.s]] (by kernel_rfl) rfl rfl (by rfl) (by kernel_rfl) ?_
          refine (TH0 v7).mono ?_
          rintro e v8 ⟨rfl, hb⟩
          replace hsi := hsi.below hb
          replace hii := hii.below hb
          replace by_ := (hb.block y (lt_of_block by_)).trans by_
          replace hS := hS.step hb
          refine ⟨_, rfl, hS, ?_⟩
          simp only [Act.put, List.setIfInBounds_toArray, List.set_cons_zero, List.set_cons_succ]
          clear hb
          refine wh_call 4 (some 99) 16 #[.agg #[.slice ai S.length ci, .slice ei F.length di], .agg #[.bool q0.u, .int .i64 q0.r, .int .i64 q0.p, .bool q0.o, .int .i64 q0.l, .int .i64 q0.s]] (by kernel_rfl) rfl rfl (by rfl) (by kernel_rfl) ?_
          refine (IM.out v8 ai ei ci di lS lF hsi hii hdi).mono ?_
          rintro e v9 ⟨v, u, rfl, TN, hb⟩
          replace TN : Hid (TabO (z + 1 + 1) v9 v u S1 F1) := TN.out.base (by have h1 := HLO.out; have h2 := hS.below.size; omega)
          replace by_ := (hb.block y (lt_of_block by_)).trans by_
          replace hS := hS.step hb
          refine ⟨_, rfl, hS, ?_⟩
          simp only [Act.put, List.setIfInBounds_toArray, List.set_cons_zero, List.set_cons_succ]
          clear hb
          obtain ⟨an, cn, en, dn, rfl, rfl, _, _, _⟩ := TN.out.shape2
          replace TN : TabO (z + 1 + 1) v9 (.slice an S1.length cn) (.slice en F1.length dn) S1 F1 := TN
          refine wh_take 5 (some 94) (.tuple #[.agg #[.slice an S1.length cn, .slice en F1.length dn], .int .i64 C1, .int .i64 C2]) rfl rfl (by kernel_rfl) (by kernel_rfl) (by kernel_rfl) (fun _ _ _ h => h) hS (by rfl) (fun w' hS => by go_simp) ?_
          simp only [Act.put, List.setIfInBounds_toArray, List.set_cons_zero, List.set_cons_succ]
          refine wh_take 6 (some 100) (.agg #[.slice an S1.length cn, .slice en F1.length dn]) rfl rfl (by kernel_rfl) (by kernel_rfl) (by kernel_rfl) (fun _ _ _ h => h) hS (by rfl) (fun w' hS => by first | rfl | go_simp) ?_
          simp only [Act.put, List.setIfInBounds_toArray, List.set_cons_zero, List.set_cons_succ]
          refine wh_take 7 (some 101) (.int .i64 C1) rfl rfl (by kernel_rfl) (by kernel_rfl) (by kernel_rfl) (fun _ _ _ h => h) hS (by rfl) (fun w' hS => by first | rfl | go_simp) ?_
          simp only [Act.put, List.setIfInBounds_toArray, List.set_cons_zero, List.set_cons_succ]
          refine wh_take 8 (some 102) (.int .i64 C2) rfl rfl (by kernel_rfl) (by kernel_rfl) (by kernel_rfl) (fun _ _ _ h => h) hS (by rfl) (fun w' hS => by first | rfl | go_simp) ?_
          simp only [Act.put, List.setIfInBounds_toArray, List.set_cons_zero, List.set_cons_succ]
          have j0 : v9.cell? ⟨y, 0, none⟩ = some (.slice none 0 0) := (cell_of_block by_ 0).trans rfl
          have g0 := free_of_block by_ 0
          have j1 : v9.cell? ⟨y, 1, none⟩ = some (.slice none 0 0) := (cell_of_block by_ 1).trans rfl
          have g1 := free_of_block by_ 1
          obtain ⟨VE, hE⟩ : ∃ G, ((v9.setCell ⟨y, 0, none⟩ (.slice an S1.length cn)).setCell ⟨y, 1, none⟩ (.slice en F1.length dn)) = G := ⟨_, rfl⟩
          obtain ⟨s1, s2, s3, s4⟩ := set2T by_ _ _ hE
          have hnb := own_other TN by_ (by decide) (by decide)
          have TE : TabO (z + 1 + 1) VE (.slice an S1.length cn) (.slice en F1.length dn) S1 F1 := ⟨own_keep TN.hds (fun g hg => s2 g (fun e => hnb.1 (e ▸ hg))), own_keep TN.ints (fun g hg => s2 g (fun e => hnb.2 (e ▸ hg)))⟩
          have hSE : Keeps w11 VE := ⟨s4 _ _ hyW hS.below⟩
          refine wh_skip 10 none VE (by kernel_rfl) rfl rfl (by rfl) (by rw [← hE]; go_simp) hSE ?_
          simp only [Act.put]
          refine wh_val 11 (some 17) (.int .i64 C1) VE (by kernel_rfl) rfl rfl (by rfl) (by rfl) hSE ?_
          simp only [Act.put, List.setIfInBounds_toArray, List.set_cons_zero, List.set_cons_succ]
          refine wh_val 12 (some 18) (.int .i64 C2) VE (by kernel_rfl) rfl rfl (by rfl) (by rfl) hSE ?_
          simp only [Act.put, List.setIfInBounds_toArray, List.set_cons_zero, List.set_cons_succ]
          refine wh_done (by kernel_rfl) ?_
          go_wp2
          go_meet
          exact ⟨⟨⟨y, _, _, rfl, hly, s1, TE⟩, hSE.below⟩, rfl, rfl⟩
      · obtain ⟨y, hy⟩ : ∃ y, W0.heap.size = y := ⟨_, rfl⟩
        have hba : Below W0.heap.size W0 (W0.alloc (.cells #[.slice none 0 0, .slice none 0 0] 30)) := bel_alloc (Below.refl _ _) _
        have hS1 := hS.step hba
        refine wo_val (some 16) (.pointer (some ⟨W0.heap.size, 0, none⟩)) (W0.alloc (.cells #[.slice none 0 0, .slice none 0 0] 30)) rfl rfl (by rfl) (by go_simp) hS1 ?_
        simp only [Act.put, List.setIfInBounds_toArray, List.set_cons_zero, List.set_cons_succ]
        have by_ : (W0.alloc (.cells #[.slice none 0 0, .slice none 0 0] 30)).heap[y]? = some (.cells #[.slice none 0 0, .slice none 0 0] 30 (0, 0)) := by rw [← hy]; exact heap_alloc_new _ _
        have hly : z + 1 + 1 ≤ y := by have h1 := HLO.out; have h2 := hS.below.size; omega
        have hyW : w11.heap.size ≤ y := by have h2 := hS.below.size; omega
        rw [hy]
        obtain ⟨v10, hW⟩ : ∃ G, W0.alloc (.cells #[.slice none 0 0, .slice none 0 0] 30) = G := ⟨_, rfl⟩
        rw [hW] at hS1 by_ ⊢
        replace hS := hS1
        clear hS1 hba hW hy
        refine wh_call 1 (some 96) 11 #[.agg #[.slice a S.length c, .slice b F.length d]] (by kernel_rfl) rfl rfl (by rfl) (by kernel_rfl) ?_
        refine (TT.out v10 (bel_step HB.out hS.below)).mono ?_
        rintro e v11 ⟨v, u, rfl, Ti, hb⟩
        obtain ⟨ai, ci, ei, di, rfl, rfl, hsi, hii, hdi⟩ := Ti.out.shape2
        clear Ti
        replace by_ := (hb.block y (lt_of_block by_)).trans by_
        replace hS := hS.step hb
        refine ⟨_, rfl, hS, ?_⟩
        simp only [Act.put, List.setIfInBounds_toArray, List.set_cons_zero, List.set_cons_succ]
        clear hb
        refine wh_call 3 (some 98) 15 #[.agg #[.bool q0.u, .int .i64 q0.r, .int .i64 q0.p, .bool q0.o, .int .i64 q0.l, .int .i64 q0.s]] (by kernel_rfl) rfl rfl (by rfl) (by kernel_rfl) ?_
        refine (TH0 v11).mono ?_
        rintro e v12 ⟨rfl, hb⟩
        replace hsi := hsi.below hb
        replace hii := hii.below hb
        replace by_ := (hb.block y (lt_of_block by_)).trans by_
        replace hS := hS.step hb
        refine ⟨_, rfl, hS, ?_⟩
        simp only [Act.put, List.setIfInBounds_toArray, List.set_cons_zero, List.set_cons_succ]
        clear hb
        refine wh_call 4 (some 99) 16 #[.agg #[.slice ai S.length ci, .slice ei F.length di], .agg #[.bool q0.u, .int .i64 q0.r, .int .i64 q0.p, .bool q0.o, .int .i64 q0.l, .int .i64 q0.s]] (by kernel_rfl) rfl rfl (by rfl) (by kernel_rfl) ?_
        refine (IM.out v12 ai ei ci di lS lF hsi hii hdi).mono ?_
        rintro e v13 ⟨v, u, rfl, TN, hb⟩
        replace TN : Hid (TabO (z + 1 + 1) v13 v u S1 F1) := TN.out.base (by have h1 := HLO.out; have h2 := hS.below.size; omega)
        replace by_ := (hb.block y (lt_of_block by_)).trans by_
        replace hS := hS.step hb
        refine ⟨_, rfl, hS, ?_⟩
        simp only [Act.put, List.setIfInBounds_toArray, List.set_cons_zero, List.set_cons_succ]
        clear hb
        obtain ⟨an, cn, en, dn, rfl, rfl, _, _, _⟩ := TN.out.shape2
        replace TN : TabO (z + 1 + 1) v13 (.slice an S1.length cn) (.slice en F1.length dn) S1 F1 := TN
        refine wh_take 5 (some 94) (.tuple #[.agg #[.slice an S1.length cn, .slice en F1.length dn], .int .i64 C1, .int .i64 C2]) rfl rfl (by kernel_rfl) (by kernel_rfl) (by kernel_rfl) (fun _ _ _ h => h) hS (by rfl) (fun w' hS => by go_simp) ?_
        simp only [Act.put, List.setIfInBounds_toArray, List.set_cons_zero, List.set_cons_succ]
        refine wh_take 6 (some 100) (.agg #[.slice an S1.length cn, .slice en F1.length dn]) rfl rfl (by kernel_rfl) (by kernel_rfl) (by kernel_rfl) (fun _ _ _ h => h) hS (by rfl) (fun w' hS => by first | rfl | go_simp) ?_
        simp only [Act.put, List.setIfInBounds_toArray, List.set_cons_zero, List.set_cons_succ]
        refine wh_take 7 (some 101) (.int .i64 C1) rfl rfl (by kernel_rfl) (by kernel_rfl) (by kernel_rfl) (fun _ _ _ h => h) hS (by rfl) (fun w' hS => by first | rfl | go_simp) ?_
        simp only [Act.put, List.setIfInBounds_toArray, List.set_cons_zero, List.set_cons_succ]
        refine wh_take 8 (some 102) (.int .i64 C2) rfl rfl (by kernel_rfl) (by kernel_rfl) (by kernel_rfl) (fun _ _ _ h => h) hS (by rfl) (fun w' hS => by first | rfl | go_simp) ?_
        simp only [Act.put, List.setIfInBounds_toArray, List.set_cons_zero, List.set_cons_succ]
        have j0 : v13.cell? ⟨y, 0, none⟩ = some (.slice none 0 0) := (cell_of_block by_ 0).trans rfl
        have g0 := free_of_block by_ 0
        have j1 : v13.cell? ⟨y, 1, none⟩ = some (.slice none 0 0) := (cell_of_block by_ 1).trans rfl
        have g1 := free_of_block by_ 1
        obtain ⟨VE, hE⟩ : ∃ G, ((v13.setCell ⟨y, 0, none⟩ (.slice an S1.length cn)).setCell ⟨y, 1, none⟩ (.slice en F1.length dn)) = G := ⟨_, rfl⟩
        obtain ⟨s1, s2, s3, s4⟩ := set2T by_ _ _ hE
        have hnb := own_other TN by_ (by decide) (by decide)
        have TE : TabO (z + 1 + 1) VE (.slice an S1.length cn) (.slice en F1.length dn) S1 F1 := ⟨own_keep TN.hds (fun g hg => s2 g (fun e => hnb.1 (e ▸ hg))), own_keep TN.ints (fun g hg => s2 g (fun e => hnb.2 (e ▸ hg)))⟩
        have hSE : Keeps w11 VE := ⟨s4 _ _ hyW hS.below⟩
        refine wh_skip 10 none VE (by kernel_rfl) rfl rfl (by rfl) (by rw [← hE]; go_simp) hSE ?_
        simp only [Act.put]
        refine wh_val 11 (some 17) (.int .i64 C1) VE (by kernel_rfl) rfl rfl (by rfl) (by rfl) hSE ?_
        simp only [Act.put, List.setIfInBounds_toArray, List.set_cons_zero, List.set_cons_succ]
        refine wh_val 12 (some 18) (.int .i64 C2) VE (by kernel_rfl) rfl rfl (by rfl) (by rfl) hSE ?_
        simp only [Act.put, List.setIfInBounds_toArray, List.set_cons_zero, List.set_cons_succ]
        refine wh_done (by kernel_rfl) ?_
        go_wp2
        go_meet
        exact ⟨⟨⟨y, _, _, rfl, hly, s1, TE⟩, hSE.below⟩, rfl, rfl⟩
    case rest =>
    obtain ⟨HOU, rfl, rfl⟩ := hcut
    obtain ⟨⟨yk, v, u, rfl, HLk, bkt, Tk⟩, hb⟩ := HOU.out
    obtain ⟨w12, hwq⟩ : ∃ W, wc = W := ⟨_, rfl⟩
    rw [hwq] at HOU hb bkt Tk ⊢
    clear HOU hwq HLO
    replace bz := (hb.block (z) (lt_of_block bz)).trans bz
    replace bq0 := (hb.block (z + 1) (lt_of_block bq0)).trans bq0
    replace bnt := (hb.block (ys) (lt_of_block bnt)).trans bnt
    replace bgt := (hb.block (yg) (lt_of_block bgt)).trans bgt
    replace Tn : Hid (TabO (z + 1 + 1) w12 (.slice an S1.length cn) (.slice en F1.length dn) S1 F1) := Tn.out.below hb
    replace Tg : Hid (Marked (yx + 1) w12 (.slice ag S1.length cg) (.slice eg F1.length dg) S1.length F1.length) := TabO.below Tg.out hb
    replace Lz : Hid (z + 1 + 1 ≤ w12.heap.size) := Nat.le_trans Lz.out hb.size
    replace Lyx : Hid (yx + 1 ≤ w12.heap.size) := Nat.le_trans Lyx.out hb.size
    replace HB : Hid (Below w.heap.size w w12) := bel_step HB.out hb
    obtain ⟨ak, ck, ek, dk, rfl, rfl, _, _, _⟩ := Tk.shape2
    replace Tk : Hid (TabO (z + 1 + 1) w12 (.slice ak S1.length ck) (.slice ek F1.length dk) S1 F1) := Tk
    have HZk : Hid (z + 1 + 1 ≤ yk ∧ yk < w12.heap.size) := ⟨HLk, lt_of_block bkt⟩
    clear hb HLk
    have pkt0 : w12.cell? ⟨yk, 0, none⟩ = some (.slice ak S1.length ck) := (cell_of_block bkt 0).trans rfl
    have pkt1 : w12.cell? ⟨yk, 1, none⟩ = some (.slice ek F1.length dk) := (cell_of_block bkt 1).trans rfl
    have pnt0 : w12.cell? ⟨ys, 0, none⟩ = some (.slice an S1.length cn) := (cell_of_block bnt 0).trans rfl
    have pnt1 : w12.cell? ⟨ys, 1, none⟩ = some (.slice en F1.length dn) := (cell_of_block bnt 1).trans rfl
    have EE := eqTabO Tk Tn (by omega) (by omega)
    go_wp2_with fail
    refine EE.mono ?_
    rintro e w13 ⟨rfl, hb⟩
    replace bz := (hb.block (z) (lt_of_block bz)).trans bz
    replace bq0 := (hb.block (z + 1) (lt_of_block bq0)).trans bq0
    replace bnt := (hb.block (ys) (lt_of_block bnt)).trans bnt
    replace bgt := (hb.block (yg) (lt_of_block bgt)).trans bgt
    replace bkt := (hb.block (yk) (lt_of_block bkt)).trans bkt
    replace Tn : Hid (TabO (z + 1 + 1) w13 (.slice an S1.length cn) (.slice en F1.length dn) S1 F1) := Tn.out.below hb
    replace Tg : Hid (Marked (yx + 1) w13 (.slice ag S1.length cg) (.slice eg F1.length dg) S1.length F1.length) := TabO.below Tg.out hb
    replace Tk : Hid (TabO (z + 1 + 1) w13 (.slice ak S1.length ck) (.slice ek F1.length dk) S1 F1) := Tk.out.below hb
    replace Lz : Hid (z + 1 + 1 ≤ w13.heap.size) := Nat.le_trans Lz.out hb.size
    replace Lyx : Hid (yx + 1 ≤ w13.heap.size) := Nat.le_trans Lyx.out hb.size
    replace HB : Hid (Below w.heap.size w w13) := bel_step HB.out hb
    clear hb EE pkt0 pkt1 pnt0 pnt1
    have pgt0 : w13.cell? ⟨yg, 0, none⟩ = some (.slice ag S1.length cg) := (cell_of_block bgt 0).trans rfl
    have pgt1 : w13.cell? ⟨yg, 1, none⟩ = some (.slice eg F1.length dg) := (cell_of_block bgt 1).trans rfl
    have MM := heldTab (yx + 1) (.slice ag S1.length cg) (.slice eg F1.length dg) S1.length F1.length w13 Tg lS1 lF1
    go_wp2_with fail
    refine MM.mono ?_
    rintro e w14 ⟨rfl, hb⟩
    replace bz := (hb.block (z) (lt_of_block bz)).trans bz
    replace bq0 := (hb.block (z + 1) (lt_of_block bq0)).trans bq0
    replace bnt := (hb.block (ys) (lt_of_block bnt)).trans bnt
    replace bgt := (hb.block (yg) (lt_of_block bgt)).trans bgt
    replace bkt := (hb.block (yk) (lt_of_block bkt)).trans bkt
    replace Tn : Hid (TabO (z + 1 + 1) w14 (.slice an S1.length cn) (.slice en F1.length dn) S1 F1) := Tn.out.below hb
    replace Tg : Hid (Marked (yx + 1) w14 (.slice ag S1.length cg) (.slice eg F1.length dg) S1.length F1.length) := TabO.below Tg.out hb
    replace Tk : Hid (TabO (z + 1 + 1) w14 (.slice ak S1.length ck) (.slice ek F1.length dk) S1 F1) := Tk.out.below hb
    replace Lz : Hid (z + 1 + 1 ≤ w14.heap.size) := Nat.le_trans Lz.out hb.size
    replace Lyx : Hid (yx + 1 ≤ w14.heap.size) := Nat.le_trans Lyx.out hb.size
    replace HB : Hid (Below w.heap.size w w14) := bel_step HB.out hb
    clear MM hb pgt0 pgt1
    go_wp2
    go_ret
    exact ⟨rfl, HB.out⟩

theorem newHandle_walk (a : Option Addr) (c : Nat) (b : Option Addr) (d : Nat) (S : List Hd) (F : List Int) (q0 : Hd) (w : World) (hI : IsTab w a b S F) (_w : okHd q0) :
    Calls Try.prog 4 #[tabV a S.length c b F.length d, hdV q0] w fun e w' => e = .returned (.bool true) ∧ Below w.heap.size w w' := by
  obtain ⟨S1, F1, N1, C1, hf⟩ := new_r S F q0
  exact tab_new a c b d S F q0 S1 F1 N1 C1 w hI (fun w' a b c d lS lF hS hF hd => specNew a b c d S F q0 S1 F1 N1 C1 w' hS hF lS lF hd hf) (fun w' a b c d lS lF hS hF _ => implNew a b c d S F q0 S1 F1 N1 C1 w' hS hF lS lF hI.okF hf) (fun lS lF => new_len hf lS lF)

end Go.Proofs.Ytfblofcmjplfhaa
