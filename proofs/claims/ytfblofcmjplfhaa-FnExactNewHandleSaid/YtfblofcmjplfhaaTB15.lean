/-
  A handle is found: the law's side whole, and the program's side.
-/
import Derived.Test.YtfblofcmjplfhaaTB14
namespace Go.Proofs.Ytfblofcmjplfhaa
open Go.ChangeShapes Go.WideShapes Go.ChangeAt Go.RowKit Go.Maps

/-- A handle is laid at a block of its own. -/
theorem set6T {W : World} {z : Nat} {t : TypeId} {a0 a1 a2 a3 a4 a5 : Value} (h : W.heap[z]? = some (.cells #[a0, a1, a2, a3, a4, a5] t (0, 0))) (b0 b1 b2 b3 b4 b5 : Value) {G : World} (hG : (((((W.setCell ⟨z, 0, none⟩ b0).setCell ⟨z, 1, none⟩ b1).setCell ⟨z, 2, none⟩ b2).setCell ⟨z, 3, none⟩ b3).setCell ⟨z, 4, none⟩ b4).setCell ⟨z, 5, none⟩ b5 = G) :
    G.heap[z]? = some (.cells #[b0, b1, b2, b3, b4, b5] t (0, 0)) ∧ (∀ g, g ≠ z → G.heap[g]? = W.heap[g]?) ∧ G.heap.size = W.heap.size ∧ ∀ (B : Nat) (w : World), B ≤ z → Below B w W → Below B w G := by
  subst hG
  refine ⟨?_, fun g hg => ?_, by simp, fun B w hB hb => (((((hb.setCell hB _).setCell hB _).setCell hB _).setCell hB _).setCell hB _).setCell hB _⟩
  · rw [heap_setCell_same _ _ _ _ _ _ (heap_setCell_same _ _ _ _ _ _ (heap_setCell_same _ _ _ _ _ _ (heap_setCell_same _ _ _ _ _ _ (heap_setCell_same _ _ _ _ _ _ (heap_setCell_same _ _ _ _ _ _ h)))))]
    rfl
  · exact (heap_setCell_other _ _ _ _ (by simpa using hg)).trans ((heap_setCell_other _ _ _ _ (by simpa using hg)).trans ((heap_setCell_other _ _ _ _ (by simpa using hg)).trans ((heap_setCell_other _ _ _ _ (by simpa using hg)).trans ((heap_setCell_other _ _ _ _ (by simpa using hg)).trans (heap_setCell_other _ _ _ _ (by simpa using hg))))))
theorem set2T {W : World} {z : Nat} {t : TypeId} {a0 a1 : Value} (h : W.heap[z]? = some (.cells #[a0, a1] t (0, 0))) (b0 b1 : Value) {G : World} (hG : (W.setCell ⟨z, 0, none⟩ b0).setCell ⟨z, 1, none⟩ b1 = G) :
    G.heap[z]? = some (.cells #[b0, b1] t (0, 0)) ∧ (∀ g, g ≠ z → G.heap[g]? = W.heap[g]?) ∧ G.heap.size = W.heap.size ∧ ∀ (B : Nat) (w : World), B ≤ z → Below B w W → Below B w G := by
  subst hG
  refine ⟨?_, fun g hg => ?_, by simp, fun B w hB hb => (hb.setCell hB _).setCell hB _⟩
  · rw [heap_setCell_same _ _ _ _ _ _ (heap_setCell_same _ _ _ _ _ _ h)]
    rfl
  · exact (heap_setCell_other _ _ _ _ (by simpa using hg)).trans (heap_setCell_other _ _ _ _ (by simpa using hg))
theorem Tells.yes {e : Ending} {p : Prop} (h : Tells e p) (hp : p) : e = .returned (.bool true) := by
  obtain ⟨r, rfl, hr⟩ := h
  rw [hr.2 hp]
theorem Tells.no {e : Ending} {p : Prop} (h : Tells e p) (hp : ¬ p) : e = .returned (.bool false) := by
  obtain ⟨r, rfl, hr⟩ := h
  cases r
  · rfl
  · exact absurd (hr.1 rfl) hp
/-- What FindHandle tells. -/
def FindR (S : List Hd) (F : List Int) (x res : Int) (H : Hd) (C : Int) : Prop := (GoodT S F ∧ FindIs S x res H C) ∨ (¬ GoodT S F ∧ H = zH ∧ C = 1)
theorem find_r (S : List Hd) (F : List Int) (x res : Int) : ∃ H C, FindR S F x res H C := by
  by_cases h : GoodT S F
  · obtain ⟨H, C, hf⟩ := find_is S x res
    exact ⟨H, C, .inl ⟨h, hf⟩⟩
  · exact ⟨zH, 1, .inr ⟨h, rfl, rfl⟩⟩


set_option maxRecDepth 100000 in
set_option maxHeartbeats 1600000 in
theorem specFindH (a b : Option Addr) (c d : Nat) (S : List Hd) (F : List Int) (x res : Int) (H : Hd) (C : Int) (w : World) (hS : Hid (Hds w a S)) (hF : Hid (Ints w b F)) (lS : S.length ≤ 1048576) (lF : F.length ≤ 1048576) (hd : F.length ≤ d) (hf : FindR S F x res H C) :
    Calls Try.prog 19 #[tabV a S.length c b F.length d, .int .i64 x, .int .i64 res] w fun e w' => e = .returned (.tuple #[hdV H, .int .i64 C]) ∧ Below w.heap.size w w' := by
  obtain ⟨g, hg⟩ : ∃ g, w.heap.size = g := ⟨_, rfl⟩
  obtain ⟨V, hV⟩ : ∃ W, ((w.alloc (.cells #[.slice a S.length c, .slice b F.length d] 30)).alloc (.cells #[.bool false, .int .i64 0, .int .i64 0, .bool false, .int .i64 0, .int .i64 0] 38)) = W := ⟨_, rfl⟩
  have hbV : Below w.heap.size w V := by rw [← hV]; exact (bel_alloc (bel_alloc (Below.refl _ _) _) _)
  have hzV : V.heap.size = g + 1 + 1 := by rw [← hV, ← hg]; simp
  have bt : V.heap[g]? = some (.cells #[.slice a S.length c, .slice b F.length d] 30 (0, 0)) := by
    have h := heap_alloc_new w (.cells #[.slice a S.length c, .slice b F.length d] 30)
    have e : w.heap.size = g := by exact hg
    rw [e] at h
    rw [← hV]
    replace h := (Below.heap_alloc _ (.cells #[.bool false, .int .i64 0, .int .i64 0, .bool false, .int .i64 0, .int .i64 0] 38) _ (lt_of_block h)).trans h
    exact h
  have br : V.heap[g + 1]? = some (.cells #[.bool false, .int .i64 0, .int .i64 0, .bool false, .int .i64 0, .int .i64 0] 38 (0, 0)) := by
    have h := heap_alloc_new (w.alloc (.cells #[.slice a S.length c, .slice b F.length d] 30)) (.cells #[.bool false, .int .i64 0, .int .i64 0, .bool false, .int .i64 0, .int .i64 0] 38)
    have e : (w.alloc (.cells #[.slice a S.length c, .slice b F.length d] 30)).heap.size = g + 1 := by simp [hg]
    rw [e] at h
    rw [← hV]
    exact h
  have HBV : Hid (Below w.heap.size w V ∧ w.heap.size = g) := ⟨hbV, hg⟩
  have HB : Hid (Below w.heap.size w V) := hbV
  have LB : Hid (g + 1 + 1 ≤ V.heap.size) := Nat.le_of_eq hzV.symm
  have GT := specGoodT a b c d S F V (hS.out.below hbV) (hF.out.below hbV) lS lF hd
  have FI : Hid (GoodT S F → FindIs S x res H C → ∀ w', Below w.heap.size w w' → Calls Try.prog 46 #[tabV a S.length c b F.length d, .int .i64 x, .int .i64 res] w' fun e w'' => e = .returned (.tuple #[hdV H, .int .i64 C]) ∧ Below w'.heap.size w' w'') := fun _ h w' hb => specFind a b c F.length d S x res H C w' (hS.out.below hb) lS h
  unfold tabV at GT FI ⊢
  unfold hdV at FI ⊢
  clear hbV hzV hS hF lS lF hd
  have pt0 : V.cell? ⟨g, 0, none⟩ = some (.slice a S.length c) := (cell_of_block bt 0).trans rfl
  have pt1 : V.cell? ⟨g, 1, none⟩ = some (.slice b F.length d) := (cell_of_block bt 1).trans rfl
  go_enter Try.func19, Try.ntmps19
  go_wp2_with fail
  clear hV hg pt0 pt1
  refine (GT).mono ?_
  rintro e w1 ⟨ht, hb⟩
  replace bt := (hb.block (g) (lt_of_block bt)).trans bt
  replace br := (hb.block (g + 1) (lt_of_block br)).trans br
  replace HB : Hid (Below w.heap.size w w1) := bel_step HB.out hb
  replace LB : Hid (g + 1 + 1 ≤ w1.heap.size) := Nat.le_trans LB.out hb.size
  clear hb
  clear GT
  rcases hf with ⟨hgd, hf⟩ | ⟨hgd, rfl, rfl⟩
  · obtain rfl := ht.yes hgd
    have FC := FI.out hgd hf w1 HB.out
    have pt0 : w1.cell? ⟨g, 0, none⟩ = some (.slice a S.length c) := (cell_of_block bt 0).trans rfl
    have pt1 : w1.cell? ⟨g, 1, none⟩ = some (.slice b F.length d) := (cell_of_block bt 1).trans rfl
    clear hf hgd ht FI
    go_wp2_with fail
    clear pt0 pt1
    refine (FC).mono ?_
    rintro e w2 ⟨rfl, hb⟩
    replace bt := (hb.block (g) (lt_of_block bt)).trans bt
    replace br := (hb.block (g + 1) (lt_of_block br)).trans br
    replace HB : Hid (Below w.heap.size w w2) := bel_step HB.out hb
    replace LB : Hid (g + 1 + 1 ≤ w2.heap.size) := Nat.le_trans LB.out hb.size
    clear hb
    clear FC
    have pr0 : w2.cell? ⟨g + 1, 0, none⟩ = some (.bool false) := (cell_of_block br 0).trans rfl
    have pr1 : w2.cell? ⟨g + 1, 1, none⟩ = some (.int .i64 0) := (cell_of_block br 1).trans rfl
    have pr2 : w2.cell? ⟨g + 1, 2, none⟩ = some (.int .i64 0) := (cell_of_block br 2).trans rfl
    have pr3 : w2.cell? ⟨g + 1, 3, none⟩ = some (.bool false) := (cell_of_block br 3).trans rfl
    have pr4 : w2.cell? ⟨g + 1, 4, none⟩ = some (.int .i64 0) := (cell_of_block br 4).trans rfl
    have pr5 : w2.cell? ⟨g + 1, 5, none⟩ = some (.int .i64 0) := (cell_of_block br 5).trans rfl
    have fr0 := free_of_block br 0
    have fr1 := free_of_block br 1
    have fr2 := free_of_block br 2
    have fr3 := free_of_block br 3
    have fr4 := free_of_block br 4
    have fr5 := free_of_block br 5
    obtain ⟨w3, hNw3⟩ : ∃ G, ((((((w2.setCell ⟨g + 1, 0, none⟩ (.bool H.u)).setCell ⟨g + 1, 1, none⟩ (.int .i64 H.r)).setCell ⟨g + 1, 2, none⟩ (.int .i64 H.p)).setCell ⟨g + 1, 3, none⟩ (.bool H.o)).setCell ⟨g + 1, 4, none⟩ (.int .i64 H.l)).setCell ⟨g + 1, 5, none⟩ (.int .i64 H.s)) = G := ⟨_, rfl⟩
    obtain ⟨s1, s2, s3, s4⟩ := set6T br _ _ _ _ _ _ hNw3
    replace bt := (s2 (g) (by omega)).trans bt
    replace HB : Hid (Below w.heap.size w w3) := s4 _ _ (by have := HBV.out.2; omega) HB.out
    replace LB : Hid (g + 1 + 1 ≤ w3.heap.size) := by unfold Hid; rw [s3]; exact LB.out
    replace br := s1
    clear s1 s2 s3 s4
    have zr0 : w3.cell? ⟨g + 1, 0, none⟩ = some (.bool H.u) := (cell_of_block br 0).trans rfl
    have zr1 : w3.cell? ⟨g + 1, 1, none⟩ = some (.int .i64 H.r) := (cell_of_block br 1).trans rfl
    have zr2 : w3.cell? ⟨g + 1, 2, none⟩ = some (.int .i64 H.p) := (cell_of_block br 2).trans rfl
    have zr3 : w3.cell? ⟨g + 1, 3, none⟩ = some (.bool H.o) := (cell_of_block br 3).trans rfl
    have zr4 : w3.cell? ⟨g + 1, 4, none⟩ = some (.int .i64 H.l) := (cell_of_block br 4).trans rfl
    have zr5 : w3.cell? ⟨g + 1, 5, none⟩ = some (.int .i64 H.s) := (cell_of_block br 5).trans rfl
    go_wp2
    exact bodyPost_ret (v := .tuple #[.agg #[.bool H.u, .int .i64 H.r, .int .i64 H.p, .bool H.o, .int .i64 H.l, .int .i64 H.s], .int .i64 C]) (by simp [results, Try.results19, go_sem, zr0, zr1, zr2, zr3, zr4, zr5]) rfl ⟨rfl, HB.out⟩
  · obtain rfl := ht.no hgd
    clear hgd ht FI
    have pr0 : w1.cell? ⟨g + 1, 0, none⟩ = some (.bool false) := (cell_of_block br 0).trans rfl
    have pr1 : w1.cell? ⟨g + 1, 1, none⟩ = some (.int .i64 0) := (cell_of_block br 1).trans rfl
    have pr2 : w1.cell? ⟨g + 1, 2, none⟩ = some (.int .i64 0) := (cell_of_block br 2).trans rfl
    have pr3 : w1.cell? ⟨g + 1, 3, none⟩ = some (.bool false) := (cell_of_block br 3).trans rfl
    have pr4 : w1.cell? ⟨g + 1, 4, none⟩ = some (.int .i64 0) := (cell_of_block br 4).trans rfl
    have pr5 : w1.cell? ⟨g + 1, 5, none⟩ = some (.int .i64 0) := (cell_of_block br 5).trans rfl
    have fr0 := free_of_block br 0
    have fr1 := free_of_block br 1
    have fr2 := free_of_block br 2
    have fr3 := free_of_block br 3
    have fr4 := free_of_block br 4
    have fr5 := free_of_block br 5
    obtain ⟨w2, hNw2⟩ : ∃ G, ((((((w1.setCell ⟨g + 1, 0, none⟩ (.bool false)).setCell ⟨g + 1, 1, none⟩ (.int .i64 0)).setCell ⟨g + 1, 2, none⟩ (.int .i64 0)).setCell ⟨g + 1, 3, none⟩ (.bool false)).setCell ⟨g + 1, 4, none⟩ (.int .i64 0)).setCell ⟨g + 1, 5, none⟩ (.int .i64 0)) = G := ⟨_, rfl⟩
    obtain ⟨s1, s2, s3, s4⟩ := set6T br _ _ _ _ _ _ hNw2
    replace bt := (s2 (g) (by omega)).trans bt
    replace HB : Hid (Below w.heap.size w w2) := s4 _ _ (by have := HBV.out.2; omega) HB.out
    replace LB : Hid (g + 1 + 1 ≤ w2.heap.size) := by unfold Hid; rw [s3]; exact LB.out
    replace br := s1
    clear s1 s2 s3 s4
    have zr0 : w2.cell? ⟨g + 1, 0, none⟩ = some (.bool false) := (cell_of_block br 0).trans rfl
    have zr1 : w2.cell? ⟨g + 1, 1, none⟩ = some (.int .i64 0) := (cell_of_block br 1).trans rfl
    have zr2 : w2.cell? ⟨g + 1, 2, none⟩ = some (.int .i64 0) := (cell_of_block br 2).trans rfl
    have zr3 : w2.cell? ⟨g + 1, 3, none⟩ = some (.bool false) := (cell_of_block br 3).trans rfl
    have zr4 : w2.cell? ⟨g + 1, 4, none⟩ = some (.int .i64 0) := (cell_of_block br 4).trans rfl
    have zr5 : w2.cell? ⟨g + 1, 5, none⟩ = some (.int .i64 0) := (cell_of_block br 5).trans rfl
    go_wp2
    exact bodyPost_ret (v := .tuple #[.agg #[.bool false, .int .i64 0, .int .i64 0, .bool false, .int .i64 0, .int .i64 0], .int .i64 1]) (by simp [results, Try.results19, go_sem, zr0, zr1, zr2, zr3, zr4, zr5]) rfl ⟨rfl, HB.out⟩

/-- What stands at a number, used, and the code. -/
def UsedIs (S : List Hd) (x : Int) (H : Hd) (C : Int) : Prop :=
  (¬ (0 ≤ x ∧ x ≤ (S.length : Int) - 1) ∧ H = zH ∧ C = 2) ∨ ∃ k f, ∃ h : k < S.length, x = (k : Int) ∧ S[k] = f ∧ ((f.u = false ∧ H = zH ∧ C = 2) ∨ (f.u = true ∧ H = f ∧ C = 0))
theorem used_is (S : List Hd) (x : Int) : ∃ H C, UsedIs S x H C := by
  by_cases h : 0 ≤ x ∧ x ≤ (S.length : Int) - 1
  · have hk : x.toNat < S.length := by omega
    have hx : x = ((x.toNat : Nat) : Int) := by omega
    rcases hu : S[x.toNat].u with _ | _
    · exact ⟨zH, 2, .inr ⟨x.toNat, _, hk, hx, rfl, .inl ⟨hu, rfl, rfl⟩⟩⟩
    · exact ⟨_, 0, .inr ⟨x.toNat, _, hk, hx, rfl, .inr ⟨hu, rfl, rfl⟩⟩⟩
  · exact ⟨zH, 2, .inl ⟨h, rfl, rfl⟩⟩

set_option maxRecDepth 100000 in
set_option maxHeartbeats 1600000 in
theorem implUsed (B y m : Nat) (v : Value) (S : List Hd) (F : List Int) (x : Int) (H : Hd) (C : Int) (w : World) (hot : Hid (OT B w y m S F v)) (hgd : Hid (GoodT S F)) (hf : UsedIs S x H C) :
    Calls Try.prog 48 #[.pointer (some ⟨y, 0, none⟩), .int .i64 x] w fun e w' => e = .returned (.tuple #[hdV H, .int .i64 C]) ∧ Below w.heap.size w w' := by
  obtain ⟨ad, cp, rfl, hds, _⟩ := own_hds hot.out.row
  have hn40 : S.length ≤ 40 := hgd.out.1
  have c0 : w.cell? ⟨y, 0, none⟩ = some (.slice ad S.length cp) := (cell_of_block hot.out.xb 0).trans rfl
  obtain ⟨V, hV⟩ : ∃ W, w.alloc (.cells #[.bool false, .int .i64 0, .int .i64 0, .bool false, .int .i64 0, .int .i64 0] 38) = W := ⟨_, rfl⟩
  have hbV : Below w.heap.size w V := by rw [← hV]; exact bel_alloc (Below.refl _ _) _
  have hyw := lt_of_block hot.out.xb
  have e0 : V.cell? ⟨y, 0, none⟩ = some (.slice ad S.length cp) := (hbV.cell (p := ⟨y, 0, none⟩) hyw).trans c0
  obtain ⟨n, hn⟩ : ∃ n, S.length = n := ⟨_, rfl⟩
  have HN : Hid (S.length = n) := hn
  have HBV : Hid (Below w.heap.size w V) := hbV
  unfold hdV
  rcases hf with ⟨h0, rfl, rfl⟩ | ⟨k, f, hk, rfl, hf, h⟩
  · rw [hn] at h0 hn40 e0
    have IN := within_eq x ((n : Int) - 1) false (by unfold Hid; simp; omega)
    clear hn h0 hds c0 hbV hot hyw
    go_enter Try.func48, Try.ntmps48
    go_wp2_with fail
    refine (IN _).mono ?_
    rintro e w' ⟨rfl, hw⟩
    obtain rfl := hw.symm
    clear hw IN
    obtain rfl := hV.symm
    go_wp2
    exact bodyPost_ret (v := .tuple #[.agg #[.bool false, .int .i64 0, .int .i64 0, .bool false, .int .i64 0, .int .i64 0], .int .i64 2]) (by simp [results, Try.results48, go_sem]) rfl ⟨rfl, by (repeat (first | refine Below.alloc ?_ (by first | (simp; done) | (simp; omega)) _ | refine Below.setCell ?_ (by first | (simp; done) | (simp; omega)) _ | refine bel_dN ?_ _ | refine Below.drew ?_ | exact Below.refl _ _))⟩
  · have IF : ∀ r, decide ((k : Int) ∈ F) = r → Calls Try.prog 55 #[.pointer (some ⟨y, 0, none⟩), .int .i64 (k : Int)] V fun e w'' => e = .returned (.bool r) ∧ w'' = V := fun r hr => hot.out.isFree (k : Int) (by omega) hr V hbV
    have HU := hgd.out.used k hk
    rw [hf] at HU
    obtain ⟨bb, off, rfl, hb, hc⟩ := hds.at k hk
    rw [hf] at hc
    obtain ⟨d0, d1, d2, d3, d4, d5⟩ := hc.kept (w' := V) (fun j => hbV.cell (p := ⟨bb, j, none⟩) hb)
    rw [hn] at hk hn40 e0
    have IN := within_eq (k : Int) ((n : Int) - 1) true (by unfold Hid; simp; omega)
    obtain ⟨u, r, p, o, l, s⟩ := f
    simp only at d0 d1 d2 d3 d4 d5 h HU
    clear hn hf hds c0 hbV hot hc
    rcases h with ⟨rfl, rfl, rfl⟩ | ⟨rfl, rfl, rfl⟩
    · have hmem : (k : Int) ∈ F := by rcases Decidable.em ((k : Int) ∈ F) with h | h; exact h; exact absurd (HU.2 h) (by simp)
      have IG := IF true (by simpa using hmem)
      clear IF HU hmem
      go_enter Try.func48, Try.ntmps48
      go_wp2_with fail
      refine (IN _).mono ?_
      rintro e w' ⟨rfl, hw⟩
      obtain rfl := hw.symm
      clear hw IN
      go_wp2_with fail
      refine IG.mono ?_
      rintro e w' ⟨rfl, hw⟩
      obtain rfl := hw.symm
      clear hw IG
      clear d0 d1 d2 d3 d4 d5 e0
      obtain rfl := hV.symm
      go_wp2
      exact bodyPost_ret (v := .tuple #[.agg #[.bool false, .int .i64 0, .int .i64 0, .bool false, .int .i64 0, .int .i64 0], .int .i64 2]) (by simp [results, Try.results48, go_sem]) rfl ⟨rfl, by (repeat (first | refine Below.alloc ?_ (by first | (simp; done) | (simp; omega)) _ | refine Below.setCell ?_ (by first | (simp; done) | (simp; omega)) _ | refine bel_dN ?_ _ | refine Below.drew ?_ | exact Below.refl _ _))⟩
    · have hmem : (k : Int) ∉ F := HU.1 rfl
      have IG := IF false (by simpa using hmem)
      clear IF HU hmem
      have hne : bb ≠ w.heap.size := by omega
      go_enter Try.func48, Try.ntmps48
      go_wp2_with fail
      refine (IN _).mono ?_
      rintro e w' ⟨rfl, hw⟩
      obtain rfl := hw.symm
      clear hw IN
      go_wp2_with fail
      refine IG.mono ?_
      rintro e w' ⟨rfl, hw⟩
      obtain rfl := hw.symm
      clear hw IG
      obtain rfl := hV.symm
      go_wp2
      exact bodyPost_ret (v := .tuple #[.agg #[.bool true, .int .i64 r, .int .i64 p, .bool o, .int .i64 l, .int .i64 s], .int .i64 0]) (by simp [results, Try.results48, go_sem]) rfl ⟨rfl, by (repeat (first | refine Below.alloc ?_ (by first | (simp; done) | (simp; omega)) _ | refine Below.setCell ?_ (by first | (simp; done) | (simp; omega)) _ | refine bel_dN ?_ _ | refine Below.drew ?_ | exact Below.refl _ _))⟩

end Go.Proofs.Ytfblofcmjplfhaa
