/-
  A func is drawn. (Made by a generator.)
-/
import Derived.Test.YtcgnefgdfgikdaaGreatG3
import Derived.Test.YtcgnefgdfgikdaaGreatA2
import Derived.Test.YtcgnefgdfgikdaaGreatU4
namespace Go.Proofs.YtcgnefgdfgikdaaGreat
open Go.ChangeShapes Go.WideShapes Go.ChangeAt Go.RowKit


theorem aft_step {B g : Nat} {w w1 w2 : World} (h : Aft B g w w1) (k : Below w1.heap.size w1 w2) (hB : B ≤ w.heap.size) : Aft B g w w2 :=
  ⟨h.below.trans (k.mono (Nat.le_trans hB h.size)), Nat.le_trans h.size k.size, fun b hb hl => (k.block b (Nat.lt_of_lt_of_le hl h.size)).trans (h.blk b hb hl)⟩
theorem aft_upto {B g : Nat} {w w1 w2 : World} (h : Aft B g w w1) (k : Below w.heap.size w1 w2) (hB : B ≤ w.heap.size) : Aft B g w w2 :=
  ⟨h.below.trans (k.mono hB), Nat.le_trans h.size k.size, fun b hb hl => (k.block b hl).trans (h.blk b hb hl)⟩
theorem cur_upto {w w' : World} {g : Nat} {a : Option Addr} {n cap B m Z : Nat} (C : Cur w g a n cap B m) (h : Below Z w w') (hl : g < Z) : Cur w' g a n cap B m := by
  obtain ⟨t, t0, t1, c1⟩ := C.at_
  obtain ⟨s, s0, s1, c2⟩ := C.seed
  have hB := C.hg
  have k : ∀ j, w'.cell? ⟨g, j, none⟩ = w.cell? ⟨g, j, none⟩ := fun j => h.cell (p := ⟨g, j, none⟩) hl
  exact ⟨(k 0).trans C.code, ⟨t, t0, t1, (k 1).trans c1⟩, ⟨s, s0, s1, (k 2).trans c2⟩, C.bys.below (h.mono (by omega)), C.hg, Nat.lt_of_lt_of_le C.lt h.size, fun j => (h.frozen (p := ⟨g, j, none⟩) hl).trans (C.fr j)⟩
theorem set1T {W : World} {z : Nat} {t : TypeId} {cs : Array Value} (h : W.heap[z]? = some (.cells cs t (0, 0))) (k : Nat) (b : Value) {G : World} (hG : W.setCell ⟨z, k, none⟩ b = G) :
    G.heap[z]? = some (.cells (cs.setIfInBounds k b) t (0, 0)) ∧ (∀ g, g ≠ z → G.heap[g]? = W.heap[g]?) ∧ G.heap.size = W.heap.size ∧ ∀ (B : Nat) (w : World), B ≤ z → Below B w W → Below B w G := by
  subst hG
  exact ⟨heap_setCell_same _ _ _ _ _ _ h, fun g hg => heap_setCell_other _ _ _ _ (by simpa using hg), by simp, fun B w hB hb => hb.setCell hB _⟩


theorem set4T {W : World} {z : Nat} {t : TypeId} {a0 a1 a2 a3 : Value} (h : W.heap[z]? = some (.cells #[a0, a1, a2, a3] t (0, 0))) (b0 b1 b2 b3 : Value) {G : World} (hG : (((W.setCell ⟨z, 0, none⟩ b0).setCell ⟨z, 1, none⟩ b1).setCell ⟨z, 2, none⟩ b2).setCell ⟨z, 3, none⟩ b3 = G) :
    G.heap[z]? = some (.cells #[b0, b1, b2, b3] t (0, 0)) ∧ (∀ g, g ≠ z → G.heap[g]? = W.heap[g]?) ∧ G.heap.size = W.heap.size ∧ ∀ (B : Nat) (w : World), B ≤ z → Below B w W → Below B w G := by
  subst hG
  refine ⟨?_, fun g hg => ?_, by simp, fun B w hB hb => (((hb.setCell hB _).setCell hB _).setCell hB _).setCell hB _⟩
  · rw [heap_setCell_same _ _ _ _ _ _ (heap_setCell_same _ _ _ _ _ _ (heap_setCell_same _ _ _ _ _ _ (heap_setCell_same _ _ _ _ _ _ h)))]
    rfl
  · exact (heap_setCell_other _ _ _ _ (by simpa using hg)).trans ((heap_setCell_other _ _ _ _ (by simpa using hg)).trans ((heap_setCell_other _ _ _ _ (by simpa using hg)).trans (heap_setCell_other _ _ _ _ (by simpa using hg))))

theorem iv_lenJ (L : List Int) : (iv L).length = L.length := by simp [iv]
theorem appIntJ (W : World) (base : Nat) (v : Value) (M : List Int) (hown : W.ownsRow base 3 1 v M.length (iv M)) (gs lo c : Nat) (X : List Int) (hX : ∀ (j : Nat) (u : Value), (iv X)[j]? = some u → W.cell? ⟨gs, lo + j, none⟩ = some u) (hl : M.length + X.length ≤ 1000000) (hb : base ≤ W.heap.size) (ty : TypeId) :
    ∃ v' w', (Builtin.append_ #[36, 36] ty #[v, .slice (some ⟨gs, lo, none⟩) X.length c]).run Tryz.prog W = .ok v' w' ∧ w'.ownsRow base 3 1 v' (M ++ X).length (iv (M ++ X)) ∧ W.grownBy w' v.ownBlock := by
  obtain ⟨i0, i0i, i00, i01, i02⟩ := info_parts Tryz.info3
  obtain ⟨v', w', hr, h2, h3, _⟩ := run_append_own (P := Tryz.prog) W base 36 ty 3 i0 (.int .i64 0) 1 8 Tryz.underlying36 i0i i00 i01 i02 rfl (by decide) v M.length (iv M) hown ⟨gs, lo, none⟩ X.length c (iv X) (by rw [iv_lenJ, Nat.mul_one]) (fun j u hu => by rw [Addr.add_lit]; exact hX j u hu) (iv_one X) (by unfold maxLen; omega) (by omega) hb
  refine ⟨v', w', hr, ?_, h3⟩
  rw [show iv M ++ iv X = iv (M ++ X) by simp [iv]] at h2
  simpa using h2
/-- Where the rest of a row of numbers begins. -/
theorem restJ (L : List Int) (gl p cv : Nat) (hc : L.length ≤ cv) : ∃ ld, (if cv = p then some (⟨gl, 0, none⟩ : Addr) else some ⟨gl, p, none⟩) = some ⟨gl, ld, none⟩ ∧ ∀ (j : Nat) (u : Value), (iv (L.drop p))[j]? = some u → (iv L)[ld + j]? = some u := by
  by_cases h : cv = p
  · refine ⟨0, if_pos h, fun j u hu => ?_⟩
    rw [List.drop_eq_nil_of_le (by omega)] at hu
    simp [iv] at hu
  · refine ⟨p, if_neg h, fun j u hu => ?_⟩
    unfold iv at hu ⊢
    rw [List.map_drop, List.getElem?_drop] at hu
    exact hu
theorem iv_takeJ (L : List Int) (k : Nat) : ∀ (j : Nat) (u : Value), (iv (L.take k))[j]? = some u → (iv L)[j]? = some u := fun j u hu => by
  unfold iv at hu ⊢
  rw [List.map_take, List.getElem?_take] at hu
  split at hu
  · exact hu
  · cases hu

/-- A func in memory, its rows its own. -/
structure FunO (B : Nat) (w : World) (vp vl vb : Value) (ps ls : List Int) (bd : List (Int × Int)) : Prop where
  ps : w.ownsRow B 3 1 vp ps.length (iv ps)
  ls : w.ownsRow B 3 1 vl ls.length (iv ls)
  bd : w.ownsRow B 41 2 vb bd.length (pv bd)
/-- A func that is small. -/
def SmD (ps ls : List Int) (bd : List (Int × Int)) : Prop := ps.length ≤ 3 ∧ ls.length ≤ 3 ∧ (bd.length ≤ 14010 ∧ 0 < bd.length) ∧ ∀ x ∈ bd, OkI x
/-- What function tells. -/
def FncP (B g : Nat) (a : Option Addr) (n cap m : Nat) (w : World) (e : Ending) (w' : World) : Prop := ∃ (vp vl vb : Value) (res : Int) (ps ls : List Int) (bd : List (Int × Int)), e = .returned (.agg #[vp, .int .i64 res, vl, vb]) ∧ Hid (FunO w.heap.size w' vp vl vb ps ls bd) ∧ Hid (SmD ps ls bd) ∧ Cur w' g a n cap B (m + 130008) ∧ Hid (Aft B g w w')
theorem fncP_more {B g : Nat} {a : Option Addr} {n cap m : Nat} {w : World} {e : Ending} {w' : World} (h : FncP B g a n cap m w e w') : FncP B g a n cap m w e w' := h


set_option maxRecDepth 100000 in
set_option maxHeartbeats 3200000 in
theorem curFncA (g : Nat) (a : Option Addr) (n cap B m : Nat) (hm : Hid (m ≤ 399990)) (w : World) (C : Cur w g a n cap B m) :
    Calls Tryz.prog 24 #[.pointer (some ⟨g, 0, none⟩), .int .i64 (-1)] w fun e w' => FncP B g a n cap m w e w' := by
  obtain ⟨i0, hi, hz0, hz1, hz2⟩ := info_parts Tryz.info41
  have HC : Hid (g < w.heap.size ∧ B ≤ g) := ⟨C.lt, C.hg⟩
  obtain ⟨z, hz⟩ : ∃ z, w.heap.size = z := ⟨_, rfl⟩
  have HZ : Hid (w.heap.size = z) := hz
  obtain ⟨V, hV⟩ : ∃ W, (w.alloc (.cells #[.slice none 0 0, .int .i64 0, .slice none 0 0, .slice none 0 0] 39)) = W := ⟨_, rfl⟩
  have hb : Below w.heap.size w V := by rw [← hV]; exact (bel_alloc (Below.refl _ _) _)
  have br : V.heap[z]? = some (.cells #[.slice none 0 0, .int .i64 0, .slice none 0 0, .slice none 0 0] 39 (0, 0)) := by
    have h := heap_alloc_new w (.cells #[.slice none 0 0, .int .i64 0, .slice none 0 0, .slice none 0 0] 39)
    have e : w.heap.size = z := by exact hz
    rw [e] at h
    rw [← hV]
    exact h
  have LB : Hid (z + 1 ≤ V.heap.size) := by unfold Hid; rw [← hV]; simp [hz]
  replace C := C.kept hb
  have A : Hid (Aft B g w V) := aft_step (Aft.refl _ _ _) hb (Nat.le_trans HC.out.2 (Nat.le_of_lt HC.out.1))
  clear hb
  go_enter Tryz.func24, Tryz.ntmps24
  obtain ⟨y1, hy1⟩ : ∃ z, V.heap.size = z := ⟨_, rfl⟩
  obtain ⟨w1, hNw1⟩ : ∃ W, V.alloc (.cells #[.int .i64 127, .int .i64 127, .int .i64 126, .int .i64 125, .int .i64 64] 3) = W := ⟨_, rfl⟩
  have hb : Below V.heap.size V w1 := by rw [← hNw1]; exact bel_alloc (Below.refl _ _) _
  have hley1 : Hid (z + 1 ≤ y1) := by unfold Hid; rw [← hy1]; exact LB.out
  replace br := (hb.block (z) (lt_of_block br)).trans br
  replace C := C.kept hb
  replace A : Hid (Aft B g w w1) := aft_step A.out hb (Nat.le_trans HC.out.2 (Nat.le_of_lt HC.out.1))
  replace LB : Hid (z + 1 ≤ w1.heap.size) := Nat.le_trans LB.out hb.size
  have bq : w1.heap[y1]? = some (.cells #[.int .i64 127, .int .i64 127, .int .i64 126, .int .i64 125, .int .i64 64] 3 (0, 0)) := by rw [← hNw1, ← hy1]; exact heap_alloc_new _ _
  clear hb
  have hv : ∀ i, i < 5 → ∃ z' : Int, (z' = 64 ∨ z' = 125 ∨ z' = 126 ∨ z' = 127) ∧ w1.cell? ⟨y1, i, none⟩ = some (.int .i64 z') := fun i hi => by
    have hii : i = 0 ∨ i = 1 ∨ i = 2 ∨ i = 3 ∨ i = 4 := by omega
    rcases hii with rfl | rfl | rfl | rfl | rfl
    · exact ⟨127, by decide, (cell_of_block bq 0).trans rfl⟩
    · exact ⟨127, by decide, (cell_of_block bq 1).trans rfl⟩
    · exact ⟨126, by decide, (cell_of_block bq 2).trans rfl⟩
    · exact ⟨125, by decide, (cell_of_block bq 3).trans rfl⟩
    · exact ⟨64, by decide, (cell_of_block bq 4).trans rfl⟩
  have hbl : y1 < w1.heap.size := lt_of_block bq
  have hbg : y1 ≠ g := by have h1 := hley1.out; have h2 := HC.out; have h3 := HZ.out; omega
  go_wp2_with fail
  clear hV hz hNw1 hy1
  refine (curAmongV (fun z' => z' = 64 ∨ z' = 125 ∨ z' = 126 ∨ z' = 127) y1 5 (by omega) (by omega) g a n cap B (m) (hid_le (by have := hm.out; omega)) w1 C hv hbl hbg).mono ?_
  rintro e w2 ⟨res, hres, rfl, C1, ha⟩
  replace br := (ha.blk (z) (by have hc1 := HC.out; have hc2 := HZ.out; omega) (lt_of_block br)).trans br
  replace bq := (ha.blk (y1) (by have h3 := hley1.out; have hc1 := HC.out; have hc2 := HZ.out; omega) (lt_of_block bq)).trans bq
  replace A : Hid (Aft B g w w2) := A.out.trans ha
  replace LB : Hid (z + 1 ≤ w2.heap.size) := Nat.le_trans LB.out ha.size
  clear ha C
  have C := C1
  clear C1
  clear hv hbl hbg bq
  obtain ⟨y2, hy2⟩ : ∃ z, w2.heap.size = z := ⟨_, rfl⟩
  obtain ⟨w3, hNw3⟩ : ∃ W, w2.alloc (.cells #[.slice none 0 0, .int .i64 0, .slice none 0 0, .slice none 0 0] 39) = W := ⟨_, rfl⟩
  have hb : Below w2.heap.size w2 w3 := by rw [← hNw3]; exact bel_alloc (Below.refl _ _) _
  have hley2 : Hid (z + 1 ≤ y2) := by unfold Hid; rw [← hy2]; exact LB.out
  replace br := (hb.block (z) (lt_of_block br)).trans br
  replace C := C.kept hb
  replace A : Hid (Aft B g w w3) := aft_step A.out hb (Nat.le_trans HC.out.2 (Nat.le_of_lt HC.out.1))
  replace LB : Hid (z + 1 ≤ w3.heap.size) := Nat.le_trans LB.out hb.size
  have bf : w3.heap[y2]? = some (.cells #[.slice none 0 0, .int .i64 0, .slice none 0 0, .slice none 0 0] 39 (0, 0)) := by rw [← hNw3, ← hy2]; exact heap_alloc_new _ _
  clear hb
  have pf0x1 : w3.cell? ⟨y2, 0, none⟩ = some (.slice none 0 0) := (cell_of_block bf 0).trans rfl
  have pf1x1 : w3.cell? ⟨y2, 1, none⟩ = some (.int .i64 0) := (cell_of_block bf 1).trans rfl
  have pf2x1 : w3.cell? ⟨y2, 2, none⟩ = some (.slice none 0 0) := (cell_of_block bf 2).trans rfl
  have pf3x1 : w3.cell? ⟨y2, 3, none⟩ = some (.slice none 0 0) := (cell_of_block bf 3).trans rfl
  have ff0x1 := free_of_block bf 0
  have ff1x1 := free_of_block bf 1
  have ff2x1 := free_of_block bf 2
  have ff3x1 := free_of_block bf 3
  obtain ⟨w4, hNw4⟩ : ∃ G, ((((w3.setCell ⟨y2, 0, none⟩ (.slice none 0 0)).setCell ⟨y2, 1, none⟩ (.int .i64 res)).setCell ⟨y2, 2, none⟩ (.slice none 0 0)).setCell ⟨y2, 3, none⟩ (.slice none 0 0)) = G := ⟨_, rfl⟩
  obtain ⟨s1, s2, s3, s4⟩ := set4T bf _ _ _ _ hNw4
  replace br := (s2 (z) (by have h3 := hley2.out; omega)).trans br
  have hsl : w.heap.size ≤ y2 := by have h3 := hley2.out; have hc1 := HC.out; have hc2 := HZ.out; omega
  have hs : Below w.heap.size w3 w4 := s4 _ _ hsl (Below.refl _ _)
  replace C := cur_upto C hs HC.out.1
  replace A : Hid (Aft B g w w4) := aft_upto A.out hs (Nat.le_trans HC.out.2 (Nat.le_of_lt HC.out.1))
  replace LB : Hid (z + 1 ≤ w4.heap.size) := by unfold Hid; rw [s3]; exact LB.out
  replace bf := s1
  clear s1 s2 s3 s4 hs hsl
  obtain ⟨y3, hy3⟩ : ∃ z, w4.heap.size = z := ⟨_, rfl⟩
  obtain ⟨w5, hNw5⟩ : ∃ W, w4.alloc (.cells #[.int .i64 127, .int .i64 127, .int .i64 126] 3) = W := ⟨_, rfl⟩
  have hb : Below w4.heap.size w4 w5 := by rw [← hNw5]; exact bel_alloc (Below.refl _ _) _
  have hley3 : Hid (z + 1 ≤ y3) := by unfold Hid; rw [← hy3]; exact LB.out
  replace br := (hb.block (z) (lt_of_block br)).trans br
  replace bf := (hb.block (y2) (lt_of_block bf)).trans bf
  replace C := C.kept hb
  replace A : Hid (Aft B g w w5) := aft_step A.out hb (Nat.le_trans HC.out.2 (Nat.le_of_lt HC.out.1))
  replace LB : Hid (z + 1 ≤ w5.heap.size) := Nat.le_trans LB.out hb.size
  have bs : w5.heap[y3]? = some (.cells #[.int .i64 127, .int .i64 127, .int .i64 126] 3 (0, 0)) := by rw [← hNw5, ← hy3]; exact heap_alloc_new _ _
  clear hb
  go_wp2_with fail
  clear hNw3 hy2 pf0x1 pf1x1 pf2x1 pf3x1 ff0x1 ff1x1 ff2x1 ff3x1 hNw4 hNw5 hy3
  refine (curPick 4 (by omega) (by omega) g a n cap B (m + 2) (hid_le (by have := hm.out; omega)) w5 C).mono ?_
  rintro e w6 ⟨r, r0, r1, rfl, C1, ha⟩
  replace br := (ha.blk (z) (by have hc1 := HC.out; have hc2 := HZ.out; omega) (lt_of_block br)).trans br
  replace bf := (ha.blk (y2) (by have h3 := hley2.out; have hc1 := HC.out; have hc2 := HZ.out; omega) (lt_of_block bf)).trans bf
  replace bs := (ha.blk (y3) (by have h3 := hley3.out; have hc1 := HC.out; have hc2 := HZ.out; omega) (lt_of_block bs)).trans bs
  replace A : Hid (Aft B g w w6) := A.out.trans ha
  replace LB : Hid (z + 1 ≤ w6.heap.size) := Nat.le_trans LB.out ha.size
  clear ha C
  have C := C1
  clear C1
  obtain ⟨k, rfl⟩ : ∃ k : Nat, r = k := ⟨r.toNat, by omega⟩
  have HK : Hid (k ≤ 3) := by unfold Hid; omega
  clear r0 r1
  have hk1 : ¬ (k : Int) < 0 := by omega
  have hk2 : ¬ 3 < k := by have := HK.out; omega
  have hk3 : 0 ≤ (k : Int) ∧ (k : Int) ≤ 3 := by have := HK.out; omega
  go_wp2
  refine wa_begin (by kernel_rfl) ?_
  obtain ⟨w7, hD⟩ : ∃ W, w6.drew = W := ⟨_, rfl⟩
  have hb : Below w6.heap.size w6 w7 := by rw [← hD]; exact (Below.refl _ _).drew
  rw [hD]
  replace br := (hb.block (z) (lt_of_block br)).trans br
  replace bf := (hb.block (y2) (lt_of_block bf)).trans bf
  replace bs := (hb.block (y3) (lt_of_block bs)).trans bs
  replace C := C.kept hb
  replace A : Hid (Aft B g w w7) := aft_step A.out hb (Nat.le_trans HC.out.2 (Nat.le_of_lt HC.out.1))
  replace LB : Hid (z + 1 ≤ w7.heap.size) := Nat.le_trans LB.out hb.size
  clear hb hD
  refine wa_take 0 (some 15) (.pointer (some ⟨y2, 0, none⟩)) rfl rfl (by kernel_rfl) (by kernel_rfl) (by kernel_rfl) (fun _ _ _ h => h) (by rfl) (fun _ => by kernel_rfl) ?_
  simp only [Act.put, List.setIfInBounds_toArray, List.set_cons_zero, List.set_cons_succ]
  refine wa_take 2 (some 17) (.slice (some ⟨y3, 0, none⟩) 3 3) rfl rfl (by kernel_rfl) (by kernel_rfl) (by kernel_rfl) (fun _ _ _ h => h) (by rfl) (fun _ => by kernel_rfl) ?_
  simp only [Act.put, List.setIfInBounds_toArray, List.set_cons_zero, List.set_cons_succ]
  refine wa_take 3 (some 18) (.int .i64 (k : Int)) rfl rfl (by kernel_rfl) (by kernel_rfl) (by kernel_rfl) (fun _ _ _ h => h) (by rfl) (fun _ => by kernel_rfl) ?_
  simp only [Act.put, List.setIfInBounds_toArray, List.set_cons_zero, List.set_cons_succ]
  refine wa_take 4 (some 19) (.slice (some ⟨y3, 0, none⟩) k 3) rfl rfl (by kernel_rfl) (by kernel_rfl) (by kernel_rfl) (fun _ _ _ h => h) (by rfl) (fun _ => by go_simp) ?_
  simp only [Act.put, List.setIfInBounds_toArray, List.set_cons_zero, List.set_cons_succ]
  have pf0x2 : w7.cell? ⟨y2, 0, none⟩ = some (.slice none 0 0) := (cell_of_block bf 0).trans rfl
  refine wa_val 1 (some 16) (.slice none 0 0) w7 (by kernel_rfl) rfl rfl (by rfl) (by go_simp) ?_
  simp only [Act.put, List.setIfInBounds_toArray, List.set_cons_zero, List.set_cons_succ]
  clear pf0x2
  have hcs : ∀ (j : Nat) (u : Value), (iv [127, 127, 126])[j]? = some u → w7.cell? ⟨y3, j, none⟩ = some u := fun j u hu => by
    have hj : j < 3 := by rcases Nat.lt_or_ge j 3 with h' | h'; exact h'; rw [List.getElem?_eq_none (by simpa [iv] using h')] at hu; cases hu
    have hjj : j = 0 ∨ j = 1 ∨ j = 2 := by omega
    rcases hjj with rfl | rfl | rfl
    · exact (cell_of_block bs 0).trans (by simpa [iv] using hu)
    · exact (cell_of_block bs 1).trans (by simpa [iv] using hu)
    · exact (cell_of_block bs 2).trans (by simpa [iv] using hu)
  have e1 : (([127, 127, 126] : List Int).take k).length = k := by simp; have := HK.out; omega
  obtain ⟨vP, wx0, hr, ho, hgr⟩ := appIntJ w7 (z + 1) (.slice none 0 0) [] (World.ownsRow_nil _ _ _ _) y3 0 3 (([127, 127, 126] : List Int).take k) (fun j u hu => by rw [Nat.zero_add]; exact hcs j u (iv_takeJ _ _ j u hu)) (by rw [e1]; simp; omega) LB.out 36
  rw [e1] at hr
  rw [List.nil_append] at ho
  obtain ⟨ps, hps⟩ : ∃ l, ([127, 127, 126] : List Int).take k = l := ⟨_, rfl⟩
  have HLP : Hid (ps.length ≤ 3) := by unfold Hid; rw [← hps, e1]; have := HK.out; omega
  rw [hps] at ho
  obtain ⟨aP, cP, hvP, _⟩ := ints_of_row ho
  subst hvP
  have hb : Below w7.heap.size w7 wx0 := (Below.refl _ _).grown hgr (Nat.le_refl _) (fun q hq => by cases hq)
  clear hps e1 hcs hgr
  replace br := (hb.block (z) (lt_of_block br)).trans br
  replace bf := (hb.block (y2) (lt_of_block bf)).trans bf
  replace bs := (hb.block (y3) (lt_of_block bs)).trans bs
  replace C := C.kept hb
  replace A : Hid (Aft B g w wx0) := aft_step A.out hb (Nat.le_trans HC.out.2 (Nat.le_of_lt HC.out.1))
  replace LB : Hid (z + 1 ≤ wx0.heap.size) := Nat.le_trans LB.out hb.size
  have P : Hid (wx0.ownsRow (z + 1) 3 1 (.slice aP ps.length cP) ps.length (iv ps)) := ho
  clear hb ho
  refine wa_val 5 (some 20) (.slice aP ps.length cP) wx0 (by kernel_rfl) rfl rfl (by rfl) (by simp [execOp, resolve, invoke, builtin, Act.eval, hr, Result.andThen]) ?_
  simp only [Act.put, List.setIfInBounds_toArray, List.set_cons_zero, List.set_cons_succ]
  clear hr
  refine wa_val 6 (some 21) (.pointer (some ⟨y2, 0, none⟩)) wx0 (by kernel_rfl) rfl rfl (by rfl) (by kernel_rfl) ?_
  simp only [Act.put, List.setIfInBounds_toArray, List.set_cons_zero, List.set_cons_succ]
  have pf0x3 : wx0.cell? ⟨y2, 0, none⟩ = some (.slice none 0 0) := (cell_of_block bf 0).trans rfl
  have pf1x3 : wx0.cell? ⟨y2, 1, none⟩ = some (.int .i64 res) := (cell_of_block bf 1).trans rfl
  have pf2x3 : wx0.cell? ⟨y2, 2, none⟩ = some (.slice none 0 0) := (cell_of_block bf 2).trans rfl
  have pf3x3 : wx0.cell? ⟨y2, 3, none⟩ = some (.slice none 0 0) := (cell_of_block bf 3).trans rfl
  have ff0x3 := free_of_block bf 0
  have ff1x3 := free_of_block bf 1
  have ff2x3 := free_of_block bf 2
  have ff3x3 := free_of_block bf 3
  obtain ⟨w8, hNw8⟩ : ∃ G, (wx0.setCell ⟨y2, 0, none⟩ (.slice aP ps.length cP)) = G := ⟨_, rfl⟩
  obtain ⟨s1, s2, s3, s4⟩ := set1T bf 0 (.slice aP ps.length cP) hNw8
  replace s1 : w8.heap[y2]? = some (.cells #[.slice aP ps.length cP, .int .i64 res, .slice none 0 0, .slice none 0 0] 39 (0, 0)) := s1
  replace br := (s2 (z) (by have h3 := hley2.out; omega)).trans br
  replace bs := (s2 (y3) (fun e => by have e2 := bs; rw [e] at e2; rw [bf] at e2; cases e2)).trans bs
  replace P : Hid (w8.ownsRow (z + 1) 3 1 (.slice aP ps.length cP) ps.length (iv ps)) := own_keep P.out (fun q hq => s2 q (fun e => by obtain ⟨cur, hc, _⟩ := own_at P.out hq; rw [e, bf] at hc; simp at hc))
  have hsl : w.heap.size ≤ y2 := by have h3 := hley2.out; have hc1 := HC.out; have hc2 := HZ.out; omega
  have hs : Below w.heap.size wx0 w8 := s4 _ _ hsl (Below.refl _ _)
  replace C := cur_upto C hs HC.out.1
  replace A : Hid (Aft B g w w8) := aft_upto A.out hs (Nat.le_trans HC.out.2 (Nat.le_of_lt HC.out.1))
  replace LB : Hid (z + 1 ≤ w8.heap.size) := by unfold Hid; rw [s3]; exact LB.out
  replace bf := s1
  clear s1 s2 s3 s4 hs hsl
  refine wa_store 7 none w8 (by kernel_rfl) rfl rfl (by rfl) (by rw [← hNw8]; go_simp) ?_
  simp only [Act.put]
  clear pf0x3 pf1x3 pf2x3 pf3x3 ff0x3 ff1x3 ff2x3 ff3x3 hNw8
  refine wa_done (by kernel_rfl) ?_
  clear hk1 hk2 hk3
  have hk1 : ¬ (k : Int) < 0 := by omega
  have hk2 : ¬ 3 < k := by have := HK.out; omega
  have hk3 : 0 ≤ (k : Int) ∧ (k : Int) ≤ 3 := by have := HK.out; omega
  go_wp2
  refine wa_begin (by kernel_rfl) ?_
  obtain ⟨w9, hD⟩ : ∃ W, w8.drew = W := ⟨_, rfl⟩
  have hb : Below w8.heap.size w8 w9 := by rw [← hD]; exact (Below.refl _ _).drew
  rw [hD]
  replace br := (hb.block (z) (lt_of_block br)).trans br
  replace bf := (hb.block (y2) (lt_of_block bf)).trans bf
  replace bs := (hb.block (y3) (lt_of_block bs)).trans bs
  replace P : Hid (w9.ownsRow (z + 1) 3 1 (.slice aP ps.length cP) ps.length (iv ps)) := own_keep P.out (fun q hq => hb.block q (P.out.lt q hq).2)
  replace C := C.kept hb
  replace A : Hid (Aft B g w w9) := aft_step A.out hb (Nat.le_trans HC.out.2 (Nat.le_of_lt HC.out.1))
  replace LB : Hid (z + 1 ≤ w9.heap.size) := Nat.le_trans LB.out hb.size
  clear hb hD
  refine wa_take 0 (some 22) (.pointer (some ⟨y2, 2, none⟩)) rfl rfl (by kernel_rfl) (by kernel_rfl) (by kernel_rfl) (fun _ _ _ h => h) (by rfl) (fun _ => by kernel_rfl) ?_
  simp only [Act.put, List.setIfInBounds_toArray, List.set_cons_zero, List.set_cons_succ]
  refine wa_take 2 (some 24) (.slice (some ⟨y3, 0, none⟩) 3 3) rfl rfl (by kernel_rfl) (by kernel_rfl) (by kernel_rfl) (fun _ _ _ h => h) (by rfl) (fun _ => by kernel_rfl) ?_
  simp only [Act.put, List.setIfInBounds_toArray, List.set_cons_zero, List.set_cons_succ]
  refine wa_take 3 (some 25) (.int .i64 (k : Int)) rfl rfl (by kernel_rfl) (by kernel_rfl) (by kernel_rfl) (fun _ _ _ h => h) (by rfl) (fun _ => by kernel_rfl) ?_
  simp only [Act.put, List.setIfInBounds_toArray, List.set_cons_zero, List.set_cons_succ]
  obtain ⟨ld, hld, hcd⟩ := restJ [127, 127, 126] y3 k 3 (by decide)
  have HCD : Hid _ := hcd
  clear hcd
  refine wa_take 4 (some 26) (.slice (some ⟨y3, ld, none⟩) (3 - k) (3 - k)) rfl rfl (by kernel_rfl) (by kernel_rfl) (by kernel_rfl) (fun _ _ _ h => h) (by rfl) (fun _ => by rw [← hld]; go_simp) ?_
  simp only [Act.put, List.setIfInBounds_toArray, List.set_cons_zero, List.set_cons_succ]
  have pf2x4 : w9.cell? ⟨y2, 2, none⟩ = some (.slice none 0 0) := (cell_of_block bf 2).trans rfl
  refine wa_val 1 (some 23) (.slice none 0 0) w9 (by kernel_rfl) rfl rfl (by rfl) (by go_simp) ?_
  simp only [Act.put, List.setIfInBounds_toArray, List.set_cons_zero, List.set_cons_succ]
  clear pf2x4
  have hcs : ∀ (j : Nat) (u : Value), (iv [127, 127, 126])[j]? = some u → w9.cell? ⟨y3, j, none⟩ = some u := fun j u hu => by
    have hj : j < 3 := by rcases Nat.lt_or_ge j 3 with h' | h'; exact h'; rw [List.getElem?_eq_none (by simpa [iv] using h')] at hu; cases hu
    have hjj : j = 0 ∨ j = 1 ∨ j = 2 := by omega
    rcases hjj with rfl | rfl | rfl
    · exact (cell_of_block bs 0).trans (by simpa [iv] using hu)
    · exact (cell_of_block bs 1).trans (by simpa [iv] using hu)
    · exact (cell_of_block bs 2).trans (by simpa [iv] using hu)
  have e1 : (([127, 127, 126] : List Int).drop k).length = 3 - k := by simp
  obtain ⟨vQ, wx1, hr, ho, hgr⟩ := appIntJ w9 (z + 1) (.slice none 0 0) [] (World.ownsRow_nil _ _ _ _) y3 ld (3 - k) (([127, 127, 126] : List Int).drop k) (fun j u hu => hcs _ u (HCD.out j u hu)) (by rw [e1]; simp; omega) LB.out 36
  rw [e1] at hr
  rw [List.nil_append] at ho
  obtain ⟨ls, hls⟩ : ∃ l, ([127, 127, 126] : List Int).drop k = l := ⟨_, rfl⟩
  have HLQ : Hid (ls.length ≤ 3) := by unfold Hid; rw [← hls, e1]; have := HK.out; omega
  rw [hls] at ho
  obtain ⟨aQ, cQ, hvQ, _⟩ := ints_of_row ho
  subst hvQ
  have hb : Below w9.heap.size w9 wx1 := (Below.refl _ _).grown hgr (Nat.le_refl _) (fun q hq => by cases hq)
  clear hls e1 hcs hgr HCD
  replace br := (hb.block (z) (lt_of_block br)).trans br
  replace bf := (hb.block (y2) (lt_of_block bf)).trans bf
  replace bs := (hb.block (y3) (lt_of_block bs)).trans bs
  replace P : Hid (wx1.ownsRow (z + 1) 3 1 (.slice aP ps.length cP) ps.length (iv ps)) := own_keep P.out (fun q hq => hb.block q (P.out.lt q hq).2)
  replace C := C.kept hb
  replace A : Hid (Aft B g w wx1) := aft_step A.out hb (Nat.le_trans HC.out.2 (Nat.le_of_lt HC.out.1))
  replace LB : Hid (z + 1 ≤ wx1.heap.size) := Nat.le_trans LB.out hb.size
  have Q : Hid (wx1.ownsRow (z + 1) 3 1 (.slice aQ ls.length cQ) ls.length (iv ls)) := ho
  clear hb ho
  refine wa_val 5 (some 27) (.slice aQ ls.length cQ) wx1 (by kernel_rfl) rfl rfl (by rfl) (by simp [execOp, resolve, invoke, builtin, Act.eval, hr, Result.andThen]) ?_
  simp only [Act.put, List.setIfInBounds_toArray, List.set_cons_zero, List.set_cons_succ]
  clear hr
  refine wa_val 6 (some 28) (.pointer (some ⟨y2, 2, none⟩)) wx1 (by kernel_rfl) rfl rfl (by rfl) (by kernel_rfl) ?_
  simp only [Act.put, List.setIfInBounds_toArray, List.set_cons_zero, List.set_cons_succ]
  have pf0x5 : wx1.cell? ⟨y2, 0, none⟩ = some (.slice aP ps.length cP) := (cell_of_block bf 0).trans rfl
  have pf1x5 : wx1.cell? ⟨y2, 1, none⟩ = some (.int .i64 res) := (cell_of_block bf 1).trans rfl
  have pf2x5 : wx1.cell? ⟨y2, 2, none⟩ = some (.slice none 0 0) := (cell_of_block bf 2).trans rfl
  have pf3x5 : wx1.cell? ⟨y2, 3, none⟩ = some (.slice none 0 0) := (cell_of_block bf 3).trans rfl
  have ff0x5 := free_of_block bf 0
  have ff1x5 := free_of_block bf 1
  have ff2x5 := free_of_block bf 2
  have ff3x5 := free_of_block bf 3
  obtain ⟨w10, hNw10⟩ : ∃ G, (wx1.setCell ⟨y2, 2, none⟩ (.slice aQ ls.length cQ)) = G := ⟨_, rfl⟩
  obtain ⟨s1, s2, s3, s4⟩ := set1T bf 2 (.slice aQ ls.length cQ) hNw10
  replace s1 : w10.heap[y2]? = some (.cells #[.slice aP ps.length cP, .int .i64 res, .slice aQ ls.length cQ, .slice none 0 0] 39 (0, 0)) := s1
  replace br := (s2 (z) (by have h3 := hley2.out; omega)).trans br
  replace bs := (s2 (y3) (fun e => by have e2 := bs; rw [e] at e2; rw [bf] at e2; cases e2)).trans bs
  replace P : Hid (w10.ownsRow (z + 1) 3 1 (.slice aP ps.length cP) ps.length (iv ps)) := own_keep P.out (fun q hq => s2 q (fun e => by obtain ⟨cur, hc, _⟩ := own_at P.out hq; rw [e, bf] at hc; simp at hc))
  replace Q : Hid (w10.ownsRow (z + 1) 3 1 (.slice aQ ls.length cQ) ls.length (iv ls)) := own_keep Q.out (fun q hq => s2 q (fun e => by obtain ⟨cur, hc, _⟩ := own_at Q.out hq; rw [e, bf] at hc; simp at hc))
  have hsl : w.heap.size ≤ y2 := by have h3 := hley2.out; have hc1 := HC.out; have hc2 := HZ.out; omega
  have hs : Below w.heap.size wx1 w10 := s4 _ _ hsl (Below.refl _ _)
  replace C := cur_upto C hs HC.out.1
  replace A : Hid (Aft B g w w10) := aft_upto A.out hs (Nat.le_trans HC.out.2 (Nat.le_of_lt HC.out.1))
  replace LB : Hid (z + 1 ≤ w10.heap.size) := by unfold Hid; rw [s3]; exact LB.out
  replace bf := s1
  clear s1 s2 s3 s4 hs hsl
  refine wa_store 7 none w10 (by kernel_rfl) rfl rfl (by rfl) (by rw [← hNw10]; go_simp) ?_
  simp only [Act.put]
  clear pf0x5 pf1x5 pf2x5 pf3x5 ff0x5 ff1x5 ff2x5 ff3x5 hNw10
  refine wa_done (by kernel_rfl) ?_
  clear hk1 hk2 hk3 hld
  have HRS : Hid (res = 64 ∨ res = 125 ∨ res = 126 ∨ res = 127) := hres
  clear hres
  have pf1x6 : w10.cell? ⟨y2, 1, none⟩ = some (.int .i64 res) := (cell_of_block bf 1).trans rfl
  go_wp2_with fail
  clear pf1x6
  refine (curBody res HRS.out g a n cap B (m + 2 + 2) (hid_le (by have := hm.out; omega)) w10 C).mono ?_
  rintro e w11 ⟨vB, bd, rfl, RB, HOB, C1, HAB, HPB⟩
  obtain ⟨aB, cB, gB, hvB, hx1, hx2, hx3⟩ := owned_ins RB.out
  clear hx1 hx2 hx3
  subst hvB
  have R : Hid (w11.ownsRow (z + 1) 41 2 (.slice aB bd.length cB) bd.length (pv bd)) := own_baseI RB.out LB.out
  have ha := HAB.out
  replace br := (ha.blk (z) (by have hc1 := HC.out; have hc2 := HZ.out; omega) (lt_of_block br)).trans br
  replace bf := (ha.blk (y2) (by have h3 := hley2.out; have hc1 := HC.out; have hc2 := HZ.out; omega) (lt_of_block bf)).trans bf
  replace bs := (ha.blk (y3) (by have h3 := hley3.out; have hc1 := HC.out; have hc2 := HZ.out; omega) (lt_of_block bs)).trans bs
  replace P : Hid (w11.ownsRow (z + 1) 3 1 (.slice aP ps.length cP) ps.length (iv ps)) := own_keep P.out (fun q hq => ha.blk q (by have h4 := (P.out.lt q hq).1; have hc1 := HC.out; have hc2 := HZ.out; omega) (P.out.lt q hq).2)
  replace Q : Hid (w11.ownsRow (z + 1) 3 1 (.slice aQ ls.length cQ) ls.length (iv ls)) := own_keep Q.out (fun q hq => ha.blk q (by have h4 := (Q.out.lt q hq).1; have hc1 := HC.out; have hc2 := HZ.out; omega) (Q.out.lt q hq).2)
  replace A : Hid (Aft B g w w11) := A.out.trans ha
  replace LB : Hid (z + 1 ≤ w11.heap.size) := Nat.le_trans LB.out ha.size
  clear ha C RB HAB
  have C := C1
  clear C1
  have pf0x7 : w11.cell? ⟨y2, 0, none⟩ = some (.slice aP ps.length cP) := (cell_of_block bf 0).trans rfl
  have pf1x7 : w11.cell? ⟨y2, 1, none⟩ = some (.int .i64 res) := (cell_of_block bf 1).trans rfl
  have pf2x7 : w11.cell? ⟨y2, 2, none⟩ = some (.slice aQ ls.length cQ) := (cell_of_block bf 2).trans rfl
  have pf3x7 : w11.cell? ⟨y2, 3, none⟩ = some (.slice none 0 0) := (cell_of_block bf 3).trans rfl
  have ff0x7 := free_of_block bf 0
  have ff1x7 := free_of_block bf 1
  have ff2x7 := free_of_block bf 2
  have ff3x7 := free_of_block bf 3
  obtain ⟨w12, hNw12⟩ : ∃ G, (w11.setCell ⟨y2, 3, none⟩ (.slice aB bd.length cB)) = G := ⟨_, rfl⟩
  obtain ⟨s1, s2, s3, s4⟩ := set1T bf 3 (.slice aB bd.length cB) hNw12
  replace s1 : w12.heap[y2]? = some (.cells #[.slice aP ps.length cP, .int .i64 res, .slice aQ ls.length cQ, .slice aB bd.length cB] 39 (0, 0)) := s1
  replace br := (s2 (z) (by have h3 := hley2.out; omega)).trans br
  replace bs := (s2 (y3) (fun e => by have e2 := bs; rw [e] at e2; rw [bf] at e2; cases e2)).trans bs
  replace P : Hid (w12.ownsRow (z + 1) 3 1 (.slice aP ps.length cP) ps.length (iv ps)) := own_keep P.out (fun q hq => s2 q (fun e => by obtain ⟨cur, hc, _⟩ := own_at P.out hq; rw [e, bf] at hc; simp at hc))
  replace Q : Hid (w12.ownsRow (z + 1) 3 1 (.slice aQ ls.length cQ) ls.length (iv ls)) := own_keep Q.out (fun q hq => s2 q (fun e => by obtain ⟨cur, hc, _⟩ := own_at Q.out hq; rw [e, bf] at hc; simp at hc))
  replace R : Hid (w12.ownsRow (z + 1) 41 2 (.slice aB bd.length cB) bd.length (pv bd)) := own_keep R.out (fun q hq => s2 q (fun e => by obtain ⟨cur, hc, _⟩ := own_at R.out hq; rw [e, bf] at hc; simp at hc))
  have hsl : w.heap.size ≤ y2 := by have h3 := hley2.out; have hc1 := HC.out; have hc2 := HZ.out; omega
  have hs : Below w.heap.size w11 w12 := s4 _ _ hsl (Below.refl _ _)
  replace C := cur_upto C hs HC.out.1
  replace A : Hid (Aft B g w w12) := aft_upto A.out hs (Nat.le_trans HC.out.2 (Nat.le_of_lt HC.out.1))
  replace LB : Hid (z + 1 ≤ w12.heap.size) := by unfold Hid; rw [s3]; exact LB.out
  replace bf := s1
  clear s1 s2 s3 s4 hs hsl
  have pf0x8 : w12.cell? ⟨y2, 0, none⟩ = some (.slice aP ps.length cP) := (cell_of_block bf 0).trans rfl
  have pf1x8 : w12.cell? ⟨y2, 1, none⟩ = some (.int .i64 res) := (cell_of_block bf 1).trans rfl
  have pf2x8 : w12.cell? ⟨y2, 2, none⟩ = some (.slice aQ ls.length cQ) := (cell_of_block bf 2).trans rfl
  have pf3x8 : w12.cell? ⟨y2, 3, none⟩ = some (.slice aB bd.length cB) := (cell_of_block bf 3).trans rfl
  have pr0x9 : w12.cell? ⟨z, 0, none⟩ = some (.slice none 0 0) := (cell_of_block br 0).trans rfl
  have pr1x9 : w12.cell? ⟨z, 1, none⟩ = some (.int .i64 0) := (cell_of_block br 1).trans rfl
  have pr2x9 : w12.cell? ⟨z, 2, none⟩ = some (.slice none 0 0) := (cell_of_block br 2).trans rfl
  have pr3x9 : w12.cell? ⟨z, 3, none⟩ = some (.slice none 0 0) := (cell_of_block br 3).trans rfl
  have fr0x9 := free_of_block br 0
  have fr1x9 := free_of_block br 1
  have fr2x9 := free_of_block br 2
  have fr3x9 := free_of_block br 3
  obtain ⟨w13, hNw13⟩ : ∃ G, ((((w12.setCell ⟨z, 0, none⟩ (.slice aP ps.length cP)).setCell ⟨z, 1, none⟩ (.int .i64 res)).setCell ⟨z, 2, none⟩ (.slice aQ ls.length cQ)).setCell ⟨z, 3, none⟩ (.slice aB bd.length cB)) = G := ⟨_, rfl⟩
  obtain ⟨s1, s2, s3, s4⟩ := set4T br _ _ _ _ hNw13
  replace bf := (s2 (y2) (by have h3 := hley2.out; omega)).trans bf
  replace bs := (s2 (y3) (by have h3 := hley3.out; omega)).trans bs
  replace P : Hid (w13.ownsRow (z + 1) 3 1 (.slice aP ps.length cP) ps.length (iv ps)) := own_keep P.out (fun q hq => s2 q (fun e => by obtain ⟨cur, hc, _⟩ := own_at P.out hq; rw [e, br] at hc; simp at hc))
  replace Q : Hid (w13.ownsRow (z + 1) 3 1 (.slice aQ ls.length cQ) ls.length (iv ls)) := own_keep Q.out (fun q hq => s2 q (fun e => by obtain ⟨cur, hc, _⟩ := own_at Q.out hq; rw [e, br] at hc; simp at hc))
  replace R : Hid (w13.ownsRow (z + 1) 41 2 (.slice aB bd.length cB) bd.length (pv bd)) := own_keep R.out (fun q hq => s2 q (fun e => by obtain ⟨cur, hc, _⟩ := own_at R.out hq; rw [e, br] at hc; simp at hc))
  have hsl : w.heap.size ≤ z := by have hc1 := HC.out; have hc2 := HZ.out; omega
  have hs : Below w.heap.size w12 w13 := s4 _ _ hsl (Below.refl _ _)
  replace C := cur_upto C hs HC.out.1
  replace A : Hid (Aft B g w w13) := aft_upto A.out hs (Nat.le_trans HC.out.2 (Nat.le_of_lt HC.out.1))
  replace LB : Hid (z + 1 ≤ w13.heap.size) := by unfold Hid; rw [s3]; exact LB.out
  replace br := s1
  clear s1 s2 s3 s4 hs hsl
  have HS : Hid (SmD ps ls bd) := ⟨HLP.out, HLQ.out, ⟨by have := HOB.out.1; omega, HPB.out⟩, HOB.out.2⟩
  have HF : Hid (FunO w.heap.size w13 (.slice aP ps.length cP) (.slice aQ ls.length cQ) (.slice aB bd.length cB) ps ls bd) := ⟨own_baseI P.out (by have := HZ.out; omega), own_baseI Q.out (by have := HZ.out; omega), own_baseI R.out (by have := HZ.out; omega)⟩
  have zr0 : w13.cell? ⟨z, 0, none⟩ = some (.slice aP ps.length cP) := (cell_of_block br 0).trans rfl
  have zr1 : w13.cell? ⟨z, 1, none⟩ = some (.int .i64 res) := (cell_of_block br 1).trans rfl
  have zr2 : w13.cell? ⟨z, 2, none⟩ = some (.slice aQ ls.length cQ) := (cell_of_block br 2).trans rfl
  have zr3 : w13.cell? ⟨z, 3, none⟩ = some (.slice aB bd.length cB) := (cell_of_block br 3).trans rfl
  go_wp2
  exact bodyPost_ret (v := .agg #[.slice aP ps.length cP, .int .i64 res, .slice aQ ls.length cQ, .slice aB bd.length cB]) (by simp [results, Tryz.results24, go_sem, zr0, zr1, zr2, zr3]) rfl ⟨_, _, _, res, ps, ls, bd, rfl, HF, HS, C.more (by omega), A⟩

set_option maxRecDepth 100000 in
set_option maxHeartbeats 3200000 in
theorem curFncB (g : Nat) (a : Option Addr) (n cap B m : Nat) (hm : Hid (m ≤ 399990)) (w : World) (C : Cur w g a n cap B m) :
    Calls Tryz.prog 24 #[.pointer (some ⟨g, 0, none⟩), .int .i64 0] w fun e w' => FncP B g a n cap m w e w' := by
  obtain ⟨i0, hi, hz0, hz1, hz2⟩ := info_parts Tryz.info41
  have HC : Hid (g < w.heap.size ∧ B ≤ g) := ⟨C.lt, C.hg⟩
  obtain ⟨z, hz⟩ : ∃ z, w.heap.size = z := ⟨_, rfl⟩
  have HZ : Hid (w.heap.size = z) := hz
  obtain ⟨V, hV⟩ : ∃ W, (w.alloc (.cells #[.slice none 0 0, .int .i64 0, .slice none 0 0, .slice none 0 0] 39)) = W := ⟨_, rfl⟩
  have hb : Below w.heap.size w V := by rw [← hV]; exact (bel_alloc (Below.refl _ _) _)
  have br : V.heap[z]? = some (.cells #[.slice none 0 0, .int .i64 0, .slice none 0 0, .slice none 0 0] 39 (0, 0)) := by
    have h := heap_alloc_new w (.cells #[.slice none 0 0, .int .i64 0, .slice none 0 0, .slice none 0 0] 39)
    have e : w.heap.size = z := by exact hz
    rw [e] at h
    rw [← hV]
    exact h
  have LB : Hid (z + 1 ≤ V.heap.size) := by unfold Hid; rw [← hV]; simp [hz]
  replace C := C.kept hb
  have A : Hid (Aft B g w V) := aft_step (Aft.refl _ _ _) hb (Nat.le_trans HC.out.2 (Nat.le_of_lt HC.out.1))
  clear hb
  go_enter Tryz.func24, Tryz.ntmps24
  obtain ⟨y1, hy1⟩ : ∃ z, V.heap.size = z := ⟨_, rfl⟩
  obtain ⟨w1, hNw1⟩ : ∃ W, V.alloc (.cells #[.int .i64 127, .int .i64 127, .int .i64 126, .int .i64 125, .int .i64 64] 3) = W := ⟨_, rfl⟩
  have hb : Below V.heap.size V w1 := by rw [← hNw1]; exact bel_alloc (Below.refl _ _) _
  have hley1 : Hid (z + 1 ≤ y1) := by unfold Hid; rw [← hy1]; exact LB.out
  replace br := (hb.block (z) (lt_of_block br)).trans br
  replace C := C.kept hb
  replace A : Hid (Aft B g w w1) := aft_step A.out hb (Nat.le_trans HC.out.2 (Nat.le_of_lt HC.out.1))
  replace LB : Hid (z + 1 ≤ w1.heap.size) := Nat.le_trans LB.out hb.size
  have bq : w1.heap[y1]? = some (.cells #[.int .i64 127, .int .i64 127, .int .i64 126, .int .i64 125, .int .i64 64] 3 (0, 0)) := by rw [← hNw1, ← hy1]; exact heap_alloc_new _ _
  clear hb
  have hv : ∀ i, i < 5 → ∃ z' : Int, (z' = 64 ∨ z' = 125 ∨ z' = 126 ∨ z' = 127) ∧ w1.cell? ⟨y1, i, none⟩ = some (.int .i64 z') := fun i hi => by
    have hii : i = 0 ∨ i = 1 ∨ i = 2 ∨ i = 3 ∨ i = 4 := by omega
    rcases hii with rfl | rfl | rfl | rfl | rfl
    · exact ⟨127, by decide, (cell_of_block bq 0).trans rfl⟩
    · exact ⟨127, by decide, (cell_of_block bq 1).trans rfl⟩
    · exact ⟨126, by decide, (cell_of_block bq 2).trans rfl⟩
    · exact ⟨125, by decide, (cell_of_block bq 3).trans rfl⟩
    · exact ⟨64, by decide, (cell_of_block bq 4).trans rfl⟩
  have hbl : y1 < w1.heap.size := lt_of_block bq
  have hbg : y1 ≠ g := by have h1 := hley1.out; have h2 := HC.out; have h3 := HZ.out; omega
  go_wp2_with fail
  clear hV hz hNw1 hy1
  refine (curAmongV (fun z' => z' = 64 ∨ z' = 125 ∨ z' = 126 ∨ z' = 127) y1 5 (by omega) (by omega) g a n cap B (m) (hid_le (by have := hm.out; omega)) w1 C hv hbl hbg).mono ?_
  rintro e w2 ⟨res, hres, rfl, C1, ha⟩
  replace br := (ha.blk (z) (by have hc1 := HC.out; have hc2 := HZ.out; omega) (lt_of_block br)).trans br
  replace bq := (ha.blk (y1) (by have h3 := hley1.out; have hc1 := HC.out; have hc2 := HZ.out; omega) (lt_of_block bq)).trans bq
  replace A : Hid (Aft B g w w2) := A.out.trans ha
  replace LB : Hid (z + 1 ≤ w2.heap.size) := Nat.le_trans LB.out ha.size
  clear ha C
  have C := C1
  clear C1
  clear hv hbl hbg bq
  obtain ⟨y2, hy2⟩ : ∃ z, w2.heap.size = z := ⟨_, rfl⟩
  obtain ⟨w3, hNw3⟩ : ∃ W, w2.alloc (.cells #[.slice none 0 0, .int .i64 0, .slice none 0 0, .slice none 0 0] 39) = W := ⟨_, rfl⟩
  have hb : Below w2.heap.size w2 w3 := by rw [← hNw3]; exact bel_alloc (Below.refl _ _) _
  have hley2 : Hid (z + 1 ≤ y2) := by unfold Hid; rw [← hy2]; exact LB.out
  replace br := (hb.block (z) (lt_of_block br)).trans br
  replace C := C.kept hb
  replace A : Hid (Aft B g w w3) := aft_step A.out hb (Nat.le_trans HC.out.2 (Nat.le_of_lt HC.out.1))
  replace LB : Hid (z + 1 ≤ w3.heap.size) := Nat.le_trans LB.out hb.size
  have bf : w3.heap[y2]? = some (.cells #[.slice none 0 0, .int .i64 0, .slice none 0 0, .slice none 0 0] 39 (0, 0)) := by rw [← hNw3, ← hy2]; exact heap_alloc_new _ _
  clear hb
  have pf0x1 : w3.cell? ⟨y2, 0, none⟩ = some (.slice none 0 0) := (cell_of_block bf 0).trans rfl
  have pf1x1 : w3.cell? ⟨y2, 1, none⟩ = some (.int .i64 0) := (cell_of_block bf 1).trans rfl
  have pf2x1 : w3.cell? ⟨y2, 2, none⟩ = some (.slice none 0 0) := (cell_of_block bf 2).trans rfl
  have pf3x1 : w3.cell? ⟨y2, 3, none⟩ = some (.slice none 0 0) := (cell_of_block bf 3).trans rfl
  have ff0x1 := free_of_block bf 0
  have ff1x1 := free_of_block bf 1
  have ff2x1 := free_of_block bf 2
  have ff3x1 := free_of_block bf 3
  obtain ⟨w4, hNw4⟩ : ∃ G, ((((w3.setCell ⟨y2, 0, none⟩ (.slice none 0 0)).setCell ⟨y2, 1, none⟩ (.int .i64 res)).setCell ⟨y2, 2, none⟩ (.slice none 0 0)).setCell ⟨y2, 3, none⟩ (.slice none 0 0)) = G := ⟨_, rfl⟩
  obtain ⟨s1, s2, s3, s4⟩ := set4T bf _ _ _ _ hNw4
  replace br := (s2 (z) (by have h3 := hley2.out; omega)).trans br
  have hsl : w.heap.size ≤ y2 := by have h3 := hley2.out; have hc1 := HC.out; have hc2 := HZ.out; omega
  have hs : Below w.heap.size w3 w4 := s4 _ _ hsl (Below.refl _ _)
  replace C := cur_upto C hs HC.out.1
  replace A : Hid (Aft B g w w4) := aft_upto A.out hs (Nat.le_trans HC.out.2 (Nat.le_of_lt HC.out.1))
  replace LB : Hid (z + 1 ≤ w4.heap.size) := by unfold Hid; rw [s3]; exact LB.out
  replace bf := s1
  clear s1 s2 s3 s4 hs hsl
  obtain ⟨y3, hy3⟩ : ∃ z, w4.heap.size = z := ⟨_, rfl⟩
  obtain ⟨w5, hNw5⟩ : ∃ W, w4.alloc (.cells #[.int .i64 127, .int .i64 127, .int .i64 126] 3) = W := ⟨_, rfl⟩
  have hb : Below w4.heap.size w4 w5 := by rw [← hNw5]; exact bel_alloc (Below.refl _ _) _
  have hley3 : Hid (z + 1 ≤ y3) := by unfold Hid; rw [← hy3]; exact LB.out
  replace br := (hb.block (z) (lt_of_block br)).trans br
  replace bf := (hb.block (y2) (lt_of_block bf)).trans bf
  replace C := C.kept hb
  replace A : Hid (Aft B g w w5) := aft_step A.out hb (Nat.le_trans HC.out.2 (Nat.le_of_lt HC.out.1))
  replace LB : Hid (z + 1 ≤ w5.heap.size) := Nat.le_trans LB.out hb.size
  have bs : w5.heap[y3]? = some (.cells #[.int .i64 127, .int .i64 127, .int .i64 126] 3 (0, 0)) := by rw [← hNw5, ← hy3]; exact heap_alloc_new _ _
  clear hb
  go_wp2_with fail
  clear hNw3 hy2 pf0x1 pf1x1 pf2x1 pf3x1 ff0x1 ff1x1 ff2x1 ff3x1 hNw4 hNw5 hy3
  refine (curPick 4 (by omega) (by omega) g a n cap B (m + 2) (hid_le (by have := hm.out; omega)) w5 C).mono ?_
  rintro e w6 ⟨r, r0, r1, rfl, C1, ha⟩
  replace br := (ha.blk (z) (by have hc1 := HC.out; have hc2 := HZ.out; omega) (lt_of_block br)).trans br
  replace bf := (ha.blk (y2) (by have h3 := hley2.out; have hc1 := HC.out; have hc2 := HZ.out; omega) (lt_of_block bf)).trans bf
  replace bs := (ha.blk (y3) (by have h3 := hley3.out; have hc1 := HC.out; have hc2 := HZ.out; omega) (lt_of_block bs)).trans bs
  replace A : Hid (Aft B g w w6) := A.out.trans ha
  replace LB : Hid (z + 1 ≤ w6.heap.size) := Nat.le_trans LB.out ha.size
  clear ha C
  have C := C1
  clear C1
  obtain ⟨k, rfl⟩ : ∃ k : Nat, r = k := ⟨r.toNat, by omega⟩
  have HK : Hid (k ≤ 3) := by unfold Hid; omega
  clear r0 r1
  have hk1 : ¬ (k : Int) < 0 := by omega
  have hk2 : ¬ 3 < k := by have := HK.out; omega
  have hk3 : 0 ≤ (k : Int) ∧ (k : Int) ≤ 3 := by have := HK.out; omega
  go_wp2
  refine wa_begin (by kernel_rfl) ?_
  obtain ⟨w7, hD⟩ : ∃ W, w6.drew = W := ⟨_, rfl⟩
  have hb : Below w6.heap.size w6 w7 := by rw [← hD]; exact (Below.refl _ _).drew
  rw [hD]
  replace br := (hb.block (z) (lt_of_block br)).trans br
  replace bf := (hb.block (y2) (lt_of_block bf)).trans bf
  replace bs := (hb.block (y3) (lt_of_block bs)).trans bs
  replace C := C.kept hb
  replace A : Hid (Aft B g w w7) := aft_step A.out hb (Nat.le_trans HC.out.2 (Nat.le_of_lt HC.out.1))
  replace LB : Hid (z + 1 ≤ w7.heap.size) := Nat.le_trans LB.out hb.size
  clear hb hD
  refine wa_take 0 (some 15) (.pointer (some ⟨y2, 0, none⟩)) rfl rfl (by kernel_rfl) (by kernel_rfl) (by kernel_rfl) (fun _ _ _ h => h) (by rfl) (fun _ => by kernel_rfl) ?_
  simp only [Act.put, List.setIfInBounds_toArray, List.set_cons_zero, List.set_cons_succ]
  refine wa_take 2 (some 17) (.slice (some ⟨y3, 0, none⟩) 3 3) rfl rfl (by kernel_rfl) (by kernel_rfl) (by kernel_rfl) (fun _ _ _ h => h) (by rfl) (fun _ => by kernel_rfl) ?_
  simp only [Act.put, List.setIfInBounds_toArray, List.set_cons_zero, List.set_cons_succ]
  refine wa_take 3 (some 18) (.int .i64 (k : Int)) rfl rfl (by kernel_rfl) (by kernel_rfl) (by kernel_rfl) (fun _ _ _ h => h) (by rfl) (fun _ => by kernel_rfl) ?_
  simp only [Act.put, List.setIfInBounds_toArray, List.set_cons_zero, List.set_cons_succ]
  refine wa_take 4 (some 19) (.slice (some ⟨y3, 0, none⟩) k 3) rfl rfl (by kernel_rfl) (by kernel_rfl) (by kernel_rfl) (fun _ _ _ h => h) (by rfl) (fun _ => by go_simp) ?_
  simp only [Act.put, List.setIfInBounds_toArray, List.set_cons_zero, List.set_cons_succ]
  have pf0x2 : w7.cell? ⟨y2, 0, none⟩ = some (.slice none 0 0) := (cell_of_block bf 0).trans rfl
  refine wa_val 1 (some 16) (.slice none 0 0) w7 (by kernel_rfl) rfl rfl (by rfl) (by go_simp) ?_
  simp only [Act.put, List.setIfInBounds_toArray, List.set_cons_zero, List.set_cons_succ]
  clear pf0x2
  have hcs : ∀ (j : Nat) (u : Value), (iv [127, 127, 126])[j]? = some u → w7.cell? ⟨y3, j, none⟩ = some u := fun j u hu => by
    have hj : j < 3 := by rcases Nat.lt_or_ge j 3 with h' | h'; exact h'; rw [List.getElem?_eq_none (by simpa [iv] using h')] at hu; cases hu
    have hjj : j = 0 ∨ j = 1 ∨ j = 2 := by omega
    rcases hjj with rfl | rfl | rfl
    · exact (cell_of_block bs 0).trans (by simpa [iv] using hu)
    · exact (cell_of_block bs 1).trans (by simpa [iv] using hu)
    · exact (cell_of_block bs 2).trans (by simpa [iv] using hu)
  have e1 : (([127, 127, 126] : List Int).take k).length = k := by simp; have := HK.out; omega
  obtain ⟨vP, wx0, hr, ho, hgr⟩ := appIntJ w7 (z + 1) (.slice none 0 0) [] (World.ownsRow_nil _ _ _ _) y3 0 3 (([127, 127, 126] : List Int).take k) (fun j u hu => by rw [Nat.zero_add]; exact hcs j u (iv_takeJ _ _ j u hu)) (by rw [e1]; simp; omega) LB.out 36
  rw [e1] at hr
  rw [List.nil_append] at ho
  obtain ⟨ps, hps⟩ : ∃ l, ([127, 127, 126] : List Int).take k = l := ⟨_, rfl⟩
  have HLP : Hid (ps.length ≤ 3) := by unfold Hid; rw [← hps, e1]; have := HK.out; omega
  rw [hps] at ho
  obtain ⟨aP, cP, hvP, _⟩ := ints_of_row ho
  subst hvP
  have hb : Below w7.heap.size w7 wx0 := (Below.refl _ _).grown hgr (Nat.le_refl _) (fun q hq => by cases hq)
  clear hps e1 hcs hgr
  replace br := (hb.block (z) (lt_of_block br)).trans br
  replace bf := (hb.block (y2) (lt_of_block bf)).trans bf
  replace bs := (hb.block (y3) (lt_of_block bs)).trans bs
  replace C := C.kept hb
  replace A : Hid (Aft B g w wx0) := aft_step A.out hb (Nat.le_trans HC.out.2 (Nat.le_of_lt HC.out.1))
  replace LB : Hid (z + 1 ≤ wx0.heap.size) := Nat.le_trans LB.out hb.size
  have P : Hid (wx0.ownsRow (z + 1) 3 1 (.slice aP ps.length cP) ps.length (iv ps)) := ho
  clear hb ho
  refine wa_val 5 (some 20) (.slice aP ps.length cP) wx0 (by kernel_rfl) rfl rfl (by rfl) (by simp [execOp, resolve, invoke, builtin, Act.eval, hr, Result.andThen]) ?_
  simp only [Act.put, List.setIfInBounds_toArray, List.set_cons_zero, List.set_cons_succ]
  clear hr
  refine wa_val 6 (some 21) (.pointer (some ⟨y2, 0, none⟩)) wx0 (by kernel_rfl) rfl rfl (by rfl) (by kernel_rfl) ?_
  simp only [Act.put, List.setIfInBounds_toArray, List.set_cons_zero, List.set_cons_succ]
  have pf0x3 : wx0.cell? ⟨y2, 0, none⟩ = some (.slice none 0 0) := (cell_of_block bf 0).trans rfl
  have pf1x3 : wx0.cell? ⟨y2, 1, none⟩ = some (.int .i64 res) := (cell_of_block bf 1).trans rfl
  have pf2x3 : wx0.cell? ⟨y2, 2, none⟩ = some (.slice none 0 0) := (cell_of_block bf 2).trans rfl
  have pf3x3 : wx0.cell? ⟨y2, 3, none⟩ = some (.slice none 0 0) := (cell_of_block bf 3).trans rfl
  have ff0x3 := free_of_block bf 0
  have ff1x3 := free_of_block bf 1
  have ff2x3 := free_of_block bf 2
  have ff3x3 := free_of_block bf 3
  obtain ⟨w8, hNw8⟩ : ∃ G, (wx0.setCell ⟨y2, 0, none⟩ (.slice aP ps.length cP)) = G := ⟨_, rfl⟩
  obtain ⟨s1, s2, s3, s4⟩ := set1T bf 0 (.slice aP ps.length cP) hNw8
  replace s1 : w8.heap[y2]? = some (.cells #[.slice aP ps.length cP, .int .i64 res, .slice none 0 0, .slice none 0 0] 39 (0, 0)) := s1
  replace br := (s2 (z) (by have h3 := hley2.out; omega)).trans br
  replace bs := (s2 (y3) (fun e => by have e2 := bs; rw [e] at e2; rw [bf] at e2; cases e2)).trans bs
  replace P : Hid (w8.ownsRow (z + 1) 3 1 (.slice aP ps.length cP) ps.length (iv ps)) := own_keep P.out (fun q hq => s2 q (fun e => by obtain ⟨cur, hc, _⟩ := own_at P.out hq; rw [e, bf] at hc; simp at hc))
  have hsl : w.heap.size ≤ y2 := by have h3 := hley2.out; have hc1 := HC.out; have hc2 := HZ.out; omega
  have hs : Below w.heap.size wx0 w8 := s4 _ _ hsl (Below.refl _ _)
  replace C := cur_upto C hs HC.out.1
  replace A : Hid (Aft B g w w8) := aft_upto A.out hs (Nat.le_trans HC.out.2 (Nat.le_of_lt HC.out.1))
  replace LB : Hid (z + 1 ≤ w8.heap.size) := by unfold Hid; rw [s3]; exact LB.out
  replace bf := s1
  clear s1 s2 s3 s4 hs hsl
  refine wa_store 7 none w8 (by kernel_rfl) rfl rfl (by rfl) (by rw [← hNw8]; go_simp) ?_
  simp only [Act.put]
  clear pf0x3 pf1x3 pf2x3 pf3x3 ff0x3 ff1x3 ff2x3 ff3x3 hNw8
  refine wa_done (by kernel_rfl) ?_
  clear hk1 hk2 hk3
  have hk1 : ¬ (k : Int) < 0 := by omega
  have hk2 : ¬ 3 < k := by have := HK.out; omega
  have hk3 : 0 ≤ (k : Int) ∧ (k : Int) ≤ 3 := by have := HK.out; omega
  go_wp2
  refine wa_begin (by kernel_rfl) ?_
  obtain ⟨w9, hD⟩ : ∃ W, w8.drew = W := ⟨_, rfl⟩
  have hb : Below w8.heap.size w8 w9 := by rw [← hD]; exact (Below.refl _ _).drew
  rw [hD]
  replace br := (hb.block (z) (lt_of_block br)).trans br
  replace bf := (hb.block (y2) (lt_of_block bf)).trans bf
  replace bs := (hb.block (y3) (lt_of_block bs)).trans bs
  replace P : Hid (w9.ownsRow (z + 1) 3 1 (.slice aP ps.length cP) ps.length (iv ps)) := own_keep P.out (fun q hq => hb.block q (P.out.lt q hq).2)
  replace C := C.kept hb
  replace A : Hid (Aft B g w w9) := aft_step A.out hb (Nat.le_trans HC.out.2 (Nat.le_of_lt HC.out.1))
  replace LB : Hid (z + 1 ≤ w9.heap.size) := Nat.le_trans LB.out hb.size
  clear hb hD
  refine wa_take 0 (some 22) (.pointer (some ⟨y2, 2, none⟩)) rfl rfl (by kernel_rfl) (by kernel_rfl) (by kernel_rfl) (fun _ _ _ h => h) (by rfl) (fun _ => by kernel_rfl) ?_
  simp only [Act.put, List.setIfInBounds_toArray, List.set_cons_zero, List.set_cons_succ]
  refine wa_take 2 (some 24) (.slice (some ⟨y3, 0, none⟩) 3 3) rfl rfl (by kernel_rfl) (by kernel_rfl) (by kernel_rfl) (fun _ _ _ h => h) (by rfl) (fun _ => by kernel_rfl) ?_
  simp only [Act.put, List.setIfInBounds_toArray, List.set_cons_zero, List.set_cons_succ]
  refine wa_take 3 (some 25) (.int .i64 (k : Int)) rfl rfl (by kernel_rfl) (by kernel_rfl) (by kernel_rfl) (fun _ _ _ h => h) (by rfl) (fun _ => by kernel_rfl) ?_
  simp only [Act.put, List.setIfInBounds_toArray, List.set_cons_zero, List.set_cons_succ]
  obtain ⟨ld, hld, hcd⟩ := restJ [127, 127, 126] y3 k 3 (by decide)
  have HCD : Hid _ := hcd
  clear hcd
  refine wa_take 4 (some 26) (.slice (some ⟨y3, ld, none⟩) (3 - k) (3 - k)) rfl rfl (by kernel_rfl) (by kernel_rfl) (by kernel_rfl) (fun _ _ _ h => h) (by rfl) (fun _ => by rw [← hld]; go_simp) ?_
  simp only [Act.put, List.setIfInBounds_toArray, List.set_cons_zero, List.set_cons_succ]
  have pf2x4 : w9.cell? ⟨y2, 2, none⟩ = some (.slice none 0 0) := (cell_of_block bf 2).trans rfl
  refine wa_val 1 (some 23) (.slice none 0 0) w9 (by kernel_rfl) rfl rfl (by rfl) (by go_simp) ?_
  simp only [Act.put, List.setIfInBounds_toArray, List.set_cons_zero, List.set_cons_succ]
  clear pf2x4
  have hcs : ∀ (j : Nat) (u : Value), (iv [127, 127, 126])[j]? = some u → w9.cell? ⟨y3, j, none⟩ = some u := fun j u hu => by
    have hj : j < 3 := by rcases Nat.lt_or_ge j 3 with h' | h'; exact h'; rw [List.getElem?_eq_none (by simpa [iv] using h')] at hu; cases hu
    have hjj : j = 0 ∨ j = 1 ∨ j = 2 := by omega
    rcases hjj with rfl | rfl | rfl
    · exact (cell_of_block bs 0).trans (by simpa [iv] using hu)
    · exact (cell_of_block bs 1).trans (by simpa [iv] using hu)
    · exact (cell_of_block bs 2).trans (by simpa [iv] using hu)
  have e1 : (([127, 127, 126] : List Int).drop k).length = 3 - k := by simp
  obtain ⟨vQ, wx1, hr, ho, hgr⟩ := appIntJ w9 (z + 1) (.slice none 0 0) [] (World.ownsRow_nil _ _ _ _) y3 ld (3 - k) (([127, 127, 126] : List Int).drop k) (fun j u hu => hcs _ u (HCD.out j u hu)) (by rw [e1]; simp; omega) LB.out 36
  rw [e1] at hr
  rw [List.nil_append] at ho
  obtain ⟨ls, hls⟩ : ∃ l, ([127, 127, 126] : List Int).drop k = l := ⟨_, rfl⟩
  have HLQ : Hid (ls.length ≤ 3) := by unfold Hid; rw [← hls, e1]; have := HK.out; omega
  rw [hls] at ho
  obtain ⟨aQ, cQ, hvQ, _⟩ := ints_of_row ho
  subst hvQ
  have hb : Below w9.heap.size w9 wx1 := (Below.refl _ _).grown hgr (Nat.le_refl _) (fun q hq => by cases hq)
  clear hls e1 hcs hgr HCD
  replace br := (hb.block (z) (lt_of_block br)).trans br
  replace bf := (hb.block (y2) (lt_of_block bf)).trans bf
  replace bs := (hb.block (y3) (lt_of_block bs)).trans bs
  replace P : Hid (wx1.ownsRow (z + 1) 3 1 (.slice aP ps.length cP) ps.length (iv ps)) := own_keep P.out (fun q hq => hb.block q (P.out.lt q hq).2)
  replace C := C.kept hb
  replace A : Hid (Aft B g w wx1) := aft_step A.out hb (Nat.le_trans HC.out.2 (Nat.le_of_lt HC.out.1))
  replace LB : Hid (z + 1 ≤ wx1.heap.size) := Nat.le_trans LB.out hb.size
  have Q : Hid (wx1.ownsRow (z + 1) 3 1 (.slice aQ ls.length cQ) ls.length (iv ls)) := ho
  clear hb ho
  refine wa_val 5 (some 27) (.slice aQ ls.length cQ) wx1 (by kernel_rfl) rfl rfl (by rfl) (by simp [execOp, resolve, invoke, builtin, Act.eval, hr, Result.andThen]) ?_
  simp only [Act.put, List.setIfInBounds_toArray, List.set_cons_zero, List.set_cons_succ]
  clear hr
  refine wa_val 6 (some 28) (.pointer (some ⟨y2, 2, none⟩)) wx1 (by kernel_rfl) rfl rfl (by rfl) (by kernel_rfl) ?_
  simp only [Act.put, List.setIfInBounds_toArray, List.set_cons_zero, List.set_cons_succ]
  have pf0x5 : wx1.cell? ⟨y2, 0, none⟩ = some (.slice aP ps.length cP) := (cell_of_block bf 0).trans rfl
  have pf1x5 : wx1.cell? ⟨y2, 1, none⟩ = some (.int .i64 res) := (cell_of_block bf 1).trans rfl
  have pf2x5 : wx1.cell? ⟨y2, 2, none⟩ = some (.slice none 0 0) := (cell_of_block bf 2).trans rfl
  have pf3x5 : wx1.cell? ⟨y2, 3, none⟩ = some (.slice none 0 0) := (cell_of_block bf 3).trans rfl
  have ff0x5 := free_of_block bf 0
  have ff1x5 := free_of_block bf 1
  have ff2x5 := free_of_block bf 2
  have ff3x5 := free_of_block bf 3
  obtain ⟨w10, hNw10⟩ : ∃ G, (wx1.setCell ⟨y2, 2, none⟩ (.slice aQ ls.length cQ)) = G := ⟨_, rfl⟩
  obtain ⟨s1, s2, s3, s4⟩ := set1T bf 2 (.slice aQ ls.length cQ) hNw10
  replace s1 : w10.heap[y2]? = some (.cells #[.slice aP ps.length cP, .int .i64 res, .slice aQ ls.length cQ, .slice none 0 0] 39 (0, 0)) := s1
  replace br := (s2 (z) (by have h3 := hley2.out; omega)).trans br
  replace bs := (s2 (y3) (fun e => by have e2 := bs; rw [e] at e2; rw [bf] at e2; cases e2)).trans bs
  replace P : Hid (w10.ownsRow (z + 1) 3 1 (.slice aP ps.length cP) ps.length (iv ps)) := own_keep P.out (fun q hq => s2 q (fun e => by obtain ⟨cur, hc, _⟩ := own_at P.out hq; rw [e, bf] at hc; simp at hc))
  replace Q : Hid (w10.ownsRow (z + 1) 3 1 (.slice aQ ls.length cQ) ls.length (iv ls)) := own_keep Q.out (fun q hq => s2 q (fun e => by obtain ⟨cur, hc, _⟩ := own_at Q.out hq; rw [e, bf] at hc; simp at hc))
  have hsl : w.heap.size ≤ y2 := by have h3 := hley2.out; have hc1 := HC.out; have hc2 := HZ.out; omega
  have hs : Below w.heap.size wx1 w10 := s4 _ _ hsl (Below.refl _ _)
  replace C := cur_upto C hs HC.out.1
  replace A : Hid (Aft B g w w10) := aft_upto A.out hs (Nat.le_trans HC.out.2 (Nat.le_of_lt HC.out.1))
  replace LB : Hid (z + 1 ≤ w10.heap.size) := by unfold Hid; rw [s3]; exact LB.out
  replace bf := s1
  clear s1 s2 s3 s4 hs hsl
  refine wa_store 7 none w10 (by kernel_rfl) rfl rfl (by rfl) (by rw [← hNw10]; go_simp) ?_
  simp only [Act.put]
  clear pf0x5 pf1x5 pf2x5 pf3x5 ff0x5 ff1x5 ff2x5 ff3x5 hNw10
  refine wa_done (by kernel_rfl) ?_
  clear hk1 hk2 hk3 hld
  have HRS : Hid (res = 64 ∨ res = 125 ∨ res = 126 ∨ res = 127) := hres
  clear hres
  have pf1x6 : w10.cell? ⟨y2, 1, none⟩ = some (.int .i64 res) := (cell_of_block bf 1).trans rfl
  go_wp2_with fail
  clear pf1x6
  refine (curBody res HRS.out g a n cap B (m + 2 + 2) (hid_le (by have := hm.out; omega)) w10 C).mono ?_
  rintro e w11 ⟨vB, bd, rfl, RB, HOB, C1, HAB, HPB⟩
  obtain ⟨aB, cB, gB, hvB, hx1, hx2, hx3⟩ := owned_ins RB.out
  clear hx1 hx2 hx3
  subst hvB
  have R : Hid (w11.ownsRow (z + 1) 41 2 (.slice aB bd.length cB) bd.length (pv bd)) := own_baseI RB.out LB.out
  have ha := HAB.out
  replace br := (ha.blk (z) (by have hc1 := HC.out; have hc2 := HZ.out; omega) (lt_of_block br)).trans br
  replace bf := (ha.blk (y2) (by have h3 := hley2.out; have hc1 := HC.out; have hc2 := HZ.out; omega) (lt_of_block bf)).trans bf
  replace bs := (ha.blk (y3) (by have h3 := hley3.out; have hc1 := HC.out; have hc2 := HZ.out; omega) (lt_of_block bs)).trans bs
  replace P : Hid (w11.ownsRow (z + 1) 3 1 (.slice aP ps.length cP) ps.length (iv ps)) := own_keep P.out (fun q hq => ha.blk q (by have h4 := (P.out.lt q hq).1; have hc1 := HC.out; have hc2 := HZ.out; omega) (P.out.lt q hq).2)
  replace Q : Hid (w11.ownsRow (z + 1) 3 1 (.slice aQ ls.length cQ) ls.length (iv ls)) := own_keep Q.out (fun q hq => ha.blk q (by have h4 := (Q.out.lt q hq).1; have hc1 := HC.out; have hc2 := HZ.out; omega) (Q.out.lt q hq).2)
  replace A : Hid (Aft B g w w11) := A.out.trans ha
  replace LB : Hid (z + 1 ≤ w11.heap.size) := Nat.le_trans LB.out ha.size
  clear ha C RB HAB
  have C := C1
  clear C1
  have pf0x7 : w11.cell? ⟨y2, 0, none⟩ = some (.slice aP ps.length cP) := (cell_of_block bf 0).trans rfl
  have pf1x7 : w11.cell? ⟨y2, 1, none⟩ = some (.int .i64 res) := (cell_of_block bf 1).trans rfl
  have pf2x7 : w11.cell? ⟨y2, 2, none⟩ = some (.slice aQ ls.length cQ) := (cell_of_block bf 2).trans rfl
  have pf3x7 : w11.cell? ⟨y2, 3, none⟩ = some (.slice none 0 0) := (cell_of_block bf 3).trans rfl
  have ff0x7 := free_of_block bf 0
  have ff1x7 := free_of_block bf 1
  have ff2x7 := free_of_block bf 2
  have ff3x7 := free_of_block bf 3
  obtain ⟨w12, hNw12⟩ : ∃ G, (w11.setCell ⟨y2, 3, none⟩ (.slice aB bd.length cB)) = G := ⟨_, rfl⟩
  obtain ⟨s1, s2, s3, s4⟩ := set1T bf 3 (.slice aB bd.length cB) hNw12
  replace s1 : w12.heap[y2]? = some (.cells #[.slice aP ps.length cP, .int .i64 res, .slice aQ ls.length cQ, .slice aB bd.length cB] 39 (0, 0)) := s1
  replace br := (s2 (z) (by have h3 := hley2.out; omega)).trans br
  replace bs := (s2 (y3) (fun e => by have e2 := bs; rw [e] at e2; rw [bf] at e2; cases e2)).trans bs
  replace P : Hid (w12.ownsRow (z + 1) 3 1 (.slice aP ps.length cP) ps.length (iv ps)) := own_keep P.out (fun q hq => s2 q (fun e => by obtain ⟨cur, hc, _⟩ := own_at P.out hq; rw [e, bf] at hc; simp at hc))
  replace Q : Hid (w12.ownsRow (z + 1) 3 1 (.slice aQ ls.length cQ) ls.length (iv ls)) := own_keep Q.out (fun q hq => s2 q (fun e => by obtain ⟨cur, hc, _⟩ := own_at Q.out hq; rw [e, bf] at hc; simp at hc))
  replace R : Hid (w12.ownsRow (z + 1) 41 2 (.slice aB bd.length cB) bd.length (pv bd)) := own_keep R.out (fun q hq => s2 q (fun e => by obtain ⟨cur, hc, _⟩ := own_at R.out hq; rw [e, bf] at hc; simp at hc))
  have hsl : w.heap.size ≤ y2 := by have h3 := hley2.out; have hc1 := HC.out; have hc2 := HZ.out; omega
  have hs : Below w.heap.size w11 w12 := s4 _ _ hsl (Below.refl _ _)
  replace C := cur_upto C hs HC.out.1
  replace A : Hid (Aft B g w w12) := aft_upto A.out hs (Nat.le_trans HC.out.2 (Nat.le_of_lt HC.out.1))
  replace LB : Hid (z + 1 ≤ w12.heap.size) := by unfold Hid; rw [s3]; exact LB.out
  replace bf := s1
  clear s1 s2 s3 s4 hs hsl
  go_wp2_with fail
  clear pf0x7 pf1x7 pf2x7 pf3x7 ff0x7 ff1x7 ff2x7 ff3x7 hNw12
  refine (curOne 2 (by omega) (by omega) g a n cap B (m + 2 + 2 + 130000) (hid_le (by have := hm.out; omega)) w12 C).mono ?_
  rintro e w13 ⟨b, rfl, C1, ha⟩
  replace br := (ha.blk (z) (by have hc1 := HC.out; have hc2 := HZ.out; omega) (lt_of_block br)).trans br
  replace bf := (ha.blk (y2) (by have h3 := hley2.out; have hc1 := HC.out; have hc2 := HZ.out; omega) (lt_of_block bf)).trans bf
  replace bs := (ha.blk (y3) (by have h3 := hley3.out; have hc1 := HC.out; have hc2 := HZ.out; omega) (lt_of_block bs)).trans bs
  replace P : Hid (w13.ownsRow (z + 1) 3 1 (.slice aP ps.length cP) ps.length (iv ps)) := own_keep P.out (fun q hq => ha.blk q (by have h4 := (P.out.lt q hq).1; have hc1 := HC.out; have hc2 := HZ.out; omega) (P.out.lt q hq).2)
  replace Q : Hid (w13.ownsRow (z + 1) 3 1 (.slice aQ ls.length cQ) ls.length (iv ls)) := own_keep Q.out (fun q hq => ha.blk q (by have h4 := (Q.out.lt q hq).1; have hc1 := HC.out; have hc2 := HZ.out; omega) (Q.out.lt q hq).2)
  replace R : Hid (w13.ownsRow (z + 1) 41 2 (.slice aB bd.length cB) bd.length (pv bd)) := own_keep R.out (fun q hq => ha.blk q (by have h4 := (R.out.lt q hq).1; have hc1 := HC.out; have hc2 := HZ.out; omega) (R.out.lt q hq).2)
  replace A : Hid (Aft B g w w13) := A.out.trans ha
  replace LB : Hid (z + 1 ≤ w13.heap.size) := Nat.le_trans LB.out ha.size
  clear ha C
  have C := C1
  clear C1
  cases b
  · have HNN : Hid (0 < bd.length) := HPB
    have pf0x8 : w13.cell? ⟨y2, 0, none⟩ = some (.slice aP ps.length cP) := (cell_of_block bf 0).trans rfl
    have pf1x8 : w13.cell? ⟨y2, 1, none⟩ = some (.int .i64 res) := (cell_of_block bf 1).trans rfl
    have pf2x8 : w13.cell? ⟨y2, 2, none⟩ = some (.slice aQ ls.length cQ) := (cell_of_block bf 2).trans rfl
    have pf3x8 : w13.cell? ⟨y2, 3, none⟩ = some (.slice aB bd.length cB) := (cell_of_block bf 3).trans rfl
    have pr0x9 : w13.cell? ⟨z, 0, none⟩ = some (.slice none 0 0) := (cell_of_block br 0).trans rfl
    have pr1x9 : w13.cell? ⟨z, 1, none⟩ = some (.int .i64 0) := (cell_of_block br 1).trans rfl
    have pr2x9 : w13.cell? ⟨z, 2, none⟩ = some (.slice none 0 0) := (cell_of_block br 2).trans rfl
    have pr3x9 : w13.cell? ⟨z, 3, none⟩ = some (.slice none 0 0) := (cell_of_block br 3).trans rfl
    have fr0x9 := free_of_block br 0
    have fr1x9 := free_of_block br 1
    have fr2x9 := free_of_block br 2
    have fr3x9 := free_of_block br 3
    obtain ⟨w14, hNw14⟩ : ∃ G, ((((w13.setCell ⟨z, 0, none⟩ (.slice aP ps.length cP)).setCell ⟨z, 1, none⟩ (.int .i64 res)).setCell ⟨z, 2, none⟩ (.slice aQ ls.length cQ)).setCell ⟨z, 3, none⟩ (.slice aB bd.length cB)) = G := ⟨_, rfl⟩
    obtain ⟨s1, s2, s3, s4⟩ := set4T br _ _ _ _ hNw14
    replace bf := (s2 (y2) (by have h3 := hley2.out; omega)).trans bf
    replace bs := (s2 (y3) (by have h3 := hley3.out; omega)).trans bs
    replace P : Hid (w14.ownsRow (z + 1) 3 1 (.slice aP ps.length cP) ps.length (iv ps)) := own_keep P.out (fun q hq => s2 q (fun e => by obtain ⟨cur, hc, _⟩ := own_at P.out hq; rw [e, br] at hc; simp at hc))
    replace Q : Hid (w14.ownsRow (z + 1) 3 1 (.slice aQ ls.length cQ) ls.length (iv ls)) := own_keep Q.out (fun q hq => s2 q (fun e => by obtain ⟨cur, hc, _⟩ := own_at Q.out hq; rw [e, br] at hc; simp at hc))
    replace R : Hid (w14.ownsRow (z + 1) 41 2 (.slice aB bd.length cB) bd.length (pv bd)) := own_keep R.out (fun q hq => s2 q (fun e => by obtain ⟨cur, hc, _⟩ := own_at R.out hq; rw [e, br] at hc; simp at hc))
    have hsl : w.heap.size ≤ z := by have hc1 := HC.out; have hc2 := HZ.out; omega
    have hs : Below w.heap.size w13 w14 := s4 _ _ hsl (Below.refl _ _)
    replace C := cur_upto C hs HC.out.1
    replace A : Hid (Aft B g w w14) := aft_upto A.out hs (Nat.le_trans HC.out.2 (Nat.le_of_lt HC.out.1))
    replace LB : Hid (z + 1 ≤ w14.heap.size) := by unfold Hid; rw [s3]; exact LB.out
    replace br := s1
    clear s1 s2 s3 s4 hs hsl
    have HS : Hid (SmD ps ls bd) := ⟨HLP.out, HLQ.out, ⟨by have := HOB.out.1; omega, HPB.out⟩, HOB.out.2⟩
    have HF : Hid (FunO w.heap.size w14 (.slice aP ps.length cP) (.slice aQ ls.length cQ) (.slice aB bd.length cB) ps ls bd) := ⟨own_baseI P.out (by have := HZ.out; omega), own_baseI Q.out (by have := HZ.out; omega), own_baseI R.out (by have := HZ.out; omega)⟩
    have zr0 : w14.cell? ⟨z, 0, none⟩ = some (.slice aP ps.length cP) := (cell_of_block br 0).trans rfl
    have zr1 : w14.cell? ⟨z, 1, none⟩ = some (.int .i64 res) := (cell_of_block br 1).trans rfl
    have zr2 : w14.cell? ⟨z, 2, none⟩ = some (.slice aQ ls.length cQ) := (cell_of_block br 2).trans rfl
    have zr3 : w14.cell? ⟨z, 3, none⟩ = some (.slice aB bd.length cB) := (cell_of_block br 3).trans rfl
    go_wp2
    exact bodyPost_ret (v := .agg #[.slice aP ps.length cP, .int .i64 res, .slice aQ ls.length cQ, .slice aB bd.length cB]) (by simp [results, Tryz.results24, go_sem, zr0, zr1, zr2, zr3]) rfl ⟨_, _, _, res, ps, ls, bd, rfl, HF, HS, C.more (by omega), A⟩
  · obtain ⟨gb, cb', hvB, hcB⟩ := own_pos R.out HPB.out
    simp only [Value.slice.injEq, true_and] at hvB
    obtain ⟨rfl, rfl⟩ := hvB
    obtain ⟨y4, hy4⟩ : ∃ z, w13.heap.size = z := ⟨_, rfl⟩
    obtain ⟨w14, hNw14⟩ : ∃ W, w13.alloc (.cells #[.int .i64 16, .int .i64 0] 41) = W := ⟨_, rfl⟩
    have hb0 : Below w13.heap.size w13 w14 := by rw [← hNw14]; exact bel_alloc (Below.refl _ _) _
    have bc : w14.heap[y4]? = some (.cells #[.int .i64 16, .int .i64 0] 41 (0, 0)) := by rw [← hNw14, ← hy4]; exact heap_alloc_new _ _
    have RC : Hid (w14.ownsRow y4 41 2 (.slice (some ⟨y4, 0, none⟩) 1 1) [((16 : Int), (0 : Int))].length (pv [(16, 0)])) := ⟨rfl, .inr ⟨y4, 1, _, rfl, Nat.le_refl _, bc, Nat.le_refl _, by unfold maxLen; omega, rfl, rfl⟩⟩
    have LY : Hid (y4 ≤ w14.heap.size) := Nat.le_of_lt (lt_of_block bc)
    have HY4 : Hid (w13.heap.size = y4 ∧ Below w13.heap.size w13 w14 ∧ z + 1 ≤ y4) := ⟨hy4, hb0, by rw [← hy4]; exact LB.out⟩
    clear bc
    have pf3c : w14.cell? ⟨y2, 3, none⟩ = some (.slice (some ⟨gb, 0, none⟩) bd.length cB) := (cell_of_block ((hb0.block y2 (lt_of_block bf)).trans bf) 3).trans rfl
    have HCL2 : Hid (∀ j u, (pv bd)[j]? = some u → w14.cell? ⟨gb, j, none⟩ = some u) := row_cells (own_keep R.out (fun q hq => hb0.block q (R.out.lt q hq).2))
    clear hb0
    go_wp2_with (at_builtin; refine wpList_append_own _ rfl _ _ 37 rfl y4 41 i0 (.agg #[.int .i64 0, .int .i64 0]) 2 16 Tryz.underlying37 hi hz0 hz1 hz2 rfl (by decide) _ _ _ rfl RC.out ⟨gb, 0, none⟩ bd.length cB (pv bd) rfl ?qc1 ?qc2 ?qc3 ?qc4 ?qc5 ?qc6 ?_)
    case qc1 => exact pv_len bd
    case qc2 => intro j u hu; rw [Addr.add_lit, Nat.zero_add]; exact HCL2.out j u hu
    case qc3 => exact pv_one _
    case qc4 => have := HOB.out.1; unfold maxLen; simp; omega
    case qc5 => have := HOB.out.1; simp; omega
    case qc6 => exact LY.out
    intro vA w15 hoA hgA _
    clear hNw14 hy4 pf3c
    have hb : Below w13.heap.size w13 w15 := by
      have h1 : Below y4 w14 w15 := (Below.refl _ _).grown hgA LY.out (fun q hq => (RC.out.lt q hq).1)
      have h2 := HY4.out.2.1
      rw [HY4.out.1] at h2 ⊢
      exact h2.trans h1
    rw [pv_appL] at hoA
    have RA : Hid (w15.ownsRow y4 41 2 vA ((16, 0) :: bd).length (pv ((16, 0) :: bd))) := by unfold Hid; simpa [Nat.add_comm] using hoA
    replace br := (hb.block (z) (lt_of_block br)).trans br
    replace bf := (hb.block (y2) (lt_of_block bf)).trans bf
    replace bs := (hb.block (y3) (lt_of_block bs)).trans bs
    replace P : Hid (w15.ownsRow (z + 1) 3 1 (.slice aP ps.length cP) ps.length (iv ps)) := own_keep P.out (fun q hq => hb.block q (P.out.lt q hq).2)
    replace Q : Hid (w15.ownsRow (z + 1) 3 1 (.slice aQ ls.length cQ) ls.length (iv ls)) := own_keep Q.out (fun q hq => hb.block q (Q.out.lt q hq).2)
    replace R : Hid (w15.ownsRow (z + 1) 41 2 (.slice (some ⟨gb, 0, none⟩) bd.length cB) bd.length (pv bd)) := own_keep R.out (fun q hq => hb.block q (R.out.lt q hq).2)
    replace C := C.kept hb
    replace A : Hid (Aft B g w w15) := aft_step A.out hb (Nat.le_trans HC.out.2 (Nat.le_of_lt HC.out.1))
    replace LB : Hid (z + 1 ≤ w15.heap.size) := Nat.le_trans LB.out hb.size
    clear hb hoA hgA RC LY HCL2
    obtain ⟨aA, cA, gA, hvA, hx1, hx2, hx3⟩ := owned_ins RA.out
    clear hx1 hx2 hx3
    subst hvA
    have RA2 : Hid (w15.ownsRow (z + 1) 41 2 (.slice aA ((16, 0) :: bd).length cA) ((16, 0) :: bd).length (pv ((16, 0) :: bd))) := own_baseI RA.out HY4.out.2.2
    clear RA
    obtain ⟨bd2, hbd2⟩ : ∃ l, ((16 : Int), (0 : Int)) :: bd = l := ⟨_, rfl⟩
    have HB2 : Hid ((bd2.length ≤ 14010 ∧ 0 < bd2.length) ∧ ∀ x ∈ bd2, OkI x) := by
      unfold Hid; rw [← hbd2]
      refine ⟨⟨by have := HOB.out.1; simp; omega, by simp⟩, fun x hx => ?_⟩
      rcases List.mem_cons.1 hx with rfl | hx
      · exact ⟨by decide, by decide⟩
      · exact HOB.out.2 x hx
    rw [hbd2] at RA2
    rw [hbd2]
    clear hbd2
    have pf0x8 : w15.cell? ⟨y2, 0, none⟩ = some (.slice aP ps.length cP) := (cell_of_block bf 0).trans rfl
    have pf1x8 : w15.cell? ⟨y2, 1, none⟩ = some (.int .i64 res) := (cell_of_block bf 1).trans rfl
    have pf2x8 : w15.cell? ⟨y2, 2, none⟩ = some (.slice aQ ls.length cQ) := (cell_of_block bf 2).trans rfl
    have pf3x8 : w15.cell? ⟨y2, 3, none⟩ = some (.slice (some ⟨gb, 0, none⟩) bd.length cB) := (cell_of_block bf 3).trans rfl
    have ff0x8 := free_of_block bf 0
    have ff1x8 := free_of_block bf 1
    have ff2x8 := free_of_block bf 2
    have ff3x8 := free_of_block bf 3
    obtain ⟨w16, hNw16⟩ : ∃ G, (w15.setCell ⟨y2, 3, none⟩ (.slice aA bd2.length cA)) = G := ⟨_, rfl⟩
    obtain ⟨s1, s2, s3, s4⟩ := set1T bf 3 (.slice aA bd2.length cA) hNw16
    replace s1 : w16.heap[y2]? = some (.cells #[.slice aP ps.length cP, .int .i64 res, .slice aQ ls.length cQ, .slice aA bd2.length cA] 39 (0, 0)) := s1
    replace br := (s2 (z) (by have h3 := hley2.out; omega)).trans br
    replace bs := (s2 (y3) (fun e => by have e2 := bs; rw [e] at e2; rw [bf] at e2; cases e2)).trans bs
    replace P : Hid (w16.ownsRow (z + 1) 3 1 (.slice aP ps.length cP) ps.length (iv ps)) := own_keep P.out (fun q hq => s2 q (fun e => by obtain ⟨cur, hc, _⟩ := own_at P.out hq; rw [e, bf] at hc; simp at hc))
    replace Q : Hid (w16.ownsRow (z + 1) 3 1 (.slice aQ ls.length cQ) ls.length (iv ls)) := own_keep Q.out (fun q hq => s2 q (fun e => by obtain ⟨cur, hc, _⟩ := own_at Q.out hq; rw [e, bf] at hc; simp at hc))
    replace R : Hid (w16.ownsRow (z + 1) 41 2 (.slice (some ⟨gb, 0, none⟩) bd.length cB) bd.length (pv bd)) := own_keep R.out (fun q hq => s2 q (fun e => by obtain ⟨cur, hc, _⟩ := own_at R.out hq; rw [e, bf] at hc; simp at hc))
    replace RA2 : Hid (w16.ownsRow (z + 1) 41 2 (.slice aA bd2.length cA) bd2.length (pv bd2)) := own_keep RA2.out (fun q hq => s2 q (fun e => by obtain ⟨cur, hc, _⟩ := own_at RA2.out hq; rw [e, bf] at hc; simp at hc))
    have hsl : w.heap.size ≤ y2 := by have h3 := hley2.out; have hc1 := HC.out; have hc2 := HZ.out; omega
    have hs : Below w.heap.size w15 w16 := s4 _ _ hsl (Below.refl _ _)
    replace C := cur_upto C hs HC.out.1
    replace A : Hid (Aft B g w w16) := aft_upto A.out hs (Nat.le_trans HC.out.2 (Nat.le_of_lt HC.out.1))
    replace LB : Hid (z + 1 ≤ w16.heap.size) := by unfold Hid; rw [s3]; exact LB.out
    replace bf := s1
    clear s1 s2 s3 s4 hs hsl
    have pf0x9 : w16.cell? ⟨y2, 0, none⟩ = some (.slice aP ps.length cP) := (cell_of_block bf 0).trans rfl
    have pf1x9 : w16.cell? ⟨y2, 1, none⟩ = some (.int .i64 res) := (cell_of_block bf 1).trans rfl
    have pf2x9 : w16.cell? ⟨y2, 2, none⟩ = some (.slice aQ ls.length cQ) := (cell_of_block bf 2).trans rfl
    have pf3x9 : w16.cell? ⟨y2, 3, none⟩ = some (.slice aA bd2.length cA) := (cell_of_block bf 3).trans rfl
    have pr0x10 : w16.cell? ⟨z, 0, none⟩ = some (.slice none 0 0) := (cell_of_block br 0).trans rfl
    have pr1x10 : w16.cell? ⟨z, 1, none⟩ = some (.int .i64 0) := (cell_of_block br 1).trans rfl
    have pr2x10 : w16.cell? ⟨z, 2, none⟩ = some (.slice none 0 0) := (cell_of_block br 2).trans rfl
    have pr3x10 : w16.cell? ⟨z, 3, none⟩ = some (.slice none 0 0) := (cell_of_block br 3).trans rfl
    have fr0x10 := free_of_block br 0
    have fr1x10 := free_of_block br 1
    have fr2x10 := free_of_block br 2
    have fr3x10 := free_of_block br 3
    obtain ⟨w17, hNw17⟩ : ∃ G, ((((w16.setCell ⟨z, 0, none⟩ (.slice aP ps.length cP)).setCell ⟨z, 1, none⟩ (.int .i64 res)).setCell ⟨z, 2, none⟩ (.slice aQ ls.length cQ)).setCell ⟨z, 3, none⟩ (.slice aA bd2.length cA)) = G := ⟨_, rfl⟩
    obtain ⟨s1, s2, s3, s4⟩ := set4T br _ _ _ _ hNw17
    replace bf := (s2 (y2) (by have h3 := hley2.out; omega)).trans bf
    replace bs := (s2 (y3) (by have h3 := hley3.out; omega)).trans bs
    replace P : Hid (w17.ownsRow (z + 1) 3 1 (.slice aP ps.length cP) ps.length (iv ps)) := own_keep P.out (fun q hq => s2 q (fun e => by obtain ⟨cur, hc, _⟩ := own_at P.out hq; rw [e, br] at hc; simp at hc))
    replace Q : Hid (w17.ownsRow (z + 1) 3 1 (.slice aQ ls.length cQ) ls.length (iv ls)) := own_keep Q.out (fun q hq => s2 q (fun e => by obtain ⟨cur, hc, _⟩ := own_at Q.out hq; rw [e, br] at hc; simp at hc))
    replace R : Hid (w17.ownsRow (z + 1) 41 2 (.slice (some ⟨gb, 0, none⟩) bd.length cB) bd.length (pv bd)) := own_keep R.out (fun q hq => s2 q (fun e => by obtain ⟨cur, hc, _⟩ := own_at R.out hq; rw [e, br] at hc; simp at hc))
    replace RA2 : Hid (w17.ownsRow (z + 1) 41 2 (.slice aA bd2.length cA) bd2.length (pv bd2)) := own_keep RA2.out (fun q hq => s2 q (fun e => by obtain ⟨cur, hc, _⟩ := own_at RA2.out hq; rw [e, br] at hc; simp at hc))
    have hsl : w.heap.size ≤ z := by have hc1 := HC.out; have hc2 := HZ.out; omega
    have hs : Below w.heap.size w16 w17 := s4 _ _ hsl (Below.refl _ _)
    replace C := cur_upto C hs HC.out.1
    replace A : Hid (Aft B g w w17) := aft_upto A.out hs (Nat.le_trans HC.out.2 (Nat.le_of_lt HC.out.1))
    replace LB : Hid (z + 1 ≤ w17.heap.size) := by unfold Hid; rw [s3]; exact LB.out
    replace br := s1
    clear s1 s2 s3 s4 hs hsl
    have HS : Hid (SmD ps ls bd2) := ⟨HLP.out, HLQ.out, HB2.out.1, HB2.out.2⟩
    have HF : Hid (FunO w.heap.size w17 (.slice aP ps.length cP) (.slice aQ ls.length cQ) (.slice aA bd2.length cA) ps ls bd2) := ⟨own_baseI P.out (by have := HZ.out; omega), own_baseI Q.out (by have := HZ.out; omega), own_baseI RA2.out (by have := HZ.out; omega)⟩
    have zr0 : w17.cell? ⟨z, 0, none⟩ = some (.slice aP ps.length cP) := (cell_of_block br 0).trans rfl
    have zr1 : w17.cell? ⟨z, 1, none⟩ = some (.int .i64 res) := (cell_of_block br 1).trans rfl
    have zr2 : w17.cell? ⟨z, 2, none⟩ = some (.slice aQ ls.length cQ) := (cell_of_block br 2).trans rfl
    have zr3 : w17.cell? ⟨z, 3, none⟩ = some (.slice aA bd2.length cA) := (cell_of_block br 3).trans rfl
    go_wp2
    exact bodyPost_ret (v := .agg #[.slice aP ps.length cP, .int .i64 res, .slice aQ ls.length cQ, .slice aA bd2.length cA]) (by simp [results, Tryz.results24, go_sem, zr0, zr1, zr2, zr3]) rfl ⟨_, _, _, res, ps, ls, bd2, rfl, HF, HS, C.more (by omega), A⟩

end Go.Proofs.YtcgnefgdfgikdaaGreat

namespace Go.Proofs.YtcgnefgdfgikdaaGreat
open Go.ChangeShapes Go.WideShapes Go.ChangeAt Go.RowKit

/-- A func and the values that lead to its rows. -/
structure Fd where
  vp : Value
  vl : Value
  vb : Value
  f : Fun7
def fdC (x : Fd) : List Value := [x.vp, .int .i64 x.f.res, x.vl, x.vb]
def fcv (L : List Fd) : List Value := L.flatMap fdC
theorem fcv_cons (x : Fd) (r : List Fd) : fcv (x :: r) = x.vp :: .int .i64 x.f.res :: x.vl :: x.vb :: fcv r := by simp [fcv, fdC]
theorem fcv_len (L : List Fd) : (fcv L).length = L.length * 4 := by
  induction L with
  | nil => rfl
  | cons x r ih => rw [fcv_cons]; simp only [List.length_cons]; omega
theorem fcv_app (L M : List Fd) : fcv L ++ fcv M = fcv (L ++ M) := by simp [fcv]
theorem fcv_at : ∀ (L : List Fd) (k : Nat) (hk : k < L.length) (j : Nat), j < 4 → (fcv L)[k * 4 + j]? = (fdC L[k])[j]?
  | h :: l, 0, _, j, hj => by
    unfold fcv
    rw [List.flatMap_cons, List.getElem?_append_left (by simp [fdC]; omega)]
    simp
  | h :: l, k + 1, hk, j, hj => by
    have ih := fcv_at l k (by simpa using hk) j hj
    unfold fcv at ih ⊢
    rw [List.flatMap_cons, List.getElem?_append_right (by simp [fdC]; omega)]
    simp only [List.getElem_cons_succ]
    rw [← ih]
    congr 1
    simp [fdC]
    omega
theorem own_one {w : World} {B : Nat} {e : TypeId} {s n : Nat} {v : Value} {xs : List Value} (h : w.ownsRow B e s v n xs) : v.oneCell' = true := by
  rcases h.2 with ⟨rfl, _⟩ | ⟨g, cap, cur, rfl, _⟩ <;> rfl
theorem FunO.keep {B : Nat} {w w' : World} {vp vl vb : Value} {ps ls : List Int} {bd : List (Int × Int)} (h : FunO B w vp vl vb ps ls bd) (hk : ∀ b, B ≤ b → b < w.heap.size → w'.heap[b]? = w.heap[b]?) : FunO B w' vp vl vb ps ls bd :=
  ⟨own_keep h.ps (fun q hq => hk q (h.ps.lt q hq).1 (h.ps.lt q hq).2), own_keep h.ls (fun q hq => hk q (h.ls.lt q hq).1 (h.ls.lt q hq).2), own_keep h.bd (fun q hq => hk q (h.bd.lt q hq).1 (h.bd.lt q hq).2)⟩
theorem FunO.base {B B' : Nat} {w : World} {vp vl vb : Value} {ps ls : List Int} {bd : List (Int × Int)} (h : FunO B w vp vl vb ps ls bd) (hb : B' ≤ B) : FunO B' w vp vl vb ps ls bd := ⟨own_baseI h.ps hb, own_baseI h.ls hb, own_baseI h.bd hb⟩
/-- A block of another type than numbers and instructions is written: a func's rows stay. -/
theorem FunO.far {B : Nat} {w w' : World} {vp vl vb : Value} {ps ls : List Int} {bd : List (Int × Int)} {q : Nat} {A : Array Value} {t : TypeId} (h : FunO B w vp vl vb ps ls bd) (hq : w.heap[q]? = some (.cells A t (0, 0))) (h1 : t ≠ 3) (h2 : t ≠ 41) (hk : ∀ b, b ≠ q → w'.heap[b]? = w.heap[b]?) : FunO B w' vp vl vb ps ls bd := by
  refine ⟨own_keep h.ps (fun b hb => hk b fun e => ?_), own_keep h.ls (fun b hb => hk b fun e => ?_), own_keep h.bd (fun b hb => hk b fun e => ?_)⟩
  · obtain ⟨cur, hc, _⟩ := own_at h.ps hb
    rw [e, hq] at hc
    simp only [Option.some.injEq, Obj.cells.injEq] at hc
    exact h1 hc.2.1
  · obtain ⟨cur, hc, _⟩ := own_at h.ls hb
    rw [e, hq] at hc
    simp only [Option.some.injEq, Obj.cells.injEq] at hc
    exact h1 hc.2.1
  · obtain ⟨cur, hc, _⟩ := own_at h.bd hb
    rw [e, hq] at hc
    simp only [Option.some.injEq, Obj.cells.injEq] at hc
    exact h2 hc.2.1
def FdO (B : Nat) (w : World) (x : Fd) : Prop := FunO B w x.vp x.vl x.vb x.f.ps x.f.ls x.f.body
/-- A row of funcs, its own, and theirs. -/
structure FRow (B : Nat) (w : World) (v : Value) (L : List Fd) : Prop where
  row : w.ownsRow B 39 4 v L.length (fcv L)
  ok : ∀ x ∈ L, FdO B w x
theorem FRow.keep {B : Nat} {w w' : World} {v : Value} {L : List Fd} (h : FRow B w v L) (hk : ∀ b, B ≤ b → b < w.heap.size → w'.heap[b]? = w.heap[b]?) : FRow B w' v L :=
  ⟨own_keep h.row (fun q hq => hk q (h.row.lt q hq).1 (h.row.lt q hq).2), fun x hx => (h.ok x hx).keep hk⟩
theorem fcv_one {B : Nat} {w : World} {L : List Fd} (h : ∀ x ∈ L, FdO B w x) : ∀ u ∈ fcv L, u.oneCell' = true := by
  intro u hu
  obtain ⟨x, hx, h1⟩ := List.mem_flatMap.1 hu
  simp only [fdC, List.mem_cons, List.not_mem_nil, or_false] at h1
  have hO := h x hx
  rcases h1 with rfl | rfl | rfl | rfl
  · exact own_one hO.ps
  · rfl
  · exact own_one hO.ls
  · exact own_one hO.bd
theorem Tryz.infoFnc : (Tryz.prog.info? 39).map (fun i => (i.zero, i.size, i.bytes)) = some (some (.agg #[.slice none 0 0, .int .i64 0, .slice none 0 0, .slice none 0 0]), 4, 80) := by kernel_rfl
/-- Funcs are put behind a row. -/
theorem appFun (W : World) (B : Nat) (v : Value) (L : List Fd) (h : FRow B W v L) (gs lo c : Nat) (X : List Fd) (hX : ∀ x ∈ X, FdO B W x) (hc : ∀ (j : Nat) (u : Value), (fcv X)[j]? = some u → W.cell? ⟨gs, lo + j, none⟩ = some u) (hl : L.length + X.length ≤ 100000) (hb : B ≤ W.heap.size) (ty : TypeId) :
    ∃ v' w', (Builtin.append_ #[23, 23] ty #[v, .slice (some ⟨gs, lo, none⟩) X.length c]).run Tryz.prog W = .ok v' w' ∧ FRow B w' v' (L ++ X) ∧ W.grownBy w' v.ownBlock := by
  obtain ⟨i0, i0i, i00, i01, i02⟩ := info_parts Tryz.infoFnc
  obtain ⟨v', w', hr, h2, h3, _⟩ := run_append_own (P := Tryz.prog) W B 23 ty 39 i0 (.agg #[.slice none 0 0, .int .i64 0, .slice none 0 0, .slice none 0 0]) 4 80 Tryz.underlying23 i0i i00 i01 i02 rfl (by decide) v L.length (fcv L) h.row ⟨gs, lo, none⟩ X.length c (fcv X) (fcv_len X) (fun j u hu => by rw [Addr.add_lit]; exact hc j u hu) (fcv_one hX) (by unfold maxLen; omega) (by omega) hb
  rw [fcv_app] at h2
  refine ⟨v', w', hr, ⟨by simpa using h2, fun x hx => ?_⟩, h3⟩
  have hx' : FdO B W x := by
    rcases List.mem_append.1 hx with hx | hx
    · exact h.ok x hx
    · exact hX x hx
  have k : ∀ {e : TypeId} {s n : Nat} {u : Value} {ys : List Value}, W.ownsRow B e s u n ys → e ≠ 39 → w'.ownsRow B e s u n ys := fun {e s n u ys} ho hne => own_keep ho (fun q hq => by
    obtain ⟨cur, hcq, _⟩ := own_at ho hq
    refine h3.block q (lt_of_block hcq) (fun e0 => ?_)
    obtain ⟨cur2, hc2, _⟩ := own_at h.row e0.symm
    rw [hcq] at hc2
    simp only [Option.some.injEq, Obj.cells.injEq] at hc2
    exact hne hc2.2.1)
  exact ⟨k hx'.ps (by decide), k hx'.ls (by decide), k hx'.bd (by decide)⟩
theorem frow_nil (w : World) (B : Nat) : FRow B w (.slice none 0 0) [] := ⟨World.ownsRow_nil _ _ _ _, fun x hx => by cases hx⟩
theorem fcv_set3 : ∀ (L : List Fd) (k : Nat) (h : k < L.length) (u : Value) (bd : List (Int × Int)), (fcv L).set (k * 4 + 3) u = fcv (L.set k { L[k] with vb := u, f := { L[k].f with body := bd } })
  | p :: r, 0, _, u, bd => by simp [fcv, fdC]
  | p :: r, k + 1, h, u, bd => by
    have ih := fcv_set3 r k (by simpa using h) u bd
    rw [fcv_cons, show (k + 1) * 4 + 3 = k * 4 + 3 + 1 + 1 + 1 + 1 by omega, List.set_cons_succ, List.set_cons_succ, List.set_cons_succ, List.set_cons_succ, ih, List.set_cons_succ, fcv_cons]
    rfl
/-- A func's body is put in another's place. -/
theorem FRow.setB {B : Nat} {w : World} {gf n c : Nat} {L : List Fd} (h : FRow B w (.slice (some ⟨gf, 0, none⟩) n c) L) (hn : n = L.length) (k : Nat) (hk : k < L.length) {u : Value} {bd : List (Int × Int)} (hu : w.ownsRow B 41 2 u bd.length (pv bd)) : FRow B (w.setCell ⟨gf, k * 4 + 3, none⟩ u) (.slice (some ⟨gf, 0, none⟩) n c) (L.set k { L[k] with vb := u, f := { L[k].f with body := bd } }) := by
  subst hn
  obtain ⟨cur, hc, _⟩ := own_at h.row (g := gf) rfl
  have hk' : ∀ b, b ≠ gf → (w.setCell ⟨gf, k * 4 + 3, none⟩ u).heap[b]? = w.heap[b]? := fun b hb => heap_setCell_other _ ⟨gf, k * 4 + 3, none⟩ b _ hb
  have hu2 : (w.setCell ⟨gf, k * 4 + 3, none⟩ u).ownsRow B 41 2 u bd.length (pv bd) := own_keep hu (fun q hq => hk' q fun e => by
    obtain ⟨cur2, hc2, _⟩ := own_at hu hq
    rw [e, hc] at hc2
    simp only [Option.some.injEq, Obj.cells.injEq] at hc2
    exact absurd hc2.2.1 (by decide))
  refine ⟨?_, fun x hx => ?_⟩
  · have h1 := own_set h.row (k * 4 + 3) u
    rw [fcv_set3 L k hk u bd] at h1
    rw [List.length_set]
    exact h1
  · rcases List.mem_or_eq_of_mem_set hx with hx | rfl
    · exact (h.ok x hx).far hc (by decide) (by decide) hk'
    · have h0 := (h.ok L[k] (List.getElem_mem hk)).far hc (by decide) (by decide) hk'
      exact ⟨h0.ps, h0.ls, hu2⟩
theorem FRow.cells {B : Nat} {w : World} {gf n c : Nat} {L : List Fd} (h : FRow B w (.slice (some ⟨gf, 0, none⟩) n c) L) (k : Nat) (hk : k < L.length) : w.cell? ⟨gf, k * 4, none⟩ = some L[k].vp ∧ w.cell? ⟨gf, k * 4 + 1, none⟩ = some (.int .i64 L[k].f.res) ∧ w.cell? ⟨gf, k * 4 + 2, none⟩ = some L[k].vl ∧ w.cell? ⟨gf, k * 4 + 3, none⟩ = some L[k].vb := by
  have hc : ∀ j u, (fcv L)[j]? = some u → w.cell? ⟨gf, j, none⟩ = some u := fun j u hu => by
    have h1 := h.row.cells (g := gf) rfl j u hu
    rw [Addr.add_lit, Nat.zero_add] at h1
    exact h1
  exact ⟨hc _ _ (fcv_at L k hk 0 (by omega)), hc _ _ (fcv_at L k hk 1 (by omega)), hc _ _ (fcv_at L k hk 2 (by omega)), hc _ _ (fcv_at L k hk 3 (by omega))⟩
theorem inss_ofJ {w : World} {B : Nat} {v : Value} {L : List (Int × Int)} (h : w.ownsRow B 41 2 v L.length (pv L)) : ∃ a c, v = .slice a L.length c ∧ Inss w a L := by
  obtain ⟨a, c, g, hv, hg, hat, _⟩ := owned_ins h
  exact ⟨a, c, hv, fun hn => ⟨g, 0, (hg hn).1, (hg hn).2, hat⟩⟩
/-- As the walks of chapter 7 want a row of funcs. -/
theorem FRow.funs {B : Nat} {w : World} {v : Value} {L : List Fd} (h : FRow B w v L) : ∃ a c, v = .slice a L.length c ∧ Funs w a (L.map (·.f)) := by
  rcases h.row.2 with ⟨rfl, h0⟩ | ⟨g, cap, cur, rfl, _, hb, _⟩
  · have hL : L = [] := List.length_eq_zero_iff.1 h0
    subst hL
    exact ⟨none, 0, rfl, fun hn => absurd rfl hn⟩
  · refine ⟨some ⟨g, 0, none⟩, cap, rfl, fun _ => ⟨g, 0, rfl, lt_of_block hb, fun i hi => ?_⟩⟩
    have hi' : i < L.length := by simpa using hi
    obtain ⟨c0, c1, c2, c3⟩ := h.cells i hi'
    have hO := h.ok L[i] (List.getElem_mem hi')
    obtain ⟨pa, pc, hp, hpi⟩ := ints_of_row hO.ps
    obtain ⟨la, lc, hl, hli⟩ := ints_of_row hO.ls
    obtain ⟨ba, bc, hbv, hbi⟩ := inss_ofJ hO.bd
    rw [hp] at c0
    rw [hl] at c2
    rw [hbv] at c3
    have e : (L.map (·.f))[i] = L[i].f := by simp
    rw [e, Nat.zero_add]
    exact ⟨pa, pc, la, lc, ba, bc, c0, c1, c2, c3, ⟨hpi, hli, hbi⟩⟩

end Go.Proofs.YtcgnefgdfgikdaaGreat

namespace Go.Proofs.YtcgnefgdfgikdaaGreat
open Go.ChangeShapes Go.WideShapes Go.ChangeAt Go.RowKit

def gdC (x : Glo7) : List Value := [.int .i64 x.ty, .bool x.fixed, .int .u64 x.bits]
def gcv (L : List Glo7) : List Value := L.flatMap gdC
theorem gcv_cons (x : Glo7) (r : List Glo7) : gcv (x :: r) = .int .i64 x.ty :: .bool x.fixed :: .int .u64 x.bits :: gcv r := by simp [gcv, gdC]
theorem gcv_len (L : List Glo7) : (gcv L).length = L.length * 3 := by
  induction L with
  | nil => rfl
  | cons x r ih => rw [gcv_cons]; simp only [List.length_cons]; omega
theorem gcv_app (L M : List Glo7) : gcv L ++ gcv M = gcv (L ++ M) := by simp [gcv]
theorem gcv_at : ∀ (L : List Glo7) (k : Nat) (hk : k < L.length) (j : Nat), j < 3 → (gcv L)[k * 3 + j]? = (gdC L[k])[j]?
  | h :: l, 0, _, j, hj => by
    unfold gcv
    rw [List.flatMap_cons, List.getElem?_append_left (by simp [gdC]; omega)]
    simp
  | h :: l, k + 1, hk, j, hj => by
    have ih := gcv_at l k (by simpa using hk) j hj
    unfold gcv at ih ⊢
    rw [List.flatMap_cons, List.getElem?_append_right (by simp [gdC]; omega)]
    simp only [List.getElem_cons_succ]
    rw [← ih]
    congr 1
    simp [gdC]
    omega
theorem gcv_one (L : List Glo7) : ∀ u ∈ gcv L, u.oneCell' = true := by
  intro u hu
  obtain ⟨x, _, h1⟩ := List.mem_flatMap.1 hu
  simp only [gdC, List.mem_cons, List.not_mem_nil, or_false] at h1
  rcases h1 with rfl | rfl | rfl <;> rfl
theorem Tryz.infoGlo : (Tryz.prog.info? 57).map (fun i => (i.zero, i.size, i.bytes)) = some (some (.agg #[.int .i64 0, .bool false, .int .u64 0]), 3, 24) := by kernel_rfl
/-- Globals are put behind a row. -/
theorem appGlo (W : World) (B : Nat) (v : Value) (L : List Glo7) (h : W.ownsRow B 57 3 v L.length (gcv L)) (gs lo c : Nat) (X : List Glo7) (hc : ∀ (j : Nat) (u : Value), (gcv X)[j]? = some u → W.cell? ⟨gs, lo + j, none⟩ = some u) (hl : L.length + X.length ≤ 100000) (hb : B ≤ W.heap.size) (ty : TypeId) :
    ∃ v' w', (Builtin.append_ #[24, 24] ty #[v, .slice (some ⟨gs, lo, none⟩) X.length c]).run Tryz.prog W = .ok v' w' ∧ w'.ownsRow B 57 3 v' (L ++ X).length (gcv (L ++ X)) ∧ W.grownBy w' v.ownBlock := by
  obtain ⟨i0, i0i, i00, i01, i02⟩ := info_parts Tryz.infoGlo
  obtain ⟨v', w', hr, h2, h3, _⟩ := run_append_own (P := Tryz.prog) W B 24 ty 57 i0 (.agg #[.int .i64 0, .bool false, .int .u64 0]) 3 24 Tryz.underlying24 i0i i00 i01 i02 rfl (by decide) v L.length (gcv L) h ⟨gs, lo, none⟩ X.length c (gcv X) (gcv_len X) (fun j u hu => by rw [Addr.add_lit]; exact hc j u hu) (gcv_one X) (by unfold maxLen; omega) (by omega) hb
  rw [gcv_app] at h2
  exact ⟨v', w', hr, by simpa using h2, h3⟩
/-- As the walks of chapter 7 want a row of globals. -/
theorem glos_own {B : Nat} {w : World} {v : Value} {L : List Glo7} (h : w.ownsRow B 57 3 v L.length (gcv L)) : ∃ a c, v = .slice a L.length c ∧ Glos w a L := by
  rcases h.2 with ⟨rfl, h0⟩ | ⟨g, cap, cur, rfl, _, hb, _⟩
  · have hL : L = [] := List.length_eq_zero_iff.1 h0
    subst hL
    exact ⟨none, 0, rfl, fun hn => absurd rfl hn⟩
  · refine ⟨some ⟨g, 0, none⟩, cap, rfl, fun _ => ⟨g, 0, rfl, lt_of_block hb, fun i hi => ?_⟩⟩
    have hc : ∀ j u, (gcv L)[j]? = some u → w.cell? ⟨g, j, none⟩ = some u := fun j u hu => by
      have h1 := h.cells (g := g) rfl j u hu
      rw [Addr.add_lit, Nat.zero_add] at h1
      exact h1
    rw [Nat.zero_add]
    exact ⟨hc _ _ (gcv_at L i hi 0 (by omega)), hc _ _ (gcv_at L i hi 1 (by omega)), hc _ _ (gcv_at L i hi 2 (by omega))⟩

/-- A func that is small, as a whole. -/
def SmW (b : Nat) (f : Fun7) : Prop := f.ps.length ≤ 3 ∧ f.ls.length ≤ 3 ∧ (f.body.length ≤ b ∧ (b ≤ 15000 → 0 < f.body.length)) ∧ ∀ x ∈ f.body, OkI x
/-- Bodies lie apart. -/
def Apart (L : List Fd) : Prop := ∀ i j (hi : i < L.length) (hj : j < L.length), i ≠ j → L[i].vb.ownBlock ≠ L[j].vb.ownBlock
theorem apart_app {L : List Fd} {x : Fd} (h : Apart L) (hx : ∀ y ∈ L, y.vb.ownBlock ≠ x.vb.ownBlock) : Apart (L ++ [x]) := fun i j hi hj hne => by
  simp only [List.length_append, List.length_cons, List.length_nil] at hi hj
  by_cases h1 : i < L.length
  · by_cases h2 : j < L.length
    · rw [List.getElem_append_left h1, List.getElem_append_left h2]
      exact h i j h1 h2 hne
    · rw [List.getElem_append_left h1, List.getElem_append_right (by omega)]
      simp only [show j - L.length = 0 by omega, List.getElem_cons_zero]
      exact hx _ (List.getElem_mem h1)
  · by_cases h2 : j < L.length
    · rw [List.getElem_append_left h2, List.getElem_append_right (by omega)]
      simp only [show i - L.length = 0 by omega, List.getElem_cons_zero]
      exact (hx _ (List.getElem_mem h2)).symm
    · omega
theorem apart_set {L : List Fd} {k : Nat} {x : Fd} (h : Apart L) (hx : ∀ y ∈ L, y.vb.ownBlock ≠ x.vb.ownBlock) : Apart (L.set k x) := fun i j hi hj hne => by
  simp only [List.length_set] at hi hj
  simp only [List.getElem_set]
  split
  · rename_i h1
    split
    · omega
    · exact (hx _ (List.getElem_mem hj)).symm
  · split
    · exact hx _ (List.getElem_mem hi)
    · exact h i j hi hj hne

def mdC (fa : Option Addr) (fn fc : Nat) (ga : Option Addr) (gn gc : Nat) (mem : Bool) (pg ms st : Int) : Obj := .cells #[.slice fa fn fc, .slice ga gn gc, .bool mem, .int .i64 pg, .int .i64 ms, .int .i64 st] 26 (0, 0)
/-- How a module stands that is being drawn. -/
structure ModL (b B g z y : Nat) (a : Option Addr) (n cap M : Nat) (w wr : World) (L : List Fd) (G : List Glo7) : Prop where
  ex : ∃ fa fc ga gc mem pg ms st, wr.heap[y]? = some (.cells #[.slice fa L.length fc, .slice ga G.length gc, .bool mem, .int .i64 pg, .int .i64 ms, .int .i64 st] 26 (0, 0)) ∧ FRow (z + 1) wr (.slice fa L.length fc) L ∧ wr.ownsRow (z + 1) 57 3 (.slice ga G.length gc) G.length (gcv G)
  res : wr.heap[z]? = some (.cells #[.slice none 0 0, .slice none 0 0, .bool false, .int .i64 0, .int .i64 0, .int .i64 0] 26 (0, 0))
  cur : Cur wr g a n cap B M
  aft : Aft B g w wr
  size : z + 1 ≤ wr.heap.size
  zy : z < y
  sm : ∀ x ∈ L, SmW b x.f
  gs : ∀ x ∈ G, okG x
theorem FRow.cur {B g Bc : Nat} {w w' : World} {v : Value} {L : List Fd} (h : FRow B w v L) (ha : Aft Bc g w w') (hg : g < B) : FRow B w' v L := h.keep (fun b h1 h2 => ha.blk b (by omega) h2)
theorem own_apart {w : World} {B B' : Nat} {e e' : TypeId} {s s' n n' : Nat} {v v' : Value} {xs ys : List Value} (h : w.ownsRow B e s v n xs) (k : w.ownsRow B' e' s' v' n' ys) (hne : e ≠ e') {q : Nat} (hq : v.ownBlock = some q) : v'.ownBlock ≠ some q := fun hq' => by
  obtain ⟨cur, hc, _⟩ := own_at h hq
  obtain ⟨cur', hc', _⟩ := own_at k hq'
  rw [hc] at hc'
  simp only [Option.some.injEq, Obj.cells.injEq] at hc'
  exact hne hc'.2.1
/-- A block of another type is written: a row of funcs and all that it leads to stay. -/
theorem FRow.farM {B : Nat} {w w' : World} {v : Value} {L : List Fd} {q : Nat} {A : Array Value} {t : TypeId} (h : FRow B w v L) (hq : w.heap[q]? = some (.cells A t (0, 0))) (h1 : t ≠ 3) (h2 : t ≠ 41) (h3 : t ≠ 39) (hk : ∀ b, b ≠ q → w'.heap[b]? = w.heap[b]?) : FRow B w' v L :=
  ⟨own_keep h.row (fun b hb => hk b fun e => by
    obtain ⟨cur, hc, _⟩ := own_at h.row hb
    rw [e, hq] at hc
    simp only [Option.some.injEq, Obj.cells.injEq] at hc
    exact h3 hc.2.1), fun x hx => (h.ok x hx).far hq h1 h2 hk⟩
theorem other_rowJ {w w' : World} {B B' : Nat} {e e' : TypeId} {s s' n n' : Nat} {v u : Value} {xs ys : List Value} (h : w.ownsRow B e s v n xs) (hg : w.grownBy w' v.ownBlock) (k : w.ownsRow B' e' s' u n' ys) (hne : e ≠ e') : w'.ownsRow B' e' s' u n' ys :=
  own_keep k (fun q hq => hg.block q (k.lt q hq).2 (fun e2 => own_apart h k hne e2.symm hq))
/-- A row of another type grows: funcs stay. -/
theorem FRow.grown {w w' : World} {B B' : Nat} {e : TypeId} {s n : Nat} {v u : Value} {xs : List Value} {L : List Fd} (h : w.ownsRow B e s v n xs) (hg : w.grownBy w' v.ownBlock) (k : FRow B' w u L) (h1 : e ≠ 3) (h2 : e ≠ 41) (h3 : e ≠ 39) : FRow B' w' u L :=
  ⟨other_rowJ h hg k.row h3, fun x hx => ⟨other_rowJ h hg (k.ok x hx).ps h1, other_rowJ h hg (k.ok x hx).ls h1, other_rowJ h hg (k.ok x hx).bd h2⟩⟩
/-- A body is spoilt where it lies, and put in its place again. -/
theorem FRow.spoil {B g Bc : Nat} {w w' : World} {gf c k : Nat} {L : List Fd} (h : FRow B w (.slice (some ⟨gf, 0, none⟩) L.length c) L) (hk : k < L.length) (ha : AftV Bc g L[k].vb.ownBlock w w') (hg : g < B) (hap : Apart L) (hpos : ∃ q, L[k].vb.ownBlock = some q) {u : Value} {bd : List (Int × Int)} (hu : w'.ownsRow B 41 2 u bd.length (pv bd)) :
    FRow B (w'.setCell ⟨gf, k * 4 + 3, none⟩ u) (.slice (some ⟨gf, 0, none⟩) L.length c) (L.set k { L[k] with vb := u, f := { L[k].f with body := bd } }) := by
  obtain ⟨q, hq⟩ := hpos
  have hOk := h.ok L[k] (List.getElem_mem hk)
  have keepO : ∀ {e : TypeId} {s n : Nat} {x : Value} {ys : List Value}, w.ownsRow B e s x n ys → x.ownBlock ≠ some q → w'.ownsRow B e s x n ys := fun {e s n x ys} ho hne => own_keep ho (fun b hb => ha.blk b (by have := (ho.lt b hb).1; omega) (fun e2 => hne (by rw [hb, e2, hq])) (ho.lt b hb).2)
  obtain ⟨cur, hc, hcB⟩ := own_at h.row (g := gf) rfl
  have hgf : (Value.slice (some ⟨gf, 0, none⟩) L.length c).ownBlock ≠ some q := own_apart hOk.bd h.row (by decide) hq
  have hrow := keepO h.row hgf
  obtain ⟨cur2, hc2, _⟩ := own_at hrow (g := gf) rfl
  have hk' : ∀ b, b ≠ gf → (w'.setCell ⟨gf, k * 4 + 3, none⟩ u).heap[b]? = w'.heap[b]? := fun b hb => heap_setCell_other _ ⟨gf, k * 4 + 3, none⟩ b _ hb
  have far : ∀ {e : TypeId} {s n : Nat} {x : Value} {ys : List Value}, w'.ownsRow B e s x n ys → 39 ≠ e → (w'.setCell ⟨gf, k * 4 + 3, none⟩ u).ownsRow B e s x n ys := fun {e s n x ys} ho hne => own_keep ho (fun b hb => hk' b fun e2 => by
    obtain ⟨cur3, hc3, _⟩ := own_at ho hb
    rw [e2, hc2] at hc3
    simp only [Option.some.injEq, Obj.cells.injEq] at hc3
    exact hne hc3.2.1)
  refine ⟨?_, fun x hx => ?_⟩
  · have h1 := own_set hrow (k * 4 + 3) u
    rw [fcv_set3 L k hk u bd] at h1
    rw [List.length_set]
    exact h1
  · obtain ⟨i, hi, rfl⟩ := List.mem_iff_getElem.1 hx
    have hi' : i < L.length := by simpa using hi
    rw [List.getElem_set]
    have hOi := h.ok L[i] (List.getElem_mem hi')
    have p1 : L[i].vp.ownBlock ≠ some q := own_apart hOk.bd hOi.ps (by decide) hq
    have p2 : L[i].vl.ownBlock ≠ some q := own_apart hOk.bd hOi.ls (by decide) hq
    split
    · rename_i hki
      subst hki
      exact ⟨far (keepO hOi.ps p1) (by decide), far (keepO hOi.ls p2) (by decide), far hu (by decide)⟩
    · rename_i hki
      have p3 : L[i].vb.ownBlock ≠ some q := by rw [← hq]; exact fun e => hap i k hi' hk (fun e2 => hki e2.symm) e
      exact ⟨far (keepO hOi.ps p1) (by decide), far (keepO hOi.ls p2) (by decide), far (keepO hOi.bd p3) (by decide)⟩

end Go.Proofs.YtcgnefgdfgikdaaGreat
