/-
  Types that are drawn: how great they are. Plain facts.
-/
import Derived.Test.YtebendaiokchdaaDoorV1
import Derived.Test.YtebendaiokchdaaDoorU1
import Derived.Deep.CutRange
import Derived.Deep.DeepCutAuto
import Derived.Deep.CutBlock
import Derived.Maps.AppendAt
import Derived.Test.YtebendaiokchdaaDoorQChain2
namespace Go.Proofs.YtebendaiokchdaaDoor

theorem shpD : ∀ j : Fin 22, (0 ≤ (shp4 ((j.val : Nat) : Int)).1 ∧ (shp4 ((j.val : Nat) : Int)).1 ≤ 2 ∧ (shp4 ((j.val : Nat) : Int)).1 ≤ (shp4 ((j.val : Nat) : Int)).2.1 ∧ (shp4 ((j.val : Nat) : Int)).2.1 ≤ 8 ∧ 0 ≤ (shp4 ((j.val : Nat) : Int)).2.2.1 ∧ (shp4 ((j.val : Nat) : Int)).2.2.1 ≤ 1 ∧ 0 ≤ (shp4 ((j.val : Nat) : Int)).2.2.2 ∧ (shp4 ((j.val : Nat) : Int)).2.2.2 ≤ 300 ∧ (0 < (shp4 ((j.val : Nat) : Int)).2.2.2 → (shp4 ((j.val : Nat) : Int)).2.2.1 ≤ (shp4 ((j.val : Nat) : Int)).2.2.2)) ∧ (j.val ≤ 12 ∨ 20 ≤ j.val → (shp4 ((j.val : Nat) : Int)).2.1 = 0) := by decide +kernel
theorem shp_draw {k : Int} (h0 : 0 ≤ k) (h1 : k ≤ 21) : (0 ≤ (shp4 k).1 ∧ (shp4 k).1 ≤ 2 ∧ (shp4 k).1 ≤ (shp4 k).2.1 ∧ (shp4 k).2.1 ≤ 8 ∧ 0 ≤ (shp4 k).2.2.1 ∧ (shp4 k).2.2.1 ≤ 1 ∧ 0 ≤ (shp4 k).2.2.2 ∧ (shp4 k).2.2.2 ≤ 300 ∧ (0 < (shp4 k).2.2.2 → (shp4 k).2.2.1 ≤ (shp4 k).2.2.2)) ∧ (k ≤ 12 ∨ 20 ≤ k → (shp4 k).2.1 = 0) := by
  have H := shpD ⟨k.toNat, by omega⟩
  have e : ((k.toNat : Nat) : Int) = k := by omega
  simp only [e] at H
  refine ⟨H.1, fun h => H.2 (by omega)⟩
/-- How many nodes a type that is drawn has at most, and how many steps of the cursor it takes. -/
def SZ : Nat → Nat
  | 0 => 1
  | d + 1 => 1 + 4 * SZ d
def CZ : Nat → Nat
  | 0 => 30
  | d + 1 => 30 + 4 * CZ d
theorem szK_le {b : Nat} : ∀ (ks : List TT), (∀ t ∈ ks, szT t ≤ b) → szK ks ≤ ks.length * b
  | [], _ => by simp [szK]
  | t :: r, h => by
    rw [szK, List.length_cons, Nat.add_mul]
    have := h t (by simp)
    have := szK_le r (fun x hx => h x (by simp [hx]))
    omega

end Go.Proofs.YtebendaiokchdaaDoor

namespace Go.Proofs.YtebendaiokchdaaDoor
open Go.ChangeShapes Go.WideShapes Go.ChangeAt Go.RowKit Go.PlainAid

theorem cur_z {w w' : World} {g : Nat} {a : Option Addr} {n cap B m Z : Nat} (C : Cur w g a n cap B m) (h : Below Z w w') (hl : g < Z) : Cur w' g a n cap B m := by
  obtain ⟨t, t0, t1, c1⟩ := C.at_
  obtain ⟨s, s0, s1, c2⟩ := C.seed
  have hB := C.hg
  have k : ∀ j, w'.cell? ⟨g, j, none⟩ = w.cell? ⟨g, j, none⟩ := fun j => h.cell (p := ⟨g, j, none⟩) hl
  exact ⟨(k 0).trans C.code, ⟨t, t0, t1, (k 1).trans c1⟩, ⟨s, s0, s1, (k 2).trans c2⟩, C.bys.below (h.mono (by omega)), C.hg, Nat.lt_of_lt_of_le C.lt h.size, fun j => (h.frozen (p := ⟨g, j, none⟩) hl).trans (C.fr j)⟩
theorem aft_z {B g Z : Nat} {w w1 w2 : World} (h : Aft B g w w1) (k : Below Z w1 w2) (hB : B ≤ Z) (hZ : w.heap.size ≤ Z) : Aft B g w w2 :=
  ⟨h.below.trans (k.mono hB), Nat.le_trans h.size k.size, fun b hb hl => (k.block b (Nat.lt_of_lt_of_le hl hZ)).trans (h.blk b hb hl)⟩
/-- A type that is being drawn lies in the block y, its parts behind it; z is where it is told. -/
structure TyL (B g z y : Nat) (a : Option Addr) (n cap m : Nat) (w X : World) (kd nt : Int) (sl : Value) (acc : List TT) : Prop where
  br : X.heap[z]? = some (.cells #[.int .i64 0, .int .i64 0, .slice none 0 0] 40 (0, 0))
  bt : X.heap[y]? = some (.cells #[.int .i64 kd, .int .i64 nt, sl] 40 (0, 0))
  C : Cur X g a n cap B m
  A : Aft B g w X
  K : KO (y + 1) X sl acc
  hz : w.heap.size = z
  hg : g < z
  hB : B ≤ g
  hy : z < y
theorem TyL.cur {B g z y : Nat} {a : Option Addr} {n cap m m1 : Nat} {w X X1 : World} {kd nt : Int} {sl : Value} {acc : List TT} (T : TyL B g z y a n cap m w X kd nt sl acc) (C1 : Cur X1 g a n cap B m1) (ha : Aft B g X X1) : TyL B g z y a n cap m1 w X1 kd nt sl acc := by
  have h1 := T.hg
  have h2 := T.hy
  exact ⟨(ha.blk z (by omega) (lt_of_block T.br)).trans T.br, (ha.blk y (by omega) (lt_of_block T.bt)).trans T.bt, C1, T.A.trans ha, T.K.keep ha.size (fun q q1 q2 => ha.blk q (by omega) q2), T.hz, T.hg, T.hB, T.hy⟩
theorem TyL.bel {B g z y : Nat} {a : Option Addr} {n cap m : Nat} {w X X1 : World} {kd nt : Int} {sl : Value} {acc : List TT} (T : TyL B g z y a n cap m w X kd nt sl acc) (h : Below X.heap.size X X1) : TyL B g z y a n cap m w X1 kd nt sl acc := by
  have h1 := T.hg
  have h2 := T.hy
  have h3 := T.A.size
  have h4 := T.hB
  exact ⟨(h.block z (lt_of_block T.br)).trans T.br, (h.block y (lt_of_block T.bt)).trans T.bt, T.C.kept h, aft_z T.A h (by have := T.C.lt; omega) h3, T.K.keep h.size (fun q q1 q2 => h.block q q2), T.hz, T.hg, T.hB, T.hy⟩
theorem TyL.more {B g z y : Nat} {a : Option Addr} {n cap m m1 : Nat} {w X : World} {kd nt : Int} {sl : Value} {acc : List TT} (T : TyL B g z y a n cap m w X kd nt sl acc) (h : m ≤ m1) : TyL B g z y a n cap m1 w X kd nt sl acc := ⟨T.br, T.bt, T.C.more h, T.A, T.K, T.hz, T.hg, T.hB, T.hy⟩
theorem TyL.put {B g z y : Nat} {a : Option Addr} {n cap m : Nat} {w X : World} {kd nt : Int} {sl : Value} {acc : List TT} (T : TyL B g z y a n cap m w X kd nt sl acc) (v : Int) :
    TyL B g z y a n cap m w (X.setCell ⟨y, 0, none⟩ (.int .i64 v)) v nt sl acc ∧ TyL B g z y a n cap m w (X.setCell ⟨y, 1, none⟩ (.int .i64 v)) kd v sl acc := by
  have h1 := T.hg
  have h2 := T.hy
  have h3 := T.hz
  have h4 := T.hB
  have hb : ∀ j u, Below z X (X.setCell ⟨y, j, none⟩ u) := fun j u => (Below.refl _ _).setCell (by simp; omega) _
  have ho : ∀ j u q, q ≠ y → (X.setCell ⟨y, j, none⟩ u).heap[q]? = X.heap[q]? := fun j u q hq => heap_setCell_other _ _ _ _ (by simpa using hq)
  refine ⟨⟨(ho _ _ z (by omega)).trans T.br, ?_, cur_z T.C (hb _ _) h1, aft_z T.A (hb _ _) (by omega) (by omega), T.K.keep (by simp) (fun q q1 _ => ho _ _ q (by omega)), T.hz, T.hg, T.hB, T.hy⟩, ⟨(ho _ _ z (by omega)).trans T.br, ?_, cur_z T.C (hb _ _) h1, aft_z T.A (hb _ _) (by omega) (by omega), T.K.keep (by simp) (fun q q1 _ => ho _ _ q (by omega)), T.hz, T.hg, T.hB, T.hy⟩⟩
  · rw [heap_setCell_same _ _ _ _ _ _ T.bt]; rfl
  · rw [heap_setCell_same _ _ _ _ _ _ T.bt]; rfl
theorem TyL.cells {B g z y : Nat} {a : Option Addr} {n cap m : Nat} {w X : World} {kd nt : Int} {sl : Value} {acc : List TT} (T : TyL B g z y a n cap m w X kd nt sl acc) :
    (X.cell? ⟨y, 0, none⟩ = some (.int .i64 kd) ∧ X.cell? ⟨y, 1, none⟩ = some (.int .i64 nt) ∧ X.cell? ⟨y, 2, none⟩ = some sl) ∧ (X.frozen? ⟨y, 0, none⟩ = false ∧ X.frozen? ⟨y, 1, none⟩ = false ∧ X.frozen? ⟨y, 2, none⟩ = false) :=
  ⟨⟨(cell_of_block T.bt 0).trans rfl, (cell_of_block T.bt 1).trans rfl, (cell_of_block T.bt 2).trans rfl⟩, free_of_block T.bt 0, free_of_block T.bt 1, free_of_block T.bt 2⟩
/-- What is drawn. -/
def TyP (w : World) (g : Nat) (a : Option Addr) (n cap B m d : Nat) (e : Ending) (w' : World) : Prop := ∃ T sl, e = .returned (.agg #[.int .i64 (kdT T), .int .i64 (nT T), sl]) ∧ TRep w.heap.size w'.heap.size w' T sl ∧ szT T ≤ SZ d ∧ Cur w' g a n cap B (m + CZ d) ∧ Aft B g w w'
theorem three3 {w : World} {b : Nat} {x y z : Value} {t : TypeId} (h : w.heap[b]? = some (.cells #[x, y, z] t (0, 0))) : (w.cell? ⟨b, 0, none⟩ = some x ∧ w.cell? ⟨b, 1, none⟩ = some y ∧ w.cell? ⟨b, 2, none⟩ = some z) ∧ w.frozen? ⟨b, 0, none⟩ = false ∧ w.frozen? ⟨b, 1, none⟩ = false ∧ w.frozen? ⟨b, 2, none⟩ = false :=
  ⟨⟨(cell_of_block h 0).trans rfl, (cell_of_block h 1).trans rfl, (cell_of_block h 2).trans rfl⟩, free_of_block h 0, free_of_block h 1, free_of_block h 2⟩
theorem put3 {w : World} {b : Nat} {x y z : Value} {t : TypeId} (k : w.heap[b]? = some (.cells #[x, y, z] t (0, 0))) (p q u : Value) :
    (((w.setCell ⟨b, 0, none⟩ p).setCell ⟨b, 1, none⟩ q).setCell ⟨b, 2, none⟩ u).heap[b]? = some (.cells #[p, q, u] t (0, 0)) := by
  rw [heap_setCell_same _ _ _ _ _ _ (heap_setCell_same _ _ _ _ _ _ (heap_setCell_same _ _ _ _ _ _ k))]
  rfl
theorem TyL.told {B g z y : Nat} {a : Option Addr} {n cap m m0 d : Nat} {w X : World} {kd nt : Int} {sl : Value} {acc : List TT} (T : TyL B g z y a n cap m w X kd nt sl acc) (hm : m ≤ m0 + CZ d) (hs : 1 + szK acc ≤ SZ d) :
    TyP w g a n cap B m0 d (.returned (.agg #[.int .i64 kd, .int .i64 nt, sl])) (((X.setCell ⟨z, 0, none⟩ (.int .i64 kd)).setCell ⟨z, 1, none⟩ (.int .i64 nt)).setCell ⟨z, 2, none⟩ sl) := by
  have h1 := T.hg
  have h2 := T.hy
  have h3 := T.hz
  have h4 := T.hB
  have hb : Below z X (((X.setCell ⟨z, 0, none⟩ (.int .i64 kd)).setCell ⟨z, 1, none⟩ (.int .i64 nt)).setCell ⟨z, 2, none⟩ sl) := (((Below.refl z X).setCell (p := ⟨z, 0, none⟩) (Nat.le_refl z) _).setCell (p := ⟨z, 1, none⟩) (Nat.le_refl z) _).setCell (p := ⟨z, 2, none⟩) (Nat.le_refl z) _
  have hR := T.K.rep (k := kd) (n := nt)
  refine ⟨.mk kd nt acc, sl, rfl, ?_, by rw [szT]; exact hs, (cur_z T.C hb h1).more hm, aft_z T.A hb (by omega) (by omega)⟩
  refine TRep.wide (by omega) (by simp) _ _ (TRep.keep (fun q q1 q2 => ?_) _ _ hR)
  have hq : q ≠ z := by omega
  exact (heap_setCell_other _ _ _ _ (by simpa using hq)).trans ((heap_setCell_other _ _ _ _ (by simpa using hq)).trans (heap_setCell_other _ _ _ _ (by simpa using hq)))
theorem run_appT (W : World) (B : Nat) (v : Value) (acc : List TT) (h : KO B W v acc) (gs : Nat) (t : TT) (sl : Value) (hc : W.heap[gs]? = some (.cells #[.int .i64 (kdT t), .int .i64 (nT t), sl] 40 (0, 0)))
    (lo hi : Nat) (hT : TRep lo hi W t sl) (hlo : B ≤ lo) (hhi : hi ≤ W.heap.size) (hne : ∀ g, v.ownBlock = some g → ¬ (lo ≤ g ∧ g < hi)) (hl : acc.length ≤ 100000) (hb : B ≤ W.heap.size) :
    ∃ v' w', (Builtin.append_ #[38, 38] 38 #[v, .slice (some ⟨gs, 0, none⟩) 1 1]).run Tryd.prog W = .ok v' w' ∧ KO B w' v' (acc ++ [t]) ∧ W.grownBy w' v.ownBlock := by
  obtain ⟨i0, i0i, i00, i01, i02⟩ := info_parts Tryd.infoTr
  obtain ⟨xs, h1, h2⟩ := h
  have hone : sl.oneCell' = true := by obtain ⟨a, n, c, rfl⟩ := trep_one hT; rfl
  have hl3 : xs.length = acc.length * 3 := h1.1
  obtain ⟨v', w', hrun, hown, hgrow, _, hloc⟩ := run_append_own_at (P := Tryd.prog) W B 38 38 40 i0 (.agg #[.int .i64 0, .int .i64 0, .slice none 0 0]) 3 40 Tryd.underlying38 i0i i00 i01 i02 rfl (by decide) v acc.length xs h1 ⟨gs, 0, none⟩ 1 1 [.int .i64 (kdT t), .int .i64 (nT t), sl] rfl (fun j u hu => by
    rw [Addr.add_lit, Nat.zero_add]
    match j, hu with
    | 0, hu => simp at hu; subst hu; exact (cell_of_block hc 0).trans rfl
    | 1, hu => simp at hu; subst hu; exact (cell_of_block hc 1).trans rfl
    | 2, hu => simp at hu; subst hu; exact (cell_of_block hc 2).trans rfl
    | j + 3, hu => simp at hu) (by intro u hu; simp at hu; rcases hu with rfl | rfl | rfl; rfl; rfl; exact hone) (by unfold maxLen; omega) (by omega) hb
  have hsz := hgrow.size
  refine ⟨v', w', hrun, ⟨xs ++ [.int .i64 (kdT t), .int .i64 (nT t), sl], by rw [List.length_append]; exact hown, fun i hi2 => ?_⟩, hgrow⟩
  rcases Nat.lt_or_ge i acc.length with hlt | hge
  · obtain ⟨lo', hh, sl', l1, l2, x1, x2, x3, tr, hne'⟩ := h2 i hlt
    rw [List.getElem_append_left hlt]
    refine ⟨lo', hh, sl', l1, by omega, (row3_left hl3 hlt 0 (by omega)).trans x1, (row3_left hl3 hlt 1 (by omega)).trans x2, (row3_left hl3 hlt 2 (by omega)).trans x3, tr.keep (fun q q1 q2 => hgrow.block q (by omega) (fun e => hne' q e.symm ⟨q1, q2⟩)), ?_⟩
    intro q hq
    rcases hloc with e | e
    · exact hne' _ (by rw [← e]; exact hq)
    · rw [hq] at e
      simp at e
      omega
  · have hie : i = acc.length := by simp at hi2; omega
    subst hie
    obtain ⟨x1, x2, x3⟩ := row3_right (x := .int .i64 (kdT t)) (y := .int .i64 (nT t)) (z := sl) hl3
    rw [List.getElem_append_right (by omega)]
    simp only [Nat.sub_self, List.getElem_cons_zero]
    refine ⟨lo, hi, sl, hlo, by omega, x1, x2, x3, hT.keep (fun q q1 q2 => hgrow.block q (by omega) (fun e => hne q e.symm ⟨q1, q2⟩)), ?_⟩
    intro q hq
    rcases hloc with e | e
    · exact hne _ (by rw [← e]; exact hq)
    · rw [hq] at e
      simp at e
      omega
theorem TyL.app {B g z y : Nat} {a : Option Addr} {n cap m : Nat} {w X X1 : World} {kd nt : Int} {sl v : Value} {acc : List TT} {t : TT} (T : TyL B g z y a n cap m w X kd nt sl acc) (hK : KO (y + 1) X1 v (acc ++ [t])) (hg : X.grownBy X1 sl.ownBlock) :
    X1.heap[y]? = some (.cells #[.int .i64 kd, .int .i64 nt, sl] 40 (0, 0)) ∧ TyL B g z y a n cap m w (X1.setCell ⟨y, 2, none⟩ v) kd nt v (acc ++ [t]) := by
  have h1 := T.hg
  have h2 := T.hy
  have h3 := T.hz
  have h4 := T.hB
  have h5 := lt_of_block T.bt
  have hb : Below (y + 1) X X1 := (Below.refl (y + 1) X).grown hg (by omega) (fun q hq => (T.K.lt q hq).1)
  have hy1 := (hb.block y (by omega)).trans T.bt
  have hb2 : Below y X (X1.setCell ⟨y, 2, none⟩ v) := (hb.mono (by omega)).setCell (p := ⟨y, 2, none⟩) (Nat.le_refl y) _
  have ho : ∀ q, q ≠ y → (X1.setCell ⟨y, 2, none⟩ v).heap[q]? = X1.heap[q]? := fun q hq => heap_setCell_other _ _ _ _ (by simpa using hq)
  refine ⟨hy1, ⟨(hb2.block z (by omega)).trans T.br, ?_, cur_z T.C hb2 (by omega), aft_z T.A hb2 (by omega) (by omega), hK.keep (by simp) (fun q q1 _ => ho q (by omega)), T.hz, T.hg, T.hB, T.hy⟩⟩
  rw [heap_setCell_same _ _ _ _ _ _ hy1]; rfl

set_option maxRecDepth 100000 in
set_option maxHeartbeats 3200000 in
theorem curType0 (g : Nat) (a : Option Addr) (n cap B m : Nat) (h : Bool) (w : World) (hm : m + CZ 0 ≤ 600000) (C : Cur w g a n cap B m) : Calls Tryd.prog 35 #[.pointer (some ⟨g, 0, none⟩), .int .i64 0, .bool h] w (TyP w g a n cap B m 0) := by
  obtain ⟨z, hz⟩ : ∃ z, w.heap.size = z := ⟨_, rfl⟩
  obtain ⟨V, hV⟩ : ∃ V, w.alloc (.cells #[.int .i64 0, .int .i64 0, .slice none 0 0] 40) = V := ⟨_, rfl⟩
  have HV : Hid (V.heap[z]? = some (.cells #[.int .i64 0, .int .i64 0, .slice none 0 0] 40 (0, 0)) ∧ Below w.heap.size w V ∧ V.heap.size = z + 1 ∧ w.heap.size = z ∧ g < z ∧ B ≤ g) := by
    have h1 := C.lt
    have h2 := C.hg
    unfold Hid; rw [← hV, ← hz]; exact ⟨heap_alloc_new _ _, (Below.refl _ _).alloc (Nat.le_refl _) _, by simp, rfl, h1, h2⟩
  have CV := C.kept HV.out.2.1
  have HM : Hid (m + 30 ≤ 600000) := by unfold Hid; have h : CZ 0 = 30 := rfl; omega
  clear hm C
  go_enter Tryd.func35, Tryd.ntmps35
  go_wp2_with fail
  refine (curPick 12 (by omega) (by omega) g a n cap B m (hid_le (by have := HM.out; omega)) V CV).mono ?_
  rintro e w1 ⟨r, r0, r1, rfl, C1, ha⟩
  obtain ⟨kd, hkd⟩ : ∃ k, 1 + r = k := ⟨_, rfl⟩
  have hw : wrap64 (1 + r) = kd := by unfold wrap64; omega
  have HK : Hid (1 ≤ kd ∧ kd ≤ 12) := by unfold Hid; omega
  obtain ⟨y, hy⟩ : ∃ y, w1.heap.size = y := ⟨_, rfl⟩
  obtain ⟨X, hX⟩ : ∃ X, w1.alloc (.cells #[.int .i64 kd, .int .i64 0, .slice none 0 0] 40) = X := ⟨_, rfl⟩
  have HT : Hid (TyL B g z y a n cap (m + 2) w X kd 0 (.slice none 0 0) []) := by
    obtain ⟨p1, p2, p3, p4, p5, p6⟩ := HV.out
    have hs := ha.size
    have hb : Below w1.heap.size w1 X := by rw [← hX]; exact (Below.refl _ _).alloc (Nat.le_refl _) _
    have hA : Aft B g w w1 := ⟨(p2.mono (by omega)).trans ha.below, by omega, fun q hq hl => (ha.blk q hq (by omega)).trans (p2.block q hl)⟩
    exact ⟨(hb.block z (by omega)).trans ((ha.blk z (by omega) (by omega)).trans p1), by rw [← hX, ← hy]; exact heap_alloc_new _ _, C1.kept hb, aft_z hA hb (by omega) (by omega), KO.nil _ _, p4, p5, p6, by omega⟩
  rw [← hX] at HT
  clear hkd r0 r1 C1 ha CV hX
  go_upto_if 22 with fail
  go_cut [22] (fun _ wx => ∃ k : Int, (1 ≤ k ∧ k ≤ 12) ∧ Hid (TyL B g z y a n cap (m + 6) w wx k 0 (.slice none 0 0) []))
  case first =>
    go_wp2
    go_meet
    exact ⟨kd, HK.out, HT.out.more (by omega)⟩
  case rest =>
    obtain ⟨k2, hk2, HTc⟩ := hcut
    obtain ⟨w4, hw4⟩ : ∃ x, wc = x := ⟨_, rfl⟩
    rw [hw4] at HTc ⊢
    have HK2 : Hid (1 ≤ k2 ∧ k2 ≤ 12) := hk2
    have HT4 : Hid (TyL B g z y a n cap (m + 6) w w4 k2 0 (.slice none 0 0) []) := HTc
    clear hw4 hk2 HT HTc HK hy hw
    cases h with
    | false =>
      go_upto_if 31 with fail
      go_cut [31] (fun _ wx => ∃ k : Int, (1 ≤ k ∧ k ≤ 21 ∧ (k ≤ 12 ∨ 20 ≤ k)) ∧ Hid (TyL B g z y a n cap (m + 10) w wx k 0 (.slice none 0 0) []))
      case first =>
        go_wp2
        go_meet
        exact ⟨k2, by have := HK2.out; omega, HT4.out.more (by omega)⟩
      case rest =>
        obtain ⟨k, hk, HTc⟩ := hcut
        obtain ⟨w7, hw7⟩ : ∃ x, wc = x := ⟨_, rfl⟩
        rw [hw7] at HTc ⊢
        have HT7 : Hid (TyL B g z y a n cap (m + 10) w w7 k 0 (.slice none 0 0) []) := HTc
        obtain ⟨hsh, hsh2⟩ := shp_draw (k := k) (by omega) (by omega)
        have HSH := specShape4 k
        obtain ⟨lo, hlo⟩ : ∃ x, (shp4 k).1 = x := ⟨_, rfl⟩
        obtain ⟨hi, hhi⟩ : ∃ x, (shp4 k).2.1 = x := ⟨_, rfl⟩
        obtain ⟨fm, hfm⟩ : ∃ x, (shp4 k).2.2.1 = x := ⟨_, rfl⟩
        obtain ⟨tz, hto⟩ : ∃ x, (shp4 k).2.2.2 = x := ⟨_, rfl⟩
        rw [hlo, hhi, hfm, hto] at HSH hsh
        rw [hhi] at hsh2
        have HS : Hid ((0 ≤ lo ∧ lo ≤ 2 ∧ lo ≤ hi ∧ hi ≤ 8 ∧ 0 ≤ fm ∧ fm ≤ 1 ∧ 0 ≤ tz ∧ tz ≤ 300 ∧ (0 < tz → fm ≤ tz)) ∧ (k ≤ 12 ∨ 20 ≤ k → hi = 0)) := ⟨hsh, hsh2⟩
        have HH0 : Hid (hi = 0) := hsh2 (by omega)
        clear hw7 hk HTc hlo hhi hfm hto hsh hsh2
        obtain ⟨⟨x0, x1, x2⟩, f0, f1, f2⟩ := HT7.out.cells
        go_wp2_with fail
        refine (HSH _).mono ?_
        rintro e w8 ⟨rfl, hw8⟩
        obtain rfl := hw8.symm
        clear HSH hw8
        go_upto_if 45 with fail
        go_cut [45] (fun _ wx => ∃ nt : Int, Hid (TyL B g z y a n cap (m + 18) w wx k nt (.slice none 0 0) []))
        case first =>
          by_cases ht : 0 < tz
          · obtain ⟨N, hN⟩ : ∃ N : Int, tz - fm + 1 = N := ⟨_, rfl⟩
            have HN : Hid (1 ≤ N ∧ N ≤ 301) := by have := HS.out.1; unfold Hid; omega
            have hwN : wrap64 (wrap64 (tz - fm) + 1) = N := by have := HS.out.1; have h1 : wrap64 (tz - fm) = tz - fm := by { unfold wrap64; omega }; rw [h1]; unfold wrap64; omega
            clear hN
            clear x0 x1 x2 f0 f1 f2
            go_wp2_with fail
            refine (curPick N HN.out.1 (by have := HN.out.2; omega) g a n cap B (m + 10) (hid_le (by have := HM.out; omega)) w7 HT7.out.C).mono ?_
            rintro e w9 ⟨r4, r40, r41, rfl, C1, ha⟩
            have HT9 : Hid (TyL B g z y a n cap (m + 12) w w9 k 0 (.slice none 0 0) []) := HT7.out.cur C1 ha
            obtain ⟨n1, hn1⟩ : ∃ x, wrap64 (fm + r4) = x := ⟨_, rfl⟩
            clear HT7 C1 ha r40 r41
            obtain ⟨⟨x0, x1, x2⟩, f0, f1, f2⟩ := HT9.out.cells
            have HTA := HT9.out.put n1
            obtain ⟨wA, hwA⟩ : ∃ X, w9.setCell ⟨y, 1, none⟩ (.int .i64 n1) = X := ⟨_, rfl⟩
            rw [hwA] at HTA
            have HTB : Hid (TyL B g z y a n cap (m + 12) w wA k n1 (.slice none 0 0) []) := HTA.2
            obtain ⟨⟨u0, u1, u2⟩, g0, g1, g2⟩ := HTB.out.cells
            clear HTA HT9
            by_cases h19 : k = 19
            · have hk19 : (k == 19) = true := by simpa using h19
              clear h19
              go_wp2_with fail
              refine (curOne 4 (by omega) (by omega) g a n cap B (m + 12) (hid_le (by have := HM.out; omega)) wA HTB.out.C).mono ?_
              rintro e wB ⟨b4, rfl, C1, ha⟩
              have HTC : Hid (TyL B g z y a n cap (m + 14) w wB k n1 (.slice none 0 0) []) := HTB.out.cur C1 ha
              clear HTB C1 ha u0 u1 u2 g0 g1 g2 x0 x1 x2 f0 f1 f2 hwA hn1
              cases b4
              · obtain ⟨⟨u0, u1, u2⟩, g0, g1, g2⟩ := HTC.out.cells
                go_wp2_with fail
                refine (curPick 9 (by omega) (by omega) g a n cap B (m + 14) (hid_le (by have := HM.out; omega)) wB HTC.out.C).mono ?_
                rintro e wC ⟨r5, r50, r51, rfl, C1, ha⟩
                have HTD : Hid (TyL B g z y a n cap (m + 16) w wC k n1 (.slice none 0 0) []) := HTC.out.cur C1 ha
                clear HTC C1 ha u0 u1 u2 g0 g1 g2
                have hw5 : wrap64 (1 + r5) = 1 + r5 := by unfold wrap64; omega
                obtain ⟨⟨u0, u1, u2⟩, g0, g1, g2⟩ := HTD.out.cells
                go_wp2
                go_meet
                exact ⟨1 + r5, (HTD.out.put (1 + r5)).2.more (by omega)⟩
              · go_wp2
                go_meet
                exact ⟨n1, HTC.out.more (by omega)⟩
            · have hk19 : (k == 19) = false := by simpa using h19
              go_wp2
              go_meet
              exact ⟨n1, HTB.out.more (by omega)⟩
          · go_wp2
            go_meet
            exact ⟨0, HT7.out.more (by omega)⟩
        case rest =>
          obtain ⟨nt, HTc⟩ := hcut
          obtain ⟨wD, hwD⟩ : ∃ x, wc = x := ⟨_, rfl⟩
          rw [hwD] at HTc ⊢
          have HTD : Hid (TyL B g z y a n cap (m + 18) w wD k nt (.slice none 0 0) []) := HTc
          clear hwD HTc HT7 x0 x1 x2 f0 f1 f2
          have hlo0 : lo = 0 := by have := HS.out.1; have := HH0.out; omega
          have hhi0 : hi = 0 := HH0.out
          subst hlo0 hhi0
          obtain ⟨⟨x0, x1, x2⟩, f0, f1, f2⟩ := HTD.out.cells
          obtain ⟨⟨z0, z1, z2⟩, e0, e1, e2⟩ := three3 HTD.out.br
          obtain ⟨⟨q0, q1, q2⟩, _⟩ := three3 (put3 HTD.out.br (.int .i64 k) (.int .i64 nt) (.slice none 0 0))
          go_wp2
          go_loopw [12] (fun i wr => i = .int .i64 0 ∧ wr = wD) (fun _ _ => 0)
          case atStart => exact ⟨rfl, rfl⟩
          case round =>
            obtain ⟨rfl, hwr⟩ := hrel
            obtain rfl := hwr.symm
            clear hwr
            go_wp2
            exact bodyPost_ret (by simp [results, Tryd.results35, go_sem, q0, q1, q2]) rfl (HTD.out.told (by have : CZ 0 = 30 := rfl; omega) (by simp [szK, SZ]))
    | true =>
      go_wp2_with fail
      refine (curOne 8 (by omega) (by omega) g a n cap B (m + 6) (hid_le (by have := HM.out; omega)) w4 HT4.out.C).mono ?_
      rintro e w5 ⟨b2, rfl, C1, ha⟩
      have HT5 : Hid (TyL B g z y a n cap (m + 8) w w5 k2 0 (.slice none 0 0) []) := HT4.out.cur C1 ha
      clear HT4 C1 ha
      go_upto_if 31 with fail
      go_cut [31] (fun _ wx => ∃ k : Int, (1 ≤ k ∧ k ≤ 21 ∧ (k ≤ 12 ∨ 20 ≤ k)) ∧ Hid (TyL B g z y a n cap (m + 10) w wx k 0 (.slice none 0 0) []))
      case first =>
        cases b2
        · go_wp2
          go_meet
          exact ⟨k2, by have := HK2.out; omega, HT5.out.more (by omega)⟩
        · cases HK2
          go_wp2_with fail
          refine (curPick 2 (by omega) (by omega) g a n cap B (m + 8) (hid_le (by have := HM.out; omega)) w5 HT5.out.C).mono ?_
          rintro e w6 ⟨r3, r30, r31, rfl, C1, ha⟩
          have hw3 : wrap64 (20 + r3) = 20 + r3 := by unfold wrap64; omega
          have HT6 : Hid (TyL B g z y a n cap (m + 10) w w6 k2 0 (.slice none 0 0) []) := HT5.out.cur C1 ha
          have HR3 : Hid (0 ≤ r3 ∧ r3 < 2) := ⟨r30, r31⟩
          obtain ⟨⟨x0, x1, x2⟩, f0, f1, f2⟩ := HT6.out.cells
          clear HT5 C1 ha r30 r31
          go_wp2
          go_meet
          exact ⟨20 + r3, by have := HR3.out; omega, (HT6.out.put _).1⟩
      case rest =>
        obtain ⟨k, hk, HTc⟩ := hcut
        obtain ⟨w7, hw7⟩ : ∃ x, wc = x := ⟨_, rfl⟩
        rw [hw7] at HTc ⊢
        have HT7 : Hid (TyL B g z y a n cap (m + 10) w w7 k 0 (.slice none 0 0) []) := HTc
        obtain ⟨hsh, hsh2⟩ := shp_draw (k := k) (by omega) (by omega)
        have HSH := specShape4 k
        obtain ⟨lo, hlo⟩ : ∃ x, (shp4 k).1 = x := ⟨_, rfl⟩
        obtain ⟨hi, hhi⟩ : ∃ x, (shp4 k).2.1 = x := ⟨_, rfl⟩
        obtain ⟨fm, hfm⟩ : ∃ x, (shp4 k).2.2.1 = x := ⟨_, rfl⟩
        obtain ⟨tz, hto⟩ : ∃ x, (shp4 k).2.2.2 = x := ⟨_, rfl⟩
        rw [hlo, hhi, hfm, hto] at HSH hsh
        rw [hhi] at hsh2
        have HS : Hid ((0 ≤ lo ∧ lo ≤ 2 ∧ lo ≤ hi ∧ hi ≤ 8 ∧ 0 ≤ fm ∧ fm ≤ 1 ∧ 0 ≤ tz ∧ tz ≤ 300 ∧ (0 < tz → fm ≤ tz)) ∧ (k ≤ 12 ∨ 20 ≤ k → hi = 0)) := ⟨hsh, hsh2⟩
        have HH0 : Hid (hi = 0) := hsh2 (by omega)
        clear hw7 hk HTc hlo hhi hfm hto hsh hsh2
        obtain ⟨⟨x0, x1, x2⟩, f0, f1, f2⟩ := HT7.out.cells
        go_wp2_with fail
        refine (HSH _).mono ?_
        rintro e w8 ⟨rfl, hw8⟩
        obtain rfl := hw8.symm
        clear HSH hw8
        go_upto_if 45 with fail
        go_cut [45] (fun _ wx => ∃ nt : Int, Hid (TyL B g z y a n cap (m + 18) w wx k nt (.slice none 0 0) []))
        case first =>
          by_cases ht : 0 < tz
          · obtain ⟨N, hN⟩ : ∃ N : Int, tz - fm + 1 = N := ⟨_, rfl⟩
            have HN : Hid (1 ≤ N ∧ N ≤ 301) := by have := HS.out.1; unfold Hid; omega
            have hwN : wrap64 (wrap64 (tz - fm) + 1) = N := by have := HS.out.1; have h1 : wrap64 (tz - fm) = tz - fm := by { unfold wrap64; omega }; rw [h1]; unfold wrap64; omega
            clear hN
            clear x0 x1 x2 f0 f1 f2
            go_wp2_with fail
            refine (curPick N HN.out.1 (by have := HN.out.2; omega) g a n cap B (m + 10) (hid_le (by have := HM.out; omega)) w7 HT7.out.C).mono ?_
            rintro e w9 ⟨r4, r40, r41, rfl, C1, ha⟩
            have HT9 : Hid (TyL B g z y a n cap (m + 12) w w9 k 0 (.slice none 0 0) []) := HT7.out.cur C1 ha
            obtain ⟨n1, hn1⟩ : ∃ x, wrap64 (fm + r4) = x := ⟨_, rfl⟩
            clear HT7 C1 ha r40 r41
            obtain ⟨⟨x0, x1, x2⟩, f0, f1, f2⟩ := HT9.out.cells
            have HTA := HT9.out.put n1
            obtain ⟨wA, hwA⟩ : ∃ X, w9.setCell ⟨y, 1, none⟩ (.int .i64 n1) = X := ⟨_, rfl⟩
            rw [hwA] at HTA
            have HTB : Hid (TyL B g z y a n cap (m + 12) w wA k n1 (.slice none 0 0) []) := HTA.2
            obtain ⟨⟨u0, u1, u2⟩, g0, g1, g2⟩ := HTB.out.cells
            clear HTA HT9
            by_cases h19 : k = 19
            · have hk19 : (k == 19) = true := by simpa using h19
              clear h19
              go_wp2_with fail
              refine (curOne 4 (by omega) (by omega) g a n cap B (m + 12) (hid_le (by have := HM.out; omega)) wA HTB.out.C).mono ?_
              rintro e wB ⟨b4, rfl, C1, ha⟩
              have HTC : Hid (TyL B g z y a n cap (m + 14) w wB k n1 (.slice none 0 0) []) := HTB.out.cur C1 ha
              clear HTB C1 ha u0 u1 u2 g0 g1 g2 x0 x1 x2 f0 f1 f2 hwA hn1
              cases b4
              · obtain ⟨⟨u0, u1, u2⟩, g0, g1, g2⟩ := HTC.out.cells
                go_wp2_with fail
                refine (curPick 9 (by omega) (by omega) g a n cap B (m + 14) (hid_le (by have := HM.out; omega)) wB HTC.out.C).mono ?_
                rintro e wC ⟨r5, r50, r51, rfl, C1, ha⟩
                have HTD : Hid (TyL B g z y a n cap (m + 16) w wC k n1 (.slice none 0 0) []) := HTC.out.cur C1 ha
                clear HTC C1 ha u0 u1 u2 g0 g1 g2
                have hw5 : wrap64 (1 + r5) = 1 + r5 := by unfold wrap64; omega
                obtain ⟨⟨u0, u1, u2⟩, g0, g1, g2⟩ := HTD.out.cells
                go_wp2
                go_meet
                exact ⟨1 + r5, (HTD.out.put (1 + r5)).2.more (by omega)⟩
              · go_wp2
                go_meet
                exact ⟨n1, HTC.out.more (by omega)⟩
            · have hk19 : (k == 19) = false := by simpa using h19
              go_wp2
              go_meet
              exact ⟨n1, HTB.out.more (by omega)⟩
          · go_wp2
            go_meet
            exact ⟨0, HT7.out.more (by omega)⟩
        case rest =>
          obtain ⟨nt, HTc⟩ := hcut
          obtain ⟨wD, hwD⟩ : ∃ x, wc = x := ⟨_, rfl⟩
          rw [hwD] at HTc ⊢
          have HTD : Hid (TyL B g z y a n cap (m + 18) w wD k nt (.slice none 0 0) []) := HTc
          clear hwD HTc HT7 x0 x1 x2 f0 f1 f2
          have hlo0 : lo = 0 := by have := HS.out.1; have := HH0.out; omega
          have hhi0 : hi = 0 := HH0.out
          subst hlo0 hhi0
          obtain ⟨⟨x0, x1, x2⟩, f0, f1, f2⟩ := HTD.out.cells
          obtain ⟨⟨z0, z1, z2⟩, e0, e1, e2⟩ := three3 HTD.out.br
          obtain ⟨⟨q0, q1, q2⟩, _⟩ := three3 (put3 HTD.out.br (.int .i64 k) (.int .i64 nt) (.slice none 0 0))
          go_wp2
          go_loopw [12] (fun i wr => i = .int .i64 0 ∧ wr = wD) (fun _ _ => 0)
          case atStart => exact ⟨rfl, rfl⟩
          case round =>
            obtain ⟨rfl, hwr⟩ := hrel
            obtain rfl := hwr.symm
            clear hwr
            go_wp2
            exact bodyPost_ret (by simp [results, Tryd.results35, go_sem, q0, q1, q2]) rfl (HTD.out.told (by have : CZ 0 = 30 := rfl; omega) (by simp [szK, SZ]))

set_option maxRecDepth 100000 in
set_option maxHeartbeats 6400000 in
theorem curTypeS (d : Nat) (hd : d ≤ 100) (g : Nat) (a : Option Addr) (n cap B m : Nat) (IH : ∀ (m' : Nat) (h' : Bool) (w' : World), m' + CZ d ≤ 600000 → Cur w' g a n cap B m' → Calls Tryd.prog 35 #[.pointer (some ⟨g, 0, none⟩), .int .i64 (d : Int), .bool h'] w' (TyP w' g a n cap B m' d))
    (h : Bool) (w : World) (hm : m + CZ (d + 1) ≤ 600000) (C : Cur w g a n cap B m) : Calls Tryd.prog 35 #[.pointer (some ⟨g, 0, none⟩), .int .i64 ((d + 1 : Nat) : Int), .bool h] w (TyP w g a n cap B m (d + 1)) := by
  obtain ⟨z, hz⟩ : ∃ z, w.heap.size = z := ⟨_, rfl⟩
  obtain ⟨V, hV⟩ : ∃ V, w.alloc (.cells #[.int .i64 0, .int .i64 0, .slice none 0 0] 40) = V := ⟨_, rfl⟩
  have HV : Hid (V.heap[z]? = some (.cells #[.int .i64 0, .int .i64 0, .slice none 0 0] 40 (0, 0)) ∧ Below w.heap.size w V ∧ V.heap.size = z + 1 ∧ w.heap.size = z ∧ g < z ∧ B ≤ g) := by
    have h1 := C.lt
    have h2 := C.hg
    unfold Hid; rw [← hV, ← hz]; exact ⟨heap_alloc_new _ _, (Below.refl _ _).alloc (Nat.le_refl _) _, by simp, rfl, h1, h2⟩
  have CV := C.kept HV.out.2.1
  have HM : Hid (m + 30 ≤ 600000) := by unfold Hid; have h : CZ (d + 1) = 30 + 4 * CZ d := rfl; omega
  have HM2 : Hid (m + (30 + 4 * CZ d) ≤ 600000) := by unfold Hid; have h : CZ (d + 1) = 30 + 4 * CZ d := rfl; omega
  have hd1 : (0 : Int) < ((d + 1 : Nat) : Int) := by omega
  have hdw : wrap64 (((d + 1 : Nat) : Int) - 1) = (d : Int) := by unfold wrap64; omega
  have hdv : IntKind.i64.wrap (((d + 1 : Nat) : Int) - 1) = (d : Int) := by rw [IntKind.wrap_i64]; omega
  obtain ⟨dp, hdp⟩ : ∃ x : Int, ((d + 1 : Nat) : Int) = x := ⟨_, rfl⟩
  rw [hdp] at hd1 hdw hdv ⊢
  clear hm C hdp hd
  go_enter Tryd.func35, Tryd.ntmps35
  go_wp2_with fail
  refine (curPick 12 (by omega) (by omega) g a n cap B m (hid_le (by have := HM.out; omega)) V CV).mono ?_
  rintro e w1 ⟨r, r0, r1, rfl, C1, ha⟩
  obtain ⟨kd, hkd⟩ : ∃ k, 1 + r = k := ⟨_, rfl⟩
  have hw : wrap64 (1 + r) = kd := by unfold wrap64; omega
  have HK : Hid (1 ≤ kd ∧ kd ≤ 12) := by unfold Hid; omega
  obtain ⟨y, hy⟩ : ∃ y, w1.heap.size = y := ⟨_, rfl⟩
  obtain ⟨X, hX⟩ : ∃ X, w1.alloc (.cells #[.int .i64 kd, .int .i64 0, .slice none 0 0] 40) = X := ⟨_, rfl⟩
  have HT : Hid (TyL B g z y a n cap (m + 2) w X kd 0 (.slice none 0 0) []) := by
    obtain ⟨p1, p2, p3, p4, p5, p6⟩ := HV.out
    have hs := ha.size
    have hb : Below w1.heap.size w1 X := by rw [← hX]; exact (Below.refl _ _).alloc (Nat.le_refl _) _
    have hA : Aft B g w w1 := ⟨(p2.mono (by omega)).trans ha.below, by omega, fun q hq hl => (ha.blk q hq (by omega)).trans (p2.block q hl)⟩
    exact ⟨(hb.block z (by omega)).trans ((ha.blk z (by omega) (by omega)).trans p1), by rw [← hX, ← hy]; exact heap_alloc_new _ _, C1.kept hb, aft_z hA hb (by omega) (by omega), KO.nil _ _, p4, p5, p6, by omega⟩
  rw [← hX] at HT
  clear hkd r0 r1 C1 ha CV hX
  go_wp2_with fail
  refine (curOne 2 (by omega) (by omega) g a n cap B (m + 2) (hid_le (by have := HM.out; omega)) (w1.alloc (.cells #[.int .i64 kd, .int .i64 0, .slice none 0 0] 40)) HT.out.C).mono ?_
  rintro e w2 ⟨b, rfl, C1, ha⟩
  have HT2 : Hid (TyL B g z y a n cap (m + 4) w w2 kd 0 (.slice none 0 0) []) := HT.out.cur C1 ha
  clear HT C1 ha hy hw
  go_upto_if 22 with fail
  go_cut [22] (fun _ wx => ∃ k : Int, (1 ≤ k ∧ k ≤ 21) ∧ Hid (TyL B g z y a n cap (m + 6) w wx k 0 (.slice none 0 0) []))
  case first =>
    cases b
    · go_wp2
      go_meet
      exact ⟨kd, by have := HK.out; omega, HT2.out.more (by omega)⟩
    · cases HK
      go_wp2_with fail
      refine (curPick 7 (by omega) (by omega) g a n cap B (m + 4) (hid_le (by have := HM.out; omega)) w2 HT2.out.C).mono ?_
      rintro e w3 ⟨r2, r20, r21, rfl, C1, ha⟩
      have hw2 : wrap64 (13 + r2) = 13 + r2 := by unfold wrap64; omega
      have HT3 : Hid (TyL B g z y a n cap (m + 6) w w3 kd 0 (.slice none 0 0) []) := HT2.out.cur C1 ha
      have HR2 : Hid (0 ≤ r2 ∧ r2 < 7) := ⟨r20, r21⟩
      obtain ⟨⟨x0, x1, x2⟩, f0, f1, f2⟩ := HT3.out.cells
      clear HT2 C1 ha r20 r21
      go_wp2
      go_meet
      exact ⟨13 + r2, by have := HR2.out; omega, (HT3.out.put _).1⟩
  case rest =>
    obtain ⟨k2, hk2, HTc⟩ := hcut
    obtain ⟨w4, hw4⟩ : ∃ x, wc = x := ⟨_, rfl⟩
    rw [hw4] at HTc ⊢
    have HK2 : Hid (1 ≤ k2 ∧ k2 ≤ 21) := hk2
    have HT4 : Hid (TyL B g z y a n cap (m + 6) w w4 k2 0 (.slice none 0 0) []) := HTc
    clear hw4 hk2 HT2 HTc HK
    cases h with
    | false =>
      go_upto_if 31 with fail
      go_cut [31] (fun _ wx => ∃ k : Int, (1 ≤ k ∧ k ≤ 21) ∧ Hid (TyL B g z y a n cap (m + 10) w wx k 0 (.slice none 0 0) []))
      case first =>
        go_wp2
        go_meet
        exact ⟨k2, by have := HK2.out; omega, HT4.out.more (by omega)⟩
      case rest =>
        obtain ⟨k, hk, HTc⟩ := hcut
        obtain ⟨w7, hw7⟩ : ∃ x, wc = x := ⟨_, rfl⟩
        rw [hw7] at HTc ⊢
        have HT7 : Hid (TyL B g z y a n cap (m + 10) w w7 k 0 (.slice none 0 0) []) := HTc
        obtain ⟨hsh, hsh2⟩ := shp_draw (k := k) (by omega) (by omega)
        have HSH := specShape4 k
        obtain ⟨lo, hlo⟩ : ∃ x, (shp4 k).1 = x := ⟨_, rfl⟩
        obtain ⟨hi, hhi⟩ : ∃ x, (shp4 k).2.1 = x := ⟨_, rfl⟩
        obtain ⟨fm, hfm⟩ : ∃ x, (shp4 k).2.2.1 = x := ⟨_, rfl⟩
        obtain ⟨tz, hto⟩ : ∃ x, (shp4 k).2.2.2 = x := ⟨_, rfl⟩
        rw [hlo, hhi, hfm, hto] at HSH hsh
        rw [hhi] at hsh2
        have HS : Hid ((0 ≤ lo ∧ lo ≤ 2 ∧ lo ≤ hi ∧ hi ≤ 8 ∧ 0 ≤ fm ∧ fm ≤ 1 ∧ 0 ≤ tz ∧ tz ≤ 300 ∧ (0 < tz → fm ≤ tz)) ∧ (k ≤ 12 ∨ 20 ≤ k → hi = 0)) := ⟨hsh, hsh2⟩
        clear hw7 hk HTc hlo hhi hfm hto hsh hsh2
        obtain ⟨⟨x0, x1, x2⟩, f0, f1, f2⟩ := HT7.out.cells
        go_wp2_with fail
        refine (HSH _).mono ?_
        rintro e w8 ⟨rfl, hw8⟩
        obtain rfl := hw8.symm
        clear HSH hw8
        go_upto_if 45 with fail
        go_cut [45] (fun _ wx => ∃ nt : Int, Hid (TyL B g z y a n cap (m + 18) w wx k nt (.slice none 0 0) []))
        case first =>
          by_cases ht : 0 < tz
          · obtain ⟨N, hN⟩ : ∃ N : Int, tz - fm + 1 = N := ⟨_, rfl⟩
            have HN : Hid (1 ≤ N ∧ N ≤ 301) := by have := HS.out.1; unfold Hid; omega
            have hwN : wrap64 (wrap64 (tz - fm) + 1) = N := by have := HS.out.1; have h1 : wrap64 (tz - fm) = tz - fm := by { unfold wrap64; omega }; rw [h1]; unfold wrap64; omega
            clear hN
            clear x0 x1 x2 f0 f1 f2
            go_wp2_with fail
            refine (curPick N HN.out.1 (by have := HN.out.2; omega) g a n cap B (m + 10) (hid_le (by have := HM.out; omega)) w7 HT7.out.C).mono ?_
            rintro e w9 ⟨r4, r40, r41, rfl, C1, ha⟩
            have HT9 : Hid (TyL B g z y a n cap (m + 12) w w9 k 0 (.slice none 0 0) []) := HT7.out.cur C1 ha
            obtain ⟨n1, hn1⟩ : ∃ x, wrap64 (fm + r4) = x := ⟨_, rfl⟩
            clear HT7 C1 ha r40 r41
            obtain ⟨⟨x0, x1, x2⟩, f0, f1, f2⟩ := HT9.out.cells
            have HTA := HT9.out.put n1
            obtain ⟨wA, hwA⟩ : ∃ X, w9.setCell ⟨y, 1, none⟩ (.int .i64 n1) = X := ⟨_, rfl⟩
            rw [hwA] at HTA
            have HTB : Hid (TyL B g z y a n cap (m + 12) w wA k n1 (.slice none 0 0) []) := HTA.2
            obtain ⟨⟨u0, u1, u2⟩, g0, g1, g2⟩ := HTB.out.cells
            clear HTA HT9
            by_cases h19 : k = 19
            · have hk19 : (k == 19) = true := by simpa using h19
              clear h19
              go_wp2_with fail
              refine (curOne 4 (by omega) (by omega) g a n cap B (m + 12) (hid_le (by have := HM.out; omega)) wA HTB.out.C).mono ?_
              rintro e wB ⟨b4, rfl, C1, ha⟩
              have HTC : Hid (TyL B g z y a n cap (m + 14) w wB k n1 (.slice none 0 0) []) := HTB.out.cur C1 ha
              clear HTB C1 ha u0 u1 u2 g0 g1 g2 x0 x1 x2 f0 f1 f2 hwA hn1
              cases b4
              · obtain ⟨⟨u0, u1, u2⟩, g0, g1, g2⟩ := HTC.out.cells
                go_wp2_with fail
                refine (curPick 9 (by omega) (by omega) g a n cap B (m + 14) (hid_le (by have := HM.out; omega)) wB HTC.out.C).mono ?_
                rintro e wC ⟨r5, r50, r51, rfl, C1, ha⟩
                have HTD : Hid (TyL B g z y a n cap (m + 16) w wC k n1 (.slice none 0 0) []) := HTC.out.cur C1 ha
                clear HTC C1 ha u0 u1 u2 g0 g1 g2
                have hw5 : wrap64 (1 + r5) = 1 + r5 := by unfold wrap64; omega
                obtain ⟨⟨u0, u1, u2⟩, g0, g1, g2⟩ := HTD.out.cells
                go_wp2
                go_meet
                exact ⟨1 + r5, (HTD.out.put (1 + r5)).2.more (by omega)⟩
              · go_wp2
                go_meet
                exact ⟨n1, HTC.out.more (by omega)⟩
            · have hk19 : (k == 19) = false := by simpa using h19
              go_wp2
              go_meet
              exact ⟨n1, HTB.out.more (by omega)⟩
          · go_wp2
            go_meet
            exact ⟨0, HT7.out.more (by omega)⟩
        case rest =>
          obtain ⟨nt, HTc⟩ := hcut
          obtain ⟨wD, hwD⟩ : ∃ x, wc = x := ⟨_, rfl⟩
          rw [hwD] at HTc ⊢
          have HTD : Hid (TyL B g z y a n cap (m + 18) w wD k nt (.slice none 0 0) []) := HTc
          clear hwD HTc HT7 x0 x1 x2 f0 f1 f2
          go_upto_if 70 with fail
          go_cut [12] (fun nn wx => ∃ j : Nat, j ≤ 4 ∧ nn = .int .i64 (j : Int) ∧ Hid (TyL B g z y a n cap (m + 20) w wx k nt (.slice none 0 0) []))
          case first =>
            obtain ⟨lN, hlN⟩ : ∃ j : Nat, lo = (j : Int) := ⟨lo.toNat, by have := HS.out.1; omega⟩
            subst hlN
            by_cases hh : (lN : Int) < hi
            · go_wp2_with fail
              refine (curPick 3 (by omega) (by omega) g a n cap B (m + 18) (hid_le (by have := HM.out; omega)) wD HTD.out.C).mono ?_
              rintro e wE ⟨r6, r60, r61, rfl, C1, ha⟩
              have HTE : Hid (TyL B g z y a n cap (m + 20) w wE k nt (.slice none 0 0) []) := HTD.out.cur C1 ha
              obtain ⟨r6, rfl⟩ : ∃ j : Nat, r6 = (j : Int) := ⟨r6.toNat, by omega⟩
              have hw6 : wrap64 ((lN : Int) + (r6 : Int)) = ((lN + r6 : Nat) : Int) := by have := HS.out.1; unfold wrap64; omega
              have HL6 : Hid (lN + r6 ≤ 4) := by have := HS.out.1; unfold Hid; omega
              clear HTD C1 ha r60 r61
              go_wp2
              go_meet
              exact ⟨lN + r6, HL6.out, by first | rfl | rw [hw6], HTE.out⟩
            · go_wp2
              go_meet
              exact ⟨lN, by have := HS.out.1; omega, rfl, HTD.out.more (by omega)⟩
          case rest =>
            obtain ⟨j0, hj0, rfl, HTc⟩ := hcut
            obtain ⟨wF, hwF⟩ : ∃ x, wc = x := ⟨_, rfl⟩
            rw [hwF] at HTc ⊢
            have HTF : Hid (TyL B g z y a n cap (m + 20) w wF k nt (.slice none 0 0) []) := HTc
            clear hwF HTc HTD HS
            go_wp2
            go_loopw [12] (fun i wr => ∃ (j : Nat) (acc : List TT) (sl : Value), j + acc.length ≤ 4 ∧ i = .int .i64 (j : Int) ∧ Hid (TyL B g z y a n cap (m + (20 + acc.length * CZ d)) w wr k nt sl acc) ∧ Hid (∀ t ∈ acc, szT t ≤ SZ d)) (fun i _ => (intOf i).toNat)
            case atStart => exact ⟨j0, [], _, by simpa using hj0, rfl, HTF.out.more (by omega), fun t ht => by cases ht⟩
            case round =>
              obtain ⟨j, acc, sl, hj, rfl, HT, HA⟩ := hrel
              clear hj0 HTF
              obtain ⟨ca, cc, rfl⟩ := HT.out.K.shape
              by_cases hp : 0 < j
              · have hpi : (0 : Int) < (j : Int) := by omega
                have r1 := HT.out.bt
                obtain ⟨al, hal⟩ : ∃ x, acc.length = x := ⟨_, rfl⟩
                have HAL : Hid (acc.length = al ∧ al ≤ 3) := ⟨hal, by omega⟩
                rw [hal] at r1
                rw [hal] at hj
                clear hal
                have hjw : wrap64 ((j : Int) - 1) = ((j - 1 : Nat) : Int) := by unfold wrap64; omega
                have HIH : Hid (∀ W, Cur W g a n cap B (m + (20 + al * CZ d)) → Calls Tryd.prog 35 #[.pointer (some ⟨g, 0, none⟩), .int .i64 (d : Int), .bool false] W (TyP W g a n cap B (m + (20 + al * CZ d)) d)) := fun W hC => IH _ _ W (by have h1 := HM2.out; have h2 := HAL.out.2; have h3 : al * CZ d ≤ 3 * CZ d := Nat.mul_le_mul_right _ h2; omega) hC
                go_wp2_with fail
                refine wa_begin (by kernel_rfl) ?_
                refine wa_take 0 (some 79) (.pointer (some ⟨y, 2, none⟩)) rfl rfl (by kernel_rfl) (by kernel_rfl) (by kernel_rfl) (fun _ _ _ h => h) (by rfl) (fun w' => by first | rfl | (go_simp; done)) ?_
                simp only [Act.put, List.setIfInBounds_toArray, List.set_cons_zero, List.set_cons_succ]
                refine wa_take 2 (some 81) (.pointer (some ⟨g, 0, none⟩)) rfl rfl (by kernel_rfl) (by kernel_rfl) (by kernel_rfl) (fun _ _ _ h => h) (by rfl) (fun w' => by first | rfl | (go_simp; done)) ?_
                simp only [Act.put, List.setIfInBounds_toArray, List.set_cons_zero, List.set_cons_succ]
                refine wa_take 3 (some 82) (.int .i64 dp) rfl rfl (by kernel_rfl) (by kernel_rfl) (by kernel_rfl) (fun _ _ _ h => h) (by rfl) (fun w' => by first | rfl | (go_simp; done)) ?_
                simp only [Act.put, List.setIfInBounds_toArray, List.set_cons_zero, List.set_cons_succ]
                refine wa_take 4 (some 83) (.int .i64 (d : Int)) rfl rfl (by kernel_rfl) (by kernel_rfl) (by kernel_rfl) (fun _ _ _ h => h) (by rfl) (fun w' => by first | rfl | (go_simp; done)) ?_
                simp only [Act.put, List.setIfInBounds_toArray, List.set_cons_zero, List.set_cons_succ]
                refine wa_take 5 (some 84) (.bool false) rfl rfl (by kernel_rfl) (by kernel_rfl) (by kernel_rfl) (fun _ _ _ h => h) (by rfl) (fun w' => by first | rfl | (go_simp; done)) ?_
                simp only [Act.put, List.setIfInBounds_toArray, List.set_cons_zero, List.set_cons_succ]
                refine wa_first 1 (some 80) (.slice ca al cc) (fun w' => w'.heap[y]? = some (.cells #[.int .i64 k, .int .i64 nt, .slice ca al cc] 40 (0, 0))) rfl rfl (by kernel_rfl) (by kernel_rfl) (by kernel_rfl) (fun _ _ _ h => h) (by rfl) (fun w' hS => by have q := (cell_of_block hS 2).trans rfl; first | rfl | (go_simp; done)) r1 ?_
                simp only [Act.put, List.setIfInBounds_toArray, List.set_cons_zero, List.set_cons_succ]
                refine wb_call 6 (some 85) 35 #[.pointer (some ⟨g, 0, none⟩), .int .i64 (d : Int), .bool false] (by kernel_rfl) (by kernel_rfl) rfl rfl (by rfl) (by kernel_rfl) ?_
                have hdr : Below wr.heap.size wr wr.drew := (Below.refl _ _).drew
                refine (HIH.out wr.drew (by have h := HT.out.C.kept hdr; rw [HAL.out.1] at h; exact h)).mono ?_
                rintro e V1 ⟨T1, sl1, rfl, hT1, hz1, C1, ha⟩
                have HT1 : Hid (TyL B g z y a n cap (m + (20 + al * CZ d) + CZ d) w V1 k nt (.slice ca al cc) acc) := by
                  have h := HT.out.bel hdr
                  rw [HAL.out.1] at h
                  exact h.cur C1 ha
                refine ⟨_, rfl, by have h := HT1.out.bt; exact h, ?_⟩
                simp only [Act.put, List.setIfInBounds_toArray, List.set_cons_zero, List.set_cons_succ]
                have HB2 : Hid (Below V1.heap.size V1 (V1.alloc (.cells #[.int .i64 (kdT T1), .int .i64 (nT T1), sl1] 40))) := (Below.refl _ _).alloc (Nat.le_refl _) _
                have HT2 := HT1.out.bel HB2.out
                have s2 := HT2.bt
                refine wb_val 7 (some 86) (.slice (some ⟨V1.heap.size, 0, none⟩) 1 1) (V1.alloc (.cells #[.int .i64 (kdT T1), .int .i64 (nT T1), sl1] 40)) (by kernel_rfl) (by kernel_rfl) rfl rfl (by rfl) (by first | rfl | go_simp) s2 ?_
                simp only [Act.put, List.setIfInBounds_toArray, List.set_cons_zero, List.set_cons_succ]
                have hdz : wr.drew.heap.size = wr.heap.size := rfl
                have hV1 := ha.size
                have hyl := lt_of_block r1
                obtain ⟨v', w5, hrun, hK5, hg5⟩ := run_appT (V1.alloc (.cells #[.int .i64 (kdT T1), .int .i64 (nT T1), sl1] 40)) (y + 1) (.slice ca al cc) acc HT2.K V1.heap.size T1 sl1 (heap_alloc_new _ _) wr.heap.size V1.heap.size (TRep.keep (fun q _ q2 => Below.heap_alloc _ _ _ q2) _ _ hT1) (by omega) (by simp) (fun q hq => by have hl := HT.out.K.lt q (by rw [HAL.out.1]; exact hq); omega) (by have := HAL.out; omega) (by simp; omega)
                obtain ⟨va, vc, hv5⟩ := hK5.shape
                have hlen : (acc ++ [T1]).length = al + 1 := by rw [List.length_append, HAL.out.1]; rfl
                rw [hlen] at hv5
                subst hv5
                obtain ⟨s5, HT6⟩ := HT2.app hK5 hg5
                have HTN : Hid (TyL B g z y a n cap (m + (20 + (acc ++ [T1]).length * CZ d)) w (w5.setCell ⟨y, 2, none⟩ (.slice va (al + 1) vc)) k nt (.slice va (al + 1) vc) (acc ++ [T1])) := HT6.more (by have h := HAL.out.1; rw [List.length_append, h, Nat.add_mul]; simp; omega)
                have HAN : Hid (∀ t ∈ acc ++ [T1], szT t ≤ SZ d) := fun t ht => by
                  rcases List.mem_append.1 ht with h | h
                  · exact HA.out t h
                  · simp at h; subst h; exact hz1
                have HLN : Hid (j - 1 + (acc ++ [T1]).length ≤ 4) := by unfold Hid; rw [List.length_append, HAL.out.1]; simp; omega
                refine wb_leave_val 8 (some 87) (.slice va (al + 1) vc) w5 (by kernel_rfl) (by kernel_rfl) rfl rfl (by rfl) (by simp [execOp, resolve, invoke, builtin, Act.eval, hrun, Result.andThen]) ?_
                simp only [Act.put, List.setIfInBounds_toArray, List.set_cons_zero, List.set_cons_succ]
                have g2 := (cell_of_block s5 2).trans rfl
                have f2 := free_of_block s5 2
                refine wa_val 9 (some 88) (.pointer (some ⟨y, 2, none⟩)) w5 (by kernel_rfl) rfl rfl (by rfl) (by first | rfl | go_simp) ?_
                simp only [Act.put, List.setIfInBounds_toArray, List.set_cons_zero, List.set_cons_succ]
                refine wa_store 10 none (w5.setCell ⟨y, 2, none⟩ (.slice va (al + 1) vc)) (by kernel_rfl) rfl rfl (by rfl) (by first | rfl | (go_simp; done)) ?_
                simp only [Act.put]
                refine wa_done (by kernel_rfl) ?_
                clear hrun hK5 hg5 s5 HT6 hlen g2 f2 HT1 HT2 HB2 s2 hT1 hz1 C1 ha r1 hdr hdz hV1 hyl HIH
                go_wp2
                go_roundw
                case rel => exact ⟨j - 1, acc ++ [T1], _, HLN.out, by first | rfl | rw [hjw] | (congr 1; omega), HTN.out, HAN.out⟩
                case measure => first | (simp [intOf]; omega) | (rw [hjw]; simp [intOf]; omega)
              · obtain rfl : j = 0 := by omega
                obtain ⟨⟨x0, x1, x2⟩, f0, f1, f2⟩ := HT.out.cells
                obtain ⟨⟨z0, z1, z2⟩, e0, e1, e2⟩ := three3 HT.out.br
                obtain ⟨⟨q0, q1, q2⟩, _⟩ := three3 (put3 HT.out.br (.int .i64 k) (.int .i64 nt) (.slice ca acc.length cc))
                have HEND := HT.out.told (m0 := m) (d := d + 1) (by have h : CZ (d + 1) = 30 + 4 * CZ d := rfl; have h2 : acc.length * CZ d ≤ 4 * CZ d := Nat.mul_le_mul_right _ (by omega); omega) (by have h : SZ (d + 1) = 1 + 4 * SZ d := rfl; have h1 := szK_le acc HA.out; have h2 : acc.length * SZ d ≤ 4 * SZ d := Nat.mul_le_mul_right _ (by omega); omega)
                go_wp2
                exact bodyPost_ret (by simp [results, Tryd.results35, go_sem, q0, q1, q2]) rfl HEND
    | true =>
      go_wp2_with fail
      refine (curOne 8 (by omega) (by omega) g a n cap B (m + 6) (hid_le (by have := HM.out; omega)) w4 HT4.out.C).mono ?_
      rintro e w5 ⟨b2, rfl, C1, ha⟩
      have HT5 : Hid (TyL B g z y a n cap (m + 8) w w5 k2 0 (.slice none 0 0) []) := HT4.out.cur C1 ha
      clear HT4 C1 ha
      go_upto_if 31 with fail
      go_cut [31] (fun _ wx => ∃ k : Int, (1 ≤ k ∧ k ≤ 21) ∧ Hid (TyL B g z y a n cap (m + 10) w wx k 0 (.slice none 0 0) []))
      case first =>
        cases b2
        · go_wp2
          go_meet
          exact ⟨k2, by have := HK2.out; omega, HT5.out.more (by omega)⟩
        · cases HK2
          go_wp2_with fail
          refine (curPick 2 (by omega) (by omega) g a n cap B (m + 8) (hid_le (by have := HM.out; omega)) w5 HT5.out.C).mono ?_
          rintro e w6 ⟨r3, r30, r31, rfl, C1, ha⟩
          have hw3 : wrap64 (20 + r3) = 20 + r3 := by unfold wrap64; omega
          have HT6 : Hid (TyL B g z y a n cap (m + 10) w w6 k2 0 (.slice none 0 0) []) := HT5.out.cur C1 ha
          have HR3 : Hid (0 ≤ r3 ∧ r3 < 2) := ⟨r30, r31⟩
          obtain ⟨⟨x0, x1, x2⟩, f0, f1, f2⟩ := HT6.out.cells
          clear HT5 C1 ha r30 r31
          go_wp2
          go_meet
          exact ⟨20 + r3, by have := HR3.out; omega, (HT6.out.put _).1⟩
      case rest =>
        obtain ⟨k, hk, HTc⟩ := hcut
        obtain ⟨w7, hw7⟩ : ∃ x, wc = x := ⟨_, rfl⟩
        rw [hw7] at HTc ⊢
        have HT7 : Hid (TyL B g z y a n cap (m + 10) w w7 k 0 (.slice none 0 0) []) := HTc
        obtain ⟨hsh, hsh2⟩ := shp_draw (k := k) (by omega) (by omega)
        have HSH := specShape4 k
        obtain ⟨lo, hlo⟩ : ∃ x, (shp4 k).1 = x := ⟨_, rfl⟩
        obtain ⟨hi, hhi⟩ : ∃ x, (shp4 k).2.1 = x := ⟨_, rfl⟩
        obtain ⟨fm, hfm⟩ : ∃ x, (shp4 k).2.2.1 = x := ⟨_, rfl⟩
        obtain ⟨tz, hto⟩ : ∃ x, (shp4 k).2.2.2 = x := ⟨_, rfl⟩
        rw [hlo, hhi, hfm, hto] at HSH hsh
        rw [hhi] at hsh2
        have HS : Hid ((0 ≤ lo ∧ lo ≤ 2 ∧ lo ≤ hi ∧ hi ≤ 8 ∧ 0 ≤ fm ∧ fm ≤ 1 ∧ 0 ≤ tz ∧ tz ≤ 300 ∧ (0 < tz → fm ≤ tz)) ∧ (k ≤ 12 ∨ 20 ≤ k → hi = 0)) := ⟨hsh, hsh2⟩
        clear hw7 hk HTc hlo hhi hfm hto hsh hsh2
        obtain ⟨⟨x0, x1, x2⟩, f0, f1, f2⟩ := HT7.out.cells
        go_wp2_with fail
        refine (HSH _).mono ?_
        rintro e w8 ⟨rfl, hw8⟩
        obtain rfl := hw8.symm
        clear HSH hw8
        go_upto_if 45 with fail
        go_cut [45] (fun _ wx => ∃ nt : Int, Hid (TyL B g z y a n cap (m + 18) w wx k nt (.slice none 0 0) []))
        case first =>
          by_cases ht : 0 < tz
          · obtain ⟨N, hN⟩ : ∃ N : Int, tz - fm + 1 = N := ⟨_, rfl⟩
            have HN : Hid (1 ≤ N ∧ N ≤ 301) := by have := HS.out.1; unfold Hid; omega
            have hwN : wrap64 (wrap64 (tz - fm) + 1) = N := by have := HS.out.1; have h1 : wrap64 (tz - fm) = tz - fm := by { unfold wrap64; omega }; rw [h1]; unfold wrap64; omega
            clear hN
            clear x0 x1 x2 f0 f1 f2
            go_wp2_with fail
            refine (curPick N HN.out.1 (by have := HN.out.2; omega) g a n cap B (m + 10) (hid_le (by have := HM.out; omega)) w7 HT7.out.C).mono ?_
            rintro e w9 ⟨r4, r40, r41, rfl, C1, ha⟩
            have HT9 : Hid (TyL B g z y a n cap (m + 12) w w9 k 0 (.slice none 0 0) []) := HT7.out.cur C1 ha
            obtain ⟨n1, hn1⟩ : ∃ x, wrap64 (fm + r4) = x := ⟨_, rfl⟩
            clear HT7 C1 ha r40 r41
            obtain ⟨⟨x0, x1, x2⟩, f0, f1, f2⟩ := HT9.out.cells
            have HTA := HT9.out.put n1
            obtain ⟨wA, hwA⟩ : ∃ X, w9.setCell ⟨y, 1, none⟩ (.int .i64 n1) = X := ⟨_, rfl⟩
            rw [hwA] at HTA
            have HTB : Hid (TyL B g z y a n cap (m + 12) w wA k n1 (.slice none 0 0) []) := HTA.2
            obtain ⟨⟨u0, u1, u2⟩, g0, g1, g2⟩ := HTB.out.cells
            clear HTA HT9
            by_cases h19 : k = 19
            · have hk19 : (k == 19) = true := by simpa using h19
              clear h19
              go_wp2_with fail
              refine (curOne 4 (by omega) (by omega) g a n cap B (m + 12) (hid_le (by have := HM.out; omega)) wA HTB.out.C).mono ?_
              rintro e wB ⟨b4, rfl, C1, ha⟩
              have HTC : Hid (TyL B g z y a n cap (m + 14) w wB k n1 (.slice none 0 0) []) := HTB.out.cur C1 ha
              clear HTB C1 ha u0 u1 u2 g0 g1 g2 x0 x1 x2 f0 f1 f2 hwA hn1
              cases b4
              · obtain ⟨⟨u0, u1, u2⟩, g0, g1, g2⟩ := HTC.out.cells
                go_wp2_with fail
                refine (curPick 9 (by omega) (by omega) g a n cap B (m + 14) (hid_le (by have := HM.out; omega)) wB HTC.out.C).mono ?_
                rintro e wC ⟨r5, r50, r51, rfl, C1, ha⟩
                have HTD : Hid (TyL B g z y a n cap (m + 16) w wC k n1 (.slice none 0 0) []) := HTC.out.cur C1 ha
                clear HTC C1 ha u0 u1 u2 g0 g1 g2
                have hw5 : wrap64 (1 + r5) = 1 + r5 := by unfold wrap64; omega
                obtain ⟨⟨u0, u1, u2⟩, g0, g1, g2⟩ := HTD.out.cells
                go_wp2
                go_meet
                exact ⟨1 + r5, (HTD.out.put (1 + r5)).2.more (by omega)⟩
              · go_wp2
                go_meet
                exact ⟨n1, HTC.out.more (by omega)⟩
            · have hk19 : (k == 19) = false := by simpa using h19
              go_wp2
              go_meet
              exact ⟨n1, HTB.out.more (by omega)⟩
          · go_wp2
            go_meet
            exact ⟨0, HT7.out.more (by omega)⟩
        case rest =>
          obtain ⟨nt, HTc⟩ := hcut
          obtain ⟨wD, hwD⟩ : ∃ x, wc = x := ⟨_, rfl⟩
          rw [hwD] at HTc ⊢
          have HTD : Hid (TyL B g z y a n cap (m + 18) w wD k nt (.slice none 0 0) []) := HTc
          clear hwD HTc HT7 x0 x1 x2 f0 f1 f2
          go_upto_if 70 with fail
          go_cut [12] (fun nn wx => ∃ j : Nat, j ≤ 4 ∧ nn = .int .i64 (j : Int) ∧ Hid (TyL B g z y a n cap (m + 20) w wx k nt (.slice none 0 0) []))
          case first =>
            obtain ⟨lN, hlN⟩ : ∃ j : Nat, lo = (j : Int) := ⟨lo.toNat, by have := HS.out.1; omega⟩
            subst hlN
            by_cases hh : (lN : Int) < hi
            · go_wp2_with fail
              refine (curPick 3 (by omega) (by omega) g a n cap B (m + 18) (hid_le (by have := HM.out; omega)) wD HTD.out.C).mono ?_
              rintro e wE ⟨r6, r60, r61, rfl, C1, ha⟩
              have HTE : Hid (TyL B g z y a n cap (m + 20) w wE k nt (.slice none 0 0) []) := HTD.out.cur C1 ha
              obtain ⟨r6, rfl⟩ : ∃ j : Nat, r6 = (j : Int) := ⟨r6.toNat, by omega⟩
              have hw6 : wrap64 ((lN : Int) + (r6 : Int)) = ((lN + r6 : Nat) : Int) := by have := HS.out.1; unfold wrap64; omega
              have HL6 : Hid (lN + r6 ≤ 4) := by have := HS.out.1; unfold Hid; omega
              clear HTD C1 ha r60 r61
              go_wp2
              go_meet
              exact ⟨lN + r6, HL6.out, by first | rfl | rw [hw6], HTE.out⟩
            · go_wp2
              go_meet
              exact ⟨lN, by have := HS.out.1; omega, rfl, HTD.out.more (by omega)⟩
          case rest =>
            obtain ⟨j0, hj0, rfl, HTc⟩ := hcut
            obtain ⟨wF, hwF⟩ : ∃ x, wc = x := ⟨_, rfl⟩
            rw [hwF] at HTc ⊢
            have HTF : Hid (TyL B g z y a n cap (m + 20) w wF k nt (.slice none 0 0) []) := HTc
            clear hwF HTc HTD HS
            go_wp2
            go_loopw [12] (fun i wr => ∃ (j : Nat) (acc : List TT) (sl : Value), j + acc.length ≤ 4 ∧ i = .int .i64 (j : Int) ∧ Hid (TyL B g z y a n cap (m + (20 + acc.length * CZ d)) w wr k nt sl acc) ∧ Hid (∀ t ∈ acc, szT t ≤ SZ d)) (fun i _ => (intOf i).toNat)
            case atStart => exact ⟨j0, [], _, by simpa using hj0, rfl, HTF.out.more (by omega), fun t ht => by cases ht⟩
            case round =>
              obtain ⟨j, acc, sl, hj, rfl, HT, HA⟩ := hrel
              clear hj0 HTF
              obtain ⟨ca, cc, rfl⟩ := HT.out.K.shape
              by_cases hp : 0 < j
              · have hpi : (0 : Int) < (j : Int) := by omega
                have r1 := HT.out.bt
                obtain ⟨al, hal⟩ : ∃ x, acc.length = x := ⟨_, rfl⟩
                have HAL : Hid (acc.length = al ∧ al ≤ 3) := ⟨hal, by omega⟩
                rw [hal] at r1
                rw [hal] at hj
                clear hal
                have hjw : wrap64 ((j : Int) - 1) = ((j - 1 : Nat) : Int) := by unfold wrap64; omega
                have HIH : Hid (∀ W, Cur W g a n cap B (m + (20 + al * CZ d)) → Calls Tryd.prog 35 #[.pointer (some ⟨g, 0, none⟩), .int .i64 (d : Int), .bool true] W (TyP W g a n cap B (m + (20 + al * CZ d)) d)) := fun W hC => IH _ _ W (by have h1 := HM2.out; have h2 := HAL.out.2; have h3 : al * CZ d ≤ 3 * CZ d := Nat.mul_le_mul_right _ h2; omega) hC
                go_wp2_with fail
                refine wa_begin (by kernel_rfl) ?_
                refine wa_take 0 (some 79) (.pointer (some ⟨y, 2, none⟩)) rfl rfl (by kernel_rfl) (by kernel_rfl) (by kernel_rfl) (fun _ _ _ h => h) (by rfl) (fun w' => by first | rfl | (go_simp; done)) ?_
                simp only [Act.put, List.setIfInBounds_toArray, List.set_cons_zero, List.set_cons_succ]
                refine wa_take 2 (some 81) (.pointer (some ⟨g, 0, none⟩)) rfl rfl (by kernel_rfl) (by kernel_rfl) (by kernel_rfl) (fun _ _ _ h => h) (by rfl) (fun w' => by first | rfl | (go_simp; done)) ?_
                simp only [Act.put, List.setIfInBounds_toArray, List.set_cons_zero, List.set_cons_succ]
                refine wa_take 3 (some 82) (.int .i64 dp) rfl rfl (by kernel_rfl) (by kernel_rfl) (by kernel_rfl) (fun _ _ _ h => h) (by rfl) (fun w' => by first | rfl | (go_simp; done)) ?_
                simp only [Act.put, List.setIfInBounds_toArray, List.set_cons_zero, List.set_cons_succ]
                refine wa_take 4 (some 83) (.int .i64 (d : Int)) rfl rfl (by kernel_rfl) (by kernel_rfl) (by kernel_rfl) (fun _ _ _ h => h) (by rfl) (fun w' => by first | rfl | (go_simp; done)) ?_
                simp only [Act.put, List.setIfInBounds_toArray, List.set_cons_zero, List.set_cons_succ]
                refine wa_take 5 (some 84) (.bool true) rfl rfl (by kernel_rfl) (by kernel_rfl) (by kernel_rfl) (fun _ _ _ h => h) (by rfl) (fun w' => by first | rfl | (go_simp; done)) ?_
                simp only [Act.put, List.setIfInBounds_toArray, List.set_cons_zero, List.set_cons_succ]
                refine wa_first 1 (some 80) (.slice ca al cc) (fun w' => w'.heap[y]? = some (.cells #[.int .i64 k, .int .i64 nt, .slice ca al cc] 40 (0, 0))) rfl rfl (by kernel_rfl) (by kernel_rfl) (by kernel_rfl) (fun _ _ _ h => h) (by rfl) (fun w' hS => by have q := (cell_of_block hS 2).trans rfl; first | rfl | (go_simp; done)) r1 ?_
                simp only [Act.put, List.setIfInBounds_toArray, List.set_cons_zero, List.set_cons_succ]
                refine wb_call 6 (some 85) 35 #[.pointer (some ⟨g, 0, none⟩), .int .i64 (d : Int), .bool true] (by kernel_rfl) (by kernel_rfl) rfl rfl (by rfl) (by kernel_rfl) ?_
                have hdr : Below wr.heap.size wr wr.drew := (Below.refl _ _).drew
                refine (HIH.out wr.drew (by have h := HT.out.C.kept hdr; rw [HAL.out.1] at h; exact h)).mono ?_
                rintro e V1 ⟨T1, sl1, rfl, hT1, hz1, C1, ha⟩
                have HT1 : Hid (TyL B g z y a n cap (m + (20 + al * CZ d) + CZ d) w V1 k nt (.slice ca al cc) acc) := by
                  have h := HT.out.bel hdr
                  rw [HAL.out.1] at h
                  exact h.cur C1 ha
                refine ⟨_, rfl, by have h := HT1.out.bt; exact h, ?_⟩
                simp only [Act.put, List.setIfInBounds_toArray, List.set_cons_zero, List.set_cons_succ]
                have HB2 : Hid (Below V1.heap.size V1 (V1.alloc (.cells #[.int .i64 (kdT T1), .int .i64 (nT T1), sl1] 40))) := (Below.refl _ _).alloc (Nat.le_refl _) _
                have HT2 := HT1.out.bel HB2.out
                have s2 := HT2.bt
                refine wb_val 7 (some 86) (.slice (some ⟨V1.heap.size, 0, none⟩) 1 1) (V1.alloc (.cells #[.int .i64 (kdT T1), .int .i64 (nT T1), sl1] 40)) (by kernel_rfl) (by kernel_rfl) rfl rfl (by rfl) (by first | rfl | go_simp) s2 ?_
                simp only [Act.put, List.setIfInBounds_toArray, List.set_cons_zero, List.set_cons_succ]
                have hdz : wr.drew.heap.size = wr.heap.size := rfl
                have hV1 := ha.size
                have hyl := lt_of_block r1
                obtain ⟨v', w5, hrun, hK5, hg5⟩ := run_appT (V1.alloc (.cells #[.int .i64 (kdT T1), .int .i64 (nT T1), sl1] 40)) (y + 1) (.slice ca al cc) acc HT2.K V1.heap.size T1 sl1 (heap_alloc_new _ _) wr.heap.size V1.heap.size (TRep.keep (fun q _ q2 => Below.heap_alloc _ _ _ q2) _ _ hT1) (by omega) (by simp) (fun q hq => by have hl := HT.out.K.lt q (by rw [HAL.out.1]; exact hq); omega) (by have := HAL.out; omega) (by simp; omega)
                obtain ⟨va, vc, hv5⟩ := hK5.shape
                have hlen : (acc ++ [T1]).length = al + 1 := by rw [List.length_append, HAL.out.1]; rfl
                rw [hlen] at hv5
                subst hv5
                obtain ⟨s5, HT6⟩ := HT2.app hK5 hg5
                have HTN : Hid (TyL B g z y a n cap (m + (20 + (acc ++ [T1]).length * CZ d)) w (w5.setCell ⟨y, 2, none⟩ (.slice va (al + 1) vc)) k nt (.slice va (al + 1) vc) (acc ++ [T1])) := HT6.more (by have h := HAL.out.1; rw [List.length_append, h, Nat.add_mul]; simp; omega)
                have HAN : Hid (∀ t ∈ acc ++ [T1], szT t ≤ SZ d) := fun t ht => by
                  rcases List.mem_append.1 ht with h | h
                  · exact HA.out t h
                  · simp at h; subst h; exact hz1
                have HLN : Hid (j - 1 + (acc ++ [T1]).length ≤ 4) := by unfold Hid; rw [List.length_append, HAL.out.1]; simp; omega
                refine wb_leave_val 8 (some 87) (.slice va (al + 1) vc) w5 (by kernel_rfl) (by kernel_rfl) rfl rfl (by rfl) (by simp [execOp, resolve, invoke, builtin, Act.eval, hrun, Result.andThen]) ?_
                simp only [Act.put, List.setIfInBounds_toArray, List.set_cons_zero, List.set_cons_succ]
                have g2 := (cell_of_block s5 2).trans rfl
                have f2 := free_of_block s5 2
                refine wa_val 9 (some 88) (.pointer (some ⟨y, 2, none⟩)) w5 (by kernel_rfl) rfl rfl (by rfl) (by first | rfl | go_simp) ?_
                simp only [Act.put, List.setIfInBounds_toArray, List.set_cons_zero, List.set_cons_succ]
                refine wa_store 10 none (w5.setCell ⟨y, 2, none⟩ (.slice va (al + 1) vc)) (by kernel_rfl) rfl rfl (by rfl) (by first | rfl | (go_simp; done)) ?_
                simp only [Act.put]
                refine wa_done (by kernel_rfl) ?_
                clear hrun hK5 hg5 s5 HT6 hlen g2 f2 HT1 HT2 HB2 s2 hT1 hz1 C1 ha r1 hdr hdz hV1 hyl HIH
                go_wp2
                go_roundw
                case rel => exact ⟨j - 1, acc ++ [T1], _, HLN.out, by first | rfl | rw [hjw] | (congr 1; omega), HTN.out, HAN.out⟩
                case measure => first | (simp [intOf]; omega) | (rw [hjw]; simp [intOf]; omega)
              · obtain rfl : j = 0 := by omega
                obtain ⟨⟨x0, x1, x2⟩, f0, f1, f2⟩ := HT.out.cells
                obtain ⟨⟨z0, z1, z2⟩, e0, e1, e2⟩ := three3 HT.out.br
                obtain ⟨⟨q0, q1, q2⟩, _⟩ := three3 (put3 HT.out.br (.int .i64 k) (.int .i64 nt) (.slice ca acc.length cc))
                have HEND := HT.out.told (m0 := m) (d := d + 1) (by have h : CZ (d + 1) = 30 + 4 * CZ d := rfl; have h2 : acc.length * CZ d ≤ 4 * CZ d := Nat.mul_le_mul_right _ (by omega); omega) (by have h : SZ (d + 1) = 1 + 4 * SZ d := rfl; have h1 := szK_le acc HA.out; have h2 : acc.length * SZ d ≤ 4 * SZ d := Nat.mul_le_mul_right _ (by omega); omega)
                go_wp2
                exact bodyPost_ret (by simp [results, Tryd.results35, go_sem, q0, q1, q2]) rfl HEND

end Go.Proofs.YtebendaiokchdaaDoor

namespace Go.Proofs.YtebendaiokchdaaDoor
open Go.ChangeShapes Go.WideShapes Go.ChangeAt Go.RowKit Go.PlainAid

theorem curType (g : Nat) (a : Option Addr) (n cap B : Nat) : ∀ (d : Nat), d ≤ 100 → ∀ (m : Nat) (h : Bool) (w : World), m + CZ d ≤ 600000 → Cur w g a n cap B m → Calls Tryd.prog 35 #[.pointer (some ⟨g, 0, none⟩), .int .i64 (d : Int), .bool h] w (TyP w g a n cap B m d)
  | 0, _, m, h, w, hm, C => curType0 g a n cap B m h w hm C
  | d + 1, hd, m, h, w, hm, C => curTypeS d (by omega) g a n cap B m (fun m' h' w' hm' C' => curType g a n cap B d (by omega) m' h' w' hm' C') h w hm C
theorem sz_cz {d : Nat} (h : d ≤ 3) : SZ d ≤ 85 ∧ CZ d ≤ 2550 := by
  rcases (by omega : d = 0 ∨ d = 1 ∨ d = 2 ∨ d = 3) with rfl | rfl | rfl | rfl <;> decide
theorem ndv_setU : ∀ (L : List Nd) (k : Nat) (_ : k < L.length) (n : Int), (ndv L).set (k * 3 + 2) (.int .i64 n) = ndv (L.modify k (fun x => (x.1, x.2.1, n)))
  | p :: r, 0, _, n => by simp [ndv]
  | p :: r, k + 1, h, n => by
    have ih := ndv_setU r k (by simpa using h) n
    rw [ndv_cons, show (k + 1) * 3 + 2 = k * 3 + 2 + 1 + 1 + 1 by omega, List.set_cons_succ, List.set_cons_succ, List.set_cons_succ, ih, List.modify_succ_cons, ndv_cons]
theorem ndo_low {B B' : Nat} {w : World} {v : Value} {L : List Nd} (h : NdO B w v L) (hB : B' ≤ B) : NdO B' w v L := by
  refine ⟨h.1, ?_⟩
  rcases h.2 with h4 | ⟨q, cap, cur, e1, e2, r⟩
  · exact .inl h4
  · exact .inr ⟨q, cap, cur, e1, Nat.le_trans hB e2, r⟩
/-- A row of nodes that is drawn. -/
def TnP (w : World) (g : Nat) (a : Option Addr) (n cap B m : Nat) (e : Ending) (w' : World) : Prop := ∃ v L, e = .returned v ∧ NdO w.heap.size w' v L ∧ 1 ≤ L.length ∧ L.length ≤ 100 ∧ Cur w' g a n cap B (m + 3000) ∧ Aft B g w w'
/-- A row that lies at B0 or behind, and a cursor. -/
structure TnL (B0 B g : Nat) (a : Option Addr) (n cap m : Nat) (w X : World) (v : Value) (L : List Nd) : Prop where
  O : NdO B0 X v L
  C : Cur X g a n cap B m
  A : Aft B g w X
  hz : w.heap.size = B0
  hg : g < B0
  hB : B ≤ g
theorem TnL.cur {B0 B g : Nat} {a : Option Addr} {n cap m m1 : Nat} {w X X1 : World} {v : Value} {L : List Nd} (T : TnL B0 B g a n cap m w X v L) (C1 : Cur X1 g a n cap B m1) (ha : Aft B g X X1) : TnL B0 B g a n cap m1 w X1 v L := by
  have h1 := T.hg
  exact ⟨own_keep T.O (fun q hq => ha.blk q (by have := (T.O.lt q hq).1; omega) (T.O.lt q hq).2), C1, T.A.trans ha, T.hz, T.hg, T.hB⟩
theorem TnL.bel {B0 B g : Nat} {a : Option Addr} {n cap m : Nat} {w X X1 : World} {v : Value} {L : List Nd} (T : TnL B0 B g a n cap m w X v L) (h : Below X.heap.size X X1) : TnL B0 B g a n cap m w X1 v L := by
  have h3 := T.A.size
  exact ⟨own_keep T.O (fun q hq => h.block q (T.O.lt q hq).2), T.C.kept h, aft_z T.A h (by have := T.C.lt; have := T.hB; omega) h3, T.hz, T.hg, T.hB⟩
theorem TnL.told {B0 B g : Nat} {a : Option Addr} {n cap m m0 : Nat} {w X : World} {v : Value} {L : List Nd} (T : TnL B0 B g a n cap m w X v L) (h1 : 1 ≤ L.length) (h2 : L.length ≤ 100) (hm : m ≤ m0 + 3000) : TnP w g a n cap B m0 (.returned v) X := by
  have h := T.hz
  exact ⟨v, L, rfl, by rw [h]; exact T.O, h1, h2, T.C.more hm, T.A⟩
theorem TnL.low {B0 B g : Nat} {a : Option Addr} {n cap m : Nat} {w X X1 : World} {v v' : Value} {L L' : List Nd} (T : TnL B0 B g a n cap m w X v L) (hb : Below B0 X X1) (hO : NdO B0 X1 v' L') : TnL B0 B g a n cap m w X1 v' L' := by
  have h1 := T.hg
  have h2 := T.hB
  have h3 := T.hz
  exact ⟨hO, cur_z T.C hb h1, aft_z T.A hb (by omega) (by omega), T.hz, T.hg, T.hB⟩

set_option maxRecDepth 100000 in
set_option maxHeartbeats 3200000 in
theorem curNodes (g : Nat) (a : Option Addr) (n cap B m : Nat) (w : World) (hm : m ≤ 500000) (C : Cur w g a n cap B m) : Calls Tryd.prog 19 #[.pointer (some ⟨g, 0, none⟩)] w (TnP w g a n cap B m) := by
  obtain ⟨B0, hz⟩ : ∃ z, w.heap.size = z := ⟨_, rfl⟩
  have HM : Hid (m ≤ 500000) := hm
  have HC : Hid (g < B0 ∧ B ≤ g ∧ w.heap.size = B0) := ⟨by rw [← hz]; exact C.lt, C.hg, hz⟩
  clear hm hz
  go_enter Tryd.func19, Tryd.ntmps19
  go_wp2_with fail
  refine (curPick 4 (by omega) (by omega) g a n cap B m (hid_le (by have := HM.out; omega)) w C).mono ?_
  rintro e w1 ⟨r, r0, r1, rfl, C1, A1⟩
  obtain ⟨d, rfl⟩ : ∃ d : Nat, r = (d : Int) := ⟨r.toNat, by omega⟩
  have HD : Hid (d ≤ 3) := by unfold Hid; omega
  clear r0 r1 C
  go_wp2_with fail
  refine (curOne 3 (by omega) (by omega) g a n cap B (m + 2) (hid_le (by have := HM.out; omega)) w1 C1).mono ?_
  rintro e w2 ⟨b, rfl, C2, A2⟩
  have HA2 : Hid (Aft B g w w2) := A1.trans A2
  clear A1 A2 C1
  go_wp2_with fail
  refine (curType g a n cap B d (by have := HD.out; omega) (m + 4) b w2 (by have := HM.out; have := (sz_cz HD.out).2; omega) C2).mono ?_
  rintro e w3 ⟨T, sl, rfl, hT, hsz, C3, A3⟩
  have HSZ : Hid (szT T ≤ 85) := Nat.le_trans hsz (sz_cz HD.out).1
  have FL := (specFlatT (szT T) T (Nat.le_refl _) w3.heap.size w2.heap.size w3.heap.size w3 (.slice none 0 0) [] (-1) sl (World.ownsRow_nil _ _ _ _) (Nat.le_refl _) (Nat.le_refl _) hT (by have := HSZ.out; simp; omega))
  have hs3 := HA2.out.size
  have hs4 := A3.size
  obtain ⟨kd, hkd⟩ : ∃ k, kdT T = k := ⟨_, rfl⟩
  obtain ⟨nt, hnt⟩ : ∃ k, nT T = k := ⟨_, rfl⟩
  obtain ⟨ta, tm, tc, rfl⟩ := trep_one hT
  rw [hkd, hnt] at FL ⊢
  obtain ⟨L, hL⟩ : ∃ L, flT T (-1) 0 = L := ⟨_, rfl⟩
  have HLL : Hid (1 ≤ L.length ∧ L.length ≤ 85) := by
    have h1 := flT_len T (-1) 0
    rw [hL] at h1
    have := szT_pos T
    have := HSZ.out
    unfold Hid
    omega
  have HA3 : Hid (Aft B g w w3) := HA2.out.trans A3
  have C3' : Cur w3 g a n cap B (m + 2600) := C3.more (by have := (sz_cz HD.out).2; omega)
  have HS3 : Hid (B0 ≤ w3.heap.size) := by unfold Hid; rw [← HC.out.2.2]; omega
  clear C2 C3 A3 hT hkd hnt HSZ hsz hs3 hs4 HA2 HD
  go_wp2_with fail
  refine FL.mono ?_
  rintro e w4 ⟨v, rfl, hO, hb⟩
  rw [List.nil_append] at hO
  have hO2 : NdO w3.heap.size w4 v L := by rw [← hL]; exact hO
  have HT4 : Hid (TnL B0 B g a n cap (m + 2600) w w4 v L) := by
    obtain ⟨c1, c2, c3⟩ := HC.out
    exact ⟨ndo_low hO2 HS3.out, C3'.kept hb, aft_z HA3.out hb (by have := HS3.out; omega) HA3.out.size, c3, c1, c2⟩
  obtain ⟨sa, sc, rfl⟩ := ownsRow_shape hO2
  clear FL hO hO2 hb C3' HA3 hL HS3
  go_wp2_with fail
  refine (curPick 30 (by omega) (by omega) g a n cap B (m + 2600) (hid_le (by have := HM.out; omega)) w4 HT4.out.C).mono ?_
  rintro e w5 ⟨r, r0, r1, rfl, C5, A5⟩
  have HT5 : Hid (TnL B0 B g a n cap (m + 2602) w w5 (.slice sa L.length sc) L) := HT4.out.cur C5 A5
  clear HT4 C5 A5
  obtain ⟨ln, hln⟩ : ∃ k, L.length = k + 1 := ⟨L.length - 1, by have := HLL.out; omega⟩
  have HLN : Hid (L.length = ln + 1) := hln
  obtain ⟨gl, cc, hsl, _⟩ := own_pos HT5.out.O (by omega)
  simp only [Value.slice.injEq] at hsl
  obtain ⟨rfl, _, rfl⟩ := hsl
  have hgl := (HT5.out.O.lt gl rfl).1
  have hlw : wrap64 ((L.length : Int) - 1) = (ln : Int) := by have := HLL.out; unfold wrap64; omega
  have hlt : (ln : Int) < (L.length : Int) := by omega
  have HGL : Hid (B0 ≤ gl) := hgl
  clear hln hgl
  by_cases h0 : r = 0
  · subst h0
    clear r0 r1
    obtain ⟨y, hy⟩ : ∃ y, w5.heap.size = y := ⟨_, rfl⟩
    obtain ⟨W6, hW6⟩ : ∃ W, w5.alloc (.cells #[.int .i64 (-1), .int .i64 301, .int .i64 33] 3) = W := ⟨_, rfl⟩
    have hr : Row W6 y 3 := by rw [← hW6, ← hy]; exact row_new w5 [.int .i64 (-1), .int .i64 301, .int .i64 33] 3 (by decide)
    have HT6 : Hid (TnL B0 B g a n cap (m + 2602) w W6 (.slice (some ⟨gl, 0, none⟩) L.length sc) L) := HT5.out.bel (by rw [← hW6]; exact (Below.refl _ _).alloc (Nat.le_refl _) _)
    have hyl : y < W6.heap.size := by rw [← hW6, ← hy]; simp
    have hyg : y ≠ g := by have h1 := HT5.out.C.lt; omega
    clear HT5
    go_wp2_with fail
    refine (curAmong y 3 (by omega) (by omega) g a n cap B (m + 2602) (hid_le (by have := HM.out; omega)) W6 HT6.out.C hr hyl hyg).mono ?_
    rintro e w7 ⟨q, q0, q1, rfl, C7, A7⟩
    have HT7 : Hid (TnL B0 B g a n cap (m + 2604) w w7 (.slice (some ⟨gl, 0, none⟩) L.length sc) L) := HT6.out.cur C7 A7
    clear HT6 C7 A7 q0 q1 hr hyl hyg hW6 hy
    have hk : ln < L.length := by have := HLN.out; omega
    obtain ⟨ov, c1⟩ : ∃ x, w7.cell? ⟨gl, ln * 3 + 1, none⟩ = some (.int .i64 x) := ⟨_, (nd_of_own rfl HT7.out.O ln hk).2.1 |> fun h => by rw [Nat.zero_add] at h; exact h⟩
    have f1 := HT7.out.O.frozenAt (ln * 3 + 1)
    have HE : Hid (TnP w g a n cap B m (.returned (.slice (some ⟨gl, 0, none⟩) L.length sc)) (w7.setCell ⟨gl, ln * 3 + 1, none⟩ (.int .i64 q))) := by
      refine TnL.told (L := L.modify ln (fun x => (x.1, q, x.2.2))) (HT7.out.low ((Below.refl _ _).setCell HGL.out _) ?_) (by have := HLL.out; rw [List.length_modify]; omega) (by have := HLL.out; rw [List.length_modify]; omega) (by omega)
      unfold NdO
      rw [← ndv_setN L ln hk q, List.length_modify]
      exact own_set HT7.out.O _ _
    clear hk HT7
    go_wp2
    go_ret
    exact HE.out
  · by_cases h1 : r = 1
    · subst h1
      clear r0 r1 h0
      go_wp2_with fail
      refine (curPick 4 (by omega) (by omega) g a n cap B (m + 2602) (hid_le (by have := HM.out; omega)) w5 HT5.out.C).mono ?_
      rintro e w7 ⟨q, q0, q1, rfl, C7, A7⟩
      have HT7 : Hid (TnL B0 B g a n cap (m + 2604) w w7 (.slice (some ⟨gl, 0, none⟩) L.length sc) L) := HT5.out.cur C7 A7
      have hqw : wrap64 (q - 1) = q - 1 := by unfold wrap64; omega
      clear HT5 C7 A7
      have hk : ln < L.length := by have := HLN.out; omega
      obtain ⟨ov, c2⟩ : ∃ x, w7.cell? ⟨gl, ln * 3 + 2, none⟩ = some (.int .i64 x) := ⟨_, (nd_of_own rfl HT7.out.O ln hk).2.2 |> fun h => by rw [Nat.zero_add] at h; exact h⟩
      have f2 := HT7.out.O.frozenAt (ln * 3 + 2)
      have HE : Hid (TnP w g a n cap B m (.returned (.slice (some ⟨gl, 0, none⟩) L.length sc)) (w7.setCell ⟨gl, ln * 3 + 2, none⟩ (.int .i64 (q - 1)))) := by
        refine TnL.told (L := L.modify ln (fun x => (x.1, x.2.1, q - 1))) (HT7.out.low ((Below.refl _ _).setCell HGL.out _) ?_) (by have := HLL.out; rw [List.length_modify]; omega) (by have := HLL.out; rw [List.length_modify]; omega) (by omega)
        unfold NdO
        rw [← ndv_setU L ln hk (q - 1), List.length_modify]
        exact own_set HT7.out.O _ _
      clear hk HT7
      go_wp2
      go_ret
      exact HE.out
    · by_cases h2 : r = 2
      · subst h2
        clear r0 r1 h0 h1
        obtain ⟨y, hy⟩ : ∃ y, w5.heap.size = y := ⟨_, rfl⟩
        obtain ⟨W6, hW6⟩ : ∃ W, w5.alloc (.cells #[.int .i64 1, .int .i64 0, .int .i64 0] 33) = W := ⟨_, rfl⟩
        have HT6 : Hid (TnL B0 B g a n cap (m + 2602) w W6 (.slice (some ⟨gl, 0, none⟩) L.length sc) L) := HT5.out.bel (by rw [← hW6]; exact (Below.refl _ _).alloc (Nat.le_refl _) _)
        have HY : Hid (W6.heap[y]? = some (.cells #[.int .i64 1, .int .i64 0, .int .i64 0] 33 (0, 0)) ∧ B0 ≤ W6.heap.size) := by
          refine ⟨by rw [← hW6, ← hy]; exact heap_alloc_new _ _, ?_⟩
          have h1 := (HT6.out.O.lt gl rfl)
          omega
        clear HT5
        go_wp2_with (at_builtin; refine wpl_appNd _ rfl _ _ rfl B0 _ L rfl HT6.out.O y 0 1 [(1, 0, 0)] rfl ?c1 ?c2 ?c3 ?_)
        case c1 =>
          intro j u hu
          have hb := HY.out.1
          have hj : j = 0 ∨ j = 1 ∨ j = 2 := by
            have := (List.getElem?_eq_some_iff.1 hu).1
            simp [ndv] at this
            omega
          rcases hj with rfl | rfl | rfl
          · simp [ndv] at hu; subst hu; exact (cell_of_block hb 0).trans rfl
          · simp [ndv] at hu; subst hu; exact (cell_of_block hb 1).trans rfl
          · simp [ndv] at hu; subst hu; exact (cell_of_block hb 2).trans rfl
        case c2 => have := HLL.out; simp; omega
        case c3 => exact HY.out.2
        intro v7 w7 hO7 hg7
        have HE : Hid (TnP w g a n cap B m (.returned v7) w7) :=
          TnL.told (L := L ++ [(1, 0, 0)]) (HT6.out.low ((Below.refl _ _).grown hg7 HY.out.2 (fun q hq => (HT6.out.O.lt q hq).1)) hO7) (by have := HLL.out; simp) (by have := HLL.out; simp; omega) (by omega)
        clear hO7 hg7 HT6 HY
        go_wp2
        go_ret
        exact HE.out
      · have HE : Hid (TnP w g a n cap B m (.returned (.slice (some ⟨gl, 0, none⟩) L.length sc)) w5) := HT5.out.told (by have := HLL.out; omega) (by have := HLL.out; omega) (by omega)
        clear HT5
        go_wp2
        go_ret
        exact HE.out

set_option maxRecDepth 100000 in
set_option maxHeartbeats 800000 in
theorem drawType (a : Option Addr) (n cap : Nat) (w : World) (hb : Bys w a n w.heap.size) :
    Calls Tryd.prog 10 #[.slice a n cap] w fun e w' => ∃ v L, e = .returned v ∧ NdO w.heap.size w' v L ∧ 1 ≤ L.length ∧ L.length ≤ 100 ∧ Below w.heap.size w w' := by
  have C0 := cur_new w a n cap 48 hb
  have N0 := below_new w (.cells #[.slice a n cap, .int .i64 0, .int .u64 0] 48)
  go_enter Tryd.func10, Tryd.ntmps10
  go_wp2_with fail
  refine (curNodes w.heap.size a n cap w.heap.size 0 _ (by omega) C0).mono ?_
  rintro e w1 ⟨v, L, rfl, hO, h1, h2, _, A1⟩
  have HO : Hid (NdO w.heap.size w1 v L) := ndo_low hO (by simp)
  have HB : Hid (Below w.heap.size w w1) := N0.trans A1.below
  clear hO A1 N0 C0
  go_wp2
  go_ret
  exact ⟨_, L, rfl, HO.out, h1, h2, HB.out⟩

set_option maxRecDepth 100000 in
set_option maxHeartbeats 800000 in
theorem drawTypeText (a : Option Addr) (n cap : Nat) (w : World) (hb : Bys w a n w.heap.size) :
    Calls Tryd.prog 4 #[.slice a n cap] w fun e w' => ∃ v L, e = .returned v ∧ NdO w.heap.size w' v L ∧ 1 ≤ L.length ∧ L.length ≤ 100 ∧ Below w.heap.size w w' := by
  have D := drawType a n cap w hb
  go_enter Tryd.func4, Tryd.ntmps4
  go_wp2_with fail
  refine D.mono ?_
  rintro e w1 ⟨v, L, rfl, hO, h1, h2, hb1⟩
  go_wp2
  go_ret
  exact ⟨_, L, rfl, hO, h1, h2, hb1⟩

end Go.Proofs.YtebendaiokchdaaDoor
