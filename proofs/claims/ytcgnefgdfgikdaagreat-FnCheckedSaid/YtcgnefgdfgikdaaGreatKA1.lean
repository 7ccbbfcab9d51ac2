/-
  The program's check: its memory, the innermost block, what is put.
-/
import Derived.Test.YtcgnefgdfgikdaaGreatM1
import Derived.Test.YtcgnefgdfgikdaaGreatM3
import Derived.Test.YtcgnefgdfgikdaaGreatU4
import Derived.Test.YtcgnefgdfgikdaaGreatE2
import Derived.Test.YtcgnefgdfgikdaaGreatM4
import Derived.Deep.RegionLaw
namespace Go.Proofs.YtcgnefgdfgikdaaGreat
open Go.ChangeShapes Go.WideShapes Go.ChangeAt Go.RowKit

def ivs (z : Int) (l : List Ty) : List Value := l.reverse.map fun t => .int .i64 (enc z t)
theorem ivs_len (z : Int) (l : List Ty) : (ivs z l).length = l.length := by simp [ivs]
theorem ivs_cons (z : Int) (t : Ty) (l : List Ty) : ivs z (t :: l) = ivs z l ++ [.int .i64 (enc z t)] := by simp [ivs]
theorem ivs_last (z : Int) (t : Ty) (l : List Ty) : (ivs z (t :: l))[l.length]? = some (.int .i64 (enc z t)) := by
  rw [ivs_cons, List.getElem?_append_right (by rw [ivs_len]; omega), ivs_len]; simp
theorem ivs_take (z : Int) (l : List Ty) (m : Nat) : (ivs z l).take m = ivs z (l.drop (l.length - m)) := by
  unfold ivs
  rw [← List.map_take, List.take_reverse]
def fv1 (b : Blk) : List Value := [.int .i64 (if b.split then 5 else b.op), .int .i64 b.kind, .int .i64 (b.h : Int), .bool b.dead]
def fvI (l : List Blk) : List Value := l.reverse.flatMap fv1
theorem fvI_cons (b : Blk) (l : List Blk) : fvI (b :: l) = fvI l ++ fv1 b := by simp [fvI]
theorem fvI_len (l : List Blk) : (fvI l).length = l.length * 4 := by
  induction l with
  | nil => rfl
  | cons b r ih => rw [fvI_cons, List.length_append, ih, List.length_cons]; simp [fv1]; omega
theorem fvI_at (b : Blk) (l : List Blk) (j : Nat) : (fvI (b :: l))[l.length * 4 + j]? = (fv1 b)[j]? := by
  rw [fvI_cons, List.getElem?_append_right (by rw [fvI_len]; omega), fvI_len]
  congr 1; omega
theorem fvI_set (b b' : Blk) (l : List Blk) (j : Nat) (u : Value) (h : (fv1 b).set j u = fv1 b') : (fvI (b :: l)).set (l.length * 4 + j) u = fvI (b' :: l) := by
  rw [fvI_cons, fvI_cons, List.set_append, if_neg (by rw [fvI_len]; omega), fvI_len, show l.length * 4 + j - l.length * 4 = j by omega, h]
/-- A block further out. -/
theorem fvI_far (l : List Blk) (a : Nat) (b : Blk) (h : l[a]? = some b) (j : Nat) (hj : j < 4) : (fvI l)[(l.length - 1 - a) * 4 + j]? = (fv1 b)[j]? := by
  induction l generalizing a with
  | nil => simp at h
  | cons x r ih =>
    cases a with
    | zero =>
      simp at h; subst h
      have := fvI_at x r j
      simpa using this
    | succ a =>
      simp at h
      have hlt : a < r.length := by
        rcases Nat.lt_or_ge a r.length with h' | h'
        · exact h'
        · rw [List.getElem?_eq_none h'] at h; simp at h
      rw [fvI_cons, List.getElem?_append_left (by rw [fvI_len, List.length_cons]; omega)]
      have := ih a h
      rw [List.length_cons, show r.length + 1 - 1 - (a + 1) = r.length - 1 - a by omega]
      exact this

/-- What a check keeps to: the module, its own types, the result. -/
structure EnvI where
  l : Loc7
  M : Mod7
  own : Value
  res : Int
  /-- A block that is not the check's: a variable that points to it. -/
  vb : Option (Nat × Array Value)
def mkI (E : EnvI) (at_ : Int) (most : Nat) (vf vs : Value) : Array Value := #[.slice E.l.fa E.M.fs.length E.l.fc, .slice E.l.ga E.M.gs.length E.l.gc, .bool E.M.mem, .int .i64 E.M.pages, .int .i64 E.M.most, .int .i64 E.M.start, E.own, .int .i64 E.res, .int .i64 at_, vf, vs, .int .i64 (most : Int)]
def VarB (w : World) (E : EnvI) : Prop := ∀ b A, E.vb = some (b, A) → w.heap[b]? = some (.cells A 66 (0, 0))
theorem VarB.keep {w w' : World} {E : EnvI} (h : VarB w E) (hb : Below w.heap.size w w') : VarB w' E := fun b A e => (hb.block b (lt_of_block (h b A e))).trans (h b A e)
theorem VarB.set {w : World} {E : EnvI} {c : Nat} {t : TypeId} {X : Array Value} (h : VarB w E) (h0 : w.heap[c]? = some (.cells X t (0, 0))) (hne : 66 ≠ t) (j : Nat) (u : Value) : VarB (w.setCell ⟨c, j, none⟩ u) E :=
  fun b A e => (heap_setCell_other _ ⟨c, j, none⟩ b _ (fun e' => apart_types (h b A e) h0 hne e')).trans (h b A e)
theorem VarB.grow {w w' : World} {E : EnvI} {B : Nat} {e : TypeId} {s k : Nat} {v : Value} {xs : List Value} (h : VarB w E) (ho : w.ownsRow B e s v k xs) (hg : w.grownBy w' v.ownBlock) (hne : 66 ≠ e) : VarB w' E := fun b A eq => by
  rw [hg.block b (lt_of_block (h b A eq)) fun e0 => ?_]
  · exact h b A eq
  · obtain ⟨cur', hc', _⟩ := own_at ho e0.symm
    exact apart_types (h b A eq) hc' hne rfl
def CI (w : World) (g : Nat) (E : EnvI) (at_ : Int) (s : St) (vf : Value) : Prop := Ck w g 72 112 4 (mkI E at_ s.most) (ivs 0 s.vals) s.opn.length (fvI s.opn) vf ∧ VarB w E
theorem CI.keep {w w' : World} {g : Nat} {E : EnvI} {at_ : Int} {s : St} {vf : Value} (h : CI w g E at_ s vf) (hb : Below w.heap.size w w') : CI w' g E at_ s vf := ⟨Ck.keep h.1 hb, h.2.keep hb⟩
theorem CI.lt {w : World} {g : Nat} {E : EnvI} {at_ : Int} {s : St} {vf : Value} (h : CI w g E at_ s vf) : g < w.heap.size := by
  obtain ⟨⟨vs, h0, _⟩, _⟩ := h; exact lt_of_block h0
/-- Bounds that hold all the way. -/
def Lim (s : St) : Prop := s.vals.length ≤ 300 ∧ s.opn.length ≤ 300
/-- The innermost block, opened. -/
structure TopI (w : World) (g : Nat) (E : EnvI) (at_ : Int) (s : St) (b : Blk) (r : List Blk) (gf cf gs : Nat) (a : Option Addr) (cs : Nat) : Prop where
  blk : w.heap[g]? = some (.cells (mkI E at_ s.most (.slice (some ⟨gf, 0, none⟩) (r.length + 1) cf) (.slice a s.vals.length cs)) 72 (0, 0))
  st : w.ownsRow (g + 1) 3 1 (.slice a s.vals.length cs) s.vals.length (ivs 0 s.vals)
  fr : w.ownsRow (g + 1) 112 4 (.slice (some ⟨gf, 0, none⟩) (r.length + 1) cf) (r.length + 1) (fvI (b :: r))
  ge : s.opn = b :: r
  sc : s.vals.length ≤ cs
  fc : r.length + 1 ≤ cf
  vb : VarB w E
theorem CI.top {w : World} {g : Nat} {E : EnvI} {at_ : Int} {s : St} {b : Blk} {r : List Blk} {vf : Value} (h : CI w g E at_ s vf) (hs : s.opn = b :: r) : ∃ gf cf a cs, vf = .slice (some ⟨gf, 0, none⟩) (r.length + 1) cf ∧ TopI w g E at_ s b r gf cf 0 a cs := by
  obtain ⟨⟨vs, h0, h1, h2⟩, hv⟩ := h
  rw [hs] at h2
  rw [ivs_len] at h1
  obtain ⟨a, cs, rfl, hc⟩ := own_shape h1
  obtain ⟨gf, cf, rfl, hcf⟩ := own_pos h2 (by simp)
  exact ⟨gf, cf, a, cs, rfl, h0, h1, h2, hs, hc, hcf, hv⟩
theorem TopI.ci {w : World} {g : Nat} {E : EnvI} {at_ : Int} {s : St} {b : Blk} {r : List Blk} {gf cf gs : Nat} {a : Option Addr} {cs : Nat} (h : TopI w g E at_ s b r gf cf gs a cs) : CI w g E at_ s (.slice (some ⟨gf, 0, none⟩) (r.length + 1) cf) := by
  unfold CI
  rw [h.ge]
  exact ⟨⟨_, h.blk, by rw [ivs_len]; exact h.st, h.fr⟩, h.vb⟩
theorem TopI.cells {w : World} {g : Nat} {E : EnvI} {at_ : Int} {s : St} {b : Blk} {r : List Blk} {gf cf gs : Nat} {a : Option Addr} {cs : Nat} (h : TopI w g E at_ s b r gf cf gs a cs) :
    (w.cell? ⟨gf, r.length * 4, none⟩ = some (.int .i64 (if b.split then 5 else b.op)) ∧ w.cell? ⟨gf, r.length * 4 + 1, none⟩ = some (.int .i64 b.kind) ∧ w.cell? ⟨gf, r.length * 4 + 2, none⟩ = some (.int .i64 (b.h : Int)) ∧ w.cell? ⟨gf, r.length * 4 + 3, none⟩ = some (.bool b.dead)) ∧
    ∀ j, j < 4 → w.frozen? ⟨gf, r.length * 4 + j, none⟩ = false := by
  have e : ∀ j u, (fv1 b)[j]? = some u → w.cell? ⟨gf, r.length * 4 + j, none⟩ = some u ∧ w.frozen? ⟨gf, r.length * 4 + j, none⟩ = false := fun j u hu => own_cell h.fr (by rw [fvI_at]; exact hu)
  refine ⟨⟨(e 0 _ rfl).1, (e 1 _ rfl).1, (e 2 _ rfl).1, (e 3 _ rfl).1⟩, fun j hj => ?_⟩
  obtain ⟨u, hu⟩ : ∃ u, (fv1 b)[j]? = some u := ⟨_, List.getElem?_eq_getElem (by simp [fv1]; omega)⟩
  exact (e j u hu).2
theorem TopI.keep {w w' : World} {g : Nat} {E : EnvI} {at_ : Int} {s : St} {b : Blk} {r : List Blk} {gf cf gs : Nat} {a : Option Addr} {cs : Nat} (h : TopI w g E at_ s b r gf cf gs a cs) (hb : Below w.heap.size w w') : TopI w' g E at_ s b r gf cf gs a cs :=
  ⟨(hb.block g (lt_of_block h.blk)).trans h.blk, own_kept h.st hb, own_kept h.fr hb, h.ge, h.sc, h.fc, h.vb.keep hb⟩

set_option maxRecDepth 100000 in
set_option maxHeartbeats 800000 in
theorem innerI (g gf m c : Nat) (w : World) (hlt : g < w.heap.size) (c0 : w.cell? ⟨g, 9, none⟩ = some (.slice (some ⟨gf, 0, none⟩) (m + 1) c)) (hm : m ≤ 300) :
    Calls Tryz.prog 69 #[.pointer (some ⟨g, 0, none⟩)] w fun e w' => e = .returned (.pointer (some ⟨gf, m * 4, none⟩)) ∧ Below w.heap.size w w' := by
  have k0 : ∀ w', Keeps w w' → w'.cell? ⟨g, 9, none⟩ = some (.slice (some ⟨gf, 0, none⟩) (m + 1) c) := fun w' h => h.cell hlt c0
  have hi1 := i64n m (by omega)
  have hi2 := w64m m (by omega)
  have hjj : (m : Int) < (m : Int) + 1 := by omega
  clear c0 hm hlt
  go_enter Tryz.func69, Tryz.ntmps69
  go_wp2_with fail
  refine region_q (C := Keeps w) (by kernel_rfl) (by kernel_rfl) (Keeps.drew w) ?_
  (iterate 12
    (apply wpQuiet_go _ (by rfl)
     · intro wq hq
       go_simp
       first
         | exact rfl
     simp only [Act.put, List.setIfInBounds_toArray, List.set_cons_succ, List.set_cons_zero]))
  refine wpQuiet_nil ?_
  intro wz hk
  have hbz := hk.below
  clear hk k0
  go_wp2
  go_ret
  exact ⟨rfl, hbz⟩

theorem Tryz.infoI7 : (Tryz.prog.info? 3).map (fun i => (i.zero, i.size, i.bytes)) = some (some (.int .i64 0), 1, 8) := by kernel_rfl

set_option maxRecDepth 100000 in
set_option maxHeartbeats 1600000 in
theorem putIT (g : Nat) (E : EnvI) (at_ : Int) (s : St) (t : Ty) (vf : Value) (w : World) (h : CI w g E at_ s vf) (hl : Lim s) (ht : (enc 0 t == 64) = false) :
    Calls Tryz.prog 54 #[.pointer (some ⟨g, 0, none⟩), .int .i64 (enc 0 t)] w fun e w' => e = .returned (.tuple #[]) ∧ CI w' g E at_ (putT t s) vf ∧ Below g w w' := by
  obtain ⟨i0, i0i, i00, i01, i02⟩ := info_parts Tryz.infoI7
  obtain ⟨⟨vs, h0, h1, h2⟩, hv⟩ := h
  rw [ivs_len] at h1
  obtain ⟨a, cs, rfl, hc⟩ := own_shape h1
  obtain ⟨k, hk⟩ : ∃ k, s.vals.length = k := ⟨_, rfl⟩
  obtain ⟨x, hx⟩ : ∃ x, enc 0 t = x := ⟨_, rfl⟩
  rw [hk] at h0 h1
  rw [hx] at ht ⊢
  have hk2 : k ≤ 300 := by have := hl.1; omega
  have hlt := lt_of_block h0
  have c0 : w.cell? ⟨g, 10, none⟩ = some (.slice a k cs) := by rw [cell_of_block h0]; rfl
  have H0 : Hid (w.heap[g]? = some (.cells (mkI E at_ s.most vf (.slice a k cs)) 72 (0, 0))) := h0
  have H1 : Hid (w.ownsRow (g + 1) 3 1 (.slice a k cs) k (ivs 0 s.vals)) := h1
  have H2 : Hid (w.ownsRow (g + 1) 112 4 vf s.opn.length (fvI s.opn)) := h2
  have HK : Hid (s.vals.length = k ∧ enc 0 t = x) := ⟨hk, hx⟩
  have HT : Hid (k ≤ 300) := hk2
  have HLT : Hid (g < w.heap.size) := hlt
  have HV : Hid (VarB w E) := hv
  clear h0 h1 h2 hl hc hk hx hv
  go_enter Tryz.func54, Tryz.ntmps54
  go_wp2_with (at_builtin; refine wpList_append_lies _ rfl _ _ 36 rfl (g + 1) 3 i0 (.int .i64 0) 1 8 Tryz.underlying36 i0i i00 i01 i02 rfl (by decide) _ _ _ rfl ((H1.out).alloc _) ⟨w.heap.size, 0, none⟩ 1 1 [.int .i64 x] rfl rfl (one_new _ _ _ _ rfl) (by intro u hu; simp at hu; subst hu; rfl) (by decide) (by have := HT.out; unfold maxLen; omega) (by have := HT.out; omega) (by have := HLT.out; simp; omega) (w.heap.size + 1) (by simp) ?_)
  intro gs cs' w1 hown hgrow hlie hlt1
  have hA0 := (Below.heap_alloc w (.cells #[.int .i64 x] 3) g HLT.out).trans H0.out
  have hg1 := grow_block ((H1.out).alloc _) hgrow hA0
  have hf1 := grow_keeps ((H1.out).alloc _) hgrow ((H2.out).alloc _) (by decide)
  have hv1 : VarB w1 E := (HV.out.keep ((Below.refl _ _).alloc (Nat.le_refl _) _)).grow ((H1.out).alloc _) hgrow (by decide)
  have hb1 : Below g w w1 := grow_below ((H1.out).alloc _) hgrow ((Below.refl _ _).alloc (Nat.le_of_lt HLT.out) _) (Nat.le_refl _) (by simp; have := HLT.out; omega)
  have c1 : w1.cell? ⟨g, 10, none⟩ = some (.slice a k cs) := by rw [cell_of_block hg1]; rfl
  have f1 : w1.frozen? ⟨g, 10, none⟩ = false := free_of_block hg1 10
  have HC : Hid (CI (w1.setCell ⟨g, 10, none⟩ (.slice (some ⟨gs, 0, none⟩) (k + 1) cs')) g E at_ { s with vals := t :: s.vals } vf) := by
    refine ⟨ck_set hg1 (mk' := mkI E at_ s.most) (vf' := vf) (vs' := .slice (some ⟨gs, 0, none⟩) (k + 1) cs') 10 _ rfl ?_ hf1, hv1.set hg1 (by decide) _ _⟩
    rw [ivs_len, ivs_cons, List.length_cons, HK.out.1, HK.out.2]
    exact hown
  have HB : Hid (Below g w (w1.setCell ⟨g, 10, none⟩ (.slice (some ⟨gs, 0, none⟩) (k + 1) cs'))) := hb1.setCell (Nat.le_refl _) _
  obtain ⟨W, hW⟩ : ∃ W, w1.setCell ⟨g, 10, none⟩ (.slice (some ⟨gs, 0, none⟩) (k + 1) cs') = W := ⟨_, rfl⟩
  have hbW : W.heap[g]? = some (.cells (mkI E at_ s.most vf (.slice (some ⟨gs, 0, none⟩) (k + 1) cs')) 72 (0, 0)) := by rw [← hW]; exact heap_setCell_same _ _ _ _ _ _ hg1
  rw [hW] at HC HB
  have HW : Hid (w1.setCell ⟨g, 10, none⟩ (.slice (some ⟨gs, 0, none⟩) (k + 1) cs') = W) := hW
  clear hW hown hgrow hlie hlt1 hA0 hg1 hf1 hb1 hv1 H1 H2 H0 c0
  go_wp2_with fail
  rw [HW.out]
  have hltW := lt_of_block hbW
  have d0 : W.cell? ⟨g, 10, none⟩ = some (.slice (some ⟨gs, 0, none⟩) (k + 1) cs') := by rw [cell_of_block hbW]; rfl
  have d1 : W.cell? ⟨g, 11, none⟩ = some (.int .i64 (s.most : Int)) := by rw [cell_of_block hbW]; rfl
  have d2 : W.frozen? ⟨g, 11, none⟩ = false := free_of_block hbW 11
  have k0 : ∀ w', Keeps W w' → w'.cell? ⟨g, 10, none⟩ = some (.slice (some ⟨gs, 0, none⟩) (k + 1) cs') := fun w' h => h.cell hltW d0
  have k1 : ∀ w', Keeps W w' → w'.cell? ⟨g, 11, none⟩ = some (.int .i64 (s.most : Int)) := fun w' h => h.cell hltW d1
  have k2 : ∀ w', Keeps W w' → w'.frozen? ⟨g, 11, none⟩ = false := fun w' h => h.frozen hltW d2
  clear d0 d1 d2 c1 f1 HW
  refine region_qtail (C := Keeps W) 13 (by kernel_rfl) (by kernel_rfl) (Keeps.drew W) ?_
  (iterate 13
    (apply wpQuiet_go _ (by rfl)
     · intro wq hq
       go_simp
       first
         | exact rfl
     simp only [Act.put, List.setIfInBounds_toArray, List.set_cons_succ, List.set_cons_zero]))
  refine wpQuiet_nil ?_
  intro wz hk
  have cz := k1 _ hk
  have fz := k2 _ hk
  have HM : (if (s.most : Int) < (k : Int) + 1 then (k : Int) + 1 else (s.most : Int)) = ((max s.most (k + 1) : Nat) : Int) := by split <;> omega
  rw [HM]
  have HE : Hid (CI (wz.setCell ⟨g, 11, none⟩ (.int .i64 ((max s.most (k + 1) : Nat) : Int))) g E at_ (putT t s) vf) := by
    obtain ⟨⟨vs2, q0, q1, q2⟩, qv⟩ := HC.out.keep hk.below
    have e : putT t s = { vals := t :: s.vals, opn := s.opn, most := max s.most (k + 1) } := by unfold putT; rw [HK.out.1]
    rw [e]
    exact ⟨ck_set q0 (mk' := mkI E at_ (max s.most (k + 1))) (vf' := vf) (vs' := vs2) 11 _ rfl q1 q2, qv.set q0 (by decide) _ _⟩
  have HBz : Hid (Below g w (wz.setCell ⟨g, 11, none⟩ (.int .i64 ((max s.most (k + 1) : Nat) : Int)))) := (HB.out.trans (hk.below.mono (Nat.le_of_lt hltW))).setCell (Nat.le_refl _) _
  generalize ((max s.most (k + 1) : Nat) : Int) = mx at HE HBz ⊢
  clear hk k0 k1 k2 HM HC HB hbW hltW
  go_wp2
  go_end0
  exact ⟨rfl, HE.out, HBz.out⟩

end Go.Proofs.YtcgnefgdfgikdaaGreat

namespace Go.Proofs.YtcgnefgdfgikdaaGreat
open Go.ChangeShapes Go.WideShapes Go.ChangeAt Go.RowKit

/-- What a check gives up with. -/
def faultV (c : Int) : List PanicEntry := [{ v := .iface 68 (.int .i64 c), recovered := false }]
/-- Of what was there g alone was written. -/
def Touch (g : Nat) (w w' : World) : Prop := w.heap.size ≤ w'.heap.size ∧ ∀ b, b < w.heap.size → b ≠ g → w'.heap[b]? = w.heap[b]?
theorem touch_below {g : Nat} {w w' : World} (h : Below w.heap.size w w') : Touch g w w' := ⟨h.size, fun b hb _ => h.block b hb⟩
theorem Touch.set {g : Nat} {w w' : World} (h : Touch g w w') (j : Nat) (u : Value) : Touch g w (w'.setCell ⟨g, j, none⟩ u) := ⟨by simpa using h.1, fun b hb hne => (heap_setCell_other _ ⟨g, j, none⟩ b _ hne).trans (h.2 b hb hne)⟩
theorem Touch.trans {g : Nat} {a b c : World} (h : Touch g a b) (k : Touch g b c) : Touch g a c := ⟨Nat.le_trans h.1 k.1, fun x hx hne => (k.2 x (Nat.lt_of_lt_of_le hx h.1) hne).trans (h.2 x hx hne)⟩
def OutT (w : World) (g : Nat) (E : EnvI) (at_ : Int) (vf : Value) (r : Except Int (Ty × St)) (e : Ending) (w' : World) : Prop :=
  (Below g w w' ∧ Touch g w w') ∧ match r with
    | .ok x => e = .returned (.int .i64 (enc 0 x.1)) ∧ CI w' g E at_ x.2 vf
    | .error c => e = .panicked (faultV c) ∧ ∃ s' vf', CI w' g E at_ s' vf'
def OutI (w : World) (g : Nat) (E : EnvI) (at_ : Int) (r : Except Int St) (e : Ending) (w' : World) : Prop :=
  Below g w w' ∧ match r with
    | .ok s' => e = .returned (.tuple #[]) ∧ ∃ vf', CI w' g E at_ s' vf'
    | .error c => e = .panicked (faultV c) ∧ ∃ s' vf', CI w' g E at_ s' vf'

set_option maxRecDepth 100000 in
set_option maxHeartbeats 800000 in
theorem fitsI (a b : Int) (r : Bool) (h : Hid (((a == b || a == 0) || b == 0) = r)) (w : World) : Calls Tryz.prog 70 #[.int .i64 a, .int .i64 b] w fun e w' => e = .returned (.bool r) ∧ w' = w := by
  have h' := h.out
  clear h
  obtain ⟨x, hx⟩ : ∃ x, (a == b) = x := ⟨_, rfl⟩
  obtain ⟨y, hy⟩ : ∃ y, (a == 0) = y := ⟨_, rfl⟩
  obtain ⟨z, hz⟩ : ∃ z, (b == 0) = z := ⟨_, rfl⟩
  rw [hx, hy, hz] at h'
  subst h'
  cases x <;> cases y
  all_goals
    go_enter Tryz.func70, Tryz.ntmps70
    go_wp2
    go_ret
    exact ⟨rfl, rfl⟩
theorem fit_enc (t : Ty) (k : Int) (ht : okTy t) : ((enc 0 t == k || enc 0 t == 0) || k == 0) = fit t (wt k) := by
  unfold enc fit wt
  cases t with
  | none => simp
  | some x =>
    have := ht x rfl
    by_cases hk : k = 0
    · simp [hk]
    · have e1 : (x == 0) = false := by simp; omega
      have e2 : (k == 0) = false := by simpa using hk
      simp only [Option.getD_some]
      rw [e1, e2]
      simp [hk]

set_option maxRecDepth 100000 in
set_option maxHeartbeats 1600000 in
theorem takeTI (g : Nat) (E : EnvI) (at_ : Int) (s : St) (b : Blk) (r : List Blk) (k : Int) (vf : Value) (w : World) (h : CI w g E at_ s vf) (hs : s.opn = b :: r) (hl : Lim s) (hv : ∀ t ∈ s.vals, okTy t) (hk : (k == 64) = false) :
    Calls Tryz.prog 47 #[.pointer (some ⟨g, 0, none⟩), .int .i64 k] w fun e w' => OutT w g E at_ vf (takeT (wt k) s) e w' := by
  obtain ⟨gf, cf, a, cs, rfl, H⟩ := h.top hs
  have hlt := lt_of_block H.blk
  obtain ⟨m, hm⟩ : ∃ m, r.length = m := ⟨_, rfl⟩
  have hm2 : m ≤ 300 := by have := hl.2; rw [hs, List.length_cons] at this; omega
  have I := innerI g gf m cf w hlt (by rw [cell_of_block H.blk, ← hm]; rfl) hm2
  have HH : Hid (TopI w g E at_ s b r gf cf 0 a cs) := H
  have HM : Hid (r.length = m) := hm
  rw [hm]
  have HLT : Hid (g < w.heap.size) := hlt
  have hT : takeT (wt k) s = if s.vals.length ≤ b.h then (if b.dead then .ok (none, s) else .error 2) else match s.vals with
      | [] => .error 2
      | t :: vs => if fit t (wt k) then .ok (t, { s with vals := vs }) else .error 3 := by unfold takeT; rw [hs]; rfl
  by_cases hlow : s.vals.length ≤ b.h
  · rw [if_pos hlow] at hT
    obtain ⟨n, hn⟩ : ∃ n, s.vals.length = n := ⟨_, rfl⟩
    obtain ⟨ht, hht⟩ : ∃ x, b.h = x := ⟨_, rfl⟩
    have hn2 : n ≤ 300 := by have := hl.1; omega
    have hlow2 : (n : Int) - 1 < (ht : Int) := by omega
    obtain ⟨dd, hdd⟩ : ∃ d, b.dead = d := ⟨_, rfl⟩
    rw [hdd] at hT
    have HT : Hid (takeT (wt k) s = if dd then .ok (none, s) else .error 2) := hT
    have HN : Hid (s.vals.length = n ∧ b.h = ht ∧ b.dead = dd) := ⟨hn, hht, hdd⟩
    clear hT H hs hl hv hlow hm hm2 hlt h hn hht hdd
    go_enter Tryz.func47, Tryz.ntmps47
    go_wp2_with fail
    refine I.mono ?_
    rintro e w1 ⟨rfl, hb1⟩
    have H1 := HH.out.keep hb1
    have hc := H1.cells.1
    rw [HM.out, HN.out.2.1, HN.out.2.2] at hc
    obtain ⟨_, _, c2, c3⟩ := hc
    have c0 : w1.cell? ⟨g, 10, none⟩ = some (.slice a n cs) := by rw [cell_of_block H1.blk, ← HN.out.1]; rfl
    have HC : Hid (CI w1 g E at_ s (.slice (some ⟨gf, 0, none⟩) (m + 1) cf)) := by have h := H1.ci; rw [HM.out] at h; exact h
    have HB : Hid (Below g w w1 ∧ Touch g w w1) := ⟨hb1.mono (Nat.le_of_lt HLT.out), touch_below hb1⟩
    clear H1 hb1 I
    cases dd
    · go_wp2
      exact ⟨rfl, HB.out, by rw [HT.out]; exact ⟨rfl, s, _, HC.out⟩⟩
    · go_wp2
      go_ret
      exact ⟨HB.out, by rw [HT.out]; exact ⟨rfl, HC.out⟩⟩
  · rw [if_neg hlow] at hT
    obtain ⟨t, vs, hvs⟩ : ∃ t vs, s.vals = t :: vs := by
      cases h0 : s.vals with
      | nil => rw [h0] at hlow; simp at hlow
      | cons t vs => exact ⟨t, vs, rfl⟩
    rw [hvs] at hT
    simp only at hT
    obtain ⟨n, hn⟩ : ∃ n, vs.length = n := ⟨_, rfl⟩
    have hsl : s.vals.length = n + 1 := by rw [hvs, List.length_cons, hn]
    obtain ⟨ht, hht⟩ : ∃ x, b.h = x := ⟨_, rfl⟩
    have hn2 : n ≤ 300 := by have := hl.1; omega
    have hhi : ¬ (n : Int) < (ht : Int) := by omega
    have F := fitsI (enc 0 t) k (fit t (wt k)) (fit_enc t k (hv t (by rw [hvs]; exact List.mem_cons_self ..)))
    obtain ⟨ff, hff⟩ : ∃ f, fit t (wt k) = f := ⟨_, rfl⟩
    rw [hff] at hT F
    have HT : Hid (takeT (wt k) s = if ff then .ok (t, { s with vals := vs }) else .error 3) := hT
    have HN : Hid (s.vals.length = n + 1 ∧ b.h = ht ∧ s.vals = t :: vs ∧ vs.length = n) := ⟨hsl, hht, hvs, hn⟩
    have hsc : n ≤ cs := by have := H.sc; omega
    have hst := H.st
    rw [hsl] at hst
    obtain ⟨gs, cs', hae, hcs⟩ := own_pos hst (by omega)
    simp only [Value.slice.injEq, true_and] at hae
    obtain ⟨rfl, rfl⟩ := hae
    obtain ⟨x, hx⟩ : ∃ x, enc 0 t = x := ⟨_, rfl⟩
    rw [hx] at F
    have HX : Hid (enc 0 t = x) := hx
    have w64 := w64m n (by omega)
    clear hT H hs hl hv hlow hm hm2 hlt h hn hht hvs hsl hff hst hx
    go_enter Tryz.func47, Tryz.ntmps47
    go_wp2_with fail
    refine I.mono ?_
    rintro e w1 ⟨rfl, hb1⟩
    have H1 := HH.out.keep hb1
    have hc := H1.cells.1
    rw [HM.out, HN.out.2.1] at hc
    obtain ⟨_, _, c2, _⟩ := hc
    have hblk := H1.blk
    rw [HN.out.1] at hblk
    have c0 : w1.cell? ⟨g, 10, none⟩ = some (.slice (some ⟨gs, 0, none⟩) (n + 1) cs) := by rw [cell_of_block hblk]; rfl
    have f0 : w1.frozen? ⟨g, 10, none⟩ = false := free_of_block hblk 10
    have hst := H1.st
    rw [HN.out.1] at hst
    have c1 : w1.cell? ⟨gs, n, none⟩ = some (.int .i64 x) := (own_cell hst (by rw [HN.out.2.2.1, ← HN.out.2.2.2, ivs_last, HX.out])).1
    have HC : Hid (CI (w1.setCell ⟨g, 10, none⟩ (.slice (some ⟨gs, 0, none⟩) n cs)) g E at_ { s with vals := vs } (.slice (some ⟨gf, 0, none⟩) (m + 1) cf)) := by
      unfold CI
      simp only
      rw [H1.ge, ← HM.out]
      refine ⟨ck_set hblk (mk' := mkI E at_ s.most) (vf' := .slice (some ⟨gf, 0, none⟩) (r.length + 1) cf) (vs' := .slice (some ⟨gs, 0, none⟩) n cs) 10 _ rfl ?_ H1.fr, H1.vb.set hblk (by decide) _ _⟩
      have h2 := own_cut hst n (by omega)
      rw [Nat.mul_one, ivs_take, HN.out.2.2.1, List.length_cons, HN.out.2.2.2, show n + 1 - n = 1 by omega] at h2
      rw [ivs_len, HN.out.2.2.2]
      exact h2
    have HB : Hid (Below g w (w1.setCell ⟨g, 10, none⟩ (.slice (some ⟨gs, 0, none⟩) n cs)) ∧ Touch g w (w1.setCell ⟨g, 10, none⟩ (.slice (some ⟨gs, 0, none⟩) n cs))) := ⟨(hb1.mono (Nat.le_of_lt HLT.out)).setCell (Nat.le_refl _) _, (touch_below hb1).set _ _⟩
    clear H1 hb1 I hblk hst
    have hnc : (n : Int) ≤ cs := by omega
    cases ff
    · go_wp2_with (go_at_call 70; refine (F _).mono ?_; rintro e w2 ⟨rfl, hw⟩; obtain rfl := hw.symm; clear F)
      exact ⟨rfl, HB.out, by rw [HT.out]; exact ⟨rfl, _, _, HC.out⟩⟩
    · go_wp2_with (go_at_call 70; refine (F _).mono ?_; rintro e w2 ⟨rfl, hw⟩; obtain rfl := hw.symm; clear F)
      go_ret
      exact ⟨HB.out, by rw [HT.out]; exact ⟨by rw [HX.out]; rfl, HC.out⟩⟩

end Go.Proofs.YtcgnefgdfgikdaaGreat

namespace Go.Proofs.YtcgnefgdfgikdaaGreat
open Go.ChangeShapes Go.WideShapes Go.ChangeAt Go.RowKit

def OutK (w : World) (g : Nat) (E : EnvI) (at_ : Int) (vf : Value) (r : Except Int St) (e : Ending) (w' : World) : Prop :=
  (Below g w w' ∧ Touch g w w') ∧ match r with
    | .ok s' => (∃ v : Int, e = .returned (.int .i64 v)) ∧ CI w' g E at_ s' vf
    | .error c => e = .panicked (faultV c) ∧ ∃ s' vf', CI w' g E at_ s' vf'

def OutC (w : World) (g : Nat) (E : EnvI) (at_ : Int) (vf : Value) (r : Except Int St) (e : Ending) (w' : World) : Prop :=
  Below g w w' ∧ match r with
    | .ok s' => e = .returned (.tuple #[]) ∧ CI w' g E at_ s' vf
    | .error c => e = .panicked (faultV c) ∧ ∃ s' vf', CI w' g E at_ s' vf'

set_option maxRecDepth 100000 in
set_option maxHeartbeats 800000 in
theorem take64 (g : Nat) (w : World) : Calls Tryz.prog 47 #[.pointer (some ⟨g, 0, none⟩), .int .i64 64] w fun e w' => e = .returned (.int .i64 64) ∧ w' = w := by
  go_enter Tryz.func47, Tryz.ntmps47
  go_wp2
  go_ret
  exact ⟨rfl, rfl⟩
theorem takeKI (g : Nat) (E : EnvI) (at_ : Int) (s : St) (b : Blk) (r : List Blk) (k : Int) (vf : Value) (w : World) (h : CI w g E at_ s vf) (hs : s.opn = b :: r) (hl : Lim s) (hv : ∀ t ∈ s.vals, okTy t) :
    Calls Tryz.prog 47 #[.pointer (some ⟨g, 0, none⟩), .int .i64 k] w fun e w' => OutK w g E at_ vf (takeI k s) e w' := by
  by_cases hk : k = 64
  · subst hk
    refine (take64 g w).mono ?_
    rintro e w' ⟨rfl, rfl⟩
    exact ⟨⟨Below.refl _ _, touch_below (Below.refl _ _)⟩, ⟨64, rfl⟩, h⟩
  · refine (takeTI g E at_ s b r k vf w h hs hl hv (by simpa using hk)).mono ?_
    rintro e w' ⟨hb, ho⟩
    refine ⟨hb, ?_⟩
    unfold takeI
    rw [if_neg hk]
    rcases hr : takeT (wt k) s with c | x
    · rw [hr] at ho; exact ho
    · rw [hr] at ho; exact ⟨⟨_, ho.1⟩, ho.2⟩

/-- The stack's slice. -/
theorem own_either {w : World} {B : Nat} {e : TypeId} {s n : Nat} {a : Option Addr} {cs : Nat} {xs : List Value} (h : w.ownsRow B e s (.slice a n cs) n xs) : (a = none ∧ n = 0 ∧ cs = 0) ∨ ∃ gs, a = some ⟨gs, 0, none⟩ := by
  rcases h.2 with ⟨h0, h1⟩ | ⟨g, cap, cur, h0, _⟩
  · simp only [Value.slice.injEq] at h0; exact .inl ⟨h0.1, h1, h0.2.2⟩
  · simp only [Value.slice.injEq] at h0; exact .inr ⟨g, h0.1⟩

set_option maxRecDepth 100000 in
set_option maxHeartbeats 1600000 in
theorem dieI (g : Nat) (E : EnvI) (at_ : Int) (s : St) (b : Blk) (r : List Blk) (vf : Value) (w : World) (h : CI w g E at_ s vf) (hs : s.opn = b :: r) (hl : Lim s) (hlow : b.h ≤ s.vals.length) :
    Calls Tryz.prog 50 #[.pointer (some ⟨g, 0, none⟩)] w fun e w' => e = .returned (.tuple #[]) ∧ CI w' g E at_ (dieS s) vf ∧ Below g w w' := by
  obtain ⟨gf, cf, a, cs, rfl, H⟩ := h.top hs
  have hlt := lt_of_block H.blk
  obtain ⟨m, hm⟩ : ∃ m, r.length = m := ⟨_, rfl⟩
  have hm2 : m ≤ 300 := by have := hl.2; rw [hs, List.length_cons] at this; omega
  have I := innerI g gf m cf w hlt (by rw [cell_of_block H.blk, ← hm]; rfl) hm2
  have HH : Hid (TopI w g E at_ s b r gf cf 0 a cs) := H
  have HM : Hid (r.length = m) := hm
  have HLT : Hid (g < w.heap.size) := hlt
  rw [hm]
  have hD : dieS s = { s with vals := s.vals.drop (s.vals.length - b.h), opn := { b with dead := true } :: r } := by unfold dieS; rw [hs]
  have HD : Hid (dieS s = { s with vals := s.vals.drop (s.vals.length - b.h), opn := { b with dead := true } :: r }) := hD
  obtain ⟨n, hn⟩ : ∃ n, s.vals.length = n := ⟨_, rfl⟩
  obtain ⟨ht, hht⟩ : ∃ x, b.h = x := ⟨_, rfl⟩
  have hsc : n ≤ cs := by have := H.sc; omega
  have hn2 : n ≤ 300 := by have := hl.1; omega
  have hlow2 : ht ≤ n := by omega
  have HN : Hid (s.vals.length = n ∧ b.h = ht) := ⟨hn, hht⟩
  have hei := own_either H.st
  rw [hn] at hei
  clear hD H hs hl hlow hm hm2 hlt h hn hht
  go_enter Tryz.func50, Tryz.ntmps50
  go_wp2_with fail
  refine I.mono ?_
  rintro e w1 ⟨rfl, hb1⟩
  have H1 := HH.out.keep hb1
  have hc := H1.cells
  rw [HM.out, HN.out.2] at hc
  obtain ⟨⟨_, _, _, c3⟩, hfr⟩ := hc
  have f3 := hfr 3 (by omega)
  obtain ⟨W, hW⟩ : ∃ W, w1.setCell ⟨gf, m * 4 + 3, none⟩ (.bool true) = W := ⟨_, rfl⟩
  have HW : Hid (w1.setCell ⟨gf, m * 4 + 3, none⟩ (.bool true) = W) := hW
  obtain ⟨q0, q1, q2⟩ := Ck.setQ H1.blk (R := ivs 0 s.vals) (by rw [ivs_len]; exact H1.st) H1.fr (by decide) (r.length * 4 + 3) (.bool true)
  rw [fvI_set b { b with dead := true } r 3 _ rfl] at q2
  rw [HM.out] at q0 q1 q2
  rw [hW] at q0 q1 q2
  have QV : Hid (VarB W E) := by
    unfold Hid; rw [← hW]
    obtain ⟨_, hc, _⟩ := own_at H1.fr (g := gf) rfl
    exact H1.vb.set hc (by decide) _ _
  have HB : Hid (Below g w W) := by
    unfold Hid; rw [← hW]
    obtain ⟨_, _, hB⟩ := own_at H1.fr (g := gf) rfl
    exact (hb1.mono (Nat.le_of_lt HLT.out)).setCell (show g ≤ gf by omega) _
  have d0 : W.cell? ⟨g, 10, none⟩ = some (.slice a n cs) := by rw [cell_of_block q0, ← HN.out.1]; rfl
  have d1 : W.frozen? ⟨g, 10, none⟩ = false := free_of_block q0 10
  have d2 : W.cell? ⟨gf, m * 4 + 2, none⟩ = some (.int .i64 (ht : Int)) := (own_cell q2 (by have h := fvI_at { b with dead := true } r 2; rw [HM.out] at h; rw [h]; simp [fv1, HN.out.2])).1
  have hltW := lt_of_block q0
  have hltF := (show gf < W.heap.size by obtain ⟨cur, hc, _⟩ := own_at q2 (g := gf) rfl; exact lt_of_block hc)
  have k0 : ∀ w', Keeps W w' → w'.cell? ⟨g, 10, none⟩ = some (.slice a n cs) := fun w' h => h.cell hltW d0
  have k1 : ∀ w', Keeps W w' → w'.frozen? ⟨g, 10, none⟩ = false := fun w' h => h.frozen hltW d1
  have k2 : ∀ w', Keeps W w' → w'.cell? ⟨gf, m * 4 + 2, none⟩ = some (.int .i64 (ht : Int)) := fun w' h => h.cell hltF d2
  have Q0 : Hid (W.heap[g]? = some (.cells (mkI E at_ s.most (.slice (some ⟨gf, 0, none⟩) (m + 1) cf) (.slice a s.vals.length cs)) 72 (0, 0))) := q0
  have Q1 : Hid (W.ownsRow (g + 1) 3 1 (.slice a s.vals.length cs) s.vals.length (ivs 0 s.vals)) := by have h := q1; rw [ivs_len] at h; exact h
  have Q2 : Hid (W.ownsRow (g + 1) 112 4 (.slice (some ⟨gf, 0, none⟩) (m + 1) cf) (m + 1) (fvI ({ b with dead := true } :: r))) := q2
  clear hW hb1 H1 hfr q0 q1 q2 I d0 d1 d2
  have hhc : (ht : Int) ≤ cs := by omega
  have hh0 : (0 : Int) ≤ ht := by omega
  rcases hei with ⟨rfl, hz, hcz⟩ | ⟨gs, rfl⟩
  · obtain rfl : ht = 0 := by omega
    subst hz hcz
    go_wp2_with fail
    rw [HW.out]
    clear c3 f3 HW
    refine region_qtail (C := Keeps W) 12 (by kernel_rfl) (by kernel_rfl) (Keeps.drew W) ?_
    (iterate 12
    (apply wpQuiet_go _ (by rfl)
     · intro wq hq
       go_simp
       first
         | exact rfl
     simp only [Act.put, List.setIfInBounds_toArray, List.set_cons_succ, List.set_cons_zero]))
    refine wpQuiet_nil ?_
    intro wz hk
    have cz := k0 _ hk
    have fz := k1 _ hk
    have HE : Hid (CI (wz.setCell ⟨g, 10, none⟩ (.slice none 0 0)) g E at_ (dieS s) (.slice (some ⟨gf, 0, none⟩) (m + 1) cf)) := by
      unfold Hid CI
      rw [HD.out]
      simp only [List.length_cons, HM.out]
      have e : s.vals = [] := List.length_eq_zero_iff.1 HN.out.1
      have hb := hk.below
      have h0 := (hb.block g hltW).trans Q0.out
      refine ⟨ck_set h0 (mk' := mkI E at_ s.most) (vf' := .slice (some ⟨gf, 0, none⟩) (m + 1) cf) (vs' := .slice none 0 0) 10 _ rfl ?_ (own_kept Q2.out hb), (QV.out.keep hb).set h0 (by decide) _ _⟩
      rw [e, List.drop_nil]
      exact World.ownsRow_nil _ _ _ _
    have HBz : Hid (Below g w (wz.setCell ⟨g, 10, none⟩ (.slice none 0 0))) := (HB.out.trans (hk.below.mono (Nat.le_of_lt hltW))).setCell (Nat.le_refl _) _
    clear hk k0 k1 k2
    go_wp2
    go_end0
    exact ⟨rfl, HE.out, HBz.out⟩
  · go_wp2_with fail
    rw [HW.out]
    clear c3 f3 HW
    refine region_qtail (C := Keeps W) 12 (by kernel_rfl) (by kernel_rfl) (Keeps.drew W) ?_
    (iterate 12
    (apply wpQuiet_go _ (by rfl)
     · intro wq hq
       go_simp
       first
         | exact rfl
     simp only [Act.put, List.setIfInBounds_toArray, List.set_cons_succ, List.set_cons_zero]))
    refine wpQuiet_nil ?_
    intro wz hk
    have cz := k0 _ hk
    have fz := k1 _ hk
    have HE : Hid (CI (wz.setCell ⟨g, 10, none⟩ (.slice (some ⟨gs, 0, none⟩) ht cs)) g E at_ (dieS s) (.slice (some ⟨gf, 0, none⟩) (m + 1) cf)) := by
      unfold Hid CI
      rw [HD.out]
      simp only [List.length_cons, HM.out]
      have hb := hk.below
      have h0 := (hb.block g hltW).trans Q0.out
      refine ⟨ck_set h0 (mk' := mkI E at_ s.most) (vf' := .slice (some ⟨gf, 0, none⟩) (m + 1) cf) (vs' := .slice (some ⟨gs, 0, none⟩) ht cs) 10 _ rfl ?_ (own_kept Q2.out hb), (QV.out.keep hb).set h0 (by decide) _ _⟩
      have h2 := own_cut (own_kept Q1.out hb) ht (by have := HN.out.1; omega)
      rw [Nat.mul_one, ivs_take] at h2
      rw [ivs_len, HN.out.2, List.length_drop, HN.out.1, show n - (n - ht) = ht by omega]
      rw [HN.out.1] at h2
      exact h2
    have HBz : Hid (Below g w (wz.setCell ⟨g, 10, none⟩ (.slice (some ⟨gs, 0, none⟩) ht cs))) := (HB.out.trans (hk.below.mono (Nat.le_of_lt hltW))).setCell (Nat.le_refl _) _
    clear hk k0 k1 k2
    go_wp2
    go_end0
    exact ⟨rfl, HE.out, HBz.out⟩

/-- What a struct's cells tell behind a take. -/
theorem CI.cells {w : World} {g : Nat} {E : EnvI} {at_ : Int} {s : St} {vf : Value} (h : CI w g E at_ s vf) : ∃ a cs, w.cell? ⟨g, 9, none⟩ = some vf ∧ w.cell? ⟨g, 10, none⟩ = some (.slice a s.vals.length cs) ∧ w.ownsRow (g + 1) 112 4 vf s.opn.length (fvI s.opn) := by
  obtain ⟨⟨vs, h0, h1, h2⟩, _⟩ := h
  rw [ivs_len] at h1
  obtain ⟨a, cs, rfl, hc⟩ := own_shape h1
  exact ⟨a, cs, by rw [cell_of_block h0]; rfl, by rw [cell_of_block h0]; rfl, h2⟩
/-- Frames are not touched by a take. -/
theorem takeI_opn {k : Int} {s s' : St} (h : takeI k s = .ok s') : s'.opn = s.opn ∧ s'.most = s.most ∧ s'.vals.length ≤ s.vals.length := by
  unfold takeI at h
  split at h
  · simp at h; subst h; exact ⟨rfl, rfl, Nat.le_refl _⟩
  · unfold takeT at h
    split at h
    · simp [Except.map] at h
    · split at h
      · split at h
        · simp [Except.map] at h; subst h; exact ⟨rfl, rfl, Nat.le_refl _⟩
        · simp [Except.map] at h
      · split at h
        · simp [Except.map] at h
        · split at h
          · simp [Except.map] at h; subst h; rename_i e _; exact ⟨rfl, rfl, by rw [e]; simp⟩
          · simp [Except.map] at h

set_option maxRecDepth 100000 in
set_option maxHeartbeats 1600000 in
theorem finishI (g : Nat) (E : EnvI) (at_ : Int) (s : St) (b : Blk) (r : List Blk) (vf : Value) (w : World) (h : CI w g E at_ s vf) (hs : s.opn = b :: r) (hl : Lim s) (hv : ∀ t ∈ s.vals, okTy t) :
    Calls Tryz.prog 71 #[.pointer (some ⟨g, 0, none⟩)] w fun e w' => OutC w g E at_ vf (closeS s) e w' := by
  obtain ⟨gf, cf, a, cs, rfl, H⟩ := h.top hs
  have hlt := lt_of_block H.blk
  obtain ⟨m, hm⟩ : ∃ m, r.length = m := ⟨_, rfl⟩
  have hm2 : m ≤ 300 := by have := hl.2; rw [hs, List.length_cons] at this; omega
  have I := innerI g gf m cf w hlt (by rw [cell_of_block H.blk, ← hm]; rfl) hm2
  have HH : Hid (TopI w g E at_ s b r gf cf 0 a cs) := H
  have HM : Hid (r.length = m) := hm
  have HLT : Hid (g < w.heap.size) := hlt
  rw [hm]
  have HD : Hid (closeS s = (takeI b.kind s).bind fun s' => if s'.vals.length ≤ b.h then .ok s' else .error 2) := by unfold Hid closeS; rw [hs]
  obtain ⟨kd, hkd⟩ : ∃ x, b.kind = x := ⟨_, rfl⟩
  have HN : Hid (b.kind = kd) := hkd
  have T : Hid (∀ w', CI w' g E at_ s (.slice (some ⟨gf, 0, none⟩) (m + 1) cf) → Calls Tryz.prog 47 #[.pointer (some ⟨g, 0, none⟩), .int .i64 kd] w' fun e w'' => OutK w' g E at_ (.slice (some ⟨gf, 0, none⟩) (m + 1) cf) (takeI kd s) e w'') := fun w' h => takeKI g E at_ s b r kd _ w' h hs hl hv
  clear H hs hv hm hm2 hlt h hkd
  go_enter Tryz.func71, Tryz.ntmps71
  go_wp2_with fail
  refine I.mono ?_
  rintro e w1 ⟨rfl, hb1⟩
  have H1 := HH.out.keep hb1
  have hc := H1.cells
  rw [HM.out, HN.out] at hc
  obtain ⟨⟨_, c1, _, _⟩, _⟩ := hc
  have hCI := H1.ci
  rw [HM.out] at hCI
  have HB1 : Hid (Below g w w1) := hb1.mono (Nat.le_of_lt HLT.out)
  have T1 := T.out w1 hCI
  clear H1 hb1 I T hCI
  go_wp2_with fail
  refine T1.mono ?_
  rintro e w2 ⟨⟨hb2, _⟩, ho⟩
  have HB2 : Hid (Below g w w2) := HB1.out.trans hb2
  rcases hr : takeI kd s with c | s'
  · rw [hr] at ho
    obtain ⟨rfl, s', vf', hci⟩ := ho
    have HR : Hid (closeS s = .error c) := by unfold Hid; rw [HD.out, HN.out, hr]; rfl
    have HC : Hid (∃ s' vf', CI w2 g E at_ s' vf') := ⟨s', vf', hci⟩
    clear hr hci T1 hb2
    first
      | exact ⟨rfl, HB2.out, by rw [HR.out]; exact ⟨rfl, HC.out⟩⟩
      | (go_wp2; exact ⟨rfl, HB2.out, by rw [HR.out]; exact ⟨rfl, HC.out⟩⟩)
  · rw [hr] at ho
    obtain ⟨⟨v, rfl⟩, hci⟩ := ho
    obtain ⟨a', cs', d9, d10, hfr⟩ := hci.cells
    obtain ⟨ht, hht⟩ : ∃ x, b.h = x := ⟨_, rfl⟩
    obtain ⟨n, hn⟩ : ∃ n, s'.vals.length = n := ⟨_, rfl⟩
    rw [hn] at d10
    have hop := takeI_opn hr
    rw [hop.1, HH.out.ge, List.length_cons, HM.out] at hfr
    have d2 : w2.cell? ⟨gf, m * 4 + 2, none⟩ = some (.int .i64 (ht : Int)) := (own_cell hfr (by have h := fvI_at b r 2; rw [HM.out] at h; rw [h]; simp [fv1, hht])).1
    have hlt2 := hci.lt
    have hltF := (show gf < w2.heap.size by obtain ⟨cur, hc, _⟩ := own_at hfr (g := gf) rfl; exact lt_of_block hc)
    have k0 : ∀ w', Keeps w2 w' → w'.cell? ⟨g, 10, none⟩ = some (.slice a' n cs') := fun w' h => h.cell hlt2 d10
    have k2 : ∀ w', Keeps w2 w' → w'.cell? ⟨gf, m * 4 + 2, none⟩ = some (.int .i64 (ht : Int)) := fun w' h => h.cell hltF d2
    have HC : Hid (CI w2 g E at_ s' (.slice (some ⟨gf, 0, none⟩) (m + 1) cf)) := hci
    have HR : Hid (closeS s = if n ≤ ht then .ok s' else .error 2) := by unfold Hid; rw [HD.out, HN.out, hr]; simp only [Except.bind]; rw [hn, hht]
    have hle : g ≤ w2.heap.size := Nat.le_of_lt hlt2
    clear hr hci T1 hb2 hfr d9 d10 d2 hop hl hn hht
    go_wp2_with fail
    refine region_q (C := Keeps w2) (by kernel_rfl) (by kernel_rfl) (Keeps.drew w2) ?_
    (iterate 10
    (apply wpQuiet_go _ (by rfl)
     · intro wq hq
       go_simp
       first
         | exact rfl
     simp only [Act.put, List.setIfInBounds_toArray, List.set_cons_succ, List.set_cons_zero]))
    refine wpQuiet_nil ?_
    intro wz hk
    have HC2 : Hid (CI wz g E at_ s' (.slice (some ⟨gf, 0, none⟩) (m + 1) cf)) := HC.out.keep hk.below
    have HBz : Hid (Below g w wz) := HB2.out.trans (hk.below.mono hle)
    clear hk k0 k2
    by_cases hnh : n ≤ ht
    · have hx : ¬ (ht : Int) < (n : Int) := by omega
      rw [if_pos hnh] at HR
      go_wp2
      go_end0
      exact ⟨HBz.out, by rw [HR.out]; exact ⟨rfl, HC2.out⟩⟩
    · have hx : (ht : Int) < (n : Int) := by omega
      rw [if_neg hnh] at HR
      go_wp2
      exact ⟨rfl, HBz.out, by rw [HR.out]; exact ⟨rfl, _, _, HC2.out⟩⟩

end Go.Proofs.YtcgnefgdfgikdaaGreat

namespace Go.Proofs.YtcgnefgdfgikdaaGreat
open Go.ChangeShapes Go.WideShapes Go.ChangeAt Go.RowKit

theorem closeS_opn {s s' : St} {b : Blk} {r : List Blk} (hs : s.opn = b :: r) (h : closeS s = .ok s') : s'.opn = b :: r ∧ s'.most = s.most ∧ s'.vals.length ≤ b.h ∧ s'.vals.length ≤ s.vals.length := by
  unfold closeS at h
  rw [hs] at h
  simp only at h
  rcases hr : takeI b.kind s with c | s1
  · rw [hr] at h; simp [Except.bind] at h
  · rw [hr] at h
    obtain ⟨h1, h2, h3⟩ := takeI_opn hr
    simp only [Except.bind] at h
    split at h
    · simp at h; subst h; exact ⟨h1.trans hs, h2, by assumption, h3⟩
    · simp at h

set_option maxRecDepth 100000 in
set_option maxHeartbeats 1600000 in
theorem divideI (g : Nat) (E : EnvI) (at_ : Int) (s : St) (b : Blk) (r : List Blk) (vf : Value) (w : World) (h : CI w g E at_ s vf) (hs : s.opn = b :: r) (hl : Lim s) (hv : ∀ t ∈ s.vals, okTy t) :
    Calls Tryz.prog 48 #[.pointer (some ⟨g, 0, none⟩)] w fun e w' => OutC w g E at_ vf (elseS s) e w' := by
  have F := finishI g E at_ s b r vf w h hs hl hv
  have HS : Hid (s.opn = b :: r) := hs
  have hm2 : r.length ≤ 300 := by have := hl.2; rw [hs, List.length_cons] at this; omega
  have HM2 : Hid (r.length ≤ 300) := hm2
  clear h hs hl hv hm2
  go_enter Tryz.func48, Tryz.ntmps48
  go_wp2_with fail
  refine F.mono ?_
  rintro e w1 ⟨hb1, ho⟩
  have HB1 : Hid (Below g w w1) := hb1
  clear hb1 F
  rcases hr : closeS s with c | s'
  · rw [hr] at ho
    obtain ⟨rfl, s', vf', hci⟩ := ho
    have HR : Hid (elseS s = .error c) := by unfold Hid elseS; rw [hr]; rfl
    have HC : Hid (∃ s' vf', CI w1 g E at_ s' vf') := ⟨s', vf', hci⟩
    clear hr hci
    first
      | exact ⟨rfl, HB1.out, by rw [HR.out]; exact ⟨rfl, HC.out⟩⟩
      | (go_wp2; exact ⟨rfl, HB1.out, by rw [HR.out]; exact ⟨rfl, HC.out⟩⟩)
  · rw [hr] at ho
    obtain ⟨rfl, hci⟩ := ho
    have hop := closeS_opn HS.out hr
    obtain ⟨gf, cf, a, cs, rfl, H⟩ := hci.top hop.1
    have hlt := lt_of_block H.blk
    obtain ⟨m, hm⟩ : ∃ m, r.length = m := ⟨_, rfl⟩
    have I := innerI g gf m cf w1 hlt (by rw [cell_of_block H.blk, ← hm]; rfl) (by have := HM2.out; omega)
    have HH : Hid (TopI w1 g E at_ s' b r gf cf 0 a cs) := H
    have HM : Hid (r.length = m) := hm
    have HR : Hid (elseS s = .ok { s' with opn := { b with dead := false, split := true } :: r }) := by unfold Hid elseS; rw [hr]; simp only [Except.map]; rw [hop.1]
    have hle : Hid (g < w1.heap.size) := hlt
    clear hr hci hop H hlt hm
    go_wp2_with fail
    refine I.mono ?_
    rintro e w2 ⟨rfl, hb2⟩
    have H2 := HH.out.keep hb2
    have hc := H2.cells
    rw [HM.out] at hc
    obtain ⟨⟨c0, _, _, c3⟩, hfr⟩ := hc
    have f0 := hfr 0 (by omega)
    have f3 := hfr 3 (by omega)
    simp only [Nat.add_zero] at f0
    obtain ⟨q0, q1, q2⟩ := Ck.setQ H2.blk (R := ivs 0 s'.vals) (by rw [ivs_len]; exact H2.st) H2.fr (by decide) (r.length * 4 + 0) (.int .i64 5)
    obtain ⟨p0, p1, p2⟩ := Ck.setQ q0 q1 q2 (by decide) (r.length * 4 + 3) (.bool false)
    rw [fvI_set b { b with split := true } r 0 (.int .i64 5) rfl, fvI_set { b with split := true } { b with dead := false, split := true } r 3 (.bool false) rfl] at p2
    rw [HM.out, Nat.add_zero] at p0 p1 p2
    have HE : Hid (CI ((w2.setCell ⟨gf, m * 4, none⟩ (.int .i64 5)).setCell ⟨gf, m * 4 + 3, none⟩ (.bool false)) g E at_ { s' with opn := { b with dead := false, split := true } :: r } (.slice (some ⟨gf, 0, none⟩) (r.length + 1) cf)) := by
      unfold Hid CI
      rw [HM.out]
      simp only [List.length_cons, HM.out]
      obtain ⟨_, hc, _⟩ := own_at H2.fr (g := gf) rfl
      have v1 := H2.vb.set hc (by decide) (m * 4) (.int .i64 5)
      obtain ⟨_, hc', _⟩ := own_at q2 (g := gf) rfl
      rw [HM.out, Nat.add_zero] at hc'
      exact ⟨⟨_, p0, p1, p2⟩, v1.set hc' (by decide) _ _⟩
    have HB : Hid (Below g w ((w2.setCell ⟨gf, m * 4, none⟩ (.int .i64 5)).setCell ⟨gf, m * 4 + 3, none⟩ (.bool false))) := by
      obtain ⟨_, _, hB⟩ := own_at H2.fr (g := gf) rfl
      have hg : g ≤ gf := by omega
      exact (((HB1.out.trans (hb2.mono (Nat.le_of_lt hle.out))).setCell hg _).setCell hg _)
    clear I H2 hb2 hfr q0 q1 q2 p0 p1 p2
    go_wp2
    go_end0
    exact ⟨HB.out, by rw [HR.out]; exact ⟨rfl, HE.out⟩⟩

def OutW (w : World) (r : Except Int Int) (e : Ending) (w' : World) : Prop :=
  Below w.heap.size w w' ∧ match r with
    | .ok k => e = .returned (.int .i64 k)
    | .error c => e = .panicked (faultV c)

set_option maxRecDepth 100000 in
set_option maxHeartbeats 1600000 in
theorem wantedI (g : Nat) (E : EnvI) (at_ : Int) (s : St) (a : Nat) (vf : Value) (w : World) (h : CI w g E at_ s vf) (hne : s.opn ≠ []) (hl : Lim s) (hsp : ∀ (j : Nat) b, s.opn[j]? = some b → b.split = true → b.op = 4) :
    Calls Tryz.prog 51 #[.pointer (some ⟨g, 0, none⟩), .int .i64 (a : Int)] w fun e w' => OutW w (wantsS (a : Int) s) e w' := by
  obtain ⟨⟨vs, h0, _, h2⟩, _⟩ := h
  obtain ⟨n, hn⟩ : ∃ n, s.opn.length = n := ⟨_, rfl⟩
  rw [hn] at h2
  have hn0 : 0 < n := by rw [← hn]; exact List.length_pos_iff.2 hne
  have hn2 : n ≤ 300 := by have := hl.2; omega
  obtain ⟨gf, cf, rfl, hcf⟩ := own_pos h2 hn0
  have hlt := lt_of_block h0
  have c0 : w.cell? ⟨g, 9, none⟩ = some (.slice (some ⟨gf, 0, none⟩) n cf) := by rw [cell_of_block h0]; rfl
  by_cases ha : a < n
  · obtain ⟨b, hb⟩ : ∃ b, s.opn[a]? = some b := ⟨_, List.getElem?_eq_getElem (by omega)⟩
    have HW : Hid (wantsS (a : Int) s = if b.op = 3 then .ok 64 else .ok b.kind) := by unfold Hid wantsS; rw [Int.toNat_natCast, hb]
    obtain ⟨q, hq⟩ : ∃ q, n = a + 1 + q := ⟨n - (a + 1), by omega⟩
    have e4 : ∀ j u, j < 4 → (fv1 b)[j]? = some u → w.cell? ⟨gf, q * 4 + j, none⟩ = some u := fun j u hj hu => (own_cell h2 (by have h := fvI_far s.opn a b hb j hj; rw [hn, show n - 1 - a = q by omega] at h; rw [h]; exact hu)).1
    have d0 := e4 0 _ (by omega) rfl
    have d1 := e4 1 _ (by omega) rfl
    have d2 := e4 2 _ (by omega) rfl
    have d3 := e4 3 _ (by omega) rfl
    simp only [Nat.add_zero] at d0
    have hltF := (show gf < w.heap.size by obtain ⟨cur, hc, _⟩ := own_at h2 (g := gf) rfl; exact lt_of_block hc)
    have k0 : ∀ w', Keeps w w' → w'.cell? ⟨g, 9, none⟩ = some (.slice (some ⟨gf, 0, none⟩) n cf) := fun w' h => h.cell hlt c0
    have y0 : ∀ w', Keeps w w' → w'.cell? ⟨gf, q * 4, none⟩ = some _ := fun w' h => h.cell hltF d0
    have y1 : ∀ w', Keeps w w' → w'.cell? ⟨gf, q * 4 + 1, none⟩ = some _ := fun w' h => h.cell hltF d1
    have y2 : ∀ w', Keeps w w' → w'.cell? ⟨gf, q * 4 + 2, none⟩ = some _ := fun w' h => h.cell hltF d2
    have y3 : ∀ w', Keeps w w' → w'.cell? ⟨gf, q * 4 + 3, none⟩ = some _ := fun w' h => h.cell hltF d3
    have ha2 : ¬ (n : Int) ≤ (a : Int) := by omega
    have i1 : IntKind.i64.wrap ((n : Int) - 1) = (n : Int) - 1 := IntWalk.i64_in _ ⟨by omega, by omega⟩
    have i2 : IntKind.i64.wrap ((n : Int) - 1 - (a : Int)) = (q : Int) := by rw [show (n : Int) - 1 - (a : Int) = (q : Int) by omega]; exact IntWalk.i64_in _ ⟨by omega, by omega⟩
    have hqn : (q : Int) < (n : Int) := by omega
    have hq0 : (0 : Int) ≤ (q : Int) := by omega
    obtain ⟨o1, ho1⟩ : ∃ x, (if b.split then 5 else b.op) = x := ⟨_, rfl⟩
    obtain ⟨o2, ho2⟩ : ∃ x, b.kind = x := ⟨_, rfl⟩
    obtain ⟨o3, ho3⟩ : ∃ x, (b.h : Int) = x := ⟨_, rfl⟩
    obtain ⟨o4, ho4⟩ : ∃ x, b.dead = x := ⟨_, rfl⟩
    rw [ho1] at y0
    rw [ho2] at y1
    rw [ho3] at y2
    rw [ho4] at y3
    have HO : Hid ((if b.split then 5 else b.op) = o1 ∧ b.kind = o2) := ⟨ho1, ho2⟩
    have HB0 : Hid (b.split = true → b.op = 4) := hsp a b hb
    clear d0 d1 d2 d3 e4 h0 h2 hl hn2 ha hq hcf hn0 hne hn hb hlt hltF c0 ho1 ho2 ho3 ho4
    go_enter Tryz.func51, Tryz.ntmps51
    have c0 := k0 w ⟨Below.refl _ _⟩
    go_wp2_with fail
    clear c0 ha2
    refine region_m (C := KeepsM w (.cells #[.int .i64 0, .int .i64 0, .int .i64 0, .bool false] 112)) 15 14 (by kernel_rfl) (by kernel_rfl) (KeepsM.start w _) ?_
    simp only [List.take_succ_cons, List.take_zero, List.drop_succ_cons, List.drop_zero]
    (iterate 14
    (apply wm_go _ (by omega) (by rfl)
     · intro M wq hq
       have hx := hq.keeps
       go_simp
       exact uponF_value hq rfl
     simp only [Act.put, List.setIfInBounds_toArray, List.set_cons_succ, List.set_cons_zero]))
    refine wm_make (by omega) (by rfl) (fun M wq hq => ⟨wq.heap.size, ?_⟩) (fun b9 => ?_)
    · go_simp
      exact uponF_value (hq.make 14) rfl
    simp only [Act.put, List.setIfInBounds_toArray, List.set_cons_succ, List.set_cons_zero, ptrTo]
    refine wm_nil ?_
    intro w2 hk
    obtain ⟨u1, u2, u3⟩ := hk.made 14 b9 (by simp [updM])
    have z0 : w2.cell? ⟨b9, 0, none⟩ = some (.int .i64 0) := by simp [World.cell?, u3]
    have z1 : w2.cell? ⟨b9, 1, none⟩ = some (.int .i64 0) := by simp [World.cell?, u3]
    have z2 : w2.cell? ⟨b9, 2, none⟩ = some (.int .i64 0) := by simp [World.cell?, u3]
    have z3 : w2.cell? ⟨b9, 3, none⟩ = some (.bool false) := by simp [World.cell?, u3]
    have fz : ∀ j, w2.frozen? ⟨b9, j, none⟩ = false := fun j => by simp [World.frozen?, u3]
    have HBz : Hid (Below w.heap.size w ((((w2.setCell ⟨b9, 0, none⟩ (.int .i64 o1)).setCell ⟨b9, 1, none⟩ (.int .i64 o2)).setCell ⟨b9, 2, none⟩ (.int .i64 o3)).setCell ⟨b9, 3, none⟩ (.bool o4))) := (((hk.keeps.below.setCell u1 _).setCell u1 _).setCell u1 _).setCell u1 _
    clear hk u1 u2 u3 k0 y0 y1 y2 y3
    by_cases h3 : o1 = 3
    · subst h3
      have HW2 : Hid (wantsS (a : Int) s = .ok 64) := by
        unfold Hid; rw [HW.out]
        have h := HO.out.1
        rw [if_pos]
        split at h
        · omega
        · exact h
      go_wp2
      go_ret
      exact ⟨HBz.out, by rw [HW2.out]; rfl⟩
    · have e3 : (o1 == 3) = false := by simpa using h3
      have HW2 : Hid (wantsS (a : Int) s = .ok o2) := by
        unfold Hid; rw [HW.out, ← HO.out.2]
        have h := HO.out.1
        rw [if_neg]
        split at h
        · have := HB0.out (by assumption); omega
        · omega
      clear h3
      go_wp2
      go_ret
      exact ⟨HBz.out, by rw [HW2.out]; rfl⟩
  · have ha2 : (n : Int) ≤ (a : Int) := by omega
    have HW : Hid (wantsS (a : Int) s = .error 4) := by unfold Hid wantsS; rw [Int.toNat_natCast, List.getElem?_eq_none (by omega)]
    clear h0 h2 hn hne hl hn0 hn2 hcf
    go_enter Tryz.func51, Tryz.ntmps51
    go_wp2
    exact ⟨rfl, Below.refl _ _, by rw [HW.out]; rfl⟩

end Go.Proofs.YtcgnefgdfgikdaaGreat

namespace Go.Proofs.YtcgnefgdfgikdaaGreat
open Go.ChangeShapes Go.WideShapes Go.ChangeAt Go.RowKit

theorem takeT_opn {t : Ty} {s : St} {x : Ty × St} (h : takeT t s = .ok x) : x.2.opn = s.opn ∧ x.2.most = s.most ∧ x.2.vals.length ≤ s.vals.length ∧ ((∀ t ∈ s.vals, okTy t) → okTy x.1 ∧ ∀ t ∈ x.2.vals, okTy t) := by
  unfold takeT at h
  split at h
  · simp at h
  · split at h
    · split at h
      · simp at h; subst h; exact ⟨rfl, rfl, Nat.le_refl _, fun hv => ⟨fun x hx => by simp at hx, hv⟩⟩
      · simp at h
    · split at h
      · simp at h
      · split at h
        · simp at h; subst h; rename_i e _
          exact ⟨rfl, rfl, by rw [e]; simp, fun hv => ⟨hv _ (by rw [e]; exact List.mem_cons_self ..), fun t ht => hv t (by rw [e]; exact List.mem_cons_of_mem _ ht)⟩⟩
        · simp at h
theorem takeT_none (a : Ty) (s : St) : takeT a s = (takeT none s).bind fun y => if fit y.1 a then .ok y else .error 3 := by
  have hf : ∀ t : Ty, fit t none = true := fun t => by unfold fit; simp
  have hn : fit none a = true := by unfold fit; simp
  unfold takeT
  split
  · rfl
  · split
    · split
      · simp [Except.bind, hn]
      · rfl
    · split
      · rfl
      · simp [Except.bind, hf]
theorem takeI_ok {k : Int} {s s' : St} (h : takeI k s = .ok s') (hv : ∀ t ∈ s.vals, okTy t) : ∀ t ∈ s'.vals, okTy t := by
  unfold takeI at h
  split at h
  · simp at h; subst h; exact hv
  · rcases hr : takeT (wt k) s with c | x
    · rw [hr] at h; simp [Except.map] at h
    · rw [hr] at h; simp [Except.map] at h; subst h; exact ((takeT_opn hr).2.2.2 hv).2
theorem enc64 {t : Ty} (h : okTy t) : (enc 0 t == 64) = false := by
  unfold enc
  cases t with
  | none => rfl
  | some x => have := h x rfl; simp; omega
theorem enc0 {t : Ty} (h : okTy t) : (enc 0 t == 0) = t.isNone := by
  unfold enc
  cases t with
  | none => rfl
  | some x => have := h x rfl; simp; omega

set_option maxRecDepth 100000 in
set_option maxHeartbeats 1600000 in
theorem chooseI (g : Nat) (E : EnvI) (at_ : Int) (s : St) (b : Blk) (r : List Blk) (vf : Value) (w : World) (h : CI w g E at_ s vf) (hs : s.opn = b :: r) (hl : Lim s) (hv : ∀ t ∈ s.vals, okTy t) :
    Calls Tryz.prog 52 #[.pointer (some ⟨g, 0, none⟩)] w fun e w' => OutC w g E at_ vf (selS s) e w' := by
  have T1 := takeKI g E at_ s b r 127 vf w h hs hl hv
  have HS : Hid (s.opn = b :: r ∧ Lim s ∧ ∀ t ∈ s.vals, okTy t) := ⟨hs, hl, hv⟩
  clear h hs hl hv
  go_enter Tryz.func52, Tryz.ntmps52
  go_wp2_with fail
  refine T1.mono ?_
  rintro e w1 ⟨⟨hb1, _⟩, ho⟩
  have HB1 : Hid (Below g w w1) := hb1
  clear hb1 T1
  rcases hr1 : takeI 127 s with c | s1
  · rw [hr1] at ho
    obtain ⟨rfl, s', vf', hci⟩ := ho
    have HR : Hid (selS s = .error c) := by unfold Hid selS; rw [hr1]; rfl
    have HC : Hid (∃ s' vf', CI w1 g E at_ s' vf') := ⟨s', vf', hci⟩
    clear hr1 hci
    first
      | exact ⟨rfl, HB1.out, by rw [HR.out]; exact ⟨rfl, HC.out⟩⟩
      | (go_wp2; exact ⟨rfl, HB1.out, by rw [HR.out]; exact ⟨rfl, HC.out⟩⟩)
  rw [hr1] at ho
  obtain ⟨⟨v1, rfl⟩, hci⟩ := ho
  have ho1 := takeI_opn hr1
  have hs1 := ho1.1.trans HS.out.1
  have hl1 : Lim s1 := ⟨by have := HS.out.2.1.1; omega, by rw [ho1.1]; exact HS.out.2.1.2⟩
  have hv1 := takeI_ok hr1 HS.out.2.2
  have T2 := takeTI g E at_ s1 b r 0 vf w1 hci hs1 hl1 hv1 rfl
  have HR1 : Hid (selS s = (takeT none s1).bind fun x => (takeT x.1 x.2).map fun y => putT (y.1.or x.1) y.2) := by unfold Hid selS; rw [hr1]; rfl
  have HS1 : Hid (s1.opn = b :: r ∧ Lim s1 ∧ ∀ t ∈ s1.vals, okTy t) := ⟨hs1, hl1, hv1⟩
  clear hci hs1 hl1 hv1 hr1 ho1 HS
  go_wp2_with fail
  refine T2.mono ?_
  rintro e w2 ⟨⟨hb2, _⟩, ho⟩
  have HB2 : Hid (Below g w w2) := HB1.out.trans hb2
  clear hb2 T2 HB1
  rw [show wt 0 = none from rfl] at ho
  rcases hr2 : takeT none s1 with c | ⟨x, s2⟩
  · rw [hr2] at ho
    obtain ⟨rfl, s', vf', hci⟩ := ho
    have HR : Hid (selS s = .error c) := by unfold Hid; rw [HR1.out, hr2]; rfl
    have HC : Hid (∃ s' vf', CI w2 g E at_ s' vf') := ⟨s', vf', hci⟩
    clear hr2 hci
    first
      | exact ⟨rfl, HB2.out, by rw [HR.out]; exact ⟨rfl, HC.out⟩⟩
      | (go_wp2; exact ⟨rfl, HB2.out, by rw [HR.out]; exact ⟨rfl, HC.out⟩⟩)
  rw [hr2] at ho
  obtain ⟨rfl, hci⟩ := ho
  have ho2 := takeT_opn hr2
  simp only at ho2 hci
  have hs2 := ho2.1.trans HS1.out.1
  have hl2 : Lim s2 := ⟨by have := HS1.out.2.1.1; omega, by rw [ho2.1]; exact HS1.out.2.1.2⟩
  have hv2 := ho2.2.2.2 HS1.out.2.2
  have T3 := takeTI g E at_ s2 b r 0 vf w2 hci hs2 hl2 hv2.2 rfl
  have HR2 : Hid (selS s = (takeT x s2).map fun y => putT (y.1.or x) y.2) := by unfold Hid; rw [HR1.out, hr2]; rfl
  have HS2 : Hid (s2.opn = b :: r ∧ Lim s2 ∧ (okTy x ∧ ∀ t ∈ s2.vals, okTy t)) := ⟨hs2, hl2, hv2⟩
  obtain ⟨X, hX⟩ : ∃ X, enc 0 x = X := ⟨_, rfl⟩
  have HX : Hid (enc 0 x = X) := hX
  simp only
  rw [hX]
  clear hci hs2 hl2 hv2 hr2 ho2 HS1 HR1 hX
  go_wp2_with fail
  refine T3.mono ?_
  rintro e w3 ⟨⟨hb3, _⟩, ho⟩
  have HB3 : Hid (Below g w w3) := HB2.out.trans hb3
  clear hb3 T3 HB2
  rw [show wt 0 = none from rfl] at ho
  rcases hr3 : takeT none s2 with c | ⟨y, s3⟩
  · rw [hr3] at ho
    obtain ⟨rfl, s', vf', hci⟩ := ho
    have HR : Hid (selS s = .error c) := by unfold Hid; rw [HR2.out, takeT_none, hr3]; rfl
    have HC : Hid (∃ s' vf', CI w3 g E at_ s' vf') := ⟨s', vf', hci⟩
    clear hr3 hci
    first
      | exact ⟨rfl, HB3.out, by rw [HR.out]; exact ⟨rfl, HC.out⟩⟩
      | (go_wp2; exact ⟨rfl, HB3.out, by rw [HR.out]; exact ⟨rfl, HC.out⟩⟩)
  rw [hr3] at ho
  obtain ⟨rfl, hci⟩ := ho
  have ho3 := takeT_opn hr3
  simp only at ho3 hci
  have hv3 := ho3.2.2.2 HS2.out.2.2.2
  have hl3 : Lim s3 := ⟨by have := HS2.out.2.1.1; omega, by rw [ho3.1]; exact HS2.out.2.1.2⟩
  have F := fitsI (enc 0 y) X (fit y x) (by
    have h := fit_enc y X hv3.1
    rw [← HX.out] at h ⊢
    rw [h]
    congr 1
    have hx := HS2.out.2.2.1
    unfold wt enc
    cases hx2 : x with
    | none => rfl
    | some z => have := hx z hx2; simp; omega)
  have HC : Hid (CI w3 g E at_ s3 vf) := hci
  have HR3 : Hid (selS s = if fit y x then .ok (putT (y.or x) s3) else .error 3) := by
    unfold Hid; rw [HR2.out, takeT_none, hr3]; simp only [Except.bind]; split <;> rfl
  obtain ⟨Y, hY⟩ : ∃ Y, enc 0 y = Y := ⟨_, rfl⟩
  have hy0 : (Y == 0) = y.isNone := by rw [← hY]; exact enc0 hv3.1
  have P := putIT g E at_ s3 (y.or x) vf w3 HC.out hl3 (enc64 (by
    cases hy2 : y with
    | none => exact HS2.out.2.2.1
    | some z => have h := hv3.1; rw [hy2] at h; exact h))
  simp only
  rw [hY] at F ⊢
  obtain ⟨ff, hff⟩ : ∃ f, fit y x = f := ⟨_, rfl⟩
  rw [hff] at F HR3
  have hYX : enc 0 (y.or x) = if y.isNone then X else Y := by
    rw [← HX.out, ← hY]; unfold enc; cases y <;> rfl
  rw [hYX] at P
  clear hci ho3 hv3 hl3 hr3 hY hff HS2 HR2 hYX
  cases ff
  · go_wp2_with (go_at_call 70; refine (F _).mono ?_; rintro e w4 ⟨rfl, hw⟩; obtain rfl := hw.symm; clear F)
    exact ⟨rfl, HB3.out, by rw [HR3.out]; exact ⟨rfl, _, _, HC.out⟩⟩
  · obtain ⟨yn, hyn⟩ : ∃ z, y.isNone = z := ⟨_, rfl⟩
    rw [hyn] at hy0 P
    clear hyn
    cases yn
    · simp only [Bool.false_eq_true, if_false] at P
      go_wp2_with (first | (go_at_call 70; refine (F _).mono ?_; rintro e w4 ⟨rfl, hw⟩; obtain rfl := hw.symm; clear F) | (go_at_call 54; refine P.mono ?_; rintro e w5 ⟨rfl, hc5, hb5⟩; clear P))
      go_end0
      exact ⟨HB3.out.trans (by assumption), by rw [HR3.out]; exact ⟨rfl, by assumption⟩⟩
    · simp only [if_true] at P
      go_wp2_with (first | (go_at_call 70; refine (F _).mono ?_; rintro e w4 ⟨rfl, hw⟩; obtain rfl := hw.symm; clear F) | (go_at_call 54; refine P.mono ?_; rintro e w5 ⟨rfl, hc5, hb5⟩; clear P))
      go_end0
      exact ⟨HB3.out.trans (by assumption), by rw [HR3.out]; exact ⟨rfl, by assumption⟩⟩

end Go.Proofs.YtcgnefgdfgikdaaGreat

namespace Go.Proofs.YtcgnefgdfgikdaaGreat
open Go.ChangeShapes Go.WideShapes Go.ChangeAt Go.RowKit

theorem putI_of {k : Int} {s : St} (h : k ≠ 64) : putI k s = putT (some k) s := if_neg h
set_option maxRecDepth 100000 in
set_option maxHeartbeats 800000 in
theorem put64 (g : Nat) (w : World) : Calls Tryz.prog 54 #[.pointer (some ⟨g, 0, none⟩), .int .i64 64] w fun e w' => e = .returned (.tuple #[]) ∧ w' = w := by
  go_enter Tryz.func54, Tryz.ntmps54
  go_wp2
  first
    | (go_end0; exact ⟨rfl, rfl⟩)
    | exact bodyPost_ret (results_none rfl _ _ _) rfl ⟨rfl, rfl⟩
theorem putKI (g : Nat) (E : EnvI) (at_ : Int) (s : St) (k : Int) (vf : Value) (w : World) (h : CI w g E at_ s vf) (hl : Lim s) :
    Calls Tryz.prog 54 #[.pointer (some ⟨g, 0, none⟩), .int .i64 k] w fun e w' => e = .returned (.tuple #[]) ∧ CI w' g E at_ (putI k s) vf ∧ Below g w w' := by
  by_cases hk : k = 64
  · subst hk
    refine (put64 g w).mono ?_
    rintro e w' ⟨rfl, rfl⟩
    exact ⟨rfl, h, Below.refl _ _⟩
  · rw [putI_of hk]
    exact putIT g E at_ s (some k) vf w h hl (by simpa [enc] using hk)

set_option maxRecDepth 100000 in
set_option maxHeartbeats 3200000 in
theorem endI (g : Nat) (E : EnvI) (at_ : Int) (s : St) (b : Blk) (r : List Blk) (vf : Value) (w : World) (h : CI w g E at_ s vf) (hs : s.opn = b :: r) (hl : Lim s) (hv : ∀ t ∈ s.vals, okTy t) :
    Calls Tryz.prog 49 #[.pointer (some ⟨g, 0, none⟩)] w fun e w' => OutI w g E at_ (endS s) e w' := by
  have F := finishI g E at_ s b r vf w h hs hl hv
  have HS : Hid (s.opn = b :: r) := hs
  have hm2 : r.length ≤ 300 := by have := hl.2; rw [hs, List.length_cons] at this; omega
  have HM2 : Hid (r.length ≤ 300 ∧ s.vals.length ≤ 300) := ⟨hm2, hl.1⟩
  clear h hs hl hv hm2
  go_enter Tryz.func49, Tryz.ntmps49
  go_wp2_with fail
  refine F.mono ?_
  rintro e w1 ⟨hb1, ho⟩
  have HB1 : Hid (Below g w w1) := hb1
  clear hb1 F
  rcases hr : closeS s with c | s'
  · rw [hr] at ho
    obtain ⟨rfl, s', vf', hci⟩ := ho
    have HR : Hid (endS s = .error c) := by unfold Hid endS; rw [hr]; rfl
    have HC : Hid (∃ s' vf', CI w1 g E at_ s' vf') := ⟨s', vf', hci⟩
    clear hr hci
    first
      | exact ⟨rfl, HB1.out, by rw [HR.out]; exact ⟨rfl, HC.out⟩⟩
      | (go_wp2; exact ⟨rfl, HB1.out, by rw [HR.out]; exact ⟨rfl, HC.out⟩⟩)
  rw [hr] at ho
  obtain ⟨rfl, hci⟩ := ho
  have hop := closeS_opn HS.out hr
  obtain ⟨gf, cf, a, cs, rfl, H⟩ := hci.top hop.1
  have hlt := lt_of_block H.blk
  obtain ⟨m, hm⟩ : ∃ m, r.length = m := ⟨_, rfl⟩
  have I := innerI g gf m cf w1 hlt (by rw [cell_of_block H.blk, ← hm]; rfl) (by have := HM2.out.1; omega)
  have HH : Hid (TopI w1 g E at_ s' b r gf cf 0 a cs) := H
  have HM : Hid (r.length = m) := hm
  have HL : Hid (m ≤ 300 ∧ s'.vals.length ≤ 300 ∧ m + 1 ≤ cf) := ⟨by have := HM2.out.1; omega, by have := HM2.out.2; omega, by have := H.fc; omega⟩
  have HR : Hid (endS s = if (b.op = 4 ∧ b.split = false) ∧ b.kind ≠ 64 then .error 3 else .ok (if r = [] then { s' with opn := r } else putI b.kind { s' with opn := r })) := by unfold Hid endS; rw [hr]; simp only [Except.bind]; rw [hop.1]
  have hle : Hid (g < w1.heap.size) := hlt
  clear hr hci hop H hlt hm HM2
  go_wp2_with fail
  refine I.mono ?_
  rintro e w2 ⟨rfl, hb2⟩
  have H2 := HH.out.keep hb2
  have hc := H2.cells
  rw [HM.out] at hc
  obtain ⟨⟨c0, c1, c2, c3⟩, _⟩ := hc
  obtain ⟨o1, ho1⟩ : ∃ x, (if b.split then 5 else b.op) = x := ⟨_, rfl⟩
  obtain ⟨o2, ho2⟩ : ∃ x, b.kind = x := ⟨_, rfl⟩
  obtain ⟨o3, ho3⟩ : ∃ x, (b.h : Int) = x := ⟨_, rfl⟩
  obtain ⟨o4, ho4⟩ : ∃ x, b.dead = x := ⟨_, rfl⟩
  rw [ho1] at c0
  rw [ho2] at c1
  rw [ho3] at c2
  rw [ho4] at c3
  have HO : Hid ((if b.split then 5 else b.op) = o1 ∧ b.kind = o2) := ⟨ho1, ho2⟩
  obtain ⟨z, hz⟩ : ∃ z, w2.heap.size = z := ⟨_, rfl⟩
  obtain ⟨W, hW⟩ : ∃ W, w2.alloc (.cells #[.int .i64 o1, .int .i64 o2, .int .i64 o3, .bool o4] 112) = W := ⟨_, rfl⟩
  have H3 : TopI W g E at_ s' b r gf cf 0 a cs := H2.keep (by rw [← hW]; exact (Below.refl _ _).alloc (Nat.le_refl _) _)
  have HW : Hid (w2.alloc (.cells #[.int .i64 o1, .int .i64 o2, .int .i64 o3, .bool o4] 112) = W) := hW
  have hzb : W.heap[z]? = some (.cells #[.int .i64 o1, .int .i64 o2, .int .i64 o3, .bool o4] 112 (0, 0)) := by rw [← hW, ← hz]; exact heap_alloc_new _ _
  have HB2 : Hid (Below g w W) := by
    unfold Hid; rw [← hW]
    exact (HB1.out.trans (hb2.mono (Nat.le_of_lt hle.out))).alloc (by have := hb2.size; have := hle.out; omega) _
  have HZ : Hid (w2.heap.size = z) := hz
  have H4 : Hid (TopI W g E at_ s' b r gf cf 0 a cs) := H3
  have e0 : W.cell? ⟨z, 0, none⟩ = some (.int .i64 o1) := by rw [cell_of_block hzb]; rfl
  have e1 : W.cell? ⟨z, 1, none⟩ = some (.int .i64 o2) := by rw [cell_of_block hzb]; rfl
  have HZB : Hid (W.heap[z]? = some (.cells #[.int .i64 o1, .int .i64 o2, .int .i64 o3, .bool o4] 112 (0, 0))) := hzb
  clear I H2 hb2 H3 hW hz hzb ho1 ho2 ho3 ho4
  by_cases hbad : o1 = 4 ∧ o2 ≠ 64
  · have HE : Hid (endS s = .error 3) := by
      unfold Hid; rw [HR.out, if_pos]
      have h1 := HO.out.1
      refine ⟨?_, by rw [HO.out.2]; exact hbad.2⟩
      split at h1
      · omega
      · rename_i h2; exact ⟨by omega, by simpa using h2⟩
    obtain ⟨rfl, hk64⟩ := hbad
    have hk : (o2 != 64) = true := by simpa using hk64
    clear hk64
    go_wp2_with fail
    rw [HZ.out, HW.out]
    go_wp2
    exact ⟨rfl, HB2.out, by rw [HE.out]; exact ⟨rfl, _, _, H4.out.ci⟩⟩
  · have HE : Hid (endS s = .ok (if r = [] then { s' with opn := r } else putI o2 { s' with opn := r })) := by
      unfold Hid; rw [HR.out, if_neg, HO.out.2]
      rintro ⟨⟨h1, h2⟩, h3⟩
      refine hbad ⟨?_, by rw [← HO.out.2]; exact h3⟩
      rw [← HO.out.1, h2]; simpa using h1
    have hcase : (o1 == 4) = false ∨ (o1 = 4 ∧ (o2 != 64) = false) := by
      by_cases h4 : o1 = 4
      · right; refine ⟨h4, ?_⟩
        by_cases h64 : o2 = 64
        · simp [h64]
        · exact absurd ⟨h4, h64⟩ hbad
      · left; simpa using h4
    have hlt := lt_of_block H4.out.blk
    have d0 : W.cell? ⟨g, 9, none⟩ = some (.slice (some ⟨gf, 0, none⟩) (m + 1) cf) := by rw [cell_of_block H4.out.blk, ← HM.out]; rfl
    have d1 : W.frozen? ⟨g, 9, none⟩ = false := free_of_block H4.out.blk 9
    have k0 : ∀ w', Keeps W w' → w'.cell? ⟨g, 9, none⟩ = some (.slice (some ⟨gf, 0, none⟩) (m + 1) cf) := fun w' h => h.cell hlt d0
    have k1 : ∀ w', Keeps W w' → w'.frozen? ⟨g, 9, none⟩ = false := fun w' h => h.frozen hlt d1
    have k2 : ∀ w', Keeps W w' → w'.cell? ⟨z, 1, none⟩ = some (.int .i64 o2) := fun w' h => h.cell (lt_of_block HZB.out) e1
    have hi1 := i64n m (by have := HL.out.1; omega)
    have hi2 := w64m m (by have := HL.out.1; omega)
    have hmc : (m : Int) ≤ cf := by have := HL.out.2.2; omega
    clear hbad d0 d1
    rcases hcase with hc | ⟨rfl, hc⟩
    all_goals
      go_wp2_with fail
      rw [HZ.out, HW.out]
      go_wp2_with fail
      clear c0 c1 c2 c3 e0 e1 hc
      refine region_qtail (C := Keeps W) 14 (by kernel_rfl) (by kernel_rfl) (Keeps.drew W) ?_
      (iterate 14
    (apply wpQuiet_go _ (by rfl)
     · intro wq hq
       go_simp
       first
         | exact rfl
     simp only [Act.put, List.setIfInBounds_toArray, List.set_cons_succ, List.set_cons_zero]))
      refine wpQuiet_nil ?_
      intro wz hk
      have cz := k0 _ hk
      have fz := k1 _ hk
      have yz := k2 _ hk
      have hbz := hk.below
      have H5 := H4.out.keep hbz
      have HC : Hid (CI (wz.setCell ⟨g, 9, none⟩ (.slice (some ⟨gf, 0, none⟩) m cf)) g E at_ { s' with opn := r } (.slice (some ⟨gf, 0, none⟩) m cf)) := by
        unfold Hid CI
        simp only
        refine ⟨ck_set H5.blk (mk' := mkI E at_ s'.most) (vf' := .slice (some ⟨gf, 0, none⟩) m cf) (vs' := .slice a s'.vals.length cs) 9 _ rfl ?_ ?_, H5.vb.set H5.blk (by decide) _ _⟩
        · rw [ivs_len]; exact H5.st
        · have h := own_cut H5.fr r.length (by omega)
          have e : (fvI (b :: r)).take (r.length * 4) = fvI r := by rw [fvI_cons, ← fvI_len r, List.take_left]
          rw [e, HM.out] at h
          rw [HM.out]
          exact h
      have HBz : Hid (Below g w (wz.setCell ⟨g, 9, none⟩ (.slice (some ⟨gf, 0, none⟩) m cf))) := (HB2.out.trans (hbz.mono (Nat.le_of_lt hlt))).setCell (Nat.le_refl _) _
      have c9 : (wz.setCell ⟨g, 9, none⟩ (.slice (some ⟨gf, 0, none⟩) m cf)).cell? ⟨z, 1, none⟩ = some (.int .i64 o2) := by
        rw [setCell_other_cell _ _ _ _ _ _ (fun e => by
          have h := HZB.out
          rw [e] at h
          exact apart_types (H4.out.blk) h (by decide) rfl)]
        exact yz
      clear hk k0 k1 k2 H5 hbz
      by_cases h0 : m = 0
      · subst h0
        have hr0 : r = [] := List.length_eq_zero_iff.1 HM.out
        rw [if_pos hr0] at HE
        clear yz
        go_wp2
        go_end0
        exact ⟨HBz.out, by rw [HE.out]; exact ⟨rfl, _, HC.out⟩⟩
      · have hr0 : r ≠ [] := fun e => h0 (by rw [← HM.out, e]; rfl)
        rw [if_neg hr0] at HE
        have hpos : (0 : Int) < (m : Int) := by omega
        have P := putKI g E at_ { s' with opn := r } o2 (.slice (some ⟨gf, 0, none⟩) m cf) _ HC.out ⟨HL.out.2.1, by have h1 := HL.out.1; have h2 := HM.out; simp only; omega⟩
        clear yz
        go_wp2_with (go_at_call 54; refine P.mono ?_; rintro e w5 ⟨rfl, hc5, hb5⟩; clear P)
        go_end0
        exact ⟨HBz.out.trans (by assumption), by rw [HE.out]; exact ⟨rfl, _, by assumption⟩⟩

end Go.Proofs.YtcgnefgdfgikdaaGreat
