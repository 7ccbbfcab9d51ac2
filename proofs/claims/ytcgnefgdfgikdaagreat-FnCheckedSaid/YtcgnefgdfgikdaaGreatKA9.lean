/-
  The law's check: its memory, a code, what is put.
-/
import Derived.Test.YtcgnefgdfgikdaaGreatKA1
import Derived.Test.YtcgnefgdfgikdaaGreatKA2
import Derived.Test.YtcgnefgdfgikdaaGreatKA5
namespace Go.Proofs.YtcgnefgdfgikdaaGreat
open Go.ChangeShapes Go.WideShapes Go.ChangeAt Go.RowKit

def fv5 (b : Blk) : List Value := [.int .i64 b.op, .int .i64 b.kind, .int .i64 (b.h : Int), .bool b.dead, .bool b.split]
def fvS (l : List Blk) : List Value := l.reverse.flatMap fv5
theorem fvS_cons (b : Blk) (l : List Blk) : fvS (b :: l) = fvS l ++ fv5 b := by simp [fvS]
theorem fvS_len (l : List Blk) : (fvS l).length = l.length * 5 := by
  induction l with
  | nil => rfl
  | cons b r ih => rw [fvS_cons, List.length_append, ih, List.length_cons]; simp [fv5]; omega
theorem fvS_at (b : Blk) (l : List Blk) (j : Nat) : (fvS (b :: l))[l.length * 5 + j]? = (fv5 b)[j]? := by
  rw [fvS_cons, List.getElem?_append_right (by rw [fvS_len]; omega), fvS_len]
  congr 1; omega
theorem fvS_set (b b' : Blk) (l : List Blk) (j : Nat) (u : Value) (h : (fv5 b).set j u = fv5 b') : (fvS (b :: l)).set (l.length * 5 + j) u = fvS (b' :: l) := by
  rw [fvS_cons, fvS_cons, List.set_append, if_neg (by rw [fvS_len]; omega), fvS_len, show l.length * 5 + j - l.length * 5 = j by omega, h]
theorem fvS_far (l : List Blk) (a : Nat) (b : Blk) (h : l[a]? = some b) (j : Nat) (hj : j < 5) : (fvS l)[(l.length - 1 - a) * 5 + j]? = (fv5 b)[j]? := by
  induction l generalizing a with
  | nil => simp at h
  | cons x r ih =>
    cases a with
    | zero =>
      simp at h; subst h
      have := fvS_at x r j
      simpa using this
    | succ a =>
      simp at h
      have hlt : a < r.length := by
        rcases Nat.lt_or_ge a r.length with h' | h'
        · exact h'
        · rw [List.getElem?_eq_none h'] at h; simp at h
      rw [fvS_cons, List.getElem?_append_left (by rw [fvS_len, List.length_cons]; omega)]
      have := ih a h
      rw [List.length_cons, show r.length + 1 - 1 - (a + 1) = r.length - 1 - a by omega]
      exact this

structure EnvS where
  l : Loc7
  M : Mod7
  pv : Value
  res : Int
  lv : Value
  bv : Value
  sv : Value
def mkS (E : EnvS) (code : Int) (most : Nat) (vf vs : Value) : Array Value := #[.slice E.l.fa E.M.fs.length E.l.fc, .slice E.l.ga E.M.gs.length E.l.gc, .bool E.M.mem, .int .i64 E.M.pages, .int .i64 E.M.most, .int .i64 E.M.start, E.pv, .int .i64 E.res, E.lv, E.bv, vs, vf, .int .i64 code, .int .i64 (most : Int), E.sv]
def CS (w : World) (g : Nat) (E : EnvS) (code : Int) (s : St) (vf : Value) : Prop := Ck w g 77 99 5 (mkS E code s.most) (ivs 1 s.vals) s.opn.length (fvS s.opn) vf
theorem CS.keep {w w' : World} {g : Nat} {E : EnvS} {code : Int} {s : St} {vf : Value} (h : CS w g E code s vf) (hb : Below w.heap.size w w') : CS w' g E code s vf := Ck.keep h hb
theorem CS.lt {w : World} {g : Nat} {E : EnvS} {code : Int} {s : St} {vf : Value} (h : CS w g E code s vf) : g < w.heap.size := by
  obtain ⟨vs, h0, _⟩ := h; exact lt_of_block h0
structure TopS (w : World) (g : Nat) (E : EnvS) (code : Int) (s : St) (b : Blk) (r : List Blk) (gf cf : Nat) (a : Option Addr) (cs : Nat) : Prop where
  blk : w.heap[g]? = some (.cells (mkS E code s.most (.slice (some ⟨gf, 0, none⟩) (r.length + 1) cf) (.slice a s.vals.length cs)) 77 (0, 0))
  st : w.ownsRow (g + 1) 3 1 (.slice a s.vals.length cs) s.vals.length (ivs 1 s.vals)
  fr : w.ownsRow (g + 1) 99 5 (.slice (some ⟨gf, 0, none⟩) (r.length + 1) cf) (r.length + 1) (fvS (b :: r))
  ge : s.opn = b :: r
  sc : s.vals.length ≤ cs
  fc : r.length + 1 ≤ cf
theorem CS.top {w : World} {g : Nat} {E : EnvS} {code : Int} {s : St} {b : Blk} {r : List Blk} {vf : Value} (h : CS w g E code s vf) (hs : s.opn = b :: r) : ∃ gf cf a cs, vf = .slice (some ⟨gf, 0, none⟩) (r.length + 1) cf ∧ TopS w g E code s b r gf cf a cs := by
  obtain ⟨vs, h0, h1, h2⟩ := h
  rw [hs] at h2
  rw [ivs_len] at h1
  obtain ⟨a, cs, rfl, hc⟩ := own_shape h1
  obtain ⟨gf, cf, rfl, hcf⟩ := own_pos h2 (by simp)
  exact ⟨gf, cf, a, cs, rfl, h0, h1, h2, hs, hc, hcf⟩
theorem TopS.ci {w : World} {g : Nat} {E : EnvS} {code : Int} {s : St} {b : Blk} {r : List Blk} {gf cf : Nat} {a : Option Addr} {cs : Nat} (h : TopS w g E code s b r gf cf a cs) : CS w g E code s (.slice (some ⟨gf, 0, none⟩) (r.length + 1) cf) := by
  unfold CS
  rw [h.ge]
  exact ⟨_, h.blk, by rw [ivs_len]; exact h.st, h.fr⟩
theorem TopS.cells {w : World} {g : Nat} {E : EnvS} {code : Int} {s : St} {b : Blk} {r : List Blk} {gf cf : Nat} {a : Option Addr} {cs : Nat} (h : TopS w g E code s b r gf cf a cs) :
    (w.cell? ⟨gf, r.length * 5, none⟩ = some (.int .i64 b.op) ∧ w.cell? ⟨gf, r.length * 5 + 1, none⟩ = some (.int .i64 b.kind) ∧ w.cell? ⟨gf, r.length * 5 + 2, none⟩ = some (.int .i64 (b.h : Int)) ∧ w.cell? ⟨gf, r.length * 5 + 3, none⟩ = some (.bool b.dead) ∧ w.cell? ⟨gf, r.length * 5 + 4, none⟩ = some (.bool b.split)) ∧
    ∀ j, j < 5 → w.frozen? ⟨gf, r.length * 5 + j, none⟩ = false := by
  have e : ∀ j u, (fv5 b)[j]? = some u → w.cell? ⟨gf, r.length * 5 + j, none⟩ = some u ∧ w.frozen? ⟨gf, r.length * 5 + j, none⟩ = false := fun j u hu => own_cell h.fr (by rw [fvS_at]; exact hu)
  refine ⟨⟨(e 0 _ rfl).1, (e 1 _ rfl).1, (e 2 _ rfl).1, (e 3 _ rfl).1, (e 4 _ rfl).1⟩, fun j hj => ?_⟩
  obtain ⟨u, hu⟩ : ∃ u, (fv5 b)[j]? = some u := ⟨_, List.getElem?_eq_getElem (by simp [fv5]; omega)⟩
  exact (e j u hu).2
theorem TopS.keep {w w' : World} {g : Nat} {E : EnvS} {code : Int} {s : St} {b : Blk} {r : List Blk} {gf cf : Nat} {a : Option Addr} {cs : Nat} (h : TopS w g E code s b r gf cf a cs) (hb : Below w.heap.size w w') : TopS w' g E code s b r gf cf a cs :=
  ⟨(hb.block g (lt_of_block h.blk)).trans h.blk, own_kept h.st hb, own_kept h.fr hb, h.ge, h.sc, h.fc⟩

set_option maxRecDepth 100000 in
set_option maxHeartbeats 800000 in
theorem badS (g : Nat) (E : EnvS) (code : Int) (s : St) (c : Int) (vf : Value) (w : World) (h : CS w g E code s vf) :
    Calls Tryz.prog 59 #[.pointer (some ⟨g, 0, none⟩), .int .i64 c] w fun e w' => e = .returned (.tuple #[]) ∧ CS w' g E (if code = 0 then c else code) s vf ∧ Below g w w' ∧ Touch g w w' := by
  obtain ⟨vs, h0, h1, h2⟩ := h
  have c0 : w.cell? ⟨g, 12, none⟩ = some (.int .i64 code) := (cell_of_block h0 12).trans rfl
  have f0 : w.frozen? ⟨g, 12, none⟩ = false := free_of_block h0 12
  have HC : Hid (CS w g E code s vf) := ⟨vs, h0, h1, h2⟩
  have HE : Hid (CS (w.setCell ⟨g, 12, none⟩ (.int .i64 c)) g E c s vf) := ck_set h0 (mk' := mkS E c s.most) (vf' := vf) (vs' := vs) 12 _ rfl h1 h2
  have HB : Hid (Below g w (w.setCell ⟨g, 12, none⟩ (.int .i64 c))) := (Below.refl g w).setCell (p := ⟨g, 12, none⟩) (Nat.le_refl _) _
  by_cases hc : code = 0
  · subst hc
    clear h0 h1 h2
    go_enter Tryz.func59, Tryz.ntmps59
    go_wp2
    go_end0
    exact ⟨rfl, HE.out, HB.out, (touch_below (Below.refl _ _)).set _ _⟩
  · have hc2 : (code == 0) = false := by simpa using hc
    clear h0 h1 h2
    go_enter Tryz.func59, Tryz.ntmps59
    go_wp2
    go_end0
    exact ⟨rfl, HC.out, Below.refl _ _, touch_below (Below.refl _ _)⟩

set_option maxRecDepth 100000 in
set_option maxHeartbeats 1600000 in
theorem putST (g : Nat) (E : EnvS) (code : Int) (s : St) (t : Ty) (vf : Value) (w : World) (h : CS w g E code s vf) (hl : Lim s) (ht : (enc 1 t == 64) = false) :
    Calls Tryz.prog 57 #[.pointer (some ⟨g, 0, none⟩), .int .i64 (enc 1 t)] w fun e w' => e = .returned (.tuple #[]) ∧ CS w' g E code (putT t s) vf ∧ Below g w w' := by
  obtain ⟨i0, i0i, i00, i01, i02⟩ := info_parts Tryz.infoI7
  obtain ⟨vs, h0, h1, h2⟩ := h
  rw [ivs_len] at h1
  obtain ⟨a, cs, rfl, hc⟩ := own_shape h1
  obtain ⟨k, hk⟩ : ∃ k, s.vals.length = k := ⟨_, rfl⟩
  obtain ⟨x, hx⟩ : ∃ x, enc 1 t = x := ⟨_, rfl⟩
  rw [hk] at h0 h1
  rw [hx] at ht ⊢
  have hk2 : k ≤ 300 := by have := hl.1; omega
  have hlt := lt_of_block h0
  have c0 : w.cell? ⟨g, 10, none⟩ = some (.slice a k cs) := by rw [cell_of_block h0]; rfl
  have H0 : Hid (w.heap[g]? = some (.cells (mkS E code s.most vf (.slice a k cs)) 77 (0, 0))) := h0
  have H1 : Hid (w.ownsRow (g + 1) 3 1 (.slice a k cs) k (ivs 1 s.vals)) := h1
  have H2 : Hid (w.ownsRow (g + 1) 99 5 vf s.opn.length (fvS s.opn)) := h2
  have HK : Hid (s.vals.length = k ∧ enc 1 t = x) := ⟨hk, hx⟩
  have HT : Hid (k ≤ 300) := hk2
  have HLT : Hid (g < w.heap.size) := hlt
  clear h0 h1 h2 hl hc hk hx
  go_enter Tryz.func57, Tryz.ntmps57
  go_wp2_with (at_builtin; refine wpList_append_lies _ rfl _ _ 36 rfl (g + 1) 3 i0 (.int .i64 0) 1 8 Tryz.underlying36 i0i i00 i01 i02 rfl (by decide) _ _ _ rfl ((H1.out).alloc _) ⟨w.heap.size, 0, none⟩ 1 1 [.int .i64 x] rfl rfl (one_new _ _ _ _ rfl) (by intro u hu; simp at hu; subst hu; rfl) (by decide) (by have := HT.out; unfold maxLen; omega) (by have := HT.out; omega) (by have := HLT.out; simp; omega) (w.heap.size + 1) (by simp) ?_)
  intro gs cs' w1 hown hgrow hlie hlt1
  have hA0 := (Below.heap_alloc w (.cells #[.int .i64 x] 3) g HLT.out).trans H0.out
  have hg1 := grow_block ((H1.out).alloc _) hgrow hA0
  have hf1 := grow_keeps ((H1.out).alloc _) hgrow ((H2.out).alloc _) (by decide)
  have hb1 : Below g w w1 := grow_below ((H1.out).alloc _) hgrow ((Below.refl _ _).alloc (Nat.le_of_lt HLT.out) _) (Nat.le_refl _) (by simp; have := HLT.out; omega)
  have c1 : w1.cell? ⟨g, 10, none⟩ = some (.slice a k cs) := by rw [cell_of_block hg1]; rfl
  have f1 : w1.frozen? ⟨g, 10, none⟩ = false := free_of_block hg1 10
  have HC : Hid (CS (w1.setCell ⟨g, 10, none⟩ (.slice (some ⟨gs, 0, none⟩) (k + 1) cs')) g E code { s with vals := t :: s.vals } vf) := by
    refine ck_set hg1 (mk' := mkS E code s.most) (vf' := vf) (vs' := .slice (some ⟨gs, 0, none⟩) (k + 1) cs') 10 _ rfl ?_ hf1
    rw [ivs_len, ivs_cons, List.length_cons, HK.out.1, HK.out.2]
    exact hown
  have HB : Hid (Below g w (w1.setCell ⟨g, 10, none⟩ (.slice (some ⟨gs, 0, none⟩) (k + 1) cs'))) := hb1.setCell (Nat.le_refl _) _
  obtain ⟨W, hW⟩ : ∃ W, w1.setCell ⟨g, 10, none⟩ (.slice (some ⟨gs, 0, none⟩) (k + 1) cs') = W := ⟨_, rfl⟩
  have hbW : W.heap[g]? = some (.cells (mkS E code s.most vf (.slice (some ⟨gs, 0, none⟩) (k + 1) cs')) 77 (0, 0)) := by rw [← hW]; exact heap_setCell_same _ _ _ _ _ _ hg1
  rw [hW] at HC HB
  have HW : Hid (w1.setCell ⟨g, 10, none⟩ (.slice (some ⟨gs, 0, none⟩) (k + 1) cs') = W) := hW
  clear hW hown hgrow hlie hlt1 hA0 hg1 hf1 hb1 H1 H2 H0 c0
  go_wp2_with fail
  rw [HW.out]
  have hltW := lt_of_block hbW
  have d0 : W.cell? ⟨g, 10, none⟩ = some (.slice (some ⟨gs, 0, none⟩) (k + 1) cs') := by rw [cell_of_block hbW]; rfl
  have d1 : W.cell? ⟨g, 13, none⟩ = some (.int .i64 (s.most : Int)) := by rw [cell_of_block hbW]; rfl
  have d2 : W.frozen? ⟨g, 13, none⟩ = false := free_of_block hbW 13
  have k0 : ∀ w', Keeps W w' → w'.cell? ⟨g, 10, none⟩ = some (.slice (some ⟨gs, 0, none⟩) (k + 1) cs') := fun w' h => h.cell hltW d0
  have k1 : ∀ w', Keeps W w' → w'.cell? ⟨g, 13, none⟩ = some (.int .i64 (s.most : Int)) := fun w' h => h.cell hltW d1
  have k2 : ∀ w', Keeps W w' → w'.frozen? ⟨g, 13, none⟩ = false := fun w' h => h.frozen hltW d2
  clear d0 d1 d2 c1 f1 HW
  refine region_q (C := Keeps W) (by kernel_rfl) (by kernel_rfl) (Keeps.drew W) ?_
  (iterate 10
    (apply wpQuiet_go _ (by rfl)
     · intro wq hq
       go_simp
       first
         | exact rfl
     simp only [Act.put, List.setIfInBounds_toArray, List.set_cons_succ, List.set_cons_zero]))
  refine wpQuiet_nil ?_
  intro wz hk
  have cz := k1 _ hk
  have fz := k2 _ hk
  have bz := k0 _ hk
  have HZ : Hid (CS wz g E code { s with vals := t :: s.vals } vf) := HC.out.keep hk.below
  have HBw : Hid (Below g w wz) := HB.out.trans (hk.below.mono (Nat.le_of_lt hltW))
  by_cases hm : (s.most : Int) < (k : Int) + 1
  · have HE : Hid (CS (wz.setCell ⟨g, 13, none⟩ (.int .i64 ((k : Int) + 1))) g E code (putT t s) vf) := by
      obtain ⟨vs2, q0, q1, q2⟩ := HZ.out
      have e : putT t s = { vals := t :: s.vals, opn := s.opn, most := k + 1 } := by unfold putT; rw [HK.out.1, Nat.max_eq_right (by omega)]
      rw [e]
      exact ck_set q0 (mk' := mkS E code (k + 1)) (vf' := vf) (vs' := vs2) 13 _ (by simp [mkS]) q1 q2
    have HBz : Hid (Below g w (wz.setCell ⟨g, 13, none⟩ (.int .i64 ((k : Int) + 1)))) := HBw.out.setCell (Nat.le_refl _) _
    clear hk k0 k1 k2 HC HB hbW hltW
    go_wp2
    go_end0
    exact ⟨rfl, HE.out, HBz.out⟩
  · have HE : Hid (CS wz g E code (putT t s) vf) := by
      have e : putT t s = { s with vals := t :: s.vals } := by unfold putT; rw [HK.out.1, Nat.max_eq_left (by omega)]
      rw [e]
      exact HZ.out
    clear hk k0 k1 k2 HC HB hbW hltW
    go_wp2
    go_end0
    exact ⟨rfl, HE.out, HBw.out⟩

end Go.Proofs.YtcgnefgdfgikdaaGreat

namespace Go.Proofs.YtcgnefgdfgikdaaGreat
open Go.ChangeShapes Go.WideShapes Go.ChangeAt Go.RowKit

/-- How the law writes a type that is wanted: any is 1. -/
def sk (k : Int) : Int := if k = 0 then 1 else k
def wantOk (k : Int) : Prop := k = 0 ∨ k = 64 ∨ (125 ≤ k ∧ k ≤ 127)
theorem sk_enc {k : Int} : enc 1 (wt k) = sk k := by unfold enc wt sk; split <;> simp
theorem okTy_wt {k : Int} (h : wantOk k) (h6 : k ≠ 64) : okTy (wt k) := by
  intro x hx
  unfold wt at hx
  unfold wantOk at h
  split at hx
  · simp at hx
  · simp at hx; omega
theorem fit_encS (t : Ty) (k : Int) (ht : okTy t) (hk : wantOk k) : ((enc 1 t == sk k || enc 1 t == 1) || sk k == 1) = fit t (wt k) := by
  unfold enc fit wt sk
  unfold wantOk at hk
  cases t with
  | none => simp
  | some x =>
    have := ht x rfl
    by_cases hk0 : k = 0
    · simp [hk0]
    · have e1 : (x == 1) = false := by simp; omega
      have e2 : (k == 1) = false := by simp; omega
      simp only [Option.getD_some, if_neg hk0]
      rw [e1, e2]
      simp

theorem orv {t : Ty} {k x : Int} {e : Bool} (h : okTy t) (hx : enc 1 t = x) (he : (x == 1) = e) : enc 1 (t.or (wt k)) = if e then sk k else x := by
  subst he hx
  cases t with
  | none => simp [enc, ← sk_enc]
  | some y =>
    have := h y rfl
    have e1 : (y == 1) = false := by simp; omega
    simp [enc, e1]

set_option maxRecDepth 100000 in
set_option maxHeartbeats 800000 in
theorem takeB (g : Nat) (E : EnvS) (code : Int) (s : St) (k : Int) (vf : Value) (w : World) (h : CS w g E code s vf) (hk : k = 64 ∨ code ≠ 0) :
    Calls Tryz.prog 56 #[.pointer (some ⟨g, 0, none⟩), .int .i64 k] w fun e w' => e = .returned (.int .i64 k) ∧ w' = w := by
  obtain ⟨vs, h0, h1, h2⟩ := h
  have c0 : w.cell? ⟨g, 12, none⟩ = some (.int .i64 code) := (cell_of_block h0 12).trans rfl
  clear h0 h1 h2
  by_cases h6 : k = 64
  · subst h6
    clear hk
    go_enter Tryz.func56, Tryz.ntmps56
    go_wp2
    go_ret
    exact ⟨rfl, rfl⟩
  · have h6b : (k == 64) = false := by simpa using h6
    have hcb : (code == 0) = false := by simpa using hk.resolve_left h6
    clear hk h6
    go_enter Tryz.func56, Tryz.ntmps56
    go_wp2
    go_ret
    exact ⟨rfl, rfl⟩

/-- What a take in order gives. -/
def OutTS (w : World) (g : Nat) (E : EnvS) (k : Int) (s : St) (vf : Value) (r : Except Int (Ty × St)) (e : Ending) (w' : World) : Prop :=
  (Below g w w' ∧ Touch g w w') ∧ match r with
    | .ok x => e = .returned (.int .i64 (enc 1 (x.1.or (wt k)))) ∧ CS w' g E 0 x.2 vf
    | .error c => ∃ t s', e = .returned (.int .i64 (enc 1 t)) ∧ okTy t ∧ CS w' g E c s' vf ∧ s'.opn = s.opn ∧ s'.vals.length ≤ s.vals.length

set_option maxRecDepth 100000 in
set_option maxHeartbeats 3200000 in
theorem takeG (g : Nat) (E : EnvS) (s : St) (b : Blk) (r : List Blk) (k : Int) (vf : Value) (w : World) (h : CS w g E 0 s vf) (hs : s.opn = b :: r) (hl : Lim s) (hv : ∀ t ∈ s.vals, okTy t) (hlow : b.h ≤ s.vals.length) (hk : wantOk k) (h6 : k ≠ 64) :
    Calls Tryz.prog 56 #[.pointer (some ⟨g, 0, none⟩), .int .i64 (sk k)] w fun e w' => OutTS w g E k s vf (takeT (wt k) s) e w' := by
  obtain ⟨gf, cf, a, cs, rfl, H⟩ := h.top hs
  have hlt := lt_of_block H.blk
  obtain ⟨m, hm⟩ : ∃ m, r.length = m := ⟨_, rfl⟩
  obtain ⟨n, hn⟩ : ∃ n, s.vals.length = n := ⟨_, rfl⟩
  have hm2 : m ≤ 300 := by have := hl.2; rw [hs, List.length_cons] at this; omega
  have hn2 : n ≤ 300 := by have := hl.1; omega
  have hltF := (show gf < w.heap.size by obtain ⟨cur, hc, _⟩ := own_at H.fr (g := gf) rfl; exact lt_of_block hc)
  have c12 : w.cell? ⟨g, 12, none⟩ = some (.int .i64 0) := (cell_of_block H.blk 12).trans rfl
  have c11 : w.cell? ⟨g, 11, none⟩ = some (.slice (some ⟨gf, 0, none⟩) (m + 1) cf) := by rw [cell_of_block H.blk, ← hm]; rfl
  obtain ⟨⟨y0, y1, y2, y3, y4⟩, _⟩ := H.cells
  rw [hm] at y0 y1 y2 y3 y4
  obtain ⟨o0, ho0⟩ : ∃ x, b.op = x := ⟨_, rfl⟩
  obtain ⟨o1, ho1⟩ : ∃ x, b.kind = x := ⟨_, rfl⟩
  obtain ⟨ht, hht⟩ : ∃ x, b.h = x := ⟨_, rfl⟩
  obtain ⟨dd, hdd⟩ : ∃ x, b.dead = x := ⟨_, rfl⟩
  obtain ⟨sp, hsp⟩ : ∃ x, b.split = x := ⟨_, rfl⟩
  rw [ho0] at y0
  rw [ho1] at y1
  rw [hht] at y2
  rw [hdd] at y3
  rw [hsp] at y4
  have k11 : ∀ w', Keeps w w' → w'.cell? ⟨g, 11, none⟩ = some (.slice (some ⟨gf, 0, none⟩) (m + 1) cf) := fun w' h => h.cell hlt c11
  have z0 : ∀ w', Keeps w w' → w'.cell? ⟨gf, m * 5, none⟩ = some (.int .i64 o0) := fun w' h => h.cell hltF y0
  have z1 : ∀ w', Keeps w w' → w'.cell? ⟨gf, m * 5 + 1, none⟩ = some (.int .i64 o1) := fun w' h => h.cell hltF y1
  have z2 : ∀ w', Keeps w w' → w'.cell? ⟨gf, m * 5 + 2, none⟩ = some (.int .i64 (ht : Int)) := fun w' h => h.cell hltF y2
  have z3 : ∀ w', Keeps w w' → w'.cell? ⟨gf, m * 5 + 3, none⟩ = some (.bool dd) := fun w' h => h.cell hltF y3
  have z4 : ∀ w', Keeps w w' → w'.cell? ⟨gf, m * 5 + 4, none⟩ = some (.bool sp) := fun w' h => h.cell hltF y4
  have HH : Hid (TopS w g E 0 s b r gf cf a cs) := H
  have HM : Hid (r.length = m) := hm
  have HLT : Hid (g < w.heap.size) := hlt
  have HN : Hid (s.vals.length = n ∧ b.h = ht ∧ b.dead = dd ∧ ht ≤ n ∧ n ≤ 300) := ⟨hn, hht, hdd, by omega, hn2⟩
  have hT : takeT (wt k) s = if n ≤ ht then (if dd then .ok (none, s) else .error 2) else match s.vals with
      | [] => .error 2
      | t :: vs => if fit t (wt k) then .ok (t, { s with vals := vs }) else .error 3 := by rw [← hn, ← hht, ← hdd]; unfold takeT; rw [hs]; rfl
  have HT : Hid (takeT (wt k) s = if n ≤ ht then (if dd then .ok (none, s) else .error 2) else match s.vals with
      | [] => .error 2
      | t :: vs => if fit t (wt k) then .ok (t, { s with vals := vs }) else .error 3) := hT
  have HV : Hid ((∀ t ∈ s.vals, okTy t) ∧ wantOk k ∧ k ≠ 64) := ⟨hv, hk, h6⟩
  obtain ⟨kk, hkk⟩ : ∃ x, sk k = x := ⟨_, rfl⟩
  have hk6 : (kk == 64) = false := by rw [← hkk]; unfold sk; split <;> simp <;> omega
  have HKK : Hid (sk k = kk) := hkk
  rw [hkk]
  have hi1 := i64n m (by omega)
  have hi2 := w64m m (by omega)
  have hjj : (m : Int) < (m : Int) + 1 := by omega
  clear hT H hs hl hv hlow hlt hltF h hm hn hht hdd hsp ho0 ho1 c11 y0 y1 y2 y3 y4 hm2 hn2 hkk hk h6
  go_enter Tryz.func56, Tryz.ntmps56
  go_wp2_with fail
  clear c12
  refine region_m (C := KeepsM w (.cells #[.int .i64 0, .int .i64 0, .int .i64 0, .bool false, .bool false] 99)) 13 12 (by kernel_rfl) (by kernel_rfl) (KeepsM.start w _) ?_
  simp only [List.take_succ_cons, List.take_zero, List.drop_succ_cons, List.drop_zero]
  (iterate 12
    (apply wm_go _ (by omega) (by rfl)
     · intro M wq hq
       have hx := hq.keeps
       go_simp
       exact uponF_value hq rfl
     simp only [Act.put, List.setIfInBounds_toArray, List.set_cons_succ, List.set_cons_zero]))
  refine wm_make (by omega) (by rfl) (fun M wq hq => ⟨wq.heap.size, ?_⟩) (fun b9 => ?_)
  · go_simp
    exact uponF_value (hq.make 12) rfl
  simp only [Act.put, List.setIfInBounds_toArray, List.set_cons_succ, List.set_cons_zero, ptrTo]
  refine wm_nil ?_
  intro w2 hkp
  obtain ⟨u1, u2, u3⟩ := hkp.made 12 b9 (by simp [updM])
  have q0 : w2.cell? ⟨b9, 0, none⟩ = some (.int .i64 0) := by simp [World.cell?, u3]
  have q1 : w2.cell? ⟨b9, 1, none⟩ = some (.int .i64 0) := by simp [World.cell?, u3]
  have q2 : w2.cell? ⟨b9, 2, none⟩ = some (.int .i64 0) := by simp [World.cell?, u3]
  have q3 : w2.cell? ⟨b9, 3, none⟩ = some (.bool false) := by simp [World.cell?, u3]
  have q4 : w2.cell? ⟨b9, 4, none⟩ = some (.bool false) := by simp [World.cell?, u3]
  have fz : ∀ j, w2.frozen? ⟨b9, j, none⟩ = false := fun j => by simp [World.frozen?, u3]
  obtain ⟨W, hW⟩ : ∃ W, ((((w2.setCell ⟨b9, 0, none⟩ (.int .i64 o0)).setCell ⟨b9, 1, none⟩ (.int .i64 o1)).setCell ⟨b9, 2, none⟩ (.int .i64 (ht : Int))).setCell ⟨b9, 3, none⟩ (.bool dd)).setCell ⟨b9, 4, none⟩ (.bool sp) = W := ⟨_, rfl⟩
  have hbW : Below w.heap.size w W := by rw [← hW]; exact ((((hkp.keeps.below.setCell u1 _).setCell u1 _).setCell u1 _).setCell u1 _).setCell u1 _
  have hWb : W.heap[b9]? = some (.cells #[.int .i64 o0, .int .i64 o1, .int .i64 (ht : Int), .bool dd, .bool sp] 99 (0, 0)) := by
    rw [← hW]
    have e1 := heap_setCell_same _ _ 0 _ _ (.int .i64 o0) u3
    have e2 := heap_setCell_same _ _ 1 _ _ (.int .i64 o1) e1
    have e3 := heap_setCell_same _ _ 2 _ _ (.int .i64 (ht : Int)) e2
    have e4 := heap_setCell_same _ _ 3 _ _ (.bool dd) e3
    exact heap_setCell_same _ _ 4 _ _ (.bool sp) e4
  have HW : Hid (((((w2.setCell ⟨b9, 0, none⟩ (.int .i64 o0)).setCell ⟨b9, 1, none⟩ (.int .i64 o1)).setCell ⟨b9, 2, none⟩ (.int .i64 (ht : Int))).setCell ⟨b9, 3, none⟩ (.bool dd)).setCell ⟨b9, 4, none⟩ (.bool sp) = W) := hW
  have HTW : Hid (TopS W g E 0 s b r gf cf a cs) := HH.out.keep hbW
  have HBW : Hid (Below w.heap.size w W) := hbW
  have HWb : Hid (W.heap[b9]? = some (.cells #[.int .i64 o0, .int .i64 o1, .int .i64 (ht : Int), .bool dd, .bool sp] 99 (0, 0))) := hWb
  clear hkp u1 u2 u3 k11 z0 z1 z2 z3 z4 hW hbW hWb hi1 hi2 hjj
  go_wp2_with fail
  rw [HW.out]
  clear q0 q1 q2 q3 q4 fz HW
  have hltW := lt_of_block HTW.out.blk
  have hltB := lt_of_block HWb.out
  have k10 : ∀ w', Keeps W w' → w'.cell? ⟨g, 10, none⟩ = some (.slice a n cs) := fun w' h => h.cell hltW (by rw [cell_of_block HTW.out.blk, ← HN.out.1]; rfl)
  have kb2 : ∀ w', Keeps W w' → w'.cell? ⟨b9, 2, none⟩ = some (.int .i64 (ht : Int)) := fun w' h => h.cell hltB ((cell_of_block HWb.out 2).trans rfl)
  have kb3 : ∀ w', Keeps W w' → w'.cell? ⟨b9, 3, none⟩ = some (.bool dd) := fun w' h => h.cell hltB ((cell_of_block HWb.out 3).trans rfl)
  refine region_q (C := Keeps W) (by kernel_rfl) (by kernel_rfl) (Keeps.drew W) ?_
  (iterate 8
    (apply wpQuiet_go _ (by rfl)
     · intro wq hq
       go_simp
       first
         | exact rfl
     simp only [Act.put, List.setIfInBounds_toArray, List.set_cons_succ, List.set_cons_zero]))
  refine wpQuiet_nil ?_
  intro wz hk
  have d3 := kb3 _ hk
  have HTz : Hid (TopS wz g E 0 s b r gf cf a cs) := HTW.out.keep hk.below
  have HBz : Hid (Below w.heap.size w wz) := bel_step HBW.out hk.below
  clear k10 kb2 kb3 hk hltW hltB
  by_cases hlow : n ≤ ht
  · obtain rfl : n = ht := by have := HN.out.2.2.2.1; omega
    have hT : takeT (wt k) s = if dd then .ok (none, s) else .error 2 := by rw [HT.out, if_pos (Nat.le_refl _)]
    have HT2 : Hid (takeT (wt k) s = if dd then .ok (none, s) else .error 2) := hT
    have HCz : Hid (CS wz g E 0 s (.slice (some ⟨gf, 0, none⟩) (r.length + 1) cf)) := HTz.out.ci
    have BD := badS g E 0 s 2 _ wz HCz.out
    have heq : ((n : Int) == (n : Int)) = true := by simp
    clear hT hlow HT
    rw [heq]
    clear heq
    cases dd
    · go_wp2_with fail
      refine BD.mono ?_
      rintro e w3 ⟨rfl, hci, hb3, ht3⟩
      have HC3 : Hid (CS w3 g E 2 s (.slice (some ⟨gf, 0, none⟩) (r.length + 1) cf)) := hci
      have HB3 : Hid (Below g w w3 ∧ Touch g w w3) := ⟨(HBz.out.mono (Nat.le_of_lt HLT.out)).trans hb3, (touch_below HBz.out).trans ht3⟩
      clear BD hci hb3 ht3
      go_wp2
      go_ret
      exact ⟨HB3.out, by rw [HT2.out]; exact ⟨wt k, s, by rw [sk_enc, HKK.out]; rfl, okTy_wt HV.out.2.1 HV.out.2.2, HC3.out, rfl, Nat.le_refl _⟩⟩
    · clear BD
      go_wp2
      go_ret
      exact ⟨⟨HBz.out.mono (Nat.le_of_lt HLT.out), touch_below HBz.out⟩, by rw [HT2.out]; exact ⟨by rw [← HKK.out, ← sk_enc]; rfl, HCz.out⟩⟩
  · have heq : ((n : Int) == (ht : Int)) = false := by simp; omega
    rw [heq]
    obtain ⟨t, vs, hvs⟩ : ∃ t vs, s.vals = t :: vs := by
      cases h0 : s.vals with
      | nil => have h := HN.out.1; rw [h0] at h; simp at h; omega
      | cons t vs => exact ⟨t, vs, rfl⟩
    have hT := HT.out
    rw [if_neg hlow, hvs] at hT
    simp only at hT
    obtain ⟨q, hq⟩ : ∃ q, vs.length = q := ⟨_, rfl⟩
    have hnq : n = q + 1 := by have h := HN.out.1; rw [hvs, List.length_cons] at h; omega
    have hok : okTy t := HV.out.1 t (by rw [hvs]; exact List.mem_cons_self ..)
    have hfit := fit_encS t k hok HV.out.2.1
    rw [HKK.out] at hfit
    obtain ⟨x, hx⟩ : ∃ x, enc 1 t = x := ⟨_, rfl⟩
    rw [hx] at hfit
    have HT2 : Hid (takeT (wt k) s = if ((x == kk || x == 1) || kk == 1) then .ok (t, { s with vals := vs }) else .error 3) := by unfold Hid; rw [hfit]; exact hT
    have HVS : Hid (s.vals = t :: vs ∧ vs.length = q ∧ enc 1 t = x ∧ okTy t) := ⟨hvs, hq, hx, hok⟩
    have hst := HTz.out.st
    have hblk := HTz.out.blk
    have hsl : s.vals.length = q + 1 := by rw [hvs, List.length_cons, hq]
    rw [hsl] at hst hblk
    obtain ⟨gs, cs', hae, hcs⟩ := own_pos hst (by omega)
    simp only [Value.slice.injEq, true_and] at hae
    obtain ⟨rfl, rfl⟩ := hae
    have hgsl := (show gs < wz.heap.size by obtain ⟨cur, hc, _⟩ := own_at hst (g := gs) rfl; exact lt_of_block hc)
    have hglt := lt_of_block hblk
    have j10 : ∀ w', Keeps wz w' → w'.cell? ⟨g, 10, none⟩ = some (.slice (some ⟨gs, 0, none⟩) (q + 1) cs) := fun w' h => h.cell hglt ((cell_of_block hblk 10).trans rfl)
    have j10f : ∀ w', Keeps wz w' → w'.frozen? ⟨g, 10, none⟩ = false := fun w' h => h.frozen hglt (free_of_block hblk 10)
    have jx : ∀ w', Keeps wz w' → w'.cell? ⟨gs, q, none⟩ = some (.int .i64 x) := fun w' h => h.cell hgsl ((own_cell hst (by rw [hvs, ← hq, ivs_last, hx])).1)
    have hq2 : q ≤ 300 := by have := HN.out.2.2.2.2; omega
    have hqq : (q : Int) < (q : Int) + 1 := by omega
    have hqc : (q : Int) ≤ cs := by omega
    have HQ2 : Hid (n = q + 1 ∧ q ≤ 300 ∧ q + 1 ≤ cs) := ⟨hnq, hq2, hcs⟩
    have hq3 : q ≤ 400 := by omega
    have hi3 := i64n q hq3
    have hi4 := w64m q hq3
    have HG : Hid (g < wz.heap.size) := hglt
    clear hT hvs hq hnq hok hfit hx hst hblk hsl hgsl hglt hq2 hq3 hcs heq hlow HT d3
    go_wp2_with fail
    refine region_q (C := Keeps wz) (by kernel_rfl) (by kernel_rfl) (Keeps.drew wz) ?_
    (iterate 13
    (apply wpQuiet_go _ (by rfl)
     · intro wq hq
       go_simp
       first
         | exact rfl
     simp only [Act.put, List.setIfInBounds_toArray, List.set_cons_succ, List.set_cons_zero]))
    refine wpQuiet_nil ?_
    intro wy hk
    have HKy : Hid (Keeps wz wy) := hk
    have m10 : ∀ w', Keeps wy w' → w'.cell? ⟨g, 10, none⟩ = some (.slice (some ⟨gs, 0, none⟩) (q + 1) cs) := fun w' h => j10 _ (HKy.out.step h.below)
    have m10f : ∀ w', Keeps wy w' → w'.frozen? ⟨g, 10, none⟩ = false := fun w' h => j10f _ (HKy.out.step h.below)
    clear hk j10 j10f jx
    go_wp2_with fail
    refine region_qtail (C := Keeps wy) 14 (by kernel_rfl) (by kernel_rfl) (Keeps.drew wy) ?_
    (iterate 14
    (apply wpQuiet_go _ (by rfl)
     · intro wq hq
       go_simp
       first
         | exact rfl
     simp only [Act.put, List.setIfInBounds_toArray, List.set_cons_succ, List.set_cons_zero]))
    refine wpQuiet_nil ?_
    intro wx hk
    clear hi3 hi4 hqq hqc
    have cz := m10 _ hk
    have fz := m10f _ hk
    have hzx : Below wz.heap.size wz wx := bel_step HKy.out.below hk.below
    have HBx : Hid (Below w.heap.size w wx) := bel_step HBz.out hzx
    have HC : Hid (CS (wx.setCell ⟨g, 10, none⟩ (.slice (some ⟨gs, 0, none⟩) q cs)) g E 0 { s with vals := vs } (.slice (some ⟨gf, 0, none⟩) (r.length + 1) cf)) := by
      have H1 := HTz.out.keep hzx
      unfold Hid CS
      simp only
      rw [H1.ge]
      have hst := H1.st
      have hblk := H1.blk
      have hsl : s.vals.length = q + 1 := by rw [HVS.out.1, List.length_cons, HVS.out.2.1]
      rw [hsl] at hst hblk
      refine ck_set hblk (mk' := mkS E 0 s.most) (vf' := .slice (some ⟨gf, 0, none⟩) (r.length + 1) cf) (vs' := .slice (some ⟨gs, 0, none⟩) q cs) 10 _ rfl ?_ H1.fr
      have h2 := own_cut hst q (by omega)
      rw [Nat.mul_one, ivs_take, HVS.out.1, List.length_cons, HVS.out.2.1, show q + 1 - q = 1 by omega] at h2
      rw [ivs_len, HVS.out.2.1]
      exact h2
    have HB : Hid (Below g w (wx.setCell ⟨g, 10, none⟩ (.slice (some ⟨gs, 0, none⟩) q cs)) ∧ Touch g w (wx.setCell ⟨g, 10, none⟩ (.slice (some ⟨gs, 0, none⟩) q cs))) := ⟨(HBx.out.mono (Nat.le_of_lt HLT.out)).setCell (Nat.le_refl _) _, (touch_below HBx.out).set _ _⟩
    have BD := badS g E 0 { s with vals := vs } 3 _ _ HC.out
    clear hk m10 m10f hzx
    obtain ⟨W3, hW3⟩ : ∃ W3, wx.setCell ⟨g, 10, none⟩ (.slice (some ⟨gs, 0, none⟩) q cs) = W3 := ⟨_, rfl⟩
    rw [hW3] at HC HB BD
    have HW3 : Hid (wx.setCell ⟨g, 10, none⟩ (.slice (some ⟨gs, 0, none⟩) q cs) = W3) := hW3
    clear hW3
    have hle : vs.length ≤ s.vals.length := by rw [HVS.out.1, List.length_cons]; omega
    have HLE : Hid (vs.length ≤ s.vals.length) := hle
    clear hle
    have HOR : Hid (enc 1 (t.or (wt k)) = if (x == 1) then sk k else x) := orv HVS.out.2.2.2 HVS.out.2.2.1 rfl
    by_cases h1 : x = 1
    · subst h1
      have HT3 : Hid (takeT (wt k) s = .ok (t, { s with vals := vs })) := by unfold Hid; rw [HT2.out]; simp
      have HO3 : Hid (enc 1 (t.or (wt k)) = kk) := by unfold Hid; rw [HOR.out, HKK.out]; simp
      clear BD HT2 HOR
      by_cases h2 : kk = 1
      · subst h2
        go_wp2
        rw [HW3.out]
        go_ret
        exact ⟨HB.out, by rw [HT3.out]; exact ⟨by rw [HO3.out]; rfl, HC.out⟩⟩
      · have h3 : ¬ (1 : Int) = kk := fun e => h2 e.symm
        go_wp2
        rw [HW3.out]
        go_ret
        exact ⟨HB.out, by rw [HT3.out]; exact ⟨by rw [HO3.out]; rfl, HC.out⟩⟩
    · have HO3 : Hid (enc 1 (t.or (wt k)) = x) := by unfold Hid; rw [HOR.out]; simp [h1]
      by_cases h2 : x = kk
      · subst h2
        have HT3 : Hid (takeT (wt k) s = .ok (t, { s with vals := vs })) := by unfold Hid; rw [HT2.out]; simp
        clear BD HT2 HOR
        go_wp2
        rw [HW3.out]
        go_ret
        exact ⟨HB.out, by rw [HT3.out]; exact ⟨by rw [HO3.out]; rfl, HC.out⟩⟩
      · by_cases h3 : kk = 1
        · subst h3
          have HT3 : Hid (takeT (wt k) s = .ok (t, { s with vals := vs })) := by unfold Hid; rw [HT2.out]; simp
          clear BD HT2 HOR
          go_wp2
          rw [HW3.out]
          go_ret
          exact ⟨HB.out, by rw [HT3.out]; exact ⟨by rw [HO3.out]; rfl, HC.out⟩⟩
        · have HT3 : Hid (takeT (wt k) s = .error 3) := by unfold Hid; rw [HT2.out]; simp [h1, h2, h3]
          have hb1 : (x != kk) = true := by simpa using h2
          have hb2 : (x != 1) = true := by simpa using h1
          have hb3 : (kk != 1) = true := by simpa using h3
          have hb4 : (x == 1) = false := by simpa using h1
          clear HT2 HOR h1 h2 h3
          go_wp2_with fail
          rw [HW3.out]
          clear hb1 hb2 hb3
          refine BD.mono ?_
          rintro e w3 ⟨rfl, hci, hb3, ht3⟩
          have HC3 : Hid (CS w3 g E 3 { s with vals := vs } (.slice (some ⟨gf, 0, none⟩) (r.length + 1) cf)) := hci
          have HB3 : Hid (Below g w w3 ∧ Touch g w w3) := ⟨HB.out.1.trans hb3, HB.out.2.trans ht3⟩
          clear BD hci hb3 ht3
          go_wp2
          go_ret
          exact ⟨HB3.out, by rw [HT3.out]; exact ⟨t, _, by rw [HVS.out.2.2.1]; rfl, HVS.out.2.2.2, HC3.out, rfl, HLE.out⟩⟩

end Go.Proofs.YtcgnefgdfgikdaaGreat

namespace Go.Proofs.YtcgnefgdfgikdaaGreat
open Go.ChangeShapes Go.WideShapes Go.ChangeAt Go.RowKit

theorem Tryz.infoFs : (Tryz.prog.info? 99).map (fun i => (i.zero, i.size, i.bytes)) = some (some (.agg #[.int .i64 0, .int .i64 0, .int .i64 0, .bool false, .bool false]), 5, 32) := by kernel_rfl

set_option maxRecDepth 100000 in
set_option maxHeartbeats 3200000 in
theorem beginSp (g : Nat) (E : EnvS) (code : Int) (s : St) (op kd : Int) (vf : Value) (w : World) (h : CS w g E code s vf) (hl : Lim s) :
    Calls Tryz.prog 34 #[.pointer (some ⟨g, 0, none⟩), .int .i64 op, .int .i64 kd] w fun e w' => e = .returned (.tuple #[]) ∧ (∃ vf', CS w' g E code (beginS op kd s) vf') ∧ Below g w w' := by
  obtain ⟨i0, i0i, i00, i01, i02⟩ := info_parts Tryz.infoFs
  obtain ⟨vs, h0, h1, h2⟩ := h
  rw [ivs_len] at h1
  obtain ⟨a, cs, rfl, _⟩ := own_shape h1
  obtain ⟨n, hn⟩ : ∃ n, s.opn.length = n := ⟨_, rfl⟩
  obtain ⟨k, hk⟩ : ∃ k, s.vals.length = k := ⟨_, rfl⟩
  rw [hn] at h2
  rw [hk] at h0 h1
  have hn2 : n ≤ 300 := by have := hl.2; omega
  have hlt := lt_of_block h0
  have H0 : Hid (w.heap[g]? = some (.cells (mkS E code s.most vf (.slice a k cs)) 77 (0, 0))) := h0
  have H1 : Hid (w.ownsRow (g + 1) 3 1 (.slice a k cs) k (ivs 1 s.vals)) := h1
  have H2 : Hid (w.ownsRow (g + 1) 99 5 vf n (fvS s.opn)) := h2
  have HK : Hid (s.vals.length = k ∧ s.opn.length = n ∧ n ≤ 300 ∧ g < w.heap.size) := ⟨hk, hn, hn2, hlt⟩
  clear h0 h1 h2 hl hn hk hn2 hlt
  go_enter Tryz.func34, Tryz.ntmps34
  go_wp2_with fail
  refine wa_begin (by kernel_rfl) ?_
  refine wa_take 0 (some 6) (.pointer (some ⟨g, 0, none⟩)) rfl rfl (by kernel_rfl) (by kernel_rfl) (by kernel_rfl) (fun _ _ _ h => h) (by rfl) (fun _ => by rfl) ?_
  simp only [Act.put, List.setIfInBounds_toArray, List.set_cons_zero, List.set_cons_succ]
  refine wa_take 1 (some 7) (.pointer (some ⟨g, 0, none⟩)) rfl rfl (by kernel_rfl) (by kernel_rfl) (by kernel_rfl) (fun _ _ _ h => h) (by rfl) (fun _ => by rfl) ?_
  simp only [Act.put, List.setIfInBounds_toArray, List.set_cons_zero, List.set_cons_succ]
  refine wa_take 2 (some 8) (.pointer (some ⟨g, 0, none⟩)) rfl rfl (by kernel_rfl) (by kernel_rfl) (by kernel_rfl) (fun _ _ _ h => h) (by rfl) (fun _ => by rfl) ?_
  simp only [Act.put, List.setIfInBounds_toArray, List.set_cons_zero, List.set_cons_succ]
  refine wa_take 3 (some 9) (.pointer (some ⟨g, 11, none⟩)) rfl rfl (by kernel_rfl) (by kernel_rfl) (by kernel_rfl) (fun _ _ _ h => h) (by rfl) (fun _ => by kernel_rfl) ?_
  simp only [Act.put, List.setIfInBounds_toArray, List.set_cons_zero, List.set_cons_succ]
  refine wa_take 5 (some 11) (.int .i64 op) rfl rfl (by kernel_rfl) (by kernel_rfl) (by kernel_rfl) (fun _ _ _ h => h) (by rfl) (fun _ => by rfl) ?_
  simp only [Act.put, List.setIfInBounds_toArray, List.set_cons_zero, List.set_cons_succ]
  refine wa_take 6 (some 12) (.int .i64 kd) rfl rfl (by kernel_rfl) (by kernel_rfl) (by kernel_rfl) (fun _ _ _ h => h) (by rfl) (fun _ => by rfl) ?_
  simp only [Act.put, List.setIfInBounds_toArray, List.set_cons_zero, List.set_cons_succ]
  refine wa_take 7 (some 13) (.pointer (some ⟨g, 0, none⟩)) rfl rfl (by kernel_rfl) (by kernel_rfl) (by kernel_rfl) (fun _ _ _ h => h) (by rfl) (fun _ => by rfl) ?_
  simp only [Act.put, List.setIfInBounds_toArray, List.set_cons_zero, List.set_cons_succ]
  refine wa_take 8 (some 14) (.pointer (some ⟨g, 0, none⟩)) rfl rfl (by kernel_rfl) (by kernel_rfl) (by kernel_rfl) (fun _ _ _ h => h) (by rfl) (fun _ => by rfl) ?_
  simp only [Act.put, List.setIfInBounds_toArray, List.set_cons_zero, List.set_cons_succ]
  refine wa_take 9 (some 15) (.pointer (some ⟨g, 10, none⟩)) rfl rfl (by kernel_rfl) (by kernel_rfl) (by kernel_rfl) (fun _ _ _ h => h) (by rfl) (fun _ => by kernel_rfl) ?_
  simp only [Act.put, List.setIfInBounds_toArray, List.set_cons_zero, List.set_cons_succ]
  have c9 : w.drew.cell? ⟨g, 11, none⟩ = some vf := (cell_of_block H0.out 11).trans rfl
  have c10 : w.drew.cell? ⟨g, 10, none⟩ = some (.slice a k cs) := (cell_of_block H0.out 10).trans rfl
  obtain ⟨av, cv, hvf, _⟩ := own_shape H2.out
  subst hvf
  refine wa_first 4 (some 10) (.slice av n cv) (fun w' => w'.cell? ⟨g, 11, none⟩ = some (.slice av n cv)) rfl rfl (by kernel_rfl) (by kernel_rfl) (by kernel_rfl) (fun _ _ _ h => h) (by rfl) (fun w' hS => ?_) c9 ?_
  · go_simp
  simp only [Act.put, List.setIfInBounds_toArray, List.set_cons_zero, List.set_cons_succ]
  refine wb_val 10 (some 16) (.slice a k cs) w.drew (by kernel_rfl) (by kernel_rfl) rfl rfl (by rfl) (by go_simp) c9 ?_
  simp only [Act.put, List.setIfInBounds_toArray, List.set_cons_zero, List.set_cons_succ]
  refine wb_val 11 (some 17) (.int .i64 (k : Int)) w.drew (by kernel_rfl) (by kernel_rfl) rfl rfl (by rfl) (by go_simp) c9 ?_
  simp only [Act.put, List.setIfInBounds_toArray, List.set_cons_zero, List.set_cons_succ]
  refine wb_val 12 (some 18) (.agg #[.int .i64 op, .int .i64 kd, .int .i64 (k : Int), .bool false, .bool false]) w.drew (by kernel_rfl) (by kernel_rfl) rfl rfl (by rfl) (by go_simp) c9 ?_
  simp only [Act.put, List.setIfInBounds_toArray, List.set_cons_zero, List.set_cons_succ]
  refine wb_val 13 (some 19) (.slice (some ⟨w.heap.size, 0, none⟩) 1 1) (w.drew.alloc (.cells #[.int .i64 op, .int .i64 kd, .int .i64 (k : Int), .bool false, .bool false] 99)) (by kernel_rfl) (by kernel_rfl) rfl rfl (by rfl) (by go_simp) ?_ ?_
  · exact pastCell (w := w.drew) (show g < w.drew.heap.size from HK.out.2.2.2) c9
  simp only [Act.put, List.setIfInBounds_toArray, List.set_cons_zero, List.set_cons_succ]
  refine wb_wp 14 (by kernel_rfl) (by kernel_rfl) rfl (by rfl) ?_
  have hb0 : Below w.heap.size w w.drew := (Below.refl _ _).drew
  have hown0 : (w.drew.alloc (.cells #[.int .i64 op, .int .i64 kd, .int .i64 (k : Int), .bool false, .bool false] 99)).ownsRow (g + 1) 99 5 (.slice av n cv) n (fvS s.opn) := (own_kept H2.out hb0).alloc _
  refine wp_append_lies _ (.tmp 10) (.tmp 19) 75 rfl (g + 1) 99 i0 (.agg #[.int .i64 0, .int .i64 0, .int .i64 0, .bool false, .bool false]) 5 32 Tryz.underlying75 i0i i00 i01 i02 rfl (by decide) (.slice av n cv) n (fvS s.opn) rfl hown0 ⟨w.heap.size, 0, none⟩ 1 1 [.int .i64 op, .int .i64 kd, .int .i64 (k : Int), .bool false, .bool false] rfl rfl (row_new' w.drew #[.int .i64 op, .int .i64 kd, .int .i64 (k : Int), .bool false, .bool false] 99 w.heap.size rfl) (by intro u hu; simp at hu; rcases hu with rfl | rfl | rfl | rfl | rfl <;> rfl) (by decide) (by have := HK.out.2.2.1; unfold maxLen; omega) (by have := HK.out.2.2.1; omega) (by have := HK.out.2.2.2; simp; omega) (w.heap.size + 1) (by simp) ?_
  intro gf cf w1 hown hgrow hlie hlt1
  simp only [Act.put, List.setIfInBounds_toArray]
  have hA0 : (w.drew.alloc (.cells #[.int .i64 op, .int .i64 kd, .int .i64 (k : Int), .bool false, .bool false] 99)).heap[g]? = some (.cells (mkS E code s.most (.slice av n cv) (.slice a k cs)) 77 (0, 0)) := (Below.heap_alloc w.drew _ g HK.out.2.2.2).trans H0.out
  have hg1 := grow_block hown0 hgrow hA0
  have hs1 := grow_keeps hown0 hgrow ((own_kept H1.out hb0).alloc _) (by decide)
  have hb1 : Below g w w1 := grow_below hown0 hgrow ((Below.refl _ _).drew.alloc (Nat.le_of_lt HK.out.2.2.2) _) (Nat.le_refl _) (by simp; have := HK.out.2.2.2; omega)
  refine wa_take 15 (some 21) (.pointer (some ⟨g, 0, none⟩)) rfl rfl (by kernel_rfl) (by kernel_rfl) (by kernel_rfl) (fun _ _ _ h => h) (by rfl) (fun _ => by rfl) ?_
  simp only [Act.put]
  refine wa_take 16 (some 22) (.pointer (some ⟨g, 11, none⟩)) rfl rfl (by kernel_rfl) (by kernel_rfl) (by kernel_rfl) (fun _ _ _ h => h) (by rfl) (fun _ => by kernel_rfl) ?_
  simp only [Act.put]
  have e9 : w1.cell? ⟨g, 11, none⟩ = some (.slice av n cv) := (cell_of_block hg1 11).trans rfl
  have f9 : w1.frozen? ⟨g, 11, none⟩ = false := free_of_block hg1 11
  refine wa_store 17 none (w1.setCell ⟨g, 11, none⟩ (.slice (some ⟨gf, 0, none⟩) (n + 1) cf)) (by kernel_rfl) rfl rfl (by rfl) (by go_simp) ?_
  refine wa_done (by kernel_rfl) ?_
  simp only [Act.put]
  have HE : CS (w1.setCell ⟨g, 11, none⟩ (.slice (some ⟨gf, 0, none⟩) (n + 1) cf)) g E code (beginS op kd s) (.slice (some ⟨gf, 0, none⟩) (n + 1) cf) := by
    unfold CS beginS
    simp only
    refine ck_set hg1 (mk' := mkS E code s.most) (vf' := .slice (some ⟨gf, 0, none⟩) (n + 1) cf) (vs' := .slice a k cs) 11 _ rfl ?_ ?_
    · rw [ivs_len, HK.out.1]; exact hs1
    · rw [List.length_cons, HK.out.2.1, fvS_cons]
      have e : fv5 ⟨op, kd, s.vals.length, false, false⟩ = [.int .i64 op, .int .i64 kd, .int .i64 (k : Int), .bool false, .bool false] := by unfold fv5; simp [HK.out.1]
      rw [e]
      exact hown
  have HB : Below g w (w1.setCell ⟨g, 11, none⟩ (.slice (some ⟨gf, 0, none⟩) (n + 1) cf)) := hb1.setCell (Nat.le_refl _) _
  go_end0
  exact ⟨rfl, ⟨_, HE⟩, HB⟩

end Go.Proofs.YtcgnefgdfgikdaaGreat

namespace Go.Proofs.YtcgnefgdfgikdaaGreat
open Go.ChangeShapes Go.WideShapes Go.ChangeAt Go.RowKit

structure Good (s : St) : Prop where
  top : ∃ b r, s.opn = b :: r ∧ b.h ≤ s.vals.length
  vals : ∀ t ∈ s.vals, okTy t
structure Bnd (s : St) (N : Nat) : Prop where
  nv : s.vals.length ≤ N
  no : s.opn.length ≤ 250
  ne : s.opn ≠ []
/-- The check in memory: in order, or with the code that the plain way gives up with. -/
def Md (w : World) (g : Nat) (E : EnvS) (N : Nat) : Except Int St → Prop
  | .ok s => (∃ vf, CS w g E 0 s vf) ∧ Good s ∧ Bnd s N
  | .error c => c ≠ 0 ∧ ∃ s vf, CS w g E c s vf ∧ Bnd s N
theorem Md.keep {w w' : World} {g : Nat} {E : EnvS} {N : Nat} {r : Except Int St} (h : Md w g E N r) (hb : Below w.heap.size w w') : Md w' g E N r := by
  cases r with
  | ok s => obtain ⟨⟨vf, hc⟩, h1, h2⟩ := h; exact ⟨⟨vf, hc.keep hb⟩, h1, h2⟩
  | error c => obtain ⟨h0, s, vf, hc, h1⟩ := h; exact ⟨h0, s, vf, hc.keep hb, h1⟩
theorem Md.lt {w : World} {g : Nat} {E : EnvS} {N : Nat} {r : Except Int St} (h : Md w g E N r) : g < w.heap.size := by
  cases r with
  | ok s => obtain ⟨⟨vf, hc⟩, h1, h2⟩ := h; exact hc.lt
  | error c => obtain ⟨h0, s, vf, hc, h1⟩ := h; exact hc.lt
theorem takeT_err {t : Ty} {s : St} {c : Int} (h : takeT t s = .error c) : c = 2 ∨ c = 3 := by
  unfold takeT at h
  split at h
  · simp at h; omega
  · split at h
    · split at h
      · simp at h
      · simp at h; omega
    · split at h
      · simp at h; omega
      · split at h
        · simp at h
        · simp at h; omega

def OutTM (w : World) (g : Nat) (E : EnvS) (N : Nat) (k : Int) (r : Except Int St) (e : Ending) (w' : World) : Prop :=
  (Below g w w' ∧ Touch g w w') ∧ Md w' g E N (r.bind (takeI k)) ∧ ∃ v, e = .returned (.int .i64 v) ∧ (k ≠ 64 → ∃ t, okTy t ∧ v = enc 1 t ∧ ∀ s x, r = .ok s → takeT (wt k) s = .ok x → t = x.1.or (wt k))
theorem takeM (g : Nat) (E : EnvS) (N : Nat) (k : Int) (r : Except Int St) (w : World) (h : Md w g E N r) (hk : wantOk k) (hN : N ≤ 300) :
    Calls Tryz.prog 56 #[.pointer (some ⟨g, 0, none⟩), .int .i64 (sk k)] w fun e w' => OutTM w g E N k r e w' := by
  cases r with
  | error c =>
    obtain ⟨h0, s, vf, hc, hb⟩ := h
    refine (takeB g E c s (sk k) vf w hc (.inr h0)).mono ?_
    rintro e w' ⟨rfl, rfl⟩
    exact ⟨⟨Below.refl _ _, touch_below (Below.refl _ _)⟩, ⟨h0, s, vf, hc, hb⟩, sk k, rfl, fun h6 => ⟨wt k, okTy_wt hk h6, sk_enc.symm, fun _ _ h => by simp at h⟩⟩
  | ok s =>
    obtain ⟨⟨vf, hc⟩, hg, hb⟩ := h
    by_cases h6 : k = 64
    · subst h6
      refine (takeB g E 0 s 64 vf w hc (.inl rfl)).mono ?_
      rintro e w' ⟨rfl, rfl⟩
      exact ⟨⟨Below.refl _ _, touch_below (Below.refl _ _)⟩, ⟨⟨vf, hc⟩, hg, hb⟩, 64, rfl, fun h => absurd rfl h⟩
    · obtain ⟨b, r, hs, hl⟩ := hg.top
      refine (takeG g E s b r k vf w hc hs ⟨by have := hb.nv; omega, by have := hb.no; omega⟩ hg.vals hl hk h6).mono ?_
      rintro e w' ⟨hbt, ho⟩
      have hTI : takeI k s = (takeT (wt k) s).map (·.2) := by unfold takeI; rw [if_neg h6]
      rcases hr : takeT (wt k) s with c | x
      · rw [hr] at ho
        obtain ⟨t, s', rfl, hok, hci, ho1, hl1⟩ := ho
        refine ⟨hbt, ?_, _, rfl, fun _ => ⟨t, hok, rfl, fun s2 x h1 h2 => ?_⟩⟩
        · show Md w' g E N (takeI k s)
          rw [hTI, hr]
          exact ⟨by rcases takeT_err hr with rfl | rfl <;> decide, s', vf, hci, by have := hb.nv; omega, by rw [ho1]; exact hb.no, by rw [ho1]; exact hb.ne⟩
        · simp only [Except.ok.injEq] at h1; subst h1; rw [hr] at h2; simp at h2
      · rw [hr] at ho
        obtain ⟨rfl, hci⟩ := ho
        obtain ⟨q1, q2, q3, q4⟩ := takeT_opn hr
        obtain ⟨q5, q6⟩ := q4 hg.vals
        have htk : takeI k s = .ok x.2 := by rw [hTI, hr]; rfl
        refine ⟨hbt, ?_, _, rfl, fun _ => ⟨_, ?_, rfl, fun s2 y h1 h2 => ?_⟩⟩
        · show Md w' g E N (takeI k s)
          rw [htk]
          exact ⟨⟨vf, hci⟩, ⟨⟨b, r, q1.trans hs, takeI_low htk hs hl⟩, q6⟩, by have := hb.nv; omega, by rw [q1]; exact hb.no, by rw [q1]; exact hb.ne⟩
        · cases hx1 : x.1 with
          | none => exact okTy_wt hk h6
          | some v => rw [hx1] at q5; exact q5
        · simp only [Except.ok.injEq] at h1; subst h1; rw [hr] at h2; simp only [Except.ok.injEq] at h2; subst h2; rfl

/-- What behind a put holds. -/
def OutPM (w : World) (g : Nat) (E : EnvS) (N : Nat) (r : Except Int St) (e : Ending) (w' : World) : Prop :=
  e = .returned (.tuple #[]) ∧ Md w' g E N r ∧ Below g w w'
theorem good_put {s : St} {t : Ty} (h : Good s) (ht : okTy t) : Good (putT t s) := by
  obtain ⟨⟨b, r, hs, hl⟩, hv⟩ := h
  refine ⟨⟨b, r, hs, by simp [putT]; omega⟩, fun u hu => ?_⟩
  simp only [putT, List.mem_cons] at hu
  rcases hu with rfl | hu
  · exact ht
  · exact hv u hu
theorem bnd_put {s : St} {t : Ty} {N : Nat} (h : Bnd s N) : Bnd (putT t s) (N + 1) := ⟨by have := h.nv; simp [putT]; omega, h.no, h.ne⟩
theorem bnd_up {s : St} {N : Nat} (h : Bnd s N) : Bnd s (N + 1) := ⟨by have := h.nv; omega, h.no, h.ne⟩
theorem enc_ne {t : Ty} (h : okTy t) : (enc 1 t == 64) = false := by
  cases t with
  | none => rfl
  | some x => have := h x rfl; simp [enc]; omega
theorem putMT (g : Nat) (E : EnvS) (N : Nat) (t : Ty) (r : Except Int St) (w : World) (h : Md w g E N r) (ht : okTy t) (hN : N ≤ 300) :
    Calls Tryz.prog 57 #[.pointer (some ⟨g, 0, none⟩), .int .i64 (enc 1 t)] w fun e w' => OutPM w g E (N + 1) (r.map (putT t)) e w' := by
  cases r with
  | error c =>
    obtain ⟨h0, s, vf, hc, hb⟩ := h
    refine (putST g E c s t vf w hc ⟨by have := hb.nv; omega, by have := hb.no; omega⟩ (enc_ne ht)).mono ?_
    rintro e w' ⟨rfl, hci, hbl⟩
    exact ⟨rfl, ⟨h0, _, vf, hci, bnd_put hb⟩, hbl⟩
  | ok s =>
    obtain ⟨⟨vf, hc⟩, hg, hb⟩ := h
    refine (putST g E 0 s t vf w hc ⟨by have := hb.nv; omega, by have := hb.no; omega⟩ (enc_ne ht)).mono ?_
    rintro e w' ⟨rfl, hci, hbl⟩
    exact ⟨rfl, ⟨⟨vf, hci⟩, good_put hg ht, bnd_put hb⟩, hbl⟩

set_option maxRecDepth 100000 in
set_option maxHeartbeats 800000 in
theorem putS64 (g : Nat) (w : World) : Calls Tryz.prog 57 #[.pointer (some ⟨g, 0, none⟩), .int .i64 64] w fun e w' => e = .returned (.tuple #[]) ∧ w' = w := by
  go_enter Tryz.func57, Tryz.ntmps57
  go_wp2
  first
    | go_end0
    | refine bodyPost_ret (results_none rfl _ _ _) rfl ?_
  exact ⟨rfl, rfl⟩
def putKOk (k : Int) : Prop := k = 64 ∨ (125 ≤ k ∧ k ≤ 127)
theorem putM (g : Nat) (E : EnvS) (N : Nat) (k : Int) (r : Except Int St) (w : World) (h : Md w g E N r) (hk : putKOk k) (hN : N ≤ 300) :
    Calls Tryz.prog 57 #[.pointer (some ⟨g, 0, none⟩), .int .i64 k] w fun e w' => OutPM w g E (N + 1) (r.map (putI k)) e w' := by
  by_cases h6 : k = 64
  · subst h6
    refine (putS64 g w).mono ?_
    rintro e w' ⟨rfl, rfl⟩
    refine ⟨rfl, ?_, Below.refl _ _⟩
    cases r with
    | error c => obtain ⟨h0, s, vf, hc, hb⟩ := h; exact ⟨h0, s, vf, hc, bnd_up hb⟩
    | ok s => obtain ⟨hc, hg, hb⟩ := h; exact ⟨hc, hg, bnd_up hb⟩
  · have ht : okTy (some k) := by intro x hx; simp at hx; unfold putKOk at hk; omega
    have e : (fun s => putI k s) = putT (some k) := by funext s; unfold putI; rw [if_neg h6]
    have h2 := putMT g E N (some k) r w h ht hN
    rw [← e] at h2
    exact h2

set_option maxRecDepth 100000 in
set_option maxHeartbeats 1600000 in
theorem dieB (g : Nat) (E : EnvS) (code : Int) (s : St) (vf : Value) (w : World) (h : CS w g E code s vf) (hc : code ≠ 0) :
    Calls Tryz.prog 55 #[.pointer (some ⟨g, 0, none⟩)] w fun e w' => e = .returned (.tuple #[]) ∧ w' = w := by
  obtain ⟨vs, h0, h1, h2⟩ := h
  have c0 : w.cell? ⟨g, 12, none⟩ = some (.int .i64 code) := (cell_of_block h0 12).trans rfl
  have hcb : (code != 0) = true := by simpa using hc
  have hcc : (code == 0) = false := by simpa using hc
  clear h0 h1 h2
  go_enter Tryz.func55, Tryz.ntmps55
  go_wp2
  first
    | go_end0
    | refine bodyPost_ret (results_none rfl _ _ _) rfl ?_
  exact ⟨rfl, rfl⟩

end Go.Proofs.YtcgnefgdfgikdaaGreat

namespace Go.Proofs.YtcgnefgdfgikdaaGreat
open Go.ChangeShapes Go.WideShapes Go.ChangeAt Go.RowKit

set_option maxRecDepth 100000 in
set_option maxHeartbeats 3200000 in
theorem dieG (g : Nat) (E : EnvS) (s : St) (b : Blk) (r : List Blk) (vf : Value) (w : World) (h : CS w g E 0 s vf) (hs : s.opn = b :: r) (hl : Lim s) (hlow : b.h ≤ s.vals.length) :
    Calls Tryz.prog 55 #[.pointer (some ⟨g, 0, none⟩)] w fun e w' => e = .returned (.tuple #[]) ∧ CS w' g E 0 (dieS s) vf ∧ Below g w w' := by
  obtain ⟨gf, cf, a, cs, rfl, H⟩ := h.top hs
  have hlt := lt_of_block H.blk
  obtain ⟨m, hm⟩ : ∃ m, r.length = m := ⟨_, rfl⟩
  obtain ⟨n, hn⟩ : ∃ n, s.vals.length = n := ⟨_, rfl⟩
  have hm2 : m ≤ 300 := by have := hl.2; rw [hs, List.length_cons] at this; omega
  have hn2 : n ≤ 300 := by have := hl.1; omega
  obtain ⟨ht, hht⟩ : ∃ x, b.h = x := ⟨_, rfl⟩
  have hltF := (show gf < w.heap.size by obtain ⟨cur, hc, _⟩ := own_at H.fr (g := gf) rfl; exact lt_of_block hc)
  have c12 : w.cell? ⟨g, 12, none⟩ = some (.int .i64 0) := (cell_of_block H.blk 12).trans rfl
  have c11 : w.cell? ⟨g, 11, none⟩ = some (.slice (some ⟨gf, 0, none⟩) (m + 1) cf) := by rw [cell_of_block H.blk, ← hm]; rfl
  have c10 : w.cell? ⟨g, 10, none⟩ = some (.slice a n cs) := by rw [cell_of_block H.blk, ← hn]; rfl
  have f10 : w.frozen? ⟨g, 10, none⟩ = false := free_of_block H.blk 10
  obtain ⟨⟨_, _, y2, y3, _⟩, hfr⟩ := H.cells
  rw [hm, hht] at y2
  rw [hm] at y3
  have k11 : ∀ w', Keeps w w' → w'.cell? ⟨g, 11, none⟩ = some (.slice (some ⟨gf, 0, none⟩) (m + 1) cf) := fun w' h => h.cell hlt c11
  have k10 : ∀ w', Keeps w w' → w'.cell? ⟨g, 10, none⟩ = some (.slice a n cs) := fun w' h => h.cell hlt c10
  have k10f : ∀ w', Keeps w w' → w'.frozen? ⟨g, 10, none⟩ = false := fun w' h => h.frozen hlt f10
  have z2 : ∀ w', Keeps w w' → w'.cell? ⟨gf, m * 5 + 2, none⟩ = some (.int .i64 (ht : Int)) := fun w' h => h.cell hltF y2
  have hD : dieS s = { s with vals := s.vals.drop (s.vals.length - b.h), opn := { b with dead := true } :: r } := by unfold dieS; rw [hs]
  have HD : Hid (dieS s = { s with vals := s.vals.drop (s.vals.length - b.h), opn := { b with dead := true } :: r }) := hD
  have HH : Hid (TopS w g E 0 s b r gf cf a cs) := H
  have HM : Hid (r.length = m) := hm
  have HN : Hid (s.vals.length = n ∧ b.h = ht ∧ ht ≤ n) := ⟨hn, hht, by omega⟩
  have hei : (a = none ∧ n = 0 ∧ cs = 0) ∨ ∃ gs, a = some ⟨gs, 0, none⟩ := by have h := own_either H.st; rw [hn] at h; exact h
  have hsc := H.sc
  rw [hn] at hsc
  have hhc : (ht : Int) ≤ cs := by omega
  have hh0 : (0 : Int) ≤ ht := by omega
  have hjj : (m : Int) < (m : Int) + 1 := by omega
  have hm4 : m ≤ 400 := by omega
  have hht2 : ht ≤ n := by omega
  have hHT : Hid (ht ≤ n ∧ n ≤ 300) := ⟨hht2, hn2⟩
  have hi1 := i64n m hm4
  have hi2 := w64m m hm4
  rw [hm]
  clear hD H hs hl hlow hlt hltF h hm hn hht hm2 hn2 hm4 y2 y3 hfr c10 f10 hsc hht2
  have core : ∀ (aa : Option Addr), aa = a → True := fun _ _ => trivial
  clear core
  rcases hei with ⟨rfl, hz, hcz⟩ | ⟨gs, rfl⟩
  · obtain rfl : ht = 0 := by have := hHT.out; omega
    subst hz hcz
    go_enter Tryz.func55, Tryz.ntmps55
    go_wp2_with fail
    clear c12 c11
    refine region_qtail (C := Keeps w) 16 (by kernel_rfl) (by kernel_rfl) (Keeps.drew w) ?_
    (iterate 16
    (apply wpQuiet_go _ (by rfl)
     · intro wq hq
       go_simp
       first
         | exact rfl
     simp only [Act.put, List.setIfInBounds_toArray, List.set_cons_succ, List.set_cons_zero]))
    refine wpQuiet_nil ?_
    intro wz hk
    have cz := k10 _ hk
    have fz := k10f _ hk
    have H1 := HH.out.keep hk.below
    have hblk := H1.blk
    rw [HM.out, HN.out.1] at hblk
    have q1 : (wz.setCell ⟨g, 10, none⟩ (.slice none 0 0)).heap[g]? = some (.cells (mkS E 0 s.most (.slice (some ⟨gf, 0, none⟩) (m + 1) cf) (.slice none 0 0)) 77 (0, 0)) := heap_setCell_same _ _ _ _ _ _ hblk
    have hfr1 := own_far H1.fr 10 (.slice none 0 0)
    rw [HM.out] at hfr1
    have e11 : (wz.setCell ⟨g, 10, none⟩ (.slice none 0 0)).cell? ⟨g, 11, none⟩ = some (.slice (some ⟨gf, 0, none⟩) (m + 1) cf) := (cell_of_block q1 11).trans rfl
    have e3 := own_cell (j := m * 5 + 3) (u := .bool b.dead) hfr1 (by have h := fvS_at b r 3; rw [HM.out] at h; rw [h]; rfl)
    obtain ⟨e3a, e3b⟩ := e3
    obtain ⟨s0, s1, s2⟩ := Ck.setQ q1 (R := []) (World.ownsRow_nil _ _ _ _) hfr1 (by decide) (m * 5 + 3) (.bool true)
    have hset := fvS_set b { b with dead := true } r 3 (.bool true) rfl
    rw [HM.out] at hset
    rw [hset] at s2
    have HE : Hid (CS ((wz.setCell ⟨g, 10, none⟩ (.slice none 0 0)).setCell ⟨gf, m * 5 + 3, none⟩ (.bool true)) g E 0 (dieS s) (.slice (some ⟨gf, 0, none⟩) (m + 1) cf)) := by
      unfold Hid CS
      rw [HD.out]
      have e : s.vals = [] := List.length_eq_zero_iff.1 HN.out.1
      simp only [List.length_cons, HM.out, e, List.drop_nil]
      exact ⟨_, s0, s1, s2⟩
    have HB : Hid (Below g w ((wz.setCell ⟨g, 10, none⟩ (.slice none 0 0)).setCell ⟨gf, m * 5 + 3, none⟩ (.bool true))) := by
      obtain ⟨_, _, hB⟩ := own_at hfr1 (g := gf) rfl
      exact ((hk.below.mono (Nat.le_of_lt (lt_of_block HH.out.blk))).setCell (Nat.le_refl _) _).setCell (show g ≤ gf by omega) _
    clear hk k10 k10f k11 z2 H1 hblk q1 hfr1 s0 s1 s2 hset
    go_wp2
    go_end0
    exact ⟨rfl, HE.out, HB.out⟩
  · go_enter Tryz.func55, Tryz.ntmps55
    go_wp2_with fail
    clear c12 c11
    refine region_qtail (C := Keeps w) 16 (by kernel_rfl) (by kernel_rfl) (Keeps.drew w) ?_
    (iterate 16
    (apply wpQuiet_go _ (by rfl)
     · intro wq hq
       go_simp
       first
         | exact rfl
     simp only [Act.put, List.setIfInBounds_toArray, List.set_cons_succ, List.set_cons_zero]))
    refine wpQuiet_nil ?_
    intro wz hk
    have cz := k10 _ hk
    have fz := k10f _ hk
    have H1 := HH.out.keep hk.below
    have hblk := H1.blk
    rw [HM.out, HN.out.1] at hblk
    have q1 : (wz.setCell ⟨g, 10, none⟩ (.slice (some ⟨gs, 0, none⟩) ht cs)).heap[g]? = some (.cells (mkS E 0 s.most (.slice (some ⟨gf, 0, none⟩) (m + 1) cf) (.slice (some ⟨gs, 0, none⟩) ht cs)) 77 (0, 0)) := heap_setCell_same _ _ _ _ _ _ hblk
    have hfr1 := own_far H1.fr 10 (.slice (some ⟨gs, 0, none⟩) ht cs)
    rw [HM.out] at hfr1
    have hst0 := H1.st
    rw [HN.out.1] at hst0
    have hst1 := own_far (own_cut hst0 ht HN.out.2.2) 10 (.slice (some ⟨gs, 0, none⟩) ht cs)
    have hR : (ivs 1 s.vals).take (ht * 1) = ivs 1 (s.vals.drop (n - ht)) := by rw [Nat.mul_one, ivs_take, HN.out.1]
    rw [hR] at hst1
    have hRl : (ivs 1 (s.vals.drop (n - ht))).length = ht := by rw [ivs_len, List.length_drop, HN.out.1]; have := HN.out.2.2; clear hi1 hi2; omega
    have e11 : (wz.setCell ⟨g, 10, none⟩ (.slice (some ⟨gs, 0, none⟩) ht cs)).cell? ⟨g, 11, none⟩ = some (.slice (some ⟨gf, 0, none⟩) (m + 1) cf) := (cell_of_block q1 11).trans rfl
    have e3 := own_cell (j := m * 5 + 3) (u := .bool b.dead) hfr1 (by have h := fvS_at b r 3; rw [HM.out] at h; rw [h]; rfl)
    obtain ⟨e3a, e3b⟩ := e3
    obtain ⟨s0, s1, s2⟩ := Ck.setQ q1 (R := ivs 1 (s.vals.drop (n - ht))) (by rw [hRl]; exact hst1) hfr1 (by decide) (m * 5 + 3) (.bool true)
    have hset := fvS_set b { b with dead := true } r 3 (.bool true) rfl
    rw [HM.out] at hset
    rw [hset] at s2
    have HE : Hid (CS ((wz.setCell ⟨g, 10, none⟩ (.slice (some ⟨gs, 0, none⟩) ht cs)).setCell ⟨gf, m * 5 + 3, none⟩ (.bool true)) g E 0 (dieS s) (.slice (some ⟨gf, 0, none⟩) (m + 1) cf)) := by
      unfold Hid CS
      rw [HD.out]
      have e : s.vals.drop (s.vals.length - b.h) = s.vals.drop (n - ht) := by rw [HN.out.1, HN.out.2.1]
      rw [e]
      simp only [List.length_cons, HM.out]
      exact ⟨_, s0, s1, s2⟩
    have HB : Hid (Below g w ((wz.setCell ⟨g, 10, none⟩ (.slice (some ⟨gs, 0, none⟩) ht cs)).setCell ⟨gf, m * 5 + 3, none⟩ (.bool true))) := by
      obtain ⟨_, _, hB⟩ := own_at hfr1 (g := gf) rfl
      clear hi1 hi2
      exact ((hk.below.mono (Nat.le_of_lt (lt_of_block HH.out.blk))).setCell (Nat.le_refl _) _).setCell (show g ≤ gf by omega) _
    clear hk k10 k10f k11 z2 H1 hblk q1 hfr1 s0 s1 s2 hset hst0 hst1 hR hRl
    go_wp2
    go_end0
    exact ⟨rfl, HE.out, HB.out⟩

theorem dieM (g : Nat) (E : EnvS) (N : Nat) (r : Except Int St) (w : World) (h : Md w g E N r) (hN : N ≤ 300) :
    Calls Tryz.prog 55 #[.pointer (some ⟨g, 0, none⟩)] w fun e w' => OutPM w g E N (r.map dieS) e w' := by
  cases r with
  | error c =>
    obtain ⟨h0, s, vf, hc, hb⟩ := h
    refine (dieB g E c s vf w hc h0).mono ?_
    rintro e w' ⟨rfl, rfl⟩
    exact ⟨rfl, ⟨h0, s, vf, hc, hb⟩, Below.refl _ _⟩
  | ok s =>
    obtain ⟨⟨vf, hc⟩, hg, hb⟩ := h
    obtain ⟨b, r, hs, hl⟩ := hg.top
    refine (dieG g E s b r vf w hc hs ⟨by have := hb.nv; omega, by have := hb.no; omega⟩ hl).mono ?_
    rintro e w' ⟨rfl, hci, hbl⟩
    have hD : dieS s = { s with vals := s.vals.drop (s.vals.length - b.h), opn := { b with dead := true } :: r } := by unfold dieS; rw [hs]
    have hno := hb.no
    rw [hs] at hno
    have hnv := hb.nv
    refine ⟨rfl, ⟨⟨vf, hci⟩, ?_, ?_⟩, hbl⟩
    · rw [hD]
      exact ⟨⟨_, r, rfl, by simp; omega⟩, fun t ht => hg.vals t (List.mem_of_mem_drop ht)⟩
    · rw [hD]
      exact ⟨by simp; omega, hno, by simp⟩

end Go.Proofs.YtcgnefgdfgikdaaGreat
