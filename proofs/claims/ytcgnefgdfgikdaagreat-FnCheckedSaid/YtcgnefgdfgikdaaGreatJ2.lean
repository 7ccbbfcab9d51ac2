/-
  A module is drawn. (Made by a generator.)
-/
import Derived.Test.YtcgnefgdfgikdaaGreatJ1
import Derived.Test.YtcgnefgdfgikdaaGreatQ2
import Derived.Deep.CutRange
import Derived.Deep.DeepCutAuto
import Derived.Deep.CutBlock
namespace Go.Proofs.YtcgnefgdfgikdaaGreat
open Go.ChangeShapes Go.WideShapes Go.ChangeAt Go.RowKit


theorem set6T {W : World} {z : Nat} {t : TypeId} {a0 a1 a2 a3 a4 a5 : Value} (h : W.heap[z]? = some (.cells #[a0, a1, a2, a3, a4, a5] t (0, 0))) (b0 b1 b2 b3 b4 b5 : Value) {G : World} (hG : (((((W.setCell ⟨z, 0, none⟩ b0).setCell ⟨z, 1, none⟩ b1).setCell ⟨z, 2, none⟩ b2).setCell ⟨z, 3, none⟩ b3).setCell ⟨z, 4, none⟩ b4).setCell ⟨z, 5, none⟩ b5 = G) :
    G.heap[z]? = some (.cells #[b0, b1, b2, b3, b4, b5] t (0, 0)) ∧ (∀ g, g ≠ z → G.heap[g]? = W.heap[g]?) ∧ G.heap.size = W.heap.size ∧ ∀ (B : Nat) (w : World), B ≤ z → Below B w W → Below B w G := by
  subst hG
  refine ⟨?_, fun g hg => ?_, by simp, fun B w hB hb => (((((hb.setCell hB _).setCell hB _).setCell hB _).setCell hB _).setCell hB _).setCell hB _⟩
  · rw [heap_setCell_same _ _ _ _ _ _ (heap_setCell_same _ _ _ _ _ _ (heap_setCell_same _ _ _ _ _ _ (heap_setCell_same _ _ _ _ _ _ (heap_setCell_same _ _ _ _ _ _ (heap_setCell_same _ _ _ _ _ _ h)))))]
    rfl
  · exact (heap_setCell_other _ _ _ _ (by simpa using hg)).trans ((heap_setCell_other _ _ _ _ (by simpa using hg)).trans ((heap_setCell_other _ _ _ _ (by simpa using hg)).trans ((heap_setCell_other _ _ _ _ (by simpa using hg)).trans ((heap_setCell_other _ _ _ _ (by simpa using hg)).trans (heap_setCell_other _ _ _ _ (by simpa using hg))))))


theorem wpl_appFun (W : World) {ops : Array Oper} {rest : List Oper} {o : Oper} {a : Act} {Q : Exit → Act → World → Prop} (hgd : o.guard = none) (s x : Operand)
    (ho : o.op = .call { callee := .builtin .append, args := #[s, x], argTypes := #[23, 23] })
    (B : Nat) (v : Value) (L : List Fd) (hs : a.eval s = v) (h : FRow B W v L) (gs lo c : Nat) (X : List Fd) (hx : a.eval x = .slice (some ⟨gs, lo, none⟩) X.length c) (hX : ∀ x ∈ X, FdO B W x) (hc : ∀ (j : Nat) (u : Value), (fcv X)[j]? = some u → W.cell? ⟨gs, lo + j, none⟩ = some u) (hl : L.length + X.length ≤ 100000) (hb : B ≤ W.heap.size)
    (hk : ∀ v' w', FRow B w' v' (L ++ X) → W.grownBy w' v.ownBlock → wpList Tryz.prog ops Q rest (a.put o.dst v') w') : wpList Tryz.prog ops Q (o :: rest) a W := by
  obtain ⟨i0, i0i, i00, i01, i02⟩ := info_parts Tryz.infoFnc
  refine wpList_append_own W hgd s x 23 ho B 39 i0 (.agg #[.slice none 0 0, .int .i64 0, .slice none 0 0, .slice none 0 0]) 4 80 Tryz.underlying23 i0i i00 i01 i02 rfl (by decide) v L.length (fcv L) hs h.row ⟨gs, lo, none⟩ X.length c (fcv X) hx (fcv_len X) (fun j u hu => by rw [Addr.add_lit]; exact hc j u hu) (fcv_one hX) (by unfold maxLen; omega) (by omega) hb fun v' w' h2 h3 _ => hk v' w' ?_ h3
  rw [fcv_app] at h2
  refine ⟨by simpa using h2, fun x hx => ?_⟩
  have hx' : FdO B W x := by
    rcases List.mem_append.1 hx with hx | hx
    · exact h.ok x hx
    · exact hX x hx
  have k : ∀ {e : TypeId} {s n : Nat} {u : Value} {ys : List Value}, W.ownsRow B e s u n ys → e ≠ 39 → w'.ownsRow B e s u n ys := fun {e s n u ys} ho hne => own_keep ho (fun q hq => by
    obtain ⟨cur, hcq, _⟩ := own_at ho hq
    refine h3.block q (lt_of_block hcq) (fun e0 => ?_)
    obtain ⟨cur2, hc2, _⟩ := own_at h.row e0.symm
    rw [hcq] at hc2
    simp only [Option.some.injEq, Obj.cells.injEq] at hc2
    exact hne hc2.2.1)
  exact ⟨k hx'.ps (by decide), k hx'.ls (by decide), k hx'.bd (by decide)⟩
theorem slice_ints {w : World} {B : Nat} {v : Value} {L : List Int} (h : w.ownsRow B 3 1 v L.length (iv L)) : ∃ a c, v = .slice a L.length c := by
  obtain ⟨a, c, h, _⟩ := ints_of_row h
  exact ⟨a, c, h⟩
theorem slice_ins {w : World} {B : Nat} {v : Value} {L : List (Int × Int)} (h : w.ownsRow B 41 2 v L.length (pv L)) : ∃ a c, v = .slice a L.length c := by
  obtain ⟨a, c, _, h, _⟩ := owned_ins h
  exact ⟨a, c, h⟩
theorem slice_fun {w : World} {B : Nat} {v : Value} {L : List Fd} (h : FRow B w v L) : ∃ a c, v = .slice a L.length c := by
  obtain ⟨a, c, h, _⟩ := h.funs
  exact ⟨a, c, h⟩
theorem measJ (k N : Nat) (h : k + 1 ≤ N) : N - (intOf (Value.int .i64 ((k + 1 : Nat) : Int))).toNat < N - (intOf (Value.int .i64 (k : Int))).toNat := by
  simp [intOf]
  omega
theorem FRow.base {B B' : Nat} {w : World} {v : Value} {L : List Fd} (h : FRow B w v L) (hb : B' ≤ B) : FRow B' w v L := ⟨own_baseI h.row hb, fun x hx => FunO.base (h.ok x hx) hb⟩
/-- A module's rows stand wherever what lies from B on is kept. -/
def ModK (B : Nat) (w : World) (fa : Option Addr) (fc : Nat) (ga : Option Addr) (L : List Fd) (G : List Glo7) : Prop := ∀ w' : World, (∀ b, B ≤ b → b < w.heap.size → w'.heap[b]? = w.heap[b]?) → FRow B w' (.slice fa L.length fc) L ∧ Glos w' ga G
/-- The module of such rows. -/
def mdOf (L : List Fd) (G : List Glo7) (mem : Bool) (pg mo so : Int) : Mod7 := ⟨L.map (·.f), G, mem, pg, mo, so⟩
/-- As the walks of chapter 7 want it. -/
theorem frow_mod {B : Nat} {w : World} {fa ga : Option Addr} {fc : Nat} {L : List Fd} {G : List Glo7} (h : FRow B w (.slice fa L.length fc) L) (k : Glos w ga G) (gc : Nat) (mem : Bool) (pg mo so : Int) : ModAt w ⟨fa, fc, ga, gc⟩ (mdOf L G mem pg mo so) := by
  obtain ⟨a1, c1, e1, h2⟩ := h.funs
  simp only [Value.slice.injEq] at e1
  rw [← e1.1] at h2
  exact ⟨h2, k⟩
/-- What module tells. -/
def MdlP (B g : Nat) (a : Option Addr) (n cap m : Nat) (w : World) (e : Ending) (w' : World) : Prop := ∃ (fa : Option Addr) (fc : Nat) (ga : Option Addr) (gc : Nat) (L : List Fd) (G : List Glo7) (mem : Bool) (pg mo so : Int), e = .returned (.agg #[.slice fa L.length fc, .slice ga G.length gc, .bool mem, .int .i64 pg, .int .i64 mo, .int .i64 so]) ∧ Hid (ModK w.heap.size w' fa fc ga L G) ∧ Hid (smM (mdOf L G mem pg mo so) ∧ 1 ≤ L.length ∧ L.length ≤ 3) ∧ Cur w' g a n cap B (m + 530000) ∧ Hid (Aft B g w w')


set_option maxRecDepth 1000000 in
set_option maxHeartbeats 6400000 in
theorem curModule (g : Nat) (a : Option Addr) (n cap B m : Nat) (hm : Hid (m ≤ 100)) (w : World) (C : Cur w g a n cap B m) :
    Calls Tryz.prog 12 #[.pointer (some ⟨g, 0, none⟩)] w fun e w' => MdlP B g a n cap m w e w' := by
  obtain ⟨i0, hi, hz0, hz1, hz2⟩ := info_parts Tryz.info41
  have HC : Hid (g < w.heap.size ∧ B ≤ g) := ⟨C.lt, C.hg⟩
  obtain ⟨z, hz⟩ : ∃ z, w.heap.size = z := ⟨_, rfl⟩
  have HZ : Hid (w.heap.size = z) := hz
  obtain ⟨V, hV⟩ : ∃ W, (w.alloc (.cells #[.slice none 0 0, .slice none 0 0, .bool false, .int .i64 0, .int .i64 0, .int .i64 0] 26)) = W := ⟨_, rfl⟩
  have hb : Below w.heap.size w V := by rw [← hV]; exact (bel_alloc (Below.refl _ _) _)
  have br : V.heap[z]? = some (.cells #[.slice none 0 0, .slice none 0 0, .bool false, .int .i64 0, .int .i64 0, .int .i64 0] 26 (0, 0)) := by
    have h := heap_alloc_new w (.cells #[.slice none 0 0, .slice none 0 0, .bool false, .int .i64 0, .int .i64 0, .int .i64 0] 26)
    have e : w.heap.size = z := by exact hz
    rw [e] at h
    rw [← hV]
    exact h
  have LB : Hid (z + 1 ≤ V.heap.size) := by unfold Hid; rw [← hV]; simp [hz]
  replace C := C.kept hb
  have A : Hid (Aft B g w V) := aft_step (Aft.refl _ _ _) hb (Nat.le_trans HC.out.2 (Nat.le_of_lt HC.out.1))
  clear hb
  go_enter Tryz.func12, Tryz.ntmps12
  go_wp2_with fail
  clear hV hz
  refine (curPick 3 (by omega) (by omega) g a n cap B (m) (hid_le (by have := hm.out; omega)) V C).mono ?_
  rintro e w1 ⟨r, r0, r1, rfl, C1, ha⟩
  replace br := (ha.blk (z) (by have hc1 := HC.out; have hc2 := HZ.out; omega) (lt_of_block br)).trans br
  replace A : Hid (Aft B g w w1) := A.out.trans ha
  replace LB : Hid (z + 1 ≤ w1.heap.size) := Nat.le_trans LB.out ha.size
  clear ha C
  have C := C1
  clear C1
  clear r0 r1
  obtain ⟨ms, hms⟩ : ∃ x, wrap64 (2 + r) = x := ⟨_, rfl⟩
  obtain ⟨y1, hy1⟩ : ∃ z, w1.heap.size = z := ⟨_, rfl⟩
  obtain ⟨w2, hNw2⟩ : ∃ W, w1.alloc (.cells #[.slice none 0 0, .slice none 0 0, .bool false, .int .i64 0, .int .i64 0, .int .i64 0] 26) = W := ⟨_, rfl⟩
  have hb : Below w1.heap.size w1 w2 := by rw [← hNw2]; exact bel_alloc (Below.refl _ _) _
  have hley1 : Hid (z + 1 ≤ y1) := by unfold Hid; rw [← hy1]; exact LB.out
  replace br := (hb.block (z) (lt_of_block br)).trans br
  replace C := C.kept hb
  replace A : Hid (Aft B g w w2) := aft_step A.out hb (Nat.le_trans HC.out.2 (Nat.le_of_lt HC.out.1))
  replace LB : Hid (z + 1 ≤ w2.heap.size) := Nat.le_trans LB.out hb.size
  have bm : w2.heap[y1]? = some (.cells #[.slice none 0 0, .slice none 0 0, .bool false, .int .i64 0, .int .i64 0, .int .i64 0] 26 (0, 0)) := by rw [← hNw2, ← hy1]; exact heap_alloc_new _ _
  clear hb
  have pm0x1 : w2.cell? ⟨y1, 0, none⟩ = some (.slice none 0 0) := (cell_of_block bm 0).trans rfl
  have pm1x1 : w2.cell? ⟨y1, 1, none⟩ = some (.slice none 0 0) := (cell_of_block bm 1).trans rfl
  have pm2x1 : w2.cell? ⟨y1, 2, none⟩ = some (.bool false) := (cell_of_block bm 2).trans rfl
  have pm3x1 : w2.cell? ⟨y1, 3, none⟩ = some (.int .i64 0) := (cell_of_block bm 3).trans rfl
  have pm4x1 : w2.cell? ⟨y1, 4, none⟩ = some (.int .i64 0) := (cell_of_block bm 4).trans rfl
  have pm5x1 : w2.cell? ⟨y1, 5, none⟩ = some (.int .i64 0) := (cell_of_block bm 5).trans rfl
  have fm0x1 := free_of_block bm 0
  have fm1x1 := free_of_block bm 1
  have fm2x1 := free_of_block bm 2
  have fm3x1 := free_of_block bm 3
  have fm4x1 := free_of_block bm 4
  have fm5x1 := free_of_block bm 5
  obtain ⟨w3, hNw3⟩ : ∃ G, ((((((w2.setCell ⟨y1, 0, none⟩ (.slice none 0 0)).setCell ⟨y1, 1, none⟩ (.slice none 0 0)).setCell ⟨y1, 2, none⟩ (.bool true)).setCell ⟨y1, 3, none⟩ (.int .i64 1)).setCell ⟨y1, 4, none⟩ (.int .i64 ms)).setCell ⟨y1, 5, none⟩ (.int .i64 (-1))) = G := ⟨_, rfl⟩
  obtain ⟨s1, s2, s3, s4⟩ := set6T bm _ _ _ _ _ _ hNw3
  replace br := (s2 (z) (by have h3 := hley1.out; omega)).trans br
  have hsl : w.heap.size ≤ y1 := by have h3 := hley1.out; have hc1 := HC.out; have hc2 := HZ.out; omega
  have hs : Below w.heap.size w2 w3 := s4 _ _ hsl (Below.refl _ _)
  replace C := cur_upto C hs HC.out.1
  replace A : Hid (Aft B g w w3) := aft_upto A.out hs (Nat.le_trans HC.out.2 (Nat.le_of_lt HC.out.1))
  replace LB : Hid (z + 1 ≤ w3.heap.size) := by unfold Hid; rw [s3]; exact LB.out
  replace bm := s1
  clear s1 s2 s3 s4 hs hsl
  have HY1 : Hid (z < y1) := hley1.out
  go_wp2_with fail
  clear hNw2 hy1 pm0x1 pm1x1 pm2x1 pm3x1 pm4x1 pm5x1 fm0x1 fm1x1 fm2x1 fm3x1 fm4x1 fm5x1 hNw3 hms
  refine (curFncA g a n cap B (m + 2) (hid_le (by have := hm.out; omega)) w3 C).mono ?_
  rintro e w4 ⟨vp, vl, vb, res, ps, ls, bd, rfl, HF, HS, C1, HA⟩
  obtain ⟨ap, cp, e1⟩ := slice_ints HF.out.ps
  obtain ⟨al, cl, e2⟩ := slice_ints HF.out.ls
  obtain ⟨ab, cb', e3⟩ := slice_ins HF.out.bd
  subst e1 e2 e3
  have ha := HA.out
  replace br := (ha.blk (z) (by have hc1 := HC.out; have hc2 := HZ.out; omega) (lt_of_block br)).trans br
  replace bm := (ha.blk (y1) (by have h3 := hley1.out; have hc1 := HC.out; have hc2 := HZ.out; omega) (lt_of_block bm)).trans bm
  replace A : Hid (Aft B g w w4) := A.out.trans ha
  replace LB : Hid (z + 1 ≤ w4.heap.size) := Nat.le_trans LB.out ha.size
  clear ha C HA HF HS
  have C := C1
  clear C1
  obtain ⟨y2, hy2⟩ : ∃ z, w4.heap.size = z := ⟨_, rfl⟩
  obtain ⟨w5, hNw5⟩ : ∃ W, w4.alloc (.cells #[.slice none 0 0, .int .i64 0, .slice none 0 0, .slice none 0 0] 39) = W := ⟨_, rfl⟩
  have hb : Below w4.heap.size w4 w5 := by rw [← hNw5]; exact bel_alloc (Below.refl _ _) _
  have hley2 : Hid (z + 1 ≤ y2) := by unfold Hid; rw [← hy2]; exact LB.out
  replace br := (hb.block (z) (lt_of_block br)).trans br
  replace bm := (hb.block (y1) (lt_of_block bm)).trans bm
  replace C := C.kept hb
  replace A : Hid (Aft B g w w5) := aft_step A.out hb (Nat.le_trans HC.out.2 (Nat.le_of_lt HC.out.1))
  replace LB : Hid (z + 1 ≤ w5.heap.size) := Nat.le_trans LB.out hb.size
  have bf : w5.heap[y2]? = some (.cells #[.slice none 0 0, .int .i64 0, .slice none 0 0, .slice none 0 0] 39 (0, 0)) := by rw [← hNw5, ← hy2]; exact heap_alloc_new _ _
  clear hb
  have pf0x2 : w5.cell? ⟨y2, 0, none⟩ = some (.slice none 0 0) := (cell_of_block bf 0).trans rfl
  have pf1x2 : w5.cell? ⟨y2, 1, none⟩ = some (.int .i64 0) := (cell_of_block bf 1).trans rfl
  have pf2x2 : w5.cell? ⟨y2, 2, none⟩ = some (.slice none 0 0) := (cell_of_block bf 2).trans rfl
  have pf3x2 : w5.cell? ⟨y2, 3, none⟩ = some (.slice none 0 0) := (cell_of_block bf 3).trans rfl
  have ff0x2 := free_of_block bf 0
  have ff1x2 := free_of_block bf 1
  have ff2x2 := free_of_block bf 2
  have ff3x2 := free_of_block bf 3
  obtain ⟨w6, hNw6⟩ : ∃ G, ((((w5.setCell ⟨y2, 0, none⟩ (.slice ap ps.length cp)).setCell ⟨y2, 1, none⟩ (.int .i64 res)).setCell ⟨y2, 2, none⟩ (.slice al ls.length cl)).setCell ⟨y2, 3, none⟩ (.slice ab bd.length cb')) = G := ⟨_, rfl⟩
  obtain ⟨s1, s2, s3, s4⟩ := set4T bf _ _ _ _ hNw6
  replace br := (s2 (z) (by have h3 := hley2.out; omega)).trans br
  replace bm := (s2 (y1) (fun e => by have e2 := bm; rw [e] at e2; rw [bf] at e2; first | cases e2 | simp at e2)).trans bm
  have hsl : w.heap.size ≤ y2 := by have h3 := hley2.out; have hc1 := HC.out; have hc2 := HZ.out; omega
  have hs : Below w.heap.size w5 w6 := s4 _ _ hsl (Below.refl _ _)
  replace C := cur_upto C hs HC.out.1
  replace A : Hid (Aft B g w w6) := aft_upto A.out hs (Nat.le_trans HC.out.2 (Nat.le_of_lt HC.out.1))
  replace LB : Hid (z + 1 ≤ w6.heap.size) := by unfold Hid; rw [s3]; exact LB.out
  replace bf := s1
  clear s1 s2 s3 s4 hs hsl
  have pf0x3 : w6.cell? ⟨y2, 0, none⟩ = some (.slice ap ps.length cp) := (cell_of_block bf 0).trans rfl
  have pf1x3 : w6.cell? ⟨y2, 1, none⟩ = some (.int .i64 res) := (cell_of_block bf 1).trans rfl
  have pf2x3 : w6.cell? ⟨y2, 2, none⟩ = some (.slice al ls.length cl) := (cell_of_block bf 2).trans rfl
  have pf3x3 : w6.cell? ⟨y2, 3, none⟩ = some (.slice ab bd.length cb') := (cell_of_block bf 3).trans rfl
  have ff0x3 := free_of_block bf 0
  have ff1x3 := free_of_block bf 1
  have ff2x3 := free_of_block bf 2
  have ff3x3 := free_of_block bf 3
  obtain ⟨w7, hNw7⟩ : ∃ G, (w6.setCell ⟨y2, 0, none⟩ (.slice none 0 0)) = G := ⟨_, rfl⟩
  obtain ⟨s1, s2, s3, s4⟩ := set1T bf 0 (.slice none 0 0) hNw7
  replace s1 : w7.heap[y2]? = some (.cells #[.slice none 0 0, .int .i64 res, .slice al ls.length cl, .slice ab bd.length cb'] 39 (0, 0)) := s1
  replace br := (s2 (z) (by have h3 := hley2.out; omega)).trans br
  replace bm := (s2 (y1) (fun e => by have e2 := bm; rw [e] at e2; rw [bf] at e2; first | cases e2 | simp at e2)).trans bm
  have hsl : w.heap.size ≤ y2 := by have h3 := hley2.out; have hc1 := HC.out; have hc2 := HZ.out; omega
  have hs : Below w.heap.size w6 w7 := s4 _ _ hsl (Below.refl _ _)
  replace C := cur_upto C hs HC.out.1
  replace A : Hid (Aft B g w w7) := aft_upto A.out hs (Nat.le_trans HC.out.2 (Nat.le_of_lt HC.out.1))
  replace LB : Hid (z + 1 ≤ w7.heap.size) := by unfold Hid; rw [s3]; exact LB.out
  replace bf := s1
  clear s1 s2 s3 s4 hs hsl
  obtain ⟨y3, hy3⟩ : ∃ z, w7.heap.size = z := ⟨_, rfl⟩
  obtain ⟨w8, hNw8⟩ : ∃ W, w7.alloc (.cells #[.int .i64 127, .int .i64 127, .int .i64 126] 3) = W := ⟨_, rfl⟩
  have hb : Below w7.heap.size w7 w8 := by rw [← hNw8]; exact bel_alloc (Below.refl _ _) _
  have hley3 : Hid (z + 1 ≤ y3) := by unfold Hid; rw [← hy3]; exact LB.out
  replace br := (hb.block (z) (lt_of_block br)).trans br
  replace bm := (hb.block (y1) (lt_of_block bm)).trans bm
  replace bf := (hb.block (y2) (lt_of_block bf)).trans bf
  replace C := C.kept hb
  replace A : Hid (Aft B g w w8) := aft_step A.out hb (Nat.le_trans HC.out.2 (Nat.le_of_lt HC.out.1))
  replace LB : Hid (z + 1 ≤ w8.heap.size) := Nat.le_trans LB.out hb.size
  have bs : w8.heap[y3]? = some (.cells #[.int .i64 127, .int .i64 127, .int .i64 126] 3 (0, 0)) := by rw [← hNw8, ← hy3]; exact heap_alloc_new _ _
  clear hb
  have pf0x4 : w8.cell? ⟨y2, 0, none⟩ = some (.slice none 0 0) := (cell_of_block bf 0).trans rfl
  have pf1x4 : w8.cell? ⟨y2, 1, none⟩ = some (.int .i64 res) := (cell_of_block bf 1).trans rfl
  have pf2x4 : w8.cell? ⟨y2, 2, none⟩ = some (.slice al ls.length cl) := (cell_of_block bf 2).trans rfl
  have pf3x4 : w8.cell? ⟨y2, 3, none⟩ = some (.slice ab bd.length cb') := (cell_of_block bf 3).trans rfl
  have ff0x4 := free_of_block bf 0
  have ff1x4 := free_of_block bf 1
  have ff2x4 := free_of_block bf 2
  have ff3x4 := free_of_block bf 3
  obtain ⟨w9, hNw9⟩ : ∃ G, (w8.setCell ⟨y2, 2, none⟩ (.slice (some ⟨y3, 0, none⟩) 3 3)) = G := ⟨_, rfl⟩
  obtain ⟨s1, s2, s3, s4⟩ := set1T bf 2 (.slice (some ⟨y3, 0, none⟩) 3 3) hNw9
  replace s1 : w9.heap[y2]? = some (.cells #[.slice none 0 0, .int .i64 res, .slice (some ⟨y3, 0, none⟩) 3 3, .slice ab bd.length cb'] 39 (0, 0)) := s1
  replace br := (s2 (z) (by have h3 := hley2.out; omega)).trans br
  replace bm := (s2 (y1) (fun e => by have e2 := bm; rw [e] at e2; rw [bf] at e2; first | cases e2 | simp at e2)).trans bm
  replace bs := (s2 (y3) (fun e => by have e2 := bs; rw [e] at e2; rw [bf] at e2; first | cases e2 | simp at e2)).trans bs
  have hsl : w.heap.size ≤ y2 := by have h3 := hley2.out; have hc1 := HC.out; have hc2 := HZ.out; omega
  have hs : Below w.heap.size w8 w9 := s4 _ _ hsl (Below.refl _ _)
  replace C := cur_upto C hs HC.out.1
  replace A : Hid (Aft B g w w9) := aft_upto A.out hs (Nat.le_trans HC.out.2 (Nat.le_of_lt HC.out.1))
  replace LB : Hid (z + 1 ≤ w9.heap.size) := by unfold Hid; rw [s3]; exact LB.out
  replace bf := s1
  clear s1 s2 s3 s4 hs hsl
  have pf0x5 : w9.cell? ⟨y2, 0, none⟩ = some (.slice none 0 0) := (cell_of_block bf 0).trans rfl
  have pf1x5 : w9.cell? ⟨y2, 1, none⟩ = some (.int .i64 res) := (cell_of_block bf 1).trans rfl
  have pf2x5 : w9.cell? ⟨y2, 2, none⟩ = some (.slice (some ⟨y3, 0, none⟩) 3 3) := (cell_of_block bf 2).trans rfl
  have pf3x5 : w9.cell? ⟨y2, 3, none⟩ = some (.slice ab bd.length cb') := (cell_of_block bf 3).trans rfl
  have ff0x5 := free_of_block bf 0
  have ff1x5 := free_of_block bf 1
  have ff2x5 := free_of_block bf 2
  have ff3x5 := free_of_block bf 3
  obtain ⟨w10, hNw10⟩ : ∃ G, (w9.setCell ⟨y2, 1, none⟩ (.int .i64 64)) = G := ⟨_, rfl⟩
  obtain ⟨s1, s2, s3, s4⟩ := set1T bf 1 (.int .i64 64) hNw10
  replace s1 : w10.heap[y2]? = some (.cells #[.slice none 0 0, .int .i64 64, .slice (some ⟨y3, 0, none⟩) 3 3, .slice ab bd.length cb'] 39 (0, 0)) := s1
  replace br := (s2 (z) (by have h3 := hley2.out; omega)).trans br
  replace bm := (s2 (y1) (fun e => by have e2 := bm; rw [e] at e2; rw [bf] at e2; first | cases e2 | simp at e2)).trans bm
  replace bs := (s2 (y3) (fun e => by have e2 := bs; rw [e] at e2; rw [bf] at e2; first | cases e2 | simp at e2)).trans bs
  have hsl : w.heap.size ≤ y2 := by have h3 := hley2.out; have hc1 := HC.out; have hc2 := HZ.out; omega
  have hs : Below w.heap.size w9 w10 := s4 _ _ hsl (Below.refl _ _)
  replace C := cur_upto C hs HC.out.1
  replace A : Hid (Aft B g w w10) := aft_upto A.out hs (Nat.le_trans HC.out.2 (Nat.le_of_lt HC.out.1))
  replace LB : Hid (z + 1 ≤ w10.heap.size) := by unfold Hid; rw [s3]; exact LB.out
  replace bf := s1
  clear s1 s2 s3 s4 hs hsl
  go_wp2_with fail
  clear hNw5 hy2 pf0x2 pf1x2 pf2x2 pf3x2 ff0x2 ff1x2 ff2x2 ff3x2 hNw6 pf0x3 pf1x3 pf2x3 pf3x3 ff0x3 ff1x3 ff2x3 ff3x3 hNw7 hNw8 hy3 pf0x4 pf1x4 pf2x4 pf3x4 ff0x4 ff1x4 ff2x4 ff3x4 hNw9 pf0x5 pf1x5 pf2x5 pf3x5 ff0x5 ff1x5 ff2x5 ff3x5 hNw10
  refine (curBody 64 (by decide) g a n cap B (m + 2 + 130008) (hid_le (by have := hm.out; omega)) w10 C).mono ?_
  rintro e w11 ⟨vB, b2, rfl, RB, HOB, C1, HAB, HPB⟩
  obtain ⟨aB, cB, e3⟩ := slice_ins RB.out
  subst e3
  have R : Hid (w11.ownsRow (z + 1) 41 2 (.slice aB b2.length cB) b2.length (pv b2)) := own_baseI RB.out LB.out
  have ha := HAB.out
  replace br := (ha.blk (z) (by have hc1 := HC.out; have hc2 := HZ.out; omega) (lt_of_block br)).trans br
  replace bm := (ha.blk (y1) (by have h3 := hley1.out; have hc1 := HC.out; have hc2 := HZ.out; omega) (lt_of_block bm)).trans bm
  replace bf := (ha.blk (y2) (by have h3 := hley2.out; have hc1 := HC.out; have hc2 := HZ.out; omega) (lt_of_block bf)).trans bf
  replace bs := (ha.blk (y3) (by have h3 := hley3.out; have hc1 := HC.out; have hc2 := HZ.out; omega) (lt_of_block bs)).trans bs
  replace A : Hid (Aft B g w w11) := A.out.trans ha
  replace LB : Hid (z + 1 ≤ w11.heap.size) := Nat.le_trans LB.out ha.size
  clear ha C RB HAB
  have C := C1
  clear C1
  have pf0x6 : w11.cell? ⟨y2, 0, none⟩ = some (.slice none 0 0) := (cell_of_block bf 0).trans rfl
  have pf1x6 : w11.cell? ⟨y2, 1, none⟩ = some (.int .i64 64) := (cell_of_block bf 1).trans rfl
  have pf2x6 : w11.cell? ⟨y2, 2, none⟩ = some (.slice (some ⟨y3, 0, none⟩) 3 3) := (cell_of_block bf 2).trans rfl
  have pf3x6 : w11.cell? ⟨y2, 3, none⟩ = some (.slice ab bd.length cb') := (cell_of_block bf 3).trans rfl
  have ff0x6 := free_of_block bf 0
  have ff1x6 := free_of_block bf 1
  have ff2x6 := free_of_block bf 2
  have ff3x6 := free_of_block bf 3
  obtain ⟨w12, hNw12⟩ : ∃ G, (w11.setCell ⟨y2, 3, none⟩ (.slice aB b2.length cB)) = G := ⟨_, rfl⟩
  obtain ⟨s1, s2, s3, s4⟩ := set1T bf 3 (.slice aB b2.length cB) hNw12
  replace s1 : w12.heap[y2]? = some (.cells #[.slice none 0 0, .int .i64 64, .slice (some ⟨y3, 0, none⟩) 3 3, .slice aB b2.length cB] 39 (0, 0)) := s1
  replace br := (s2 (z) (by have h3 := hley2.out; omega)).trans br
  replace bm := (s2 (y1) (fun e => by have e2 := bm; rw [e] at e2; rw [bf] at e2; first | cases e2 | simp at e2)).trans bm
  replace bs := (s2 (y3) (fun e => by have e2 := bs; rw [e] at e2; rw [bf] at e2; first | cases e2 | simp at e2)).trans bs
  replace R : Hid (w12.ownsRow (z + 1) 41 2 (.slice aB b2.length cB) b2.length (pv b2)) := own_keep R.out (fun q hq => s2 q (fun e => by obtain ⟨cur, hc, _⟩ := own_at R.out hq; rw [e, bf] at hc; simp at hc))
  have hsl : w.heap.size ≤ y2 := by have h3 := hley2.out; have hc1 := HC.out; have hc2 := HZ.out; omega
  have hs : Below w.heap.size w11 w12 := s4 _ _ hsl (Below.refl _ _)
  replace C := cur_upto C hs HC.out.1
  replace A : Hid (Aft B g w w12) := aft_upto A.out hs (Nat.le_trans HC.out.2 (Nat.le_of_lt HC.out.1))
  replace LB : Hid (z + 1 ≤ w12.heap.size) := by unfold Hid; rw [s3]; exact LB.out
  replace bf := s1
  clear s1 s2 s3 s4 hs hsl
  have pf0x7 : w12.cell? ⟨y2, 0, none⟩ = some (.slice none 0 0) := (cell_of_block bf 0).trans rfl
  have pf1x7 : w12.cell? ⟨y2, 1, none⟩ = some (.int .i64 64) := (cell_of_block bf 1).trans rfl
  have pf2x7 : w12.cell? ⟨y2, 2, none⟩ = some (.slice (some ⟨y3, 0, none⟩) 3 3) := (cell_of_block bf 2).trans rfl
  have pf3x7 : w12.cell? ⟨y2, 3, none⟩ = some (.slice aB b2.length cB) := (cell_of_block bf 3).trans rfl
  have pm0x8 : w12.cell? ⟨y1, 0, none⟩ = some (.slice none 0 0) := (cell_of_block bm 0).trans rfl
  obtain ⟨y4, hy4⟩ : ∃ z, w12.heap.size = z := ⟨_, rfl⟩
  obtain ⟨w13, hNw13⟩ : ∃ W, w12.alloc (.cells #[.slice none 0 0, .int .i64 64, .slice (some ⟨y3, 0, none⟩) 3 3, .slice aB b2.length cB] 39) = W := ⟨_, rfl⟩
  have hb0 : Below w12.heap.size w12 w13 := by rw [← hNw13]; exact bel_alloc (Below.refl _ _) _
  have bc : w13.heap[y4]? = some (.cells #[.slice none 0 0, .int .i64 64, .slice (some ⟨y3, 0, none⟩) 3 3, .slice aB b2.length cB] 39 (0, 0)) := by rw [← hNw13, ← hy4]; exact heap_alloc_new _ _
  obtain ⟨F0, hF0⟩ : ∃ x : Fd, x = ⟨.slice none 0 0, .slice (some ⟨y3, 0, none⟩) 3 3, .slice aB b2.length cB, ⟨[], 64, [127, 127, 126], b2⟩⟩ := ⟨_, rfl⟩
  have HFO : Hid (FdO (z + 1) w13 F0) := by
    unfold Hid; rw [hF0]
    refine ⟨World.ownsRow_nil _ _ _ _, ⟨rfl, .inr ⟨y3, 3, _, rfl, hley3.out, (hb0.block y3 (lt_of_block bs)).trans bs, Nat.le_refl _, by unfold maxLen; omega, rfl, rfl⟩⟩, own_keep R.out (fun q hq => hb0.block q (R.out.lt q hq).2)⟩
  have HFC : Hid (∀ (j : Nat) (u : Value), (fcv [F0])[j]? = some u → w13.cell? ⟨y4, 0 + j, none⟩ = some u) := fun j u hu => by
    have hj : j < 4 := by rcases Nat.lt_or_ge j 4 with h' | h'; exact h'; rw [List.getElem?_eq_none (by rw [fcv_len]; simpa using h')] at hu; cases hu
    have hjj : j = 0 ∨ j = 1 ∨ j = 2 ∨ j = 3 := by omega
    rw [hF0] at hu
    rcases hjj with rfl | rfl | rfl | rfl
    · exact (cell_of_block bc 0).trans (by simpa [fcv, fdC] using hu)
    · exact (cell_of_block bc 1).trans (by simpa [fcv, fdC] using hu)
    · exact (cell_of_block bc 2).trans (by simpa [fcv, fdC] using hu)
    · exact (cell_of_block bc 3).trans (by simpa [fcv, fdC] using hu)
  have HSB : Hid ((z + 1) ≤ w13.heap.size ∧ Below w12.heap.size w12 w13) := ⟨Nat.le_trans LB.out hb0.size, hb0⟩
  have HFS : Hid (SmW 14010 F0.f ∧ ∃ q, F0.vb.ownBlock = some q) := by
    unfold Hid; rw [hF0]
    refine ⟨⟨by simp, by simp, ⟨by have := HOB.out.1; simp only; omega, fun _ => HPB.out⟩, HOB.out.2⟩, ?_⟩
    obtain ⟨gq, cq, e4, _⟩ := own_pos R.out HPB.out
    rw [e4]; exact ⟨gq, rfl⟩
  clear bc hF0 hb0
  go_wp2_with (at_builtin; refine wpl_appFun _ rfl _ _ rfl (z + 1) _ [] rfl (frow_nil _ _) y4 0 1 [F0] rfl ?qc1 ?qc2 ?qc3 ?qc4 ?_)
  case qc1 => intro x hx; simp only [List.mem_singleton] at hx; rw [hx]; exact HFO.out
  case qc2 => exact HFC.out
  case qc3 => simp
  case qc4 => exact HSB.out.1
  intro vF w14 hF hgF
  clear pf0x6 pf1x6 pf2x6 pf3x6 ff0x6 ff1x6 ff2x6 ff3x6 hNw12 pf0x7 pf1x7 pf2x7 pf3x7 pm0x8 hNw13 hy4
  obtain ⟨aF, cF, e5⟩ := slice_fun hF
  subst e5
  have hb : Below w12.heap.size w12 w14 := HSB.out.2.trans ((Below.refl _ _).grown hgF HSB.out.2.size (fun q hq => by cases hq))
  replace br := (hb.block (z) (lt_of_block br)).trans br
  replace bm := (hb.block (y1) (lt_of_block bm)).trans bm
  replace bf := (hb.block (y2) (lt_of_block bf)).trans bf
  replace bs := (hb.block (y3) (lt_of_block bs)).trans bs
  replace R : Hid (w14.ownsRow (z + 1) 41 2 (.slice aB b2.length cB) b2.length (pv b2)) := own_keep R.out (fun q hq => hb.block q (R.out.lt q hq).2)
  replace C := C.kept hb
  replace A : Hid (Aft B g w w14) := aft_step A.out hb (Nat.le_trans HC.out.2 (Nat.le_of_lt HC.out.1))
  replace LB : Hid (z + 1 ≤ w14.heap.size) := Nat.le_trans LB.out hb.size
  have FR : Hid (FRow (z + 1) w14 (.slice aF 1 cF) [F0]) := hF
  clear hb hF hgF HFO HFC HSB R
  have pm0x9 : w14.cell? ⟨y1, 0, none⟩ = some (.slice none 0 0) := (cell_of_block bm 0).trans rfl
  have pm1x9 : w14.cell? ⟨y1, 1, none⟩ = some (.slice none 0 0) := (cell_of_block bm 1).trans rfl
  have pm2x9 : w14.cell? ⟨y1, 2, none⟩ = some (.bool true) := (cell_of_block bm 2).trans rfl
  have pm3x9 : w14.cell? ⟨y1, 3, none⟩ = some (.int .i64 1) := (cell_of_block bm 3).trans rfl
  have pm4x9 : w14.cell? ⟨y1, 4, none⟩ = some (.int .i64 ms) := (cell_of_block bm 4).trans rfl
  have pm5x9 : w14.cell? ⟨y1, 5, none⟩ = some (.int .i64 (-1)) := (cell_of_block bm 5).trans rfl
  have fm0x9 := free_of_block bm 0
  have fm1x9 := free_of_block bm 1
  have fm2x9 := free_of_block bm 2
  have fm3x9 := free_of_block bm 3
  have fm4x9 := free_of_block bm 4
  have fm5x9 := free_of_block bm 5
  obtain ⟨w15, hNw15⟩ : ∃ G, (w14.setCell ⟨y1, 0, none⟩ (.slice aF 1 cF)) = G := ⟨_, rfl⟩
  obtain ⟨s1, s2, s3, s4⟩ := set1T bm 0 (.slice aF 1 cF) hNw15
  replace s1 : w15.heap[y1]? = some (.cells #[.slice aF 1 cF, .slice none 0 0, .bool true, .int .i64 1, .int .i64 ms, .int .i64 (-1)] 26 (0, 0)) := s1
  replace br := (s2 (z) (by have h3 := hley1.out; omega)).trans br
  replace bf := (s2 (y2) (fun e => by have e2 := bf; rw [e] at e2; rw [bm] at e2; first | cases e2 | simp at e2)).trans bf
  replace bs := (s2 (y3) (fun e => by have e2 := bs; rw [e] at e2; rw [bm] at e2; first | cases e2 | simp at e2)).trans bs
  replace FR : Hid (FRow (z + 1) w15 (.slice aF 1 cF) [F0]) := FRow.farM FR.out bm (by decide) (by decide) (by decide) s2
  have hsl : w.heap.size ≤ y1 := by have h3 := hley1.out; have hc1 := HC.out; have hc2 := HZ.out; omega
  have hs : Below w.heap.size w14 w15 := s4 _ _ hsl (Below.refl _ _)
  replace C := cur_upto C hs HC.out.1
  replace A : Hid (Aft B g w w15) := aft_upto A.out hs (Nat.le_trans HC.out.2 (Nat.le_of_lt HC.out.1))
  replace LB : Hid (z + 1 ≤ w15.heap.size) := by unfold Hid; rw [s3]; exact LB.out
  replace bm := s1
  clear s1 s2 s3 s4 hs hsl
  obtain ⟨L0, hL0⟩ : ∃ l, [F0] = l := ⟨_, rfl⟩
  have HAP : Hid (Apart L0 ∧ L0.length = 1 ∧ (∀ x ∈ L0, SmW 14010 x.f)) := by
    unfold Hid; rw [← hL0]
    exact ⟨fun i j hi hj hne => by simp only [List.length_cons, List.length_nil] at hi hj; omega, rfl, fun x hx => by simp only [List.mem_singleton] at hx; rw [hx]; exact HFS.out.1⟩
  rw [hL0] at FR
  clear hL0 HFS
  clear bf
  clear bs
  go_wp2_with fail
  clear pm0x9 pm1x9 pm2x9 pm3x9 pm4x9 pm5x9 fm0x9 fm1x9 fm2x9 fm3x9 fm4x9 fm5x9 hNw15
  refine (curOne 2 (by omega) (by omega) g a n cap B (m + 2 + 130008 + 130000) (hid_le (by have := hm.out; omega)) w15 C).mono ?_
  rintro e w16 ⟨b, rfl, C1, ha⟩
  replace br := (ha.blk (z) (by have hc1 := HC.out; have hc2 := HZ.out; omega) (lt_of_block br)).trans br
  replace bm := (ha.blk (y1) (by have h3 := hley1.out; have hc1 := HC.out; have hc2 := HZ.out; omega) (lt_of_block bm)).trans bm
  replace FR : Hid (FRow (z + 1) w16 (.slice aF 1 cF) L0) := FR.out.keep (fun q h1 h2 => ha.blk q (by have hc1 := HC.out; have hc2 := HZ.out; omega) h2)
  replace A : Hid (Aft B g w w16) := A.out.trans ha
  replace LB : Hid (z + 1 ≤ w16.heap.size) := Nat.le_trans LB.out ha.size
  clear ha C
  have C := C1
  clear C1
  go_upto_if 29 with fail
  go_cut [30] (fun _ wx => Hid (ModL 14010 B g z y1 a n cap (m + 260030) w wx L0 []))
  case first =>
    cases b
    · go_wp2
      go_meet
      exact ⟨⟨_, _, _, _, _, _, _, _, (by rw [HAP.out.2.1]; exact bm), (by rw [HAP.out.2.1]; exact FR.out), World.ownsRow_nil _ _ _ _⟩, br, C.more (by omega), A.out, LB.out, HY1.out, HAP.out.2.2, (fun x hx => by cases hx)⟩
    · skip
      have pm0x10 : w16.cell? ⟨y1, 0, none⟩ = some (.slice aF 1 cF) := (cell_of_block bm 0).trans rfl
      have pm1x10 : w16.cell? ⟨y1, 1, none⟩ = some (.slice none 0 0) := (cell_of_block bm 1).trans rfl
      have pm2x10 : w16.cell? ⟨y1, 2, none⟩ = some (.bool true) := (cell_of_block bm 2).trans rfl
      have pm3x10 : w16.cell? ⟨y1, 3, none⟩ = some (.int .i64 1) := (cell_of_block bm 3).trans rfl
      have pm4x10 : w16.cell? ⟨y1, 4, none⟩ = some (.int .i64 ms) := (cell_of_block bm 4).trans rfl
      have pm5x10 : w16.cell? ⟨y1, 5, none⟩ = some (.int .i64 (-1)) := (cell_of_block bm 5).trans rfl
      have fm0x10 := free_of_block bm 0
      have fm1x10 := free_of_block bm 1
      have fm2x10 := free_of_block bm 2
      have fm3x10 := free_of_block bm 3
      have fm4x10 := free_of_block bm 4
      have fm5x10 := free_of_block bm 5
      obtain ⟨w17, hNw17⟩ : ∃ G, (w16.setCell ⟨y1, 5, none⟩ (.int .i64 0)) = G := ⟨_, rfl⟩
      obtain ⟨s1, s2, s3, s4⟩ := set1T bm 5 (.int .i64 0) hNw17
      replace s1 : w17.heap[y1]? = some (.cells #[.slice aF 1 cF, .slice none 0 0, .bool true, .int .i64 1, .int .i64 ms, .int .i64 0] 26 (0, 0)) := s1
      replace br := (s2 (z) (by have h3 := hley1.out; omega)).trans br
      replace FR : Hid (FRow (z + 1) w17 (.slice aF 1 cF) L0) := FRow.farM FR.out bm (by decide) (by decide) (by decide) s2
      have hsl : w.heap.size ≤ y1 := by have h3 := hley1.out; have hc1 := HC.out; have hc2 := HZ.out; omega
      have hs : Below w.heap.size w16 w17 := s4 _ _ hsl (Below.refl _ _)
      replace C := cur_upto C hs HC.out.1
      replace A : Hid (Aft B g w w17) := aft_upto A.out hs (Nat.le_trans HC.out.2 (Nat.le_of_lt HC.out.1))
      replace LB : Hid (z + 1 ≤ w17.heap.size) := by unfold Hid; rw [s3]; exact LB.out
      replace bm := s1
      clear s1 s2 s3 s4 hs hsl
      go_wp2
      go_meet
      exact ⟨⟨_, _, _, _, _, _, _, _, (by rw [HAP.out.2.1]; exact bm), (by rw [HAP.out.2.1]; exact FR.out), World.ownsRow_nil _ _ _ _⟩, br, C.more (by omega), A.out, LB.out, HY1.out, HAP.out.2.2, (fun x hx => by cases hx)⟩
  case rest =>
  clear FR bm br C A LB
  obtain ⟨⟨fa, fc, ga, gc, mem, pg, mo, so, bm, hFR, hGR⟩, br, C, hA, hLB, _, hsm, hgs⟩ := hcut.out
  have A : Hid (Aft B g w wc) := hA
  have LB : Hid (z + 1 ≤ wc.heap.size) := hLB
  have FR : Hid (FRow (z + 1) wc (.slice fa L0.length fc) L0) := hFR
  have GR : Hid (wc.ownsRow (z + 1) 57 3 (.slice ga [].length gc) [].length (gcv [])) := hGR
  have SM : Hid (∀ x ∈ L0, SmW 14010 x.f) := hsm
  have GS : Hid (∀ x ∈ [], okG x) := hgs
  clear hA hLB hFR hGR hsm hgs hcut
  go_wp2_with fail
  refine (curPick 3 (by omega) (by omega) g a n cap B (m + 260030) (hid_le (by have := hm.out; omega)) wc C).mono ?_
  rintro e w17 ⟨r2, r20, r21, rfl, C1, ha⟩
  replace br := (ha.blk (z) (by have hc1 := HC.out; have hc2 := HZ.out; omega) (lt_of_block br)).trans br
  replace bm := (ha.blk (y1) (by have h3 := hley1.out; have hc1 := HC.out; have hc2 := HZ.out; omega) (lt_of_block bm)).trans bm
  replace FR : Hid (FRow (z + 1) w17 (.slice fa L0.length fc) L0) := FR.out.keep (fun q h1 h2 => ha.blk q (by have hc1 := HC.out; have hc2 := HZ.out; omega) h2)
  replace GR : Hid (w17.ownsRow (z + 1) 57 3 (.slice ga [].length gc) [].length (gcv [])) := own_keep GR.out (fun q hq => ha.blk q (by have h4 := (GR.out.lt q hq).1; have hc1 := HC.out; have hc2 := HZ.out; omega) (GR.out.lt q hq).2)
  replace A : Hid (Aft B g w w17) := A.out.trans ha
  replace LB : Hid (z + 1 ≤ w17.heap.size) := Nat.le_trans LB.out ha.size
  clear ha C
  have C := C1
  clear C1
  obtain ⟨k, rfl⟩ : ∃ k : Nat, r2 = k := ⟨r2.toNat, by omega⟩
  have IV1 : Hid (k ≤ 2 ∧ Apart L0 ∧ 1 ≤ L0.length ∧ L0.length + k ≤ 3) := ⟨by omega, HAP.out.1, by have := HAP.out.2.1; omega, by have := HAP.out.2.1; omega⟩
  have IV2 : Hid (∃ M, M + 130010 * k ≤ m + 520060 ∧ ModL 14010 B g z y1 a n cap M w w17 L0 []) := ⟨m + 260030 + 2, by have := IV1.out.1; omega, ⟨⟨_, _, _, _, _, _, _, _, bm, FR.out, GR.out⟩, br, C, A.out, LB.out, HY1.out, SM.out, GS.out⟩⟩
  clear r20 r21 bm br C A LB FR GR SM GS HAP
  go_wp2
  go_loopw [5] (fun vn wr => ∃ (j : Nat) (L : List Fd), vn = .int .i64 (j : Int) ∧ Hid (j ≤ 2 ∧ Apart L ∧ 1 ≤ L.length ∧ L.length + j ≤ 3) ∧ Hid (∃ M, M + 130010 * j ≤ m + 520060 ∧ ModL 14010 B g z y1 a n cap M w wr L [])) (fun vn _ => (intOf vn).toNat)
  case atStart => exact ⟨k, L0, rfl, IV1, IV2⟩
  case round =>
    clear IV1 IV2
    obtain ⟨j, L, rfl, HJ, HI⟩ := hrel
    obtain ⟨M, hM, hL⟩ := HI.out
    have HMJ : Hid (M + 130010 * j ≤ m + 520060) := hM
    have HL : Hid _ := hL
    clear HI hM hL
    obtain ⟨⟨fa, fc, ga, gc, mem, pg, mo, so, bm, hFR, hGR⟩, br, C, hA, hLB, _, hsm, hgs⟩ := HL.out
    have A : Hid (Aft B g w wr) := hA
    have LB : Hid (z + 1 ≤ wr.heap.size) := hLB
    have FR : Hid (FRow (z + 1) wr (.slice fa L.length fc) L) := hFR
    have GR : Hid (wr.ownsRow (z + 1) 57 3 (.slice ga ([] : List Glo7).length gc) ([] : List Glo7).length (gcv ([] : List Glo7))) := hGR
    have SM : Hid (∀ x ∈ L, SmW 14010 x.f) := hsm
    have GS : Hid (∀ x ∈ ([] : List Glo7), okG x) := hgs
    clear hA hLB hFR hGR hsm hgs HL
    by_cases hj : 0 < (j : Int)
    · obtain ⟨j, rfl⟩ : ∃ i, j = i + 1 := ⟨j - 1, by omega⟩
      have HMM : Hid (M ≤ 399000) := by unfold Hid; have := HMJ.out; have := hm.out; omega
      go_wp2
      refine wa_begin (by kernel_rfl) ?_
      obtain ⟨w18, hD⟩ : ∃ W, wr.drew = W := ⟨_, rfl⟩
      have hb : Below wr.heap.size wr w18 := by rw [← hD]; exact (Below.refl _ _).drew
      rw [hD]
      replace br := (hb.block (z) (lt_of_block br)).trans br
      replace bm := (hb.block (y1) (lt_of_block bm)).trans bm
      replace FR : Hid (FRow (z + 1) w18 (.slice fa L.length fc) L) := FR.out.keep (fun q h1 h2 => hb.block q h2)
      replace GR : Hid (w18.ownsRow (z + 1) 57 3 (.slice ga ([] : List Glo7).length gc) ([] : List Glo7).length (gcv ([] : List Glo7))) := own_keep GR.out (fun q hq => hb.block q (GR.out.lt q hq).2)
      replace C := C.kept hb
      replace A : Hid (Aft B g w w18) := aft_step A.out hb (Nat.le_trans HC.out.2 (Nat.le_of_lt HC.out.1))
      replace LB : Hid (z + 1 ≤ w18.heap.size) := Nat.le_trans LB.out hb.size
      clear hb hD
      refine wa_take 0 (some 37) (.pointer (some ⟨y1, 0, none⟩)) rfl rfl (by kernel_rfl) (by kernel_rfl) (by kernel_rfl) (fun _ _ _ h => h) (by rfl) (fun _ => by kernel_rfl) ?_
      simp only [Act.put, List.setIfInBounds_toArray, List.set_cons_zero, List.set_cons_succ]
      refine wa_take 2 (some 39) (.pointer (some ⟨g, 0, none⟩)) rfl rfl (by kernel_rfl) (by kernel_rfl) (by kernel_rfl) (fun _ _ _ h => h) (by rfl) (fun _ => by kernel_rfl) ?_
      simp only [Act.put, List.setIfInBounds_toArray, List.set_cons_zero, List.set_cons_succ]
      refine wa_first 1 (some 38) (.slice fa L.length fc) (fun w' : World => w'.heap[y1]? = some (.cells #[.slice fa L.length fc, .slice ga ([] : List Glo7).length gc, .bool mem, .int .i64 pg, .int .i64 mo, .int .i64 so] 26 (0, 0))) rfl rfl (by kernel_rfl) (by kernel_rfl) (by kernel_rfl) (fun _ _ _ h => h) (by rfl) (fun w' hS => by have q0 : w'.cell? ⟨y1, 0, none⟩ = some (.slice fa L.length fc) := (cell_of_block hS 0).trans rfl; clear hS; go_simp) bm ?_
      simp only [Act.put, List.setIfInBounds_toArray, List.set_cons_zero, List.set_cons_succ]
      refine wb_call 3 (some 40) 24 #[.pointer (some ⟨g, 0, none⟩), .int .i64 0] (by kernel_rfl) (by kernel_rfl) rfl rfl (by rfl) (by kernel_rfl) ?_
      refine (curFncB g a n cap B (M) (hid_le (by have := HMM.out; omega)) w18 C).mono ?_
      rintro e w19 ⟨vp, vl, vb, res, ps, ls, bd, rfl, HF, HS, C1, HA⟩
      have HNE : Hid (∀ y ∈ L, y.vb.ownBlock ≠ vb.ownBlock) := fun y hy e => by
        obtain ⟨q, c, e1, _⟩ := own_pos (FR.out.ok y hy).bd ((SM.out y hy).2.2.1.2 (by omega))
        have h1 := ((FR.out.ok y hy).bd.lt q (by rw [e1]; rfl)).2
        have h2 := (HF.out.bd.lt q (by rw [← e, e1]; rfl)).1
        omega
      obtain ⟨ap, cp, e1⟩ := slice_ints HF.out.ps
      obtain ⟨al, cl, e2⟩ := slice_ints HF.out.ls
      obtain ⟨ab, cb', e3⟩ := slice_ins HF.out.bd
      subst e1 e2 e3
      have ha := HA.out
      have FO : Hid (FunO (z + 1) w19 (.slice ap ps.length cp) (.slice al ls.length cl) (.slice ab bd.length cb') ps ls bd) := HF.out.base LB.out
      replace br := (ha.blk (z) (by have hc1 := HC.out; have hc2 := HZ.out; omega) (lt_of_block br)).trans br
      replace bm := (ha.blk (y1) (by have h3 := hley1.out; have hc1 := HC.out; have hc2 := HZ.out; omega) (lt_of_block bm)).trans bm
      replace FR : Hid (FRow (z + 1) w19 (.slice fa L.length fc) L) := FR.out.keep (fun q h1 h2 => ha.blk q (by have hc1 := HC.out; have hc2 := HZ.out; omega) h2)
      replace GR : Hid (w19.ownsRow (z + 1) 57 3 (.slice ga ([] : List Glo7).length gc) ([] : List Glo7).length (gcv ([] : List Glo7))) := own_keep GR.out (fun q hq => ha.blk q (by have h4 := (GR.out.lt q hq).1; have hc1 := HC.out; have hc2 := HZ.out; omega) (GR.out.lt q hq).2)
      replace A : Hid (Aft B g w w19) := A.out.trans ha
      replace LB : Hid (z + 1 ≤ w19.heap.size) := Nat.le_trans LB.out ha.size
      clear ha C HA HF
      have C := C1
      clear C1
      refine ⟨_, rfl, bm, ?_⟩
      simp only [Act.put, List.setIfInBounds_toArray, List.set_cons_zero, List.set_cons_succ]
      obtain ⟨y4, hy4⟩ : ∃ z, w19.heap.size = z := ⟨_, rfl⟩
      obtain ⟨w20, hNw20⟩ : ∃ W, w19.alloc (.cells #[.slice ap ps.length cp, .int .i64 res, .slice al ls.length cl, .slice ab bd.length cb'] 39) = W := ⟨_, rfl⟩
      have hb : Below w19.heap.size w19 w20 := by rw [← hNw20]; exact bel_alloc (Below.refl _ _) _
      have hley4 : Hid (z + 1 ≤ y4) := by unfold Hid; rw [← hy4]; exact LB.out
      replace br := (hb.block (z) (lt_of_block br)).trans br
      replace bm := (hb.block (y1) (lt_of_block bm)).trans bm
      replace FR : Hid (FRow (z + 1) w20 (.slice fa L.length fc) L) := FR.out.keep (fun q h1 h2 => hb.block q h2)
      replace GR : Hid (w20.ownsRow (z + 1) 57 3 (.slice ga ([] : List Glo7).length gc) ([] : List Glo7).length (gcv ([] : List Glo7))) := own_keep GR.out (fun q hq => hb.block q (GR.out.lt q hq).2)
      replace FO : Hid (FunO (z + 1) w20 (.slice ap ps.length cp) (.slice al ls.length cl) (.slice ab bd.length cb') ps ls bd) := FO.out.keep (fun q h1 h2 => hb.block q h2)
      replace C := C.kept hb
      replace A : Hid (Aft B g w w20) := aft_step A.out hb (Nat.le_trans HC.out.2 (Nat.le_of_lt HC.out.1))
      replace LB : Hid (z + 1 ≤ w20.heap.size) := Nat.le_trans LB.out hb.size
      have be : w20.heap[y4]? = some (.cells #[.slice ap ps.length cp, .int .i64 res, .slice al ls.length cl, .slice ab bd.length cb'] 39 (0, 0)) := by rw [← hNw20, ← hy4]; exact heap_alloc_new _ _
      clear hb
      refine wb_val 4 (some 41) (.slice (some ⟨y4, 0, none⟩) 1 1) w20 (by kernel_rfl) (by kernel_rfl) rfl rfl (by rfl) (by rw [← hNw20, ← hy4]; go_simp) bm ?_
      simp only [Act.put, List.setIfInBounds_toArray, List.set_cons_zero, List.set_cons_succ]
      clear hNw20 hy4
      obtain ⟨F1, hF1⟩ : ∃ x : Fd, x = ⟨.slice ap ps.length cp, .slice al ls.length cl, .slice ab bd.length cb', ⟨ps, res, ls, bd⟩⟩ := ⟨_, rfl⟩
      have hc : ∀ (j : Nat) (u : Value), (fcv [F1])[j]? = some u → w20.cell? ⟨y4, 0 + j, none⟩ = some u := fun j u hu => by
        have hj : j < 4 := by rcases Nat.lt_or_ge j 4 with h' | h'; exact h'; rw [List.getElem?_eq_none (by rw [fcv_len]; simpa using h')] at hu; cases hu
        have hjj : j = 0 ∨ j = 1 ∨ j = 2 ∨ j = 3 := by omega
        rw [hF1] at hu
        rcases hjj with rfl | rfl | rfl | rfl
        · exact (cell_of_block be 0).trans (by simpa [fcv, fdC] using hu)
        · exact (cell_of_block be 1).trans (by simpa [fcv, fdC] using hu)
        · exact (cell_of_block be 2).trans (by simpa [fcv, fdC] using hu)
        · exact (cell_of_block be 3).trans (by simpa [fcv, fdC] using hu)
      obtain ⟨vF, w21, hrun, hF, hgF⟩ := appFun w20 (z + 1) (.slice fa L.length fc) L FR.out y4 0 1 [F1] (fun x hx => by simp only [List.mem_singleton] at hx; rw [hx, hF1]; exact FO.out) hc (by have := HJ.out; simp; omega) LB.out 23
      obtain ⟨aF, cF, e5⟩ := slice_fun hF
      subst e5
      have HF1 : Hid (SmW 14010 F1.f ∧ ∀ y ∈ L, y.vb.ownBlock ≠ F1.vb.ownBlock) := by unfold Hid; rw [hF1]; exact ⟨⟨HS.out.1, HS.out.2.1, ⟨HS.out.2.2.1.1, fun _ => HS.out.2.2.1.2⟩, HS.out.2.2.2⟩, HNE.out⟩
      clear hc hF1 HS HNE FO be
      have hbz : Below (z + 1) w20 w21 := (Below.refl _ _).grown hgF LB.out (fun q hq => (FR.out.row.lt q hq).1)
      replace br := (hbz.block z (by omega)).trans br
      replace bm := (hgF.block y1 (lt_of_block bm) (fun e => by obtain ⟨cur, hc, _⟩ := own_at FR.out.row e.symm; rw [bm] at hc; simp at hc)).trans bm
      replace GR : Hid (w21.ownsRow (z + 1) 57 3 (.slice ga ([] : List Glo7).length gc) ([] : List Glo7).length (gcv ([] : List Glo7))) := own_keep GR.out (fun q hq => hgF.block q (GR.out.lt q hq).2 (fun e => own_apart GR.out FR.out.row (by decide) hq e.symm))
      replace C := cur_low C hbz (by have h1 := HC.out; have h2 := HZ.out; omega)
      replace A : Hid (Aft B g w w21) := aft_upto A.out (hbz.mono (by have h2 := HZ.out; omega)) (Nat.le_trans HC.out.2 (Nat.le_of_lt HC.out.1))
      replace LB : Hid (z + 1 ≤ w21.heap.size) := Nat.le_trans LB.out hbz.size
      clear hbz hgF FR
      have FR : Hid (FRow (z + 1) w21 (.slice aF (L ++ [F1]).length cF) (L ++ [F1])) := hF
      have HLE : Hid ((L ++ [F1]).length = L.length + 1) := by unfold Hid; simp
      obtain ⟨L2, hL2⟩ : ∃ l, L ++ [F1] = l := ⟨_, rfl⟩
      have HL2 : Hid (Apart L2 ∧ L2.length = L.length + 1 ∧ ∀ x ∈ L2, SmW 14010 x.f) := by
        unfold Hid; rw [← hL2]
        refine ⟨apart_app HJ.out.2.1 HF1.out.2, HLE.out, fun x hx => ?_⟩
        rcases List.mem_append.1 hx with hx | hx
        · exact SM.out x hx
        · simp only [List.mem_singleton] at hx; rw [hx]; exact HF1.out.1
      rw [hL2] at FR
      simp only [List.length_append, List.length_singleton] at hrun
      rw [← HL2.out.2.1] at hrun
      clear hL2 hF HLE HF1
      refine wb_leave_val 5 (some 42) (.slice aF L2.length cF) w21 (by kernel_rfl) (by kernel_rfl) rfl rfl (by rfl) (by simp [execOp, resolve, invoke, builtin, Act.eval, hrun, Result.andThen]) ?_
      simp only [Act.put, List.setIfInBounds_toArray, List.set_cons_zero, List.set_cons_succ]
      clear hrun
      refine wa_val 6 (some 43) (.pointer (some ⟨y1, 0, none⟩)) w21 (by kernel_rfl) rfl rfl (by rfl) (by kernel_rfl) ?_
      simp only [Act.put, List.setIfInBounds_toArray, List.set_cons_zero, List.set_cons_succ]
      have pm0x10 : w21.cell? ⟨y1, 0, none⟩ = some (.slice fa L.length fc) := (cell_of_block bm 0).trans rfl
      have pm1x10 : w21.cell? ⟨y1, 1, none⟩ = some (.slice ga ([] : List Glo7).length gc) := (cell_of_block bm 1).trans rfl
      have pm2x10 : w21.cell? ⟨y1, 2, none⟩ = some (.bool mem) := (cell_of_block bm 2).trans rfl
      have pm3x10 : w21.cell? ⟨y1, 3, none⟩ = some (.int .i64 pg) := (cell_of_block bm 3).trans rfl
      have pm4x10 : w21.cell? ⟨y1, 4, none⟩ = some (.int .i64 mo) := (cell_of_block bm 4).trans rfl
      have pm5x10 : w21.cell? ⟨y1, 5, none⟩ = some (.int .i64 so) := (cell_of_block bm 5).trans rfl
      have fm0x10 := free_of_block bm 0
      have fm1x10 := free_of_block bm 1
      have fm2x10 := free_of_block bm 2
      have fm3x10 := free_of_block bm 3
      have fm4x10 := free_of_block bm 4
      have fm5x10 := free_of_block bm 5
      obtain ⟨w22, hNw22⟩ : ∃ G, (w21.setCell ⟨y1, 0, none⟩ (.slice aF L2.length cF)) = G := ⟨_, rfl⟩
      obtain ⟨s1, s2, s3, s4⟩ := set1T bm 0 (.slice aF L2.length cF) hNw22
      replace s1 : w22.heap[y1]? = some (.cells #[.slice aF L2.length cF, .slice ga ([] : List Glo7).length gc, .bool mem, .int .i64 pg, .int .i64 mo, .int .i64 so] 26 (0, 0)) := s1
      replace br := (s2 (z) (by have h3 := hley1.out; omega)).trans br
      replace GR : Hid (w22.ownsRow (z + 1) 57 3 (.slice ga ([] : List Glo7).length gc) ([] : List Glo7).length (gcv ([] : List Glo7))) := own_keep GR.out (fun q hq => s2 q (fun e => by obtain ⟨cur, hc, _⟩ := own_at GR.out hq; rw [e, bm] at hc; simp at hc))
      replace FR : Hid (FRow (z + 1) w22 (.slice aF L2.length cF) L2) := FRow.farM FR.out bm (by decide) (by decide) (by decide) s2
      have hsl : w.heap.size ≤ y1 := by have h3 := hley1.out; have hc1 := HC.out; have hc2 := HZ.out; omega
      have hs : Below w.heap.size w21 w22 := s4 _ _ hsl (Below.refl _ _)
      replace C := cur_upto C hs HC.out.1
      replace A : Hid (Aft B g w w22) := aft_upto A.out hs (Nat.le_trans HC.out.2 (Nat.le_of_lt HC.out.1))
      replace LB : Hid (z + 1 ≤ w22.heap.size) := by unfold Hid; rw [s3]; exact LB.out
      replace bm := s1
      clear s1 s2 s3 s4 hs hsl
      refine wa_store 7 none w22 (by kernel_rfl) rfl rfl (by rfl) (by rw [← hNw22]; go_simp) ?_
      simp only [Act.put]
      clear pm0x10 pm1x10 pm2x10 pm3x10 pm4x10 pm5x10 fm0x10 fm1x10 fm2x10 fm3x10 fm4x10 fm5x10 hNw22
      refine wa_done (by kernel_rfl) ?_
      have REL : Hid (j ≤ 2 ∧ Apart L2 ∧ 1 ≤ L2.length ∧ L2.length + j ≤ 3) := ⟨by have := HJ.out; omega, HL2.out.1, by have := HL2.out.2.1; omega, by have := HL2.out.2.1; have := HJ.out; omega⟩
      have REL2 : Hid (∃ M', M' + 130010 * j ≤ m + 520060 ∧ ModL 14010 B g z y1 a n cap M' w w22 L2 []) := ⟨M + 130008, by have := HMJ.out; omega, ⟨⟨_, _, _, _, _, _, _, _, bm, FR.out, GR.out⟩, br, C, A.out, LB.out, HY1.out, HL2.out.2.2, GS.out⟩⟩
      have HWJ : Hid (wrap64 (j : Int) = (j : Int) ∧ (intOf (Value.int .i64 (wrap64 (j : Int)))).toNat < (intOf (Value.int .i64 ((j + 1 : Nat) : Int))).toNat) := w64j j (by have := REL.out.1; omega)
      go_wp2
      go_roundw
      case rel => exact ⟨j, L2, congrArg (Value.int .i64) HWJ.out.1, REL, REL2⟩
      case measure => exact HWJ.out.2
    · have hj0 : j = 0 := by omega
      have HML : Hid (M ≤ m + 520060 ∧ Apart L ∧ 1 ≤ L.length ∧ L.length ≤ 3) := ⟨by have := HMJ.out; omega, HJ.out.2.1, HJ.out.2.2.1, by have := HJ.out.2.2.2; omega⟩
      have HMM : Hid (M ≤ 521000) := by unfold Hid; have := HML.out.1; have := hm.out; omega
      clear HJ HMJ hj
      subst hj0
      go_wp2_with fail
      refine (curOne 2 (by omega) (by omega) g a n cap B (M) (hid_le (by have := HMM.out; omega)) wr C).mono ?_
      rintro e w18 ⟨b3, rfl, C1, ha⟩
      replace br := (ha.blk (z) (by have hc1 := HC.out; have hc2 := HZ.out; omega) (lt_of_block br)).trans br
      replace bm := (ha.blk (y1) (by have h3 := hley1.out; have hc1 := HC.out; have hc2 := HZ.out; omega) (lt_of_block bm)).trans bm
      replace FR : Hid (FRow (z + 1) w18 (.slice fa L.length fc) L) := FR.out.keep (fun q h1 h2 => ha.blk q (by have hc1 := HC.out; have hc2 := HZ.out; omega) h2)
      replace GR : Hid (w18.ownsRow (z + 1) 57 3 (.slice ga ([] : List Glo7).length gc) ([] : List Glo7).length (gcv ([] : List Glo7))) := own_keep GR.out (fun q hq => ha.blk q (by have h4 := (GR.out.lt q hq).1; have hc1 := HC.out; have hc2 := HZ.out; omega) (GR.out.lt q hq).2)
      replace A : Hid (Aft B g w w18) := A.out.trans ha
      replace LB : Hid (z + 1 ≤ w18.heap.size) := Nat.le_trans LB.out ha.size
      clear ha C
      have C := C1
      clear C1
      go_upto_if 45 with fail
      go_cut [6] (fun _ wx => ∃ (L' : List Fd) (G' : List Glo7), Hid (ModL 14020 B g z y1 a n cap (m + 520080) w wx L' G') ∧ Hid (Apart L' ∧ 1 ≤ L'.length ∧ L'.length ≤ 3 ∧ G'.length ≤ 1))
      case first =>
        cases b3
        · go_wp2
          go_meet
          exact ⟨L, [], ⟨⟨_, _, _, _, _, _, _, _, bm, FR.out, GR.out⟩, br, C.more (by have := HML.out.1; omega), A.out, LB.out, HY1.out, (fun x hx => ⟨(SM.out x hx).1, (SM.out x hx).2.1, ⟨Nat.le_trans (SM.out x hx).2.2.1.1 (by omega), fun _ => (SM.out x hx).2.2.1.2 (by omega)⟩, (SM.out x hx).2.2.2⟩), GS.out⟩, ⟨HML.out.2.1, HML.out.2.2.1, HML.out.2.2.2, by simp⟩⟩
        · skip
          go_wp2
          refine wa_begin (by kernel_rfl) ?_
          obtain ⟨w19, hD⟩ : ∃ W, w18.drew = W := ⟨_, rfl⟩
          have hb : Below w18.heap.size w18 w19 := by rw [← hD]; exact (Below.refl _ _).drew
          rw [hD]
          replace br := (hb.block (z) (lt_of_block br)).trans br
          replace bm := (hb.block (y1) (lt_of_block bm)).trans bm
          replace FR : Hid (FRow (z + 1) w19 (.slice fa L.length fc) L) := FR.out.keep (fun q h1 h2 => hb.block q h2)
          replace GR : Hid (w19.ownsRow (z + 1) 57 3 (.slice ga ([] : List Glo7).length gc) ([] : List Glo7).length (gcv ([] : List Glo7))) := own_keep GR.out (fun q hq => hb.block q (GR.out.lt q hq).2)
          replace C := C.kept hb
          replace A : Hid (Aft B g w w19) := aft_step A.out hb (Nat.le_trans HC.out.2 (Nat.le_of_lt HC.out.1))
          replace LB : Hid (z + 1 ≤ w19.heap.size) := Nat.le_trans LB.out hb.size
          clear hb hD
          refine wa_take 0 (some 46) (.pointer (some ⟨y1, 1, none⟩)) rfl rfl (by kernel_rfl) (by kernel_rfl) (by kernel_rfl) (fun _ _ _ h => h) (by rfl) (fun _ => by kernel_rfl) ?_
          simp only [Act.put, List.setIfInBounds_toArray, List.set_cons_zero, List.set_cons_succ]
          refine wa_take 2 (some 48) (.pointer (some ⟨g, 0, none⟩)) rfl rfl (by kernel_rfl) (by kernel_rfl) (by kernel_rfl) (fun _ _ _ h => h) (by rfl) (fun _ => by kernel_rfl) ?_
          simp only [Act.put, List.setIfInBounds_toArray, List.set_cons_zero, List.set_cons_succ]
          refine wa_first 1 (some 47) (.slice ga ([] : List Glo7).length gc) (fun w' : World => w'.heap[y1]? = some (.cells #[.slice fa L.length fc, .slice ga ([] : List Glo7).length gc, .bool mem, .int .i64 pg, .int .i64 mo, .int .i64 so] 26 (0, 0))) rfl rfl (by kernel_rfl) (by kernel_rfl) (by kernel_rfl) (fun _ _ _ h => h) (by rfl) (fun w' hS => by have q1 : w'.cell? ⟨y1, 1, none⟩ = some (.slice ga ([] : List Glo7).length gc) := (cell_of_block hS 1).trans rfl; clear hS; go_simp) bm ?_
          simp only [Act.put, List.setIfInBounds_toArray, List.set_cons_zero, List.set_cons_succ]
          refine wb_call 3 (some 49) 13 #[.pointer (some ⟨g, 0, none⟩), .int .i64 100] (by kernel_rfl) (by kernel_rfl) rfl rfl (by rfl) (by kernel_rfl) ?_
          refine (curPick 100 (by omega) (by omega) g a n cap B (M + 2) (hid_le (by have := HMM.out; omega)) w19 C).mono ?_
          rintro e w20 ⟨rg, rg0, rg1, rfl, C1, ha⟩
          replace br := (ha.blk (z) (by have hc1 := HC.out; have hc2 := HZ.out; omega) (lt_of_block br)).trans br
          replace bm := (ha.blk (y1) (by have h3 := hley1.out; have hc1 := HC.out; have hc2 := HZ.out; omega) (lt_of_block bm)).trans bm
          replace FR : Hid (FRow (z + 1) w20 (.slice fa L.length fc) L) := FR.out.keep (fun q h1 h2 => ha.blk q (by have hc1 := HC.out; have hc2 := HZ.out; omega) h2)
          replace GR : Hid (w20.ownsRow (z + 1) 57 3 (.slice ga ([] : List Glo7).length gc) ([] : List Glo7).length (gcv ([] : List Glo7))) := own_keep GR.out (fun q hq => ha.blk q (by have h4 := (GR.out.lt q hq).1; have hc1 := HC.out; have hc2 := HZ.out; omega) (GR.out.lt q hq).2)
          replace A : Hid (Aft B g w w20) := A.out.trans ha
          replace LB : Hid (z + 1 ≤ w20.heap.size) := Nat.le_trans LB.out ha.size
          clear ha C
          have C := C1
          clear C1
          refine ⟨_, rfl, bm, ?_⟩
          simp only [Act.put, List.setIfInBounds_toArray, List.set_cons_zero, List.set_cons_succ]
          have hwg : IntKind.u64.wrap rg = rg := by rw [IntKind.wrap_u64]; omega
          have HRG : Hid (0 ≤ rg ∧ rg ≤ 18446744073709551615) := ⟨rg0, by omega⟩
          clear rg0 rg1
          refine wb_val 4 (some 50) (.int .u64 rg) w20 (by kernel_rfl) (by kernel_rfl) rfl rfl (by rfl) (by go_simp) bm ?_
          simp only [Act.put, List.setIfInBounds_toArray, List.set_cons_zero, List.set_cons_succ]
          clear hwg
          refine wb_val 5 (some 51) (.agg #[.int .i64 127, .bool false, .int .u64 rg]) w20 (by kernel_rfl) (by kernel_rfl) rfl rfl (by rfl) (by go_simp) bm ?_
          simp only [Act.put, List.setIfInBounds_toArray, List.set_cons_zero, List.set_cons_succ]
          obtain ⟨y4, hy4⟩ : ∃ z, w20.heap.size = z := ⟨_, rfl⟩
          obtain ⟨w21, hNw21⟩ : ∃ W, w20.alloc (.cells #[.int .i64 127, .bool false, .int .u64 rg] 57) = W := ⟨_, rfl⟩
          have hb : Below w20.heap.size w20 w21 := by rw [← hNw21]; exact bel_alloc (Below.refl _ _) _
          have hley4 : Hid (z + 1 ≤ y4) := by unfold Hid; rw [← hy4]; exact LB.out
          replace br := (hb.block (z) (lt_of_block br)).trans br
          replace bm := (hb.block (y1) (lt_of_block bm)).trans bm
          replace FR : Hid (FRow (z + 1) w21 (.slice fa L.length fc) L) := FR.out.keep (fun q h1 h2 => hb.block q h2)
          replace GR : Hid (w21.ownsRow (z + 1) 57 3 (.slice ga ([] : List Glo7).length gc) ([] : List Glo7).length (gcv ([] : List Glo7))) := own_keep GR.out (fun q hq => hb.block q (GR.out.lt q hq).2)
          replace C := C.kept hb
          replace A : Hid (Aft B g w w21) := aft_step A.out hb (Nat.le_trans HC.out.2 (Nat.le_of_lt HC.out.1))
          replace LB : Hid (z + 1 ≤ w21.heap.size) := Nat.le_trans LB.out hb.size
          have be : w21.heap[y4]? = some (.cells #[.int .i64 127, .bool false, .int .u64 rg] 57 (0, 0)) := by rw [← hNw21, ← hy4]; exact heap_alloc_new _ _
          clear hb
          refine wb_val 6 (some 52) (.slice (some ⟨y4, 0, none⟩) 1 1) w21 (by kernel_rfl) (by kernel_rfl) rfl rfl (by rfl) (by rw [← hNw21, ← hy4]; go_simp) bm ?_
          simp only [Act.put, List.setIfInBounds_toArray, List.set_cons_zero, List.set_cons_succ]
          clear hNw21 hy4
          have hc : ∀ (j : Nat) (u : Value), (gcv [(⟨127, false, rg⟩ : Glo7)])[j]? = some u → w21.cell? ⟨y4, 0 + j, none⟩ = some u := fun j u hu => by
            have hj : j < 3 := by rcases Nat.lt_or_ge j 3 with h' | h'; exact h'; rw [List.getElem?_eq_none (by rw [gcv_len]; simpa using h')] at hu; cases hu
            have hjj : j = 0 ∨ j = 1 ∨ j = 2 := by omega
            rcases hjj with rfl | rfl | rfl
            · exact (cell_of_block be 0).trans (by simpa [gcv, gdC] using hu)
            · exact (cell_of_block be 1).trans (by simpa [gcv, gdC] using hu)
            · exact (cell_of_block be 2).trans (by simpa [gcv, gdC] using hu)
          obtain ⟨vG, w22, hrun, hG, hgG⟩ := appGlo w21 (z + 1) _ ([] : List Glo7) GR.out y4 0 1 [(⟨127, false, rg⟩ : Glo7)] hc (by simp) LB.out 24
          obtain ⟨aG, cG, e6, _⟩ := glos_own hG
          subst e6
          clear hc be
          have hbz : Below (z + 1) w21 w22 := (Below.refl _ _).grown hgG LB.out (fun q hq => (GR.out.lt q hq).1)
          replace br := (hbz.block z (by omega)).trans br
          replace bm := (hgG.block y1 (lt_of_block bm) (fun e => by obtain ⟨cur, hc, _⟩ := own_at GR.out e.symm; rw [bm] at hc; simp at hc)).trans bm
          replace FR : Hid (FRow (z + 1) w22 (.slice fa L.length fc) L) := FRow.grown GR.out hgG FR.out (by decide) (by decide) (by decide)
          replace C := cur_low C hbz (by have h1 := HC.out; have h2 := HZ.out; omega)
          replace A : Hid (Aft B g w w22) := aft_upto A.out (hbz.mono (by have h2 := HZ.out; omega)) (Nat.le_trans HC.out.2 (Nat.le_of_lt HC.out.1))
          replace LB : Hid (z + 1 ≤ w22.heap.size) := Nat.le_trans LB.out hbz.size
          clear hbz hgG GR
          obtain ⟨G1, hG1⟩ : ∃ l, ([] : List Glo7) ++ [(⟨127, false, rg⟩ : Glo7)] = l := ⟨_, rfl⟩
          have HG1 : Hid (G1 = ([] : List Glo7) ++ [(⟨127, false, rg⟩ : Glo7)] ∧ G1.length = ([] : List Glo7).length + 1) := ⟨hG1.symm, by rw [← hG1]; simp⟩
          rw [hG1] at hG hrun
          have GR : Hid (w22.ownsRow (z + 1) 57 3 (.slice aG G1.length cG) G1.length (gcv G1)) := hG
          simp only [List.length_singleton, List.length_nil] at hrun
          clear hG hG1
          refine wb_leave_val 7 (some 53) (.slice aG G1.length cG) w22 (by kernel_rfl) (by kernel_rfl) rfl rfl (by rfl) (by simp [execOp, resolve, invoke, builtin, Act.eval, hrun, Result.andThen]) ?_
          simp only [Act.put, List.setIfInBounds_toArray, List.set_cons_zero, List.set_cons_succ]
          clear hrun
          refine wa_val 8 (some 54) (.pointer (some ⟨y1, 1, none⟩)) w22 (by kernel_rfl) rfl rfl (by rfl) (by kernel_rfl) ?_
          simp only [Act.put, List.setIfInBounds_toArray, List.set_cons_zero, List.set_cons_succ]
          have pm0x10 : w22.cell? ⟨y1, 0, none⟩ = some (.slice fa L.length fc) := (cell_of_block bm 0).trans rfl
          have pm1x10 : w22.cell? ⟨y1, 1, none⟩ = some (.slice ga ([] : List Glo7).length gc) := (cell_of_block bm 1).trans rfl
          have pm2x10 : w22.cell? ⟨y1, 2, none⟩ = some (.bool mem) := (cell_of_block bm 2).trans rfl
          have pm3x10 : w22.cell? ⟨y1, 3, none⟩ = some (.int .i64 pg) := (cell_of_block bm 3).trans rfl
          have pm4x10 : w22.cell? ⟨y1, 4, none⟩ = some (.int .i64 mo) := (cell_of_block bm 4).trans rfl
          have pm5x10 : w22.cell? ⟨y1, 5, none⟩ = some (.int .i64 so) := (cell_of_block bm 5).trans rfl
          have fm0x10 := free_of_block bm 0
          have fm1x10 := free_of_block bm 1
          have fm2x10 := free_of_block bm 2
          have fm3x10 := free_of_block bm 3
          have fm4x10 := free_of_block bm 4
          have fm5x10 := free_of_block bm 5
          obtain ⟨w23, hNw23⟩ : ∃ G, (w22.setCell ⟨y1, 1, none⟩ (.slice aG G1.length cG)) = G := ⟨_, rfl⟩
          obtain ⟨s1, s2, s3, s4⟩ := set1T bm 1 (.slice aG G1.length cG) hNw23
          replace s1 : w23.heap[y1]? = some (.cells #[.slice fa L.length fc, .slice aG G1.length cG, .bool mem, .int .i64 pg, .int .i64 mo, .int .i64 so] 26 (0, 0)) := s1
          replace br := (s2 (z) (by have h3 := hley1.out; omega)).trans br
          replace FR : Hid (FRow (z + 1) w23 (.slice fa L.length fc) L) := FRow.farM FR.out bm (by decide) (by decide) (by decide) s2
          replace GR : Hid (w23.ownsRow (z + 1) 57 3 (.slice aG G1.length cG) G1.length (gcv G1)) := own_keep GR.out (fun q hq => s2 q (fun e => by obtain ⟨cur, hc, _⟩ := own_at GR.out hq; rw [e, bm] at hc; simp at hc))
          have hsl : w.heap.size ≤ y1 := by have h3 := hley1.out; have hc1 := HC.out; have hc2 := HZ.out; omega
          have hs : Below w.heap.size w22 w23 := s4 _ _ hsl (Below.refl _ _)
          replace C := cur_upto C hs HC.out.1
          replace A : Hid (Aft B g w w23) := aft_upto A.out hs (Nat.le_trans HC.out.2 (Nat.le_of_lt HC.out.1))
          replace LB : Hid (z + 1 ≤ w23.heap.size) := by unfold Hid; rw [s3]; exact LB.out
          replace bm := s1
          clear s1 s2 s3 s4 hs hsl
          refine wa_store 9 none w23 (by kernel_rfl) rfl rfl (by rfl) (by rw [← hNw23]; go_simp) ?_
          simp only [Act.put]
          clear pm0x10 pm1x10 pm2x10 pm3x10 pm4x10 pm5x10 fm0x10 fm1x10 fm2x10 fm3x10 fm4x10 fm5x10 hNw23
          refine wa_done (by kernel_rfl) ?_
          have pm0x11 : w23.cell? ⟨y1, 0, none⟩ = some (.slice fa L.length fc) := (cell_of_block bm 0).trans rfl
          go_wp2_with fail
          clear pm0x11
          refine (curPick (L.length : Int) (by have := HML.out; omega) (by have := HML.out; omega) g a n cap B (M + 2 + 2) (hid_le (by have := HMM.out; omega)) w23 C).mono ?_
          rintro e w24 ⟨r4, r40, r41, rfl, C1, ha⟩
          replace br := (ha.blk (z) (by have hc1 := HC.out; have hc2 := HZ.out; omega) (lt_of_block br)).trans br
          replace bm := (ha.blk (y1) (by have h3 := hley1.out; have hc1 := HC.out; have hc2 := HZ.out; omega) (lt_of_block bm)).trans bm
          replace FR : Hid (FRow (z + 1) w24 (.slice fa L.length fc) L) := FR.out.keep (fun q h1 h2 => ha.blk q (by have hc1 := HC.out; have hc2 := HZ.out; omega) h2)
          replace GR : Hid (w24.ownsRow (z + 1) 57 3 (.slice aG G1.length cG) G1.length (gcv G1)) := own_keep GR.out (fun q hq => ha.blk q (by have h4 := (GR.out.lt q hq).1; have hc1 := HC.out; have hc2 := HZ.out; omega) (GR.out.lt q hq).2)
          replace A : Hid (Aft B g w w24) := A.out.trans ha
          replace LB : Hid (z + 1 ≤ w24.heap.size) := Nat.le_trans LB.out ha.size
          clear ha C
          have C := C1
          clear C1
          obtain ⟨k4, rfl⟩ : ∃ k : Nat, r4 = k := ⟨r4.toNat, by omega⟩
          have HK4 : Hid (k4 < L.length) := by unfold Hid; omega
          clear r40 r41
          have HGS : Hid (∀ x ∈ G1, okG x) := fun x hx => by rw [HG1.out.1] at hx; simp at hx; rw [hx]; exact HRG.out
          obtain ⟨gf, cf, hfa, _⟩ := own_pos FR.out.row (by have := HML.out; omega)
          simp only [Value.slice.injEq, true_and] at hfa
          obtain ⟨rfl, rfl⟩ := hfa
          obtain ⟨Fk, hFk⟩ : ∃ x, L[k4]'HK4.out = x := ⟨_, rfl⟩
          have HFk : Hid (L[k4]'HK4.out = Fk ∧ Fk ∈ L) := ⟨hFk, by rw [← hFk]; exact List.getElem_mem HK4.out⟩
          obtain ⟨gb, cb5, hvb, _⟩ := own_pos (FR.out.ok _ HFk.out.2).bd ((SM.out _ HFk.out.2).2.2.1.2 (by omega))
          have HVB : Hid (Fk.vb = .slice (some ⟨gb, 0, none⟩) Fk.f.body.length cb5) := hvb
          clear hvb hFk
          have hi0 : ¬ (k4 : Int) < 0 := by omega
          have hi1 : (k4 : Int) < (L.length : Int) := by have := HK4.out; omega
          go_wp2
          refine wh_begin (fun w' : World => w'.heap[y1]? = some (.cells #[.slice (some ⟨gf, 0, none⟩) L.length fc, .slice aG G1.length cG, .bool mem, .int .i64 pg, .int .i64 mo, .int .i64 so] 26 (0, 0))) (by kernel_rfl) ?_
          obtain ⟨w25, hD⟩ : ∃ W, w24.drew = W := ⟨_, rfl⟩
          have hb : Below w24.heap.size w24 w25 := by rw [← hD]; exact (Below.refl _ _).drew
          rw [hD]
          replace br := (hb.block (z) (lt_of_block br)).trans br
          replace bm := (hb.block (y1) (lt_of_block bm)).trans bm
          replace FR : Hid (FRow (z + 1) w25 (.slice (some ⟨gf, 0, none⟩) L.length fc) L) := FR.out.keep (fun q h1 h2 => hb.block q h2)
          replace GR : Hid (w25.ownsRow (z + 1) 57 3 (.slice aG G1.length cG) G1.length (gcv G1)) := own_keep GR.out (fun q hq => hb.block q (GR.out.lt q hq).2)
          replace C := C.kept hb
          replace A : Hid (Aft B g w w25) := aft_step A.out hb (Nat.le_trans HC.out.2 (Nat.le_of_lt HC.out.1))
          replace LB : Hid (z + 1 ≤ w25.heap.size) := Nat.le_trans LB.out hb.size
          clear hb hD
          refine wh_take 0 (some 60) (.pointer (some ⟨y1, 0, none⟩)) rfl rfl (by kernel_rfl) (by kernel_rfl) (by kernel_rfl) (fun _ _ _ h => h) bm (by rfl) (fun w' hS => by kernel_rfl) ?_
          simp only [Act.put, List.setIfInBounds_toArray, List.set_cons_zero, List.set_cons_succ]
          refine wh_take 2 (some 62) (.int .i64 (k4 : Int)) rfl rfl (by kernel_rfl) (by kernel_rfl) (by kernel_rfl) (fun _ _ _ h => h) bm (by rfl) (fun w' hS => by kernel_rfl) ?_
          simp only [Act.put, List.setIfInBounds_toArray, List.set_cons_zero, List.set_cons_succ]
          refine wh_take 3 (some 63) (.agg #[.int .i64 35, .int .i64 0]) rfl rfl (by kernel_rfl) (by kernel_rfl) (by kernel_rfl) (fun _ _ _ h => h) bm (by rfl) (fun w' hS => by go_simp) ?_
          simp only [Act.put, List.setIfInBounds_toArray, List.set_cons_zero, List.set_cons_succ]
          refine wh_take 4 (some 64) (.agg #[.int .i64 65, .int .i64 1]) rfl rfl (by kernel_rfl) (by kernel_rfl) (by kernel_rfl) (fun _ _ _ h => h) bm (by rfl) (fun w' hS => by go_simp) ?_
          simp only [Act.put, List.setIfInBounds_toArray, List.set_cons_zero, List.set_cons_succ]
          refine wh_take 5 (some 65) (.agg #[.int .i64 97, .int .i64 0]) rfl rfl (by kernel_rfl) (by kernel_rfl) (by kernel_rfl) (fun _ _ _ h => h) bm (by rfl) (fun w' hS => by go_simp) ?_
          simp only [Act.put, List.setIfInBounds_toArray, List.set_cons_zero, List.set_cons_succ]
          refine wh_take 6 (some 66) (.agg #[.int .i64 36, .int .i64 0]) rfl rfl (by kernel_rfl) (by kernel_rfl) (by kernel_rfl) (fun _ _ _ h => h) bm (by rfl) (fun w' hS => by go_simp) ?_
          simp only [Act.put, List.setIfInBounds_toArray, List.set_cons_zero, List.set_cons_succ]
          refine wh_take 8 (some 68) (.pointer (some ⟨y1, 0, none⟩)) rfl rfl (by kernel_rfl) (by kernel_rfl) (by kernel_rfl) (fun _ _ _ h => h) bm (by rfl) (fun w' hS => by kernel_rfl) ?_
          simp only [Act.put, List.setIfInBounds_toArray, List.set_cons_zero, List.set_cons_succ]
          refine wh_take 10 (some 70) (.int .i64 (k4 : Int)) rfl rfl (by kernel_rfl) (by kernel_rfl) (by kernel_rfl) (fun _ _ _ h => h) bm (by rfl) (fun w' hS => by kernel_rfl) ?_
          simp only [Act.put, List.setIfInBounds_toArray, List.set_cons_zero, List.set_cons_succ]
          refine wh_take 1 (some 61) (.slice (some ⟨gf, 0, none⟩) L.length fc) rfl rfl (by kernel_rfl) (by kernel_rfl) (by kernel_rfl) (fun _ _ _ h => h) bm (by rfl) (fun w' hS => by have q0 : w'.cell? ⟨y1, 0, none⟩ = some (.slice (some ⟨gf, 0, none⟩) L.length fc) := (cell_of_block hS 0).trans rfl; clear hS; go_simp) ?_
          simp only [Act.put, List.setIfInBounds_toArray, List.set_cons_zero, List.set_cons_succ]
          refine wh_take 9 (some 69) (.slice (some ⟨gf, 0, none⟩) L.length fc) rfl rfl (by kernel_rfl) (by kernel_rfl) (by kernel_rfl) (fun _ _ _ h => h) bm (by rfl) (fun w' hS => by have q0 : w'.cell? ⟨y1, 0, none⟩ = some (.slice (some ⟨gf, 0, none⟩) L.length fc) := (cell_of_block hS 0).trans rfl; clear hS; go_simp) ?_
          simp only [Act.put, List.setIfInBounds_toArray, List.set_cons_zero, List.set_cons_succ]
          refine wh_take 11 (some 71) (.pointer (some ⟨gf, k4 * 4, none⟩)) rfl rfl (by kernel_rfl) (by kernel_rfl) (by kernel_rfl) (fun _ _ _ h => h) bm (by rfl) (fun w' hS => by clear hS; go_simp) ?_
          simp only [Act.put, List.setIfInBounds_toArray, List.set_cons_zero, List.set_cons_succ]
          refine wh_take 12 (some 72) (.pointer (some ⟨gf, k4 * 4 + 3, none⟩)) rfl rfl (by kernel_rfl) (by kernel_rfl) (by kernel_rfl) (fun _ _ _ h => h) bm (by rfl) (fun w' hS => by clear hS; go_simp) ?_
          simp only [Act.put, List.setIfInBounds_toArray, List.set_cons_zero, List.set_cons_succ]
          obtain ⟨y5, hy5⟩ : ∃ z, w25.heap.size = z := ⟨_, rfl⟩
          obtain ⟨w26, hNX⟩ : ∃ W, w25.alloc (.cells #[.int .i64 35, .int .i64 0, .int .i64 65, .int .i64 1, .int .i64 97, .int .i64 0, .int .i64 36, .int .i64 0] 41) = W := ⟨_, rfl⟩
          have hb0 : Below w25.heap.size w25 w26 := by rw [← hNX]; exact bel_alloc (Below.refl _ _) _
          have bc : w26.heap[y5]? = some (.cells #[.int .i64 35, .int .i64 0, .int .i64 65, .int .i64 1, .int .i64 97, .int .i64 0, .int .i64 36, .int .i64 0] 41 (0, 0)) := by rw [← hNX, ← hy5]; exact heap_alloc_new _ _
          have RC : Hid (w26.ownsRow y5 41 2 (.slice (some ⟨y5, 0, none⟩) 4 4) ([((35 : Int), (0 : Int)), (65, 1), (97, 0), (36, 0)] : List (Int × Int)).length (pv [((35 : Int), (0 : Int)), (65, 1), (97, 0), (36, 0)])) := ⟨rfl, .inr ⟨y5, 4, _, rfl, Nat.le_refl _, bc, Nat.le_refl _, by unfold maxLen; omega, rfl, rfl⟩⟩
          have LY : Hid (y5 ≤ w26.heap.size) := Nat.le_of_lt (lt_of_block bc)
          have HY5 : Hid (w25.heap.size = y5 ∧ Below w25.heap.size w25 w26) := ⟨hy5, hb0⟩
          have HZY : Hid (z + 1 ≤ y5) := by unfold Hid; rw [← hy5]; exact LB.out
          have bmX := (hb0.block y1 (lt_of_block bm)).trans bm
          have c3 := (FR.out.cells k4 HK4.out).2.2.2
          rw [HFk.out.1, HVB.out] at c3
          have c3X : w26.cell? ⟨gf, k4 * 4 + 3, none⟩ = some (.slice (some ⟨gb, 0, none⟩) Fk.f.body.length cb5) := (hb0.cell (p := ⟨gf, k4 * 4 + 3, none⟩) (FR.out.row.lt gf rfl).2).trans c3
          have HBX : Hid (w26.ownsRow (z + 1) 41 2 (.slice (some ⟨gb, 0, none⟩) Fk.f.body.length cb5) Fk.f.body.length (pv Fk.f.body)) := by
            have h1 := (FR.out.ok _ HFk.out.2).bd
            unfold Hid; rw [← HVB.out]
            exact own_keep h1 (fun q hq => hb0.block q (h1.lt q hq).2)
          obtain ⟨bd5, hbd5⟩ : ∃ l, Fk.f.body = l := ⟨_, rfl⟩
          have HBD5 : Hid (Fk.f.body = bd5 ∧ bd5.length ≤ 14010 ∧ ∀ x ∈ bd5, OkI x) := ⟨hbd5, by rw [← hbd5]; exact (SM.out _ HFk.out.2).2.2.1.1, by rw [← hbd5]; exact (SM.out _ HFk.out.2).2.2.2⟩
          rw [hbd5] at c3 c3X HBX HVB
          clear hbd5 hb0 bc
          refine wh_two 7 13 (by kernel_rfl) ?_ ?_
          · refine wo_val (some 67) (.slice (some ⟨y5, 0, none⟩) 4 4) w26 rfl rfl (by rfl) (by rw [← hNX, ← hy5]; go_simp) bmX ?_
            simp only [Act.put, List.setIfInBounds_toArray, List.set_cons_zero, List.set_cons_succ]
            refine wh_val 13 (some 73) (.slice (some ⟨gb, 0, none⟩) bd5.length cb5) w26 (by kernel_rfl) rfl rfl (by rfl) (by go_simp) bmX ?_
            simp only [Act.put, List.setIfInBounds_toArray, List.set_cons_zero, List.set_cons_succ]
            clear hNX hy5 c3 c3X bmX
            obtain ⟨vA, w27, hrun, hoA, hgA⟩ := appIns w26 y5 (.slice (some ⟨y5, 0, none⟩) 4 4) [((35 : Int), (0 : Int)), (65, 1), (97, 0), (36, 0)] RC.out gb 0 cb5 bd5 (fun j u hu => by rw [Nat.zero_add]; exact row_cells HBX.out j u hu) (by have := HBD5.out.2.1; simp; omega) LY.out 37
            obtain ⟨aA, cA, e7⟩ := slice_ins hoA
            subst e7
            have hb : Below w25.heap.size w25 w27 := by
              have h1 : Below y5 w26 w27 := (Below.refl _ _).grown hgA LY.out (fun q hq => (RC.out.lt q hq).1)
              have h2 := HY5.out.2
              rw [HY5.out.1] at h2 ⊢
              exact h2.trans h1
            have HNE : Hid (∀ y ∈ L, y.vb.ownBlock ≠ (Value.slice aA ([((35 : Int), (0 : Int)), (65, 1), (97, 0), (36, 0)] ++ bd5).length cA).ownBlock) := fun y hy e => by
              obtain ⟨q, c, e1, _⟩ := own_pos (FR.out.ok y hy).bd ((SM.out y hy).2.2.1.2 (by omega))
              have h1 := ((FR.out.ok y hy).bd.lt q (by rw [e1]; rfl)).2
              have h2 := (hoA.lt q (by rw [← e, e1]; rfl)).1
              have h3 := HY5.out.1
              omega
            replace br := (hb.block (z) (lt_of_block br)).trans br
            replace bm := (hb.block (y1) (lt_of_block bm)).trans bm
            replace FR : Hid (FRow (z + 1) w27 (.slice (some ⟨gf, 0, none⟩) L.length fc) L) := FR.out.keep (fun q h1 h2 => hb.block q h2)
            replace GR : Hid (w27.ownsRow (z + 1) 57 3 (.slice aG G1.length cG) G1.length (gcv G1)) := own_keep GR.out (fun q hq => hb.block q (GR.out.lt q hq).2)
            replace C := C.kept hb
            replace A : Hid (Aft B g w w27) := aft_step A.out hb (Nat.le_trans HC.out.2 (Nat.le_of_lt HC.out.1))
            replace LB : Hid (z + 1 ≤ w27.heap.size) := Nat.le_trans LB.out hb.size
            have HOA : Hid (w27.ownsRow (z + 1) 41 2 (.slice aA ([((35 : Int), (0 : Int)), (65, 1), (97, 0), (36, 0)] ++ bd5).length cA) ([((35 : Int), (0 : Int)), (65, 1), (97, 0), (36, 0)] ++ bd5).length (pv ([((35 : Int), (0 : Int)), (65, 1), (97, 0), (36, 0)] ++ bd5))) := own_baseI hoA HZY.out
            clear hb hgA RC LY HY5 HBX hoA
            obtain ⟨bd6, hbd6⟩ : ∃ l, [((35 : Int), (0 : Int)), (65, 1), (97, 0), (36, 0)] ++ bd5 = l := ⟨_, rfl⟩
            have HBD6 : Hid ((bd6.length ≤ 14020 ∧ 0 < bd6.length) ∧ ∀ x ∈ bd6, OkI x) := by
              unfold Hid; rw [← hbd6]
              refine ⟨⟨by have := HBD5.out.2.1; simp; omega, by simp⟩, fun x hx => ?_⟩
              rcases List.mem_append.1 hx with hx | hx
              · simp at hx; rcases hx with rfl | rfl | rfl | rfl <;> exact ⟨by decide, by decide⟩
              · exact HBD5.out.2.2 x hx
            rw [hbd6] at HOA HNE hrun
            clear hbd6
            refine wh_val 14 (some 74) (.slice aA bd6.length cA) w27 (by kernel_rfl) rfl rfl (by rfl) (by simp [execOp, resolve, invoke, builtin, Act.eval, hrun, Result.andThen]) bm ?_
            simp only [Act.put, List.setIfInBounds_toArray, List.set_cons_zero, List.set_cons_succ]
            clear hrun
            refine wh_val 15 (some 75) (.pointer (some ⟨gf, k4 * 4, none⟩)) w27 (by kernel_rfl) rfl rfl (by rfl) (by go_simp) bm ?_
            simp only [Act.put, List.setIfInBounds_toArray, List.set_cons_zero, List.set_cons_succ]
            refine wh_val 16 (some 76) (.pointer (some ⟨gf, k4 * 4 + 3, none⟩)) w27 (by kernel_rfl) rfl rfl (by rfl) (by go_simp) bm ?_
            simp only [Act.put, List.setIfInBounds_toArray, List.set_cons_zero, List.set_cons_succ]
            have c3 := (FR.out.cells k4 HK4.out).2.2.2
            have f3 := FR.out.row.frozenAt (k4 * 4 + 3)
            obtain ⟨w28, hNb⟩ : ∃ G, w27.setCell ⟨gf, k4 * 4 + 3, none⟩ (.slice aA bd6.length cA) = G := ⟨_, rfl⟩
            have hoth : ∀ b, b ≠ gf → w28.heap[b]? = w27.heap[b]? := fun b hb => by rw [← hNb]; exact heap_setCell_other _ ⟨gf, k4 * 4 + 3, none⟩ b _ hb
            have hgz : z + 1 ≤ gf := (FR.out.row.lt gf rfl).1
            have hymf : y1 ≠ gf := fun e => by obtain ⟨cur, hc, _⟩ := own_at FR.out.row (g := gf) rfl; rw [← e, bm] at hc; simp at hc
            have hbs : Below (z + 1) w27 w28 := by rw [← hNb]; exact (Below.refl _ _).setCell hgz _
            replace br := (hoth z (by omega)).trans br
            replace bm := (hoth y1 hymf).trans bm
            replace GR : Hid (w28.ownsRow (z + 1) 57 3 (.slice aG G1.length cG) G1.length (gcv G1)) := own_keep GR.out (fun q hq => hoth q (fun e => own_apart FR.out.row GR.out (by decide) (q := gf) rfl (by rw [hq, e])))
            replace C := cur_low C hbs (by have h1 := HC.out; have h2 := HZ.out; omega)
            replace A : Hid (Aft B g w w28) := aft_upto A.out (hbs.mono (by have h2 := HZ.out; omega)) (Nat.le_trans HC.out.2 (Nat.le_of_lt HC.out.1))
            replace LB : Hid (z + 1 ≤ w28.heap.size) := Nat.le_trans LB.out hbs.size
            refine wh_skip 17 none w28 (by kernel_rfl) rfl rfl (by rfl) (by rw [← hNb]; go_simp) bm ?_
            simp only [Act.put]
            have FR2 : Hid (FRow (z + 1) w28 (.slice (some ⟨gf, 0, none⟩) L.length fc) (L.set k4 { Fk with vb := .slice aA bd6.length cA, f := { Fk.f with body := bd6 } })) := by unfold Hid; rw [← hNb]; have h := FR.out.setB rfl k4 HK4.out HOA.out; rw [HFk.out.1] at h; exact h
            obtain ⟨L2, hL2⟩ : ∃ l, L.set k4 { Fk with vb := .slice aA bd6.length cA, f := { Fk.f with body := bd6 } } = l := ⟨_, rfl⟩
            have HL2 : Hid (Apart L2 ∧ L2.length = L.length ∧ ∀ x ∈ L2, SmW 14020 x.f) := by
              unfold Hid; rw [← hL2]
              refine ⟨apart_set HML.out.2.1 HNE.out, List.length_set, fun x hx => ?_⟩
              have up : ∀ y ∈ L, SmW 14020 y.f := fun x hx => ⟨(SM.out x hx).1, (SM.out x hx).2.1, ⟨Nat.le_trans (SM.out x hx).2.2.1.1 (by omega), fun _ => (SM.out x hx).2.2.1.2 (by omega)⟩, (SM.out x hx).2.2.2⟩
              rcases List.mem_or_eq_of_mem_set hx with hx | rfl
              · exact up x hx
              · have h0 := up _ HFk.out.2
                exact ⟨h0.1, h0.2.1, ⟨HBD6.out.1.1, fun _ => HBD6.out.1.2⟩, HBD6.out.2⟩
            rw [hL2] at FR2
            clear hL2 c3 f3 hNb hoth hgz hymf hbs FR HOA HNE
            refine wh_done (by kernel_rfl) ?_
            go_wp2
            go_meet
            exact ⟨L2, G1, ⟨⟨_, _, _, _, _, _, _, _, (by rw [HL2.out.2.1]; exact bm), (by rw [HL2.out.2.1]; exact FR2.out), GR.out⟩, br, C.more (by have := HML.out.1; omega), A.out, LB.out, HY1.out, HL2.out.2.2, HGS.out⟩, ⟨HL2.out.1, by have := HL2.out.2.1; have := HML.out; omega, by have := HL2.out.2.1; have := HML.out; omega, by have := HG1.out.2; simp at this; omega⟩⟩
          · refine wo_val (some 73) (.slice (some ⟨gb, 0, none⟩) bd5.length cb5) w25 rfl rfl (by rfl) (by go_simp) bm ?_
            simp only [Act.put, List.setIfInBounds_toArray, List.set_cons_zero, List.set_cons_succ]
            refine wh_val 7 (some 67) (.slice (some ⟨y5, 0, none⟩) 4 4) w26 (by kernel_rfl) rfl rfl (by rfl) (by rw [← hNX, ← hy5]; go_simp) bmX ?_
            simp only [Act.put, List.setIfInBounds_toArray, List.set_cons_zero, List.set_cons_succ]
            clear hNX hy5 c3 c3X bmX
            obtain ⟨vA, w27, hrun, hoA, hgA⟩ := appIns w26 y5 (.slice (some ⟨y5, 0, none⟩) 4 4) [((35 : Int), (0 : Int)), (65, 1), (97, 0), (36, 0)] RC.out gb 0 cb5 bd5 (fun j u hu => by rw [Nat.zero_add]; exact row_cells HBX.out j u hu) (by have := HBD5.out.2.1; simp; omega) LY.out 37
            obtain ⟨aA, cA, e7⟩ := slice_ins hoA
            subst e7
            have hb : Below w25.heap.size w25 w27 := by
              have h1 : Below y5 w26 w27 := (Below.refl _ _).grown hgA LY.out (fun q hq => (RC.out.lt q hq).1)
              have h2 := HY5.out.2
              rw [HY5.out.1] at h2 ⊢
              exact h2.trans h1
            have HNE : Hid (∀ y ∈ L, y.vb.ownBlock ≠ (Value.slice aA ([((35 : Int), (0 : Int)), (65, 1), (97, 0), (36, 0)] ++ bd5).length cA).ownBlock) := fun y hy e => by
              obtain ⟨q, c, e1, _⟩ := own_pos (FR.out.ok y hy).bd ((SM.out y hy).2.2.1.2 (by omega))
              have h1 := ((FR.out.ok y hy).bd.lt q (by rw [e1]; rfl)).2
              have h2 := (hoA.lt q (by rw [← e, e1]; rfl)).1
              have h3 := HY5.out.1
              omega
            replace br := (hb.block (z) (lt_of_block br)).trans br
            replace bm := (hb.block (y1) (lt_of_block bm)).trans bm
            replace FR : Hid (FRow (z + 1) w27 (.slice (some ⟨gf, 0, none⟩) L.length fc) L) := FR.out.keep (fun q h1 h2 => hb.block q h2)
            replace GR : Hid (w27.ownsRow (z + 1) 57 3 (.slice aG G1.length cG) G1.length (gcv G1)) := own_keep GR.out (fun q hq => hb.block q (GR.out.lt q hq).2)
            replace C := C.kept hb
            replace A : Hid (Aft B g w w27) := aft_step A.out hb (Nat.le_trans HC.out.2 (Nat.le_of_lt HC.out.1))
            replace LB : Hid (z + 1 ≤ w27.heap.size) := Nat.le_trans LB.out hb.size
            have HOA : Hid (w27.ownsRow (z + 1) 41 2 (.slice aA ([((35 : Int), (0 : Int)), (65, 1), (97, 0), (36, 0)] ++ bd5).length cA) ([((35 : Int), (0 : Int)), (65, 1), (97, 0), (36, 0)] ++ bd5).length (pv ([((35 : Int), (0 : Int)), (65, 1), (97, 0), (36, 0)] ++ bd5))) := own_baseI hoA HZY.out
            clear hb hgA RC LY HY5 HBX hoA
            obtain ⟨bd6, hbd6⟩ : ∃ l, [((35 : Int), (0 : Int)), (65, 1), (97, 0), (36, 0)] ++ bd5 = l := ⟨_, rfl⟩
            have HBD6 : Hid ((bd6.length ≤ 14020 ∧ 0 < bd6.length) ∧ ∀ x ∈ bd6, OkI x) := by
              unfold Hid; rw [← hbd6]
              refine ⟨⟨by have := HBD5.out.2.1; simp; omega, by simp⟩, fun x hx => ?_⟩
              rcases List.mem_append.1 hx with hx | hx
              · simp at hx; rcases hx with rfl | rfl | rfl | rfl <;> exact ⟨by decide, by decide⟩
              · exact HBD5.out.2.2 x hx
            rw [hbd6] at HOA HNE hrun
            clear hbd6
            refine wh_val 14 (some 74) (.slice aA bd6.length cA) w27 (by kernel_rfl) rfl rfl (by rfl) (by simp [execOp, resolve, invoke, builtin, Act.eval, hrun, Result.andThen]) bm ?_
            simp only [Act.put, List.setIfInBounds_toArray, List.set_cons_zero, List.set_cons_succ]
            clear hrun
            refine wh_val 15 (some 75) (.pointer (some ⟨gf, k4 * 4, none⟩)) w27 (by kernel_rfl) rfl rfl (by rfl) (by go_simp) bm ?_
            simp only [Act.put, List.setIfInBounds_toArray, List.set_cons_zero, List.set_cons_succ]
            refine wh_val 16 (some 76) (.pointer (some ⟨gf, k4 * 4 + 3, none⟩)) w27 (by kernel_rfl) rfl rfl (by rfl) (by go_simp) bm ?_
            simp only [Act.put, List.setIfInBounds_toArray, List.set_cons_zero, List.set_cons_succ]
            have c3 := (FR.out.cells k4 HK4.out).2.2.2
            have f3 := FR.out.row.frozenAt (k4 * 4 + 3)
            obtain ⟨w28, hNb⟩ : ∃ G, w27.setCell ⟨gf, k4 * 4 + 3, none⟩ (.slice aA bd6.length cA) = G := ⟨_, rfl⟩
            have hoth : ∀ b, b ≠ gf → w28.heap[b]? = w27.heap[b]? := fun b hb => by rw [← hNb]; exact heap_setCell_other _ ⟨gf, k4 * 4 + 3, none⟩ b _ hb
            have hgz : z + 1 ≤ gf := (FR.out.row.lt gf rfl).1
            have hymf : y1 ≠ gf := fun e => by obtain ⟨cur, hc, _⟩ := own_at FR.out.row (g := gf) rfl; rw [← e, bm] at hc; simp at hc
            have hbs : Below (z + 1) w27 w28 := by rw [← hNb]; exact (Below.refl _ _).setCell hgz _
            replace br := (hoth z (by omega)).trans br
            replace bm := (hoth y1 hymf).trans bm
            replace GR : Hid (w28.ownsRow (z + 1) 57 3 (.slice aG G1.length cG) G1.length (gcv G1)) := own_keep GR.out (fun q hq => hoth q (fun e => own_apart FR.out.row GR.out (by decide) (q := gf) rfl (by rw [hq, e])))
            replace C := cur_low C hbs (by have h1 := HC.out; have h2 := HZ.out; omega)
            replace A : Hid (Aft B g w w28) := aft_upto A.out (hbs.mono (by have h2 := HZ.out; omega)) (Nat.le_trans HC.out.2 (Nat.le_of_lt HC.out.1))
            replace LB : Hid (z + 1 ≤ w28.heap.size) := Nat.le_trans LB.out hbs.size
            refine wh_skip 17 none w28 (by kernel_rfl) rfl rfl (by rfl) (by rw [← hNb]; go_simp) bm ?_
            simp only [Act.put]
            have FR2 : Hid (FRow (z + 1) w28 (.slice (some ⟨gf, 0, none⟩) L.length fc) (L.set k4 { Fk with vb := .slice aA bd6.length cA, f := { Fk.f with body := bd6 } })) := by unfold Hid; rw [← hNb]; have h := FR.out.setB rfl k4 HK4.out HOA.out; rw [HFk.out.1] at h; exact h
            obtain ⟨L2, hL2⟩ : ∃ l, L.set k4 { Fk with vb := .slice aA bd6.length cA, f := { Fk.f with body := bd6 } } = l := ⟨_, rfl⟩
            have HL2 : Hid (Apart L2 ∧ L2.length = L.length ∧ ∀ x ∈ L2, SmW 14020 x.f) := by
              unfold Hid; rw [← hL2]
              refine ⟨apart_set HML.out.2.1 HNE.out, List.length_set, fun x hx => ?_⟩
              have up : ∀ y ∈ L, SmW 14020 y.f := fun x hx => ⟨(SM.out x hx).1, (SM.out x hx).2.1, ⟨Nat.le_trans (SM.out x hx).2.2.1.1 (by omega), fun _ => (SM.out x hx).2.2.1.2 (by omega)⟩, (SM.out x hx).2.2.2⟩
              rcases List.mem_or_eq_of_mem_set hx with hx | rfl
              · exact up x hx
              · have h0 := up _ HFk.out.2
                exact ⟨h0.1, h0.2.1, ⟨HBD6.out.1.1, fun _ => HBD6.out.1.2⟩, HBD6.out.2⟩
            rw [hL2] at FR2
            clear hL2 c3 f3 hNb hoth hgz hymf hbs FR HOA HNE
            refine wh_done (by kernel_rfl) ?_
            go_wp2
            go_meet
            exact ⟨L2, G1, ⟨⟨_, _, _, _, _, _, _, _, (by rw [HL2.out.2.1]; exact bm), (by rw [HL2.out.2.1]; exact FR2.out), GR.out⟩, br, C.more (by have := HML.out.1; omega), A.out, LB.out, HY1.out, HL2.out.2.2, HGS.out⟩, ⟨HL2.out.1, by have := HL2.out.2.1; have := HML.out; omega, by have := HL2.out.2.1; have := HML.out; omega, by have := HG1.out.2; simp at this; omega⟩⟩
      case rest =>
      clear FR bm br C A LB GR SM GS HML HMM
      obtain ⟨L3, G3, hM3, hL3⟩ := hcut
      have HQ3 : Hid _ := hM3
      have HML : Hid (Apart L3 ∧ 1 ≤ L3.length ∧ L3.length ≤ 3 ∧ G3.length ≤ 1) := hL3
      have HMM : Hid (m + 520080 ≤ 521000) := by unfold Hid; have := hm.out; omega
      clear hM3 hL3
      obtain ⟨L, hL⟩ : ∃ l, L3 = l := ⟨_, rfl⟩
      rw [hL] at HQ3 HML
      clear hL
      obtain ⟨⟨fa, fc, ga, gc, mem, pg, mo, so, bm, hFR, hGR⟩, br, C, hA, hLB, _, hsm, hgs⟩ := HQ3.out
      have A : Hid (Aft B g w wc) := hA
      have LB : Hid (z + 1 ≤ wc.heap.size) := hLB
      have FR : Hid (FRow (z + 1) wc (.slice fa L.length fc) L) := hFR
      have GR : Hid (wc.ownsRow (z + 1) 57 3 (.slice ga G3.length gc) G3.length (gcv G3)) := hGR
      have SM : Hid (∀ x ∈ L, SmW 14020 x.f) := hsm
      have GS : Hid (∀ x ∈ G3, okG x) := hgs
      clear hA hLB hFR hGR hsm hgs HQ3
      go_wp2_with fail
      refine (curPick 12 (by omega) (by omega) g a n cap B (m + 520080) (hid_le (by have := HMM.out; omega)) wc C).mono ?_
      rintro e w19 ⟨q, q0, q1, rfl, C1, ha⟩
      replace br := (ha.blk (z) (by have hc1 := HC.out; have hc2 := HZ.out; omega) (lt_of_block br)).trans br
      replace bm := (ha.blk (y1) (by have h3 := hley1.out; have hc1 := HC.out; have hc2 := HZ.out; omega) (lt_of_block bm)).trans bm
      replace FR : Hid (FRow (z + 1) w19 (.slice fa L.length fc) L) := FR.out.keep (fun q h1 h2 => ha.blk q (by have hc1 := HC.out; have hc2 := HZ.out; omega) h2)
      replace GR : Hid (w19.ownsRow (z + 1) 57 3 (.slice ga G3.length gc) G3.length (gcv G3)) := own_keep GR.out (fun q hq => ha.blk q (by have h4 := (GR.out.lt q hq).1; have hc1 := HC.out; have hc2 := HZ.out; omega) (GR.out.lt q hq).2)
      replace A : Hid (Aft B g w w19) := A.out.trans ha
      replace LB : Hid (z + 1 ≤ w19.heap.size) := Nat.le_trans LB.out ha.size
      clear ha C
      have C := C1
      clear C1
      have hq : q = 0 ∨ q = 1 ∨ q = 2 ∨ q = 3 ∨ (¬ q = 0 ∧ ¬ q = 1 ∧ ¬ q = 2 ∧ ¬ q = 3) := by omega
      clear q0 q1
      go_upto_block 2 with fail
      go_cut [7, 99, 104, 110] (fun _ _ _ _ wx => ∃ (L' : List Fd) (G' : List Glo7), Hid (ModL 20100 B g z y1 a n cap (m + 529000) w wx L' G') ∧ Hid (1 ≤ L'.length ∧ L'.length ≤ 3 ∧ G'.length ≤ 2))
      case first =>
        rcases hq with rfl | rfl | rfl | rfl | ⟨hq0, hq1, hq2, hq3⟩
        · skip
          have pm0x10 : w19.cell? ⟨y1, 0, none⟩ = some (.slice fa L.length fc) := (cell_of_block bm 0).trans rfl
          go_wp2_with fail
          clear pm0x10
          refine (curPick (L.length : Int) (by have := HML.out; omega) (by have := HML.out; omega) g a n cap B (m + 520080 + 2) (hid_le (by have := HMM.out; omega)) w19 C).mono ?_
          rintro e w20 ⟨r4, r40, r41, rfl, C1, ha⟩
          replace br := (ha.blk (z) (by have hc1 := HC.out; have hc2 := HZ.out; omega) (lt_of_block br)).trans br
          replace bm := (ha.blk (y1) (by have h3 := hley1.out; have hc1 := HC.out; have hc2 := HZ.out; omega) (lt_of_block bm)).trans bm
          replace FR : Hid (FRow (z + 1) w20 (.slice fa L.length fc) L) := FR.out.keep (fun q h1 h2 => ha.blk q (by have hc1 := HC.out; have hc2 := HZ.out; omega) h2)
          replace GR : Hid (w20.ownsRow (z + 1) 57 3 (.slice ga G3.length gc) G3.length (gcv G3)) := own_keep GR.out (fun q hq => ha.blk q (by have h4 := (GR.out.lt q hq).1; have hc1 := HC.out; have hc2 := HZ.out; omega) (GR.out.lt q hq).2)
          replace A : Hid (Aft B g w w20) := A.out.trans ha
          replace LB : Hid (z + 1 ≤ w20.heap.size) := Nat.le_trans LB.out ha.size
          clear ha C
          have C := C1
          clear C1
          obtain ⟨k4, rfl⟩ : ∃ k : Nat, r4 = k := ⟨r4.toNat, by omega⟩
          have HK4 : Hid (k4 < L.length) := by unfold Hid; omega
          clear r40 r41
          obtain ⟨gf, cf, hfa, _⟩ := own_pos FR.out.row (by have := HML.out; omega)
          simp only [Value.slice.injEq, true_and] at hfa
          obtain ⟨rfl, rfl⟩ := hfa
          obtain ⟨Fk, hFk⟩ : ∃ x, L[k4]'HK4.out = x := ⟨_, rfl⟩
          have HFk : Hid (L[k4]'HK4.out = Fk ∧ Fk ∈ L) := ⟨hFk, by rw [← hFk]; exact List.getElem_mem HK4.out⟩
          obtain ⟨gb, cb5, hvb, _⟩ := own_pos (FR.out.ok _ HFk.out.2).bd ((SM.out _ HFk.out.2).2.2.1.2 (by omega))
          have HVB : Hid (Fk.vb = .slice (some ⟨gb, 0, none⟩) Fk.f.body.length cb5) := hvb
          clear hvb hFk
          have hi0 : ¬ (k4 : Int) < 0 := by omega
          have hi1 : (k4 : Int) < (L.length : Int) := by have := HK4.out; omega
          go_wp2
          refine wh_begin (fun w' : World => w'.heap[y1]? = some (.cells #[.slice (some ⟨gf, 0, none⟩) L.length fc, .slice ga G3.length gc, .bool mem, .int .i64 pg, .int .i64 mo, .int .i64 so] 26 (0, 0))) (by kernel_rfl) ?_
          obtain ⟨w21, hD⟩ : ∃ W, w20.drew = W := ⟨_, rfl⟩
          have hb : Below w20.heap.size w20 w21 := by rw [← hD]; exact (Below.refl _ _).drew
          rw [hD]
          replace br := (hb.block (z) (lt_of_block br)).trans br
          replace bm := (hb.block (y1) (lt_of_block bm)).trans bm
          replace FR : Hid (FRow (z + 1) w21 (.slice (some ⟨gf, 0, none⟩) L.length fc) L) := FR.out.keep (fun q h1 h2 => hb.block q h2)
          replace GR : Hid (w21.ownsRow (z + 1) 57 3 (.slice ga G3.length gc) G3.length (gcv G3)) := own_keep GR.out (fun q hq => hb.block q (GR.out.lt q hq).2)
          replace C := C.kept hb
          replace A : Hid (Aft B g w w21) := aft_step A.out hb (Nat.le_trans HC.out.2 (Nat.le_of_lt HC.out.1))
          replace LB : Hid (z + 1 ≤ w21.heap.size) := Nat.le_trans LB.out hb.size
          clear hb hD
          refine wh_take 0 (some 86) (.pointer (some ⟨y1, 0, none⟩)) rfl rfl (by kernel_rfl) (by kernel_rfl) (by kernel_rfl) (fun _ _ _ h => h) bm (by rfl) (fun w' hS => by kernel_rfl) ?_
          simp only [Act.put, List.setIfInBounds_toArray, List.set_cons_zero, List.set_cons_succ]
          refine wh_take 2 (some 88) (.int .i64 (k4 : Int)) rfl rfl (by kernel_rfl) (by kernel_rfl) (by kernel_rfl) (fun _ _ _ h => h) bm (by rfl) (fun w' hS => by kernel_rfl) ?_
          simp only [Act.put, List.setIfInBounds_toArray, List.set_cons_zero, List.set_cons_succ]
          refine wh_take 3 (some 89) (.pointer (some ⟨g, 0, none⟩)) rfl rfl (by kernel_rfl) (by kernel_rfl) (by kernel_rfl) (fun _ _ _ h => h) bm (by rfl) (fun w' hS => by kernel_rfl) ?_
          simp only [Act.put, List.setIfInBounds_toArray, List.set_cons_zero, List.set_cons_succ]
          refine wh_take 4 (some 90) (.pointer (some ⟨y1, 0, none⟩)) rfl rfl (by kernel_rfl) (by kernel_rfl) (by kernel_rfl) (fun _ _ _ h => h) bm (by rfl) (fun w' hS => by kernel_rfl) ?_
          simp only [Act.put, List.setIfInBounds_toArray, List.set_cons_zero, List.set_cons_succ]
          refine wh_take 6 (some 92) (.int .i64 (k4 : Int)) rfl rfl (by kernel_rfl) (by kernel_rfl) (by kernel_rfl) (fun _ _ _ h => h) bm (by rfl) (fun w' hS => by kernel_rfl) ?_
          simp only [Act.put, List.setIfInBounds_toArray, List.set_cons_zero, List.set_cons_succ]
          refine wh_take 1 (some 87) (.slice (some ⟨gf, 0, none⟩) L.length fc) rfl rfl (by kernel_rfl) (by kernel_rfl) (by kernel_rfl) (fun _ _ _ h => h) bm (by rfl) (fun w' hS => by have q0 : w'.cell? ⟨y1, 0, none⟩ = some (.slice (some ⟨gf, 0, none⟩) L.length fc) := (cell_of_block hS 0).trans rfl; clear hS; go_simp) ?_
          simp only [Act.put, List.setIfInBounds_toArray, List.set_cons_zero, List.set_cons_succ]
          refine wh_take 5 (some 91) (.slice (some ⟨gf, 0, none⟩) L.length fc) rfl rfl (by kernel_rfl) (by kernel_rfl) (by kernel_rfl) (fun _ _ _ h => h) bm (by rfl) (fun w' hS => by have q0 : w'.cell? ⟨y1, 0, none⟩ = some (.slice (some ⟨gf, 0, none⟩) L.length fc) := (cell_of_block hS 0).trans rfl; clear hS; go_simp) ?_
          simp only [Act.put, List.setIfInBounds_toArray, List.set_cons_zero, List.set_cons_succ]
          refine wh_take 7 (some 93) (.pointer (some ⟨gf, k4 * 4, none⟩)) rfl rfl (by kernel_rfl) (by kernel_rfl) (by kernel_rfl) (fun _ _ _ h => h) bm (by rfl) (fun w' hS => by clear hS; go_simp) ?_
          simp only [Act.put, List.setIfInBounds_toArray, List.set_cons_zero, List.set_cons_succ]
          refine wh_take 8 (some 94) (.pointer (some ⟨gf, k4 * 4 + 3, none⟩)) rfl rfl (by kernel_rfl) (by kernel_rfl) (by kernel_rfl) (fun _ _ _ h => h) bm (by rfl) (fun w' hS => by clear hS; go_simp) ?_
          simp only [Act.put, List.setIfInBounds_toArray, List.set_cons_zero, List.set_cons_succ]
          have c3 := (FR.out.cells k4 HK4.out).2.2.2
          rw [HFk.out.1, HVB.out] at c3
          obtain ⟨bd5, hbd5⟩ : ∃ l, Fk.f.body = l := ⟨_, rfl⟩
          have HBD5 : Hid (Fk.f.body = bd5 ∧ bd5.length ≤ 14020 ∧ ∀ x ∈ bd5, OkI x) := ⟨hbd5, by rw [← hbd5]; exact (SM.out _ HFk.out.2).2.2.1.1, by rw [← hbd5]; exact (SM.out _ HFk.out.2).2.2.2⟩
          have HBX : Hid (w21.ownsRow (z + 1) 41 2 (.slice (some ⟨gb, 0, none⟩) bd5.length cb5) bd5.length (pv bd5)) := by
            have h1 := (FR.out.ok _ HFk.out.2).bd
            unfold Hid; rw [HVB.out, hbd5] at h1; exact h1
          rw [hbd5] at c3 HVB
          clear hbd5
          refine wh_val 9 (some 95) (.slice (some ⟨gb, 0, none⟩) bd5.length cb5) w21 (by kernel_rfl) rfl rfl (by rfl) (by go_simp) bm ?_
          simp only [Act.put, List.setIfInBounds_toArray, List.set_cons_zero, List.set_cons_succ]
          clear c3
          refine wh_call 10 (some 96) 27 #[.pointer (some ⟨g, 0, none⟩), .slice (some ⟨gb, 0, none⟩) bd5.length cb5] (by kernel_rfl) rfl rfl (by rfl) (by kernel_rfl) ?_
          refine (curSpoiltCode B g (z + 1) a n cap (m + 520080 + 2 + 2) (by have := HMM.out; omega) ⟨by have h1 := HC.out; have h2 := HZ.out; omega, HC.out.2⟩ (.slice (some ⟨gb, 0, none⟩) bd5.length cb5) bd5 w21 LB.out HBX ⟨by have := HBD5.out.2.1; omega, HBD5.out.2.2⟩ C).mono ?_
          rintro e w22 ⟨vS, bd6, rfl, HOS, HBD6, C1, HR, HV⟩
          obtain ⟨aA, cA, e7⟩ := slice_ins HOS.out
          subst e7
          have hgb : ∀ q, some q ≠ (Value.slice (some ⟨gb, 0, none⟩) bd5.length cb5).ownBlock → q ≠ gb := fun q hq e => hq (by rw [e]; rfl)
          have hbb : ∃ A, w21.heap[gb]? = some (.cells A 41 (0, 0)) := by obtain ⟨cur, hc, _⟩ := own_at HBX.out (g := gb) rfl; exact ⟨cur, hc⟩
          obtain ⟨AB, hAB⟩ := hbb
          have hgB : z + 1 ≤ gb := (HBX.out.lt gb rfl).1
          have hgzz : g < z + 1 := by have h1 := HC.out; have h2 := HZ.out; omega
          have hst : ∀ b, b ≠ g → b ≠ gb → b < w21.heap.size → w22.heap[b]? = w21.heap[b]? := fun b h1 h2 h3 => HV.out.blk b h1 (fun e => h2 (Option.some.inj e)) h3
          replace br := (hst z (by have h1 := HC.out; have h2 := HZ.out; omega) (by omega) (lt_of_block br)).trans br
          have hym : y1 ≠ gb := fun e => by rw [← e, bm] at hAB; simp at hAB
          replace bm := (hst y1 (by have h1 := HC.out; have h2 := HZ.out; have h3 := HY1.out; omega) hym (lt_of_block bm)).trans bm
          replace GR : Hid (w22.ownsRow (z + 1) 57 3 (.slice ga G3.length gc) G3.length (gcv G3)) := own_keep GR.out (fun q hq => hst q (by have h1 := (GR.out.lt q hq).1; omega) (fun e => own_apart HBX.out GR.out (by decide) (q := gb) rfl (by rw [hq, e])) (GR.out.lt q hq).2)
          have HVK : Hid (AftV B g Fk.vb.ownBlock w21 w22) := by unfold Hid; rw [HVB.out]; exact HV.out
          replace A : Hid (Aft B g w w22) := ⟨A.out.below.trans HV.out.below, Nat.le_trans A.out.size HV.out.size, fun b h1 h2 => (HV.out.blk b h1 (fun e => by have h3 : b = gb := Option.some.inj e; have h4 := HZ.out; omega) (Nat.lt_of_lt_of_le h2 A.out.size)).trans (A.out.blk b h1 h2)⟩
          replace LB : Hid (z + 1 ≤ w22.heap.size) := Nat.le_trans LB.out HV.out.size
          clear C
          have C := C1
          clear C1
          have crow : w22.cell? ⟨gf, k4 * 4 + 3, none⟩ = some (.slice (some ⟨gb, 0, none⟩) bd5.length cb5) := by
            have h1 := (FR.out.cells k4 HK4.out).2.2.2
            rw [HFk.out.1, HVB.out] at h1
            have hgfb : gf ≠ gb := fun e => own_apart HBX.out FR.out.row (by decide) (q := gb) rfl (by rw [← e]; rfl)
            exact (World.cell?_of_block (a := ⟨gf, k4 * 4 + 3, none⟩) (hst gf (by have h1 := (FR.out.row.lt gf rfl).1; omega) hgfb (FR.out.row.lt gf rfl).2)).trans h1
          have frow : w22.frozen? ⟨gf, k4 * 4 + 3, none⟩ = false := by
            have hgfb : gf ≠ gb := fun e => own_apart HBX.out FR.out.row (by decide) (q := gb) rfl (by rw [← e]; rfl)
            have h2 := own_keep FR.out.row (fun q hq => hst q (by have h1 := (FR.out.row.lt q hq).1; omega) (fun e => own_apart HBX.out FR.out.row (by decide) (q := gb) rfl (by rw [hq, e])) (FR.out.row.lt q hq).2)
            exact h2.frozenAt (k4 * 4 + 3)
          have blkf : ∃ A, w22.heap[gf]? = some (.cells A 39 (0, 0)) := by
            have hgfb : gf ≠ gb := fun e => own_apart HBX.out FR.out.row (by decide) (q := gb) rfl (by rw [← e]; rfl)
            obtain ⟨cur, hc, _⟩ := own_at FR.out.row (g := gf) rfl
            exact ⟨cur, (hst gf (by have h1 := (FR.out.row.lt gf rfl).1; omega) hgfb (FR.out.row.lt gf rfl).2).trans hc⟩
          refine ⟨_, rfl, bm, ?_⟩
          simp only [Act.put, List.setIfInBounds_toArray, List.set_cons_zero, List.set_cons_succ]
          refine wh_val 11 (some 97) (.pointer (some ⟨gf, k4 * 4, none⟩)) w22 (by kernel_rfl) rfl rfl (by rfl) (by go_simp) bm ?_
          simp only [Act.put, List.setIfInBounds_toArray, List.set_cons_zero, List.set_cons_succ]
          refine wh_val 12 (some 98) (.pointer (some ⟨gf, k4 * 4 + 3, none⟩)) w22 (by kernel_rfl) rfl rfl (by rfl) (by go_simp) bm ?_
          simp only [Act.put, List.setIfInBounds_toArray, List.set_cons_zero, List.set_cons_succ]
          obtain ⟨w23, hNb⟩ : ∃ G, w22.setCell ⟨gf, k4 * 4 + 3, none⟩ (.slice aA bd6.length cA) = G := ⟨_, rfl⟩
          have hoth : ∀ b, b ≠ gf → w23.heap[b]? = w22.heap[b]? := fun b hb => by rw [← hNb]; exact heap_setCell_other _ ⟨gf, k4 * 4 + 3, none⟩ b _ hb
          have hgz : z + 1 ≤ gf := (FR.out.row.lt gf rfl).1
          obtain ⟨AF, hAF⟩ := blkf
          have hymf : y1 ≠ gf := fun e => by rw [← e, bm] at hAF; simp at hAF
          have hbs : Below (z + 1) w22 w23 := by rw [← hNb]; exact (Below.refl _ _).setCell hgz _
          have FR2 : Hid (FRow (z + 1) w23 (.slice (some ⟨gf, 0, none⟩) L.length fc) (L.set k4 { Fk with vb := .slice aA bd6.length cA, f := { Fk.f with body := bd6 } })) := by
            unfold Hid; rw [← hNb]
            have h := FRow.spoil FR.out HK4.out (by rw [HFk.out.1]; exact HVK.out) hgzz HML.out.1 (by rw [HFk.out.1, HVB.out]; exact ⟨gb, rfl⟩) HOS.out
            rw [HFk.out.1] at h
            exact h
          replace br := (hoth z (by omega)).trans br
          replace bm := (hoth y1 hymf).trans bm
          replace GR : Hid (w23.ownsRow (z + 1) 57 3 (.slice ga G3.length gc) G3.length (gcv G3)) := own_keep GR.out (fun q hq => hoth q (fun e => by obtain ⟨cur, hc, _⟩ := own_at GR.out hq; rw [e, hAF] at hc; simp at hc))
          replace C := cur_low C hbs hgzz
          replace A : Hid (Aft B g w w23) := aft_upto A.out (hbs.mono (by have h2 := HZ.out; omega)) (Nat.le_trans HC.out.2 (Nat.le_of_lt HC.out.1))
          replace LB : Hid (z + 1 ≤ w23.heap.size) := Nat.le_trans LB.out hbs.size
          refine wh_skip 13 none w23 (by kernel_rfl) rfl rfl (by rfl) (by rw [← hNb]; go_simp) bm ?_
          simp only [Act.put]
          obtain ⟨L2, hL2⟩ : ∃ l, L.set k4 { Fk with vb := .slice aA bd6.length cA, f := { Fk.f with body := bd6 } } = l := ⟨_, rfl⟩
          have HL2 : Hid (L2.length = L.length ∧ ∀ x ∈ L2, SmW 20100 x.f) := by
            unfold Hid; rw [← hL2]
            refine ⟨List.length_set, fun x hx => ?_⟩
            have up : ∀ y ∈ L, SmW 20100 y.f := (fun x hx => ⟨(SM.out x hx).1, (SM.out x hx).2.1, ⟨Nat.le_trans (SM.out x hx).2.2.1.1 (by omega), fun _ => (SM.out x hx).2.2.1.2 (by omega)⟩, (SM.out x hx).2.2.2⟩)
            rcases List.mem_or_eq_of_mem_set hx with hx | rfl
            · exact up x hx
            · have h0 := up _ HFk.out.2
              exact ⟨h0.1, h0.2.1, ⟨by have := HBD6.out.1; simp only; omega, fun h => absurd h (by omega)⟩, HBD6.out.2⟩
          rw [hL2] at FR2
          clear hL2 crow frow hNb hoth hgz hymf hbs FR HOS HV HVK HR hst hAB hgB hym hAF hgb HBX
          refine wh_done (by kernel_rfl) ?_
          go_wp2
          go_meet
          exact ⟨L2, G3, ⟨⟨_, _, _, _, _, _, _, _, (by rw [HL2.out.1]; exact bm), (by rw [HL2.out.1]; exact FR2.out), GR.out⟩, br, C.more (by omega), A.out, LB.out, HY1.out, HL2.out.2, GS.out⟩, ⟨by have := HL2.out.1; have := HML.out; omega, by have := HL2.out.1; have := HML.out; omega, by have := HML.out.2.2.2; omega⟩⟩
        · skip
          have pm0x10 : w19.cell? ⟨y1, 0, none⟩ = some (.slice fa L.length fc) := (cell_of_block bm 0).trans rfl
          have pm1x10 : w19.cell? ⟨y1, 1, none⟩ = some (.slice ga G3.length gc) := (cell_of_block bm 1).trans rfl
          have pm2x10 : w19.cell? ⟨y1, 2, none⟩ = some (.bool mem) := (cell_of_block bm 2).trans rfl
          have pm3x10 : w19.cell? ⟨y1, 3, none⟩ = some (.int .i64 pg) := (cell_of_block bm 3).trans rfl
          have pm4x10 : w19.cell? ⟨y1, 4, none⟩ = some (.int .i64 mo) := (cell_of_block bm 4).trans rfl
          have pm5x10 : w19.cell? ⟨y1, 5, none⟩ = some (.int .i64 so) := (cell_of_block bm 5).trans rfl
          have fm0x10 := free_of_block bm 0
          have fm1x10 := free_of_block bm 1
          have fm2x10 := free_of_block bm 2
          have fm3x10 := free_of_block bm 3
          have fm4x10 := free_of_block bm 4
          have fm5x10 := free_of_block bm 5
          obtain ⟨w20, hNw20⟩ : ∃ G, (w19.setCell ⟨y1, 2, none⟩ (.bool false)) = G := ⟨_, rfl⟩
          obtain ⟨s1, s2, s3, s4⟩ := set1T bm 2 (.bool false) hNw20
          replace s1 : w20.heap[y1]? = some (.cells #[.slice fa L.length fc, .slice ga G3.length gc, .bool false, .int .i64 pg, .int .i64 mo, .int .i64 so] 26 (0, 0)) := s1
          replace br := (s2 (z) (by have h3 := hley1.out; omega)).trans br
          replace FR : Hid (FRow (z + 1) w20 (.slice fa L.length fc) L) := FRow.farM FR.out bm (by decide) (by decide) (by decide) s2
          replace GR : Hid (w20.ownsRow (z + 1) 57 3 (.slice ga G3.length gc) G3.length (gcv G3)) := own_keep GR.out (fun q hq => s2 q (fun e => by obtain ⟨cur, hc, _⟩ := own_at GR.out hq; rw [e, bm] at hc; simp at hc))
          have hsl : w.heap.size ≤ y1 := by have h3 := hley1.out; have hc1 := HC.out; have hc2 := HZ.out; omega
          have hs : Below w.heap.size w19 w20 := s4 _ _ hsl (Below.refl _ _)
          replace C := cur_upto C hs HC.out.1
          replace A : Hid (Aft B g w w20) := aft_upto A.out hs (Nat.le_trans HC.out.2 (Nat.le_of_lt HC.out.1))
          replace LB : Hid (z + 1 ≤ w20.heap.size) := by unfold Hid; rw [s3]; exact LB.out
          replace bm := s1
          clear s1 s2 s3 s4 hs hsl
          have pm0x11 : w20.cell? ⟨y1, 0, none⟩ = some (.slice fa L.length fc) := (cell_of_block bm 0).trans rfl
          have pm1x11 : w20.cell? ⟨y1, 1, none⟩ = some (.slice ga G3.length gc) := (cell_of_block bm 1).trans rfl
          have pm2x11 : w20.cell? ⟨y1, 2, none⟩ = some (.bool false) := (cell_of_block bm 2).trans rfl
          have pm3x11 : w20.cell? ⟨y1, 3, none⟩ = some (.int .i64 pg) := (cell_of_block bm 3).trans rfl
          have pm4x11 : w20.cell? ⟨y1, 4, none⟩ = some (.int .i64 mo) := (cell_of_block bm 4).trans rfl
          have pm5x11 : w20.cell? ⟨y1, 5, none⟩ = some (.int .i64 so) := (cell_of_block bm 5).trans rfl
          have fm0x11 := free_of_block bm 0
          have fm1x11 := free_of_block bm 1
          have fm2x11 := free_of_block bm 2
          have fm3x11 := free_of_block bm 3
          have fm4x11 := free_of_block bm 4
          have fm5x11 := free_of_block bm 5
          obtain ⟨w21, hNw21⟩ : ∃ G, (w20.setCell ⟨y1, 3, none⟩ (.int .i64 0)) = G := ⟨_, rfl⟩
          obtain ⟨s1, s2, s3, s4⟩ := set1T bm 3 (.int .i64 0) hNw21
          replace s1 : w21.heap[y1]? = some (.cells #[.slice fa L.length fc, .slice ga G3.length gc, .bool false, .int .i64 0, .int .i64 mo, .int .i64 so] 26 (0, 0)) := s1
          replace br := (s2 (z) (by have h3 := hley1.out; omega)).trans br
          replace FR : Hid (FRow (z + 1) w21 (.slice fa L.length fc) L) := FRow.farM FR.out bm (by decide) (by decide) (by decide) s2
          replace GR : Hid (w21.ownsRow (z + 1) 57 3 (.slice ga G3.length gc) G3.length (gcv G3)) := own_keep GR.out (fun q hq => s2 q (fun e => by obtain ⟨cur, hc, _⟩ := own_at GR.out hq; rw [e, bm] at hc; simp at hc))
          have hsl : w.heap.size ≤ y1 := by have h3 := hley1.out; have hc1 := HC.out; have hc2 := HZ.out; omega
          have hs : Below w.heap.size w20 w21 := s4 _ _ hsl (Below.refl _ _)
          replace C := cur_upto C hs HC.out.1
          replace A : Hid (Aft B g w w21) := aft_upto A.out hs (Nat.le_trans HC.out.2 (Nat.le_of_lt HC.out.1))
          replace LB : Hid (z + 1 ≤ w21.heap.size) := by unfold Hid; rw [s3]; exact LB.out
          replace bm := s1
          clear s1 s2 s3 s4 hs hsl
          have pm0x12 : w21.cell? ⟨y1, 0, none⟩ = some (.slice fa L.length fc) := (cell_of_block bm 0).trans rfl
          have pm1x12 : w21.cell? ⟨y1, 1, none⟩ = some (.slice ga G3.length gc) := (cell_of_block bm 1).trans rfl
          have pm2x12 : w21.cell? ⟨y1, 2, none⟩ = some (.bool false) := (cell_of_block bm 2).trans rfl
          have pm3x12 : w21.cell? ⟨y1, 3, none⟩ = some (.int .i64 0) := (cell_of_block bm 3).trans rfl
          have pm4x12 : w21.cell? ⟨y1, 4, none⟩ = some (.int .i64 mo) := (cell_of_block bm 4).trans rfl
          have pm5x12 : w21.cell? ⟨y1, 5, none⟩ = some (.int .i64 so) := (cell_of_block bm 5).trans rfl
          have fm0x12 := free_of_block bm 0
          have fm1x12 := free_of_block bm 1
          have fm2x12 := free_of_block bm 2
          have fm3x12 := free_of_block bm 3
          have fm4x12 := free_of_block bm 4
          have fm5x12 := free_of_block bm 5
          obtain ⟨w22, hNw22⟩ : ∃ G, (w21.setCell ⟨y1, 4, none⟩ (.int .i64 0)) = G := ⟨_, rfl⟩
          obtain ⟨s1, s2, s3, s4⟩ := set1T bm 4 (.int .i64 0) hNw22
          replace s1 : w22.heap[y1]? = some (.cells #[.slice fa L.length fc, .slice ga G3.length gc, .bool false, .int .i64 0, .int .i64 0, .int .i64 so] 26 (0, 0)) := s1
          replace br := (s2 (z) (by have h3 := hley1.out; omega)).trans br
          replace FR : Hid (FRow (z + 1) w22 (.slice fa L.length fc) L) := FRow.farM FR.out bm (by decide) (by decide) (by decide) s2
          replace GR : Hid (w22.ownsRow (z + 1) 57 3 (.slice ga G3.length gc) G3.length (gcv G3)) := own_keep GR.out (fun q hq => s2 q (fun e => by obtain ⟨cur, hc, _⟩ := own_at GR.out hq; rw [e, bm] at hc; simp at hc))
          have hsl : w.heap.size ≤ y1 := by have h3 := hley1.out; have hc1 := HC.out; have hc2 := HZ.out; omega
          have hs : Below w.heap.size w21 w22 := s4 _ _ hsl (Below.refl _ _)
          replace C := cur_upto C hs HC.out.1
          replace A : Hid (Aft B g w w22) := aft_upto A.out hs (Nat.le_trans HC.out.2 (Nat.le_of_lt HC.out.1))
          replace LB : Hid (z + 1 ≤ w22.heap.size) := by unfold Hid; rw [s3]; exact LB.out
          replace bm := s1
          clear s1 s2 s3 s4 hs hsl
          go_wp2
          go_meet
          exact ⟨L, G3, ⟨⟨_, _, _, _, _, _, _, _, bm, FR.out, GR.out⟩, br, C.more (by omega), A.out, LB.out, HY1.out, (fun x hx => ⟨(SM.out x hx).1, (SM.out x hx).2.1, ⟨Nat.le_trans (SM.out x hx).2.2.1.1 (by omega), fun _ => (SM.out x hx).2.2.1.2 (by omega)⟩, (SM.out x hx).2.2.2⟩), GS.out⟩, ⟨HML.out.2.1, HML.out.2.2.1, by have := HML.out.2.2.2; omega⟩⟩
        · skip
          obtain ⟨y6, hy6⟩ : ∃ z, w19.heap.size = z := ⟨_, rfl⟩
          obtain ⟨w20, hNw20⟩ : ∃ W, w19.alloc (.cells #[.int .i64 (-2), .int .i64 1, .int .i64 9] 3) = W := ⟨_, rfl⟩
          have hb : Below w19.heap.size w19 w20 := by rw [← hNw20]; exact bel_alloc (Below.refl _ _) _
          have hley6 : Hid (z + 1 ≤ y6) := by unfold Hid; rw [← hy6]; exact LB.out
          replace br := (hb.block (z) (lt_of_block br)).trans br
          replace bm := (hb.block (y1) (lt_of_block bm)).trans bm
          replace FR : Hid (FRow (z + 1) w20 (.slice fa L.length fc) L) := FR.out.keep (fun q h1 h2 => hb.block q h2)
          replace GR : Hid (w20.ownsRow (z + 1) 57 3 (.slice ga G3.length gc) G3.length (gcv G3)) := own_keep GR.out (fun q hq => hb.block q (GR.out.lt q hq).2)
          replace C := C.kept hb
          replace A : Hid (Aft B g w w20) := aft_step A.out hb (Nat.le_trans HC.out.2 (Nat.le_of_lt HC.out.1))
          replace LB : Hid (z + 1 ≤ w20.heap.size) := Nat.le_trans LB.out hb.size
          have bq : w20.heap[y6]? = some (.cells #[.int .i64 (-2), .int .i64 1, .int .i64 9] 3 (0, 0)) := by rw [← hNw20, ← hy6]; exact heap_alloc_new _ _
          clear hb
          have hv : ∀ i, i < 3 → ∃ z' : Int, True ∧ w20.cell? ⟨y6, i, none⟩ = some (.int .i64 z') := fun i hi => by
            have hii : i = 0 ∨ i = 1 ∨ i = 2 := by omega
            rcases hii with rfl | rfl | rfl
            · exact ⟨(-2), trivial, (cell_of_block bq 0).trans rfl⟩
            · exact ⟨1, trivial, (cell_of_block bq 1).trans rfl⟩
            · exact ⟨9, trivial, (cell_of_block bq 2).trans rfl⟩
          have hbl : y6 < w20.heap.size := lt_of_block bq
          have hbg : y6 ≠ g := by have h1 := hley6.out; have h2 := HC.out; have h3 := HZ.out; omega
          go_wp2_with fail
          clear hNw20 hy6
          refine (curAmongV (fun _ => True) y6 3 (by omega) (by omega) g a n cap B (m + 520080 + 2) (hid_le (by have := HMM.out; omega)) w20 C hv hbl hbg).mono ?_
          rintro e w21 ⟨s9, _, rfl, C1, ha⟩
          replace br := (ha.blk (z) (by have hc1 := HC.out; have hc2 := HZ.out; omega) (lt_of_block br)).trans br
          replace bm := (ha.blk (y1) (by have h3 := hley1.out; have hc1 := HC.out; have hc2 := HZ.out; omega) (lt_of_block bm)).trans bm
          replace bq := (ha.blk (y6) (by have h3 := hley6.out; have hc1 := HC.out; have hc2 := HZ.out; omega) (lt_of_block bq)).trans bq
          replace FR : Hid (FRow (z + 1) w21 (.slice fa L.length fc) L) := FR.out.keep (fun q h1 h2 => ha.blk q (by have hc1 := HC.out; have hc2 := HZ.out; omega) h2)
          replace GR : Hid (w21.ownsRow (z + 1) 57 3 (.slice ga G3.length gc) G3.length (gcv G3)) := own_keep GR.out (fun q hq => ha.blk q (by have h4 := (GR.out.lt q hq).1; have hc1 := HC.out; have hc2 := HZ.out; omega) (GR.out.lt q hq).2)
          replace A : Hid (Aft B g w w21) := A.out.trans ha
          replace LB : Hid (z + 1 ≤ w21.heap.size) := Nat.le_trans LB.out ha.size
          clear ha C
          have C := C1
          clear C1
          clear hv hbl hbg bq
          have pm0x10 : w21.cell? ⟨y1, 0, none⟩ = some (.slice fa L.length fc) := (cell_of_block bm 0).trans rfl
          have pm1x10 : w21.cell? ⟨y1, 1, none⟩ = some (.slice ga G3.length gc) := (cell_of_block bm 1).trans rfl
          have pm2x10 : w21.cell? ⟨y1, 2, none⟩ = some (.bool mem) := (cell_of_block bm 2).trans rfl
          have pm3x10 : w21.cell? ⟨y1, 3, none⟩ = some (.int .i64 pg) := (cell_of_block bm 3).trans rfl
          have pm4x10 : w21.cell? ⟨y1, 4, none⟩ = some (.int .i64 mo) := (cell_of_block bm 4).trans rfl
          have pm5x10 : w21.cell? ⟨y1, 5, none⟩ = some (.int .i64 so) := (cell_of_block bm 5).trans rfl
          have fm0x10 := free_of_block bm 0
          have fm1x10 := free_of_block bm 1
          have fm2x10 := free_of_block bm 2
          have fm3x10 := free_of_block bm 3
          have fm4x10 := free_of_block bm 4
          have fm5x10 := free_of_block bm 5
          obtain ⟨w22, hNw22⟩ : ∃ G, (w21.setCell ⟨y1, 5, none⟩ (.int .i64 s9)) = G := ⟨_, rfl⟩
          obtain ⟨s1, s2, s3, s4⟩ := set1T bm 5 (.int .i64 s9) hNw22
          replace s1 : w22.heap[y1]? = some (.cells #[.slice fa L.length fc, .slice ga G3.length gc, .bool mem, .int .i64 pg, .int .i64 mo, .int .i64 s9] 26 (0, 0)) := s1
          replace br := (s2 (z) (by have h3 := hley1.out; omega)).trans br
          replace FR : Hid (FRow (z + 1) w22 (.slice fa L.length fc) L) := FRow.farM FR.out bm (by decide) (by decide) (by decide) s2
          replace GR : Hid (w22.ownsRow (z + 1) 57 3 (.slice ga G3.length gc) G3.length (gcv G3)) := own_keep GR.out (fun q hq => s2 q (fun e => by obtain ⟨cur, hc, _⟩ := own_at GR.out hq; rw [e, bm] at hc; simp at hc))
          have hsl : w.heap.size ≤ y1 := by have h3 := hley1.out; have hc1 := HC.out; have hc2 := HZ.out; omega
          have hs : Below w.heap.size w21 w22 := s4 _ _ hsl (Below.refl _ _)
          replace C := cur_upto C hs HC.out.1
          replace A : Hid (Aft B g w w22) := aft_upto A.out hs (Nat.le_trans HC.out.2 (Nat.le_of_lt HC.out.1))
          replace LB : Hid (z + 1 ≤ w22.heap.size) := by unfold Hid; rw [s3]; exact LB.out
          replace bm := s1
          clear s1 s2 s3 s4 hs hsl
          go_wp2
          go_meet
          exact ⟨L, G3, ⟨⟨_, _, _, _, _, _, _, _, bm, FR.out, GR.out⟩, br, C.more (by omega), A.out, LB.out, HY1.out, (fun x hx => ⟨(SM.out x hx).1, (SM.out x hx).2.1, ⟨Nat.le_trans (SM.out x hx).2.2.1.1 (by omega), fun _ => (SM.out x hx).2.2.1.2 (by omega)⟩, (SM.out x hx).2.2.2⟩), GS.out⟩, ⟨HML.out.2.1, HML.out.2.2.1, by have := HML.out.2.2.2; omega⟩⟩
        · skip
          go_wp2
          refine wa_begin (by kernel_rfl) ?_
          obtain ⟨w20, hD⟩ : ∃ W, w19.drew = W := ⟨_, rfl⟩
          have hb : Below w19.heap.size w19 w20 := by rw [← hD]; exact (Below.refl _ _).drew
          rw [hD]
          replace br := (hb.block (z) (lt_of_block br)).trans br
          replace bm := (hb.block (y1) (lt_of_block bm)).trans bm
          replace FR : Hid (FRow (z + 1) w20 (.slice fa L.length fc) L) := FR.out.keep (fun q h1 h2 => hb.block q h2)
          replace GR : Hid (w20.ownsRow (z + 1) 57 3 (.slice ga G3.length gc) G3.length (gcv G3)) := own_keep GR.out (fun q hq => hb.block q (GR.out.lt q hq).2)
          replace C := C.kept hb
          replace A : Hid (Aft B g w w20) := aft_step A.out hb (Nat.le_trans HC.out.2 (Nat.le_of_lt HC.out.1))
          replace LB : Hid (z + 1 ≤ w20.heap.size) := Nat.le_trans LB.out hb.size
          clear hb hD
          refine wa_take 0 (some 112) (.pointer (some ⟨y1, 1, none⟩)) rfl rfl (by kernel_rfl) (by kernel_rfl) (by kernel_rfl) (fun _ _ _ h => h) (by rfl) (fun _ => by kernel_rfl) ?_
          simp only [Act.put, List.setIfInBounds_toArray, List.set_cons_zero, List.set_cons_succ]
          refine wa_take 2 (some 114) (.pointer (some ⟨g, 0, none⟩)) rfl rfl (by kernel_rfl) (by kernel_rfl) (by kernel_rfl) (fun _ _ _ h => h) (by rfl) (fun _ => by kernel_rfl) ?_
          simp only [Act.put, List.setIfInBounds_toArray, List.set_cons_zero, List.set_cons_succ]
          refine wa_take 5 (some 117) (.pointer (some ⟨g, 0, none⟩)) rfl rfl (by kernel_rfl) (by kernel_rfl) (by kernel_rfl) (fun _ _ _ h => h) (by rfl) (fun _ => by kernel_rfl) ?_
          simp only [Act.put, List.setIfInBounds_toArray, List.set_cons_zero, List.set_cons_succ]
          refine wa_first 1 (some 113) (.slice ga G3.length gc) (fun w' : World => w'.heap[y1]? = some (.cells #[.slice fa L.length fc, .slice ga G3.length gc, .bool mem, .int .i64 pg, .int .i64 mo, .int .i64 so] 26 (0, 0))) rfl rfl (by kernel_rfl) (by kernel_rfl) (by kernel_rfl) (fun _ _ _ h => h) (by rfl) (fun w' hS => by have q1 : w'.cell? ⟨y1, 1, none⟩ = some (.slice ga G3.length gc) := (cell_of_block hS 1).trans rfl; clear hS; go_simp) bm ?_
          simp only [Act.put, List.setIfInBounds_toArray, List.set_cons_zero, List.set_cons_succ]
          obtain ⟨y6, hy6⟩ : ∃ z, w20.heap.size = z := ⟨_, rfl⟩
          obtain ⟨w21, hNw21⟩ : ∃ W, w20.alloc (.cells #[.int .i64 64, .int .i64 125, .int .i64 127] 3) = W := ⟨_, rfl⟩
          have hb : Below w20.heap.size w20 w21 := by rw [← hNw21]; exact bel_alloc (Below.refl _ _) _
          have hley6 : Hid (z + 1 ≤ y6) := by unfold Hid; rw [← hy6]; exact LB.out
          replace br := (hb.block (z) (lt_of_block br)).trans br
          replace bm := (hb.block (y1) (lt_of_block bm)).trans bm
          replace FR : Hid (FRow (z + 1) w21 (.slice fa L.length fc) L) := FR.out.keep (fun q h1 h2 => hb.block q h2)
          replace GR : Hid (w21.ownsRow (z + 1) 57 3 (.slice ga G3.length gc) G3.length (gcv G3)) := own_keep GR.out (fun q hq => hb.block q (GR.out.lt q hq).2)
          replace C := C.kept hb
          replace A : Hid (Aft B g w w21) := aft_step A.out hb (Nat.le_trans HC.out.2 (Nat.le_of_lt HC.out.1))
          replace LB : Hid (z + 1 ≤ w21.heap.size) := Nat.le_trans LB.out hb.size
          have bq : w21.heap[y6]? = some (.cells #[.int .i64 64, .int .i64 125, .int .i64 127] 3 (0, 0)) := by rw [← hNw21, ← hy6]; exact heap_alloc_new _ _
          clear hb
          refine wb_val 3 (some 115) (.slice (some ⟨y6, 0, none⟩) 3 3) w21 (by kernel_rfl) (by kernel_rfl) rfl rfl (by rfl) (by rw [← hNw21, ← hy6]; go_simp) bm ?_
          simp only [Act.put, List.setIfInBounds_toArray, List.set_cons_zero, List.set_cons_succ]
          clear hNw21 hy6
          have hv : ∀ i, i < 3 → ∃ z' : Int, True ∧ w21.cell? ⟨y6, i, none⟩ = some (.int .i64 z') := fun i hi => by
            have hii : i = 0 ∨ i = 1 ∨ i = 2 := by omega
            rcases hii with rfl | rfl | rfl
            · exact ⟨64, trivial, (cell_of_block bq 0).trans rfl⟩
            · exact ⟨125, trivial, (cell_of_block bq 1).trans rfl⟩
            · exact ⟨127, trivial, (cell_of_block bq 2).trans rfl⟩
          have hbl : y6 < w21.heap.size := lt_of_block bq
          have hbg : y6 ≠ g := by have h1 := hley6.out; have h2 := HC.out; have h3 := HZ.out; omega
          refine wb_call 4 (some 116) 28 #[.pointer (some ⟨g, 0, none⟩), .slice (some ⟨y6, 0, none⟩) 3 3] (by kernel_rfl) (by kernel_rfl) rfl rfl (by rfl) (by kernel_rfl) ?_
          refine (curAmongV (fun _ => True) y6 3 (by omega) (by omega) g a n cap B (m + 520080 + 2) (hid_le (by have := HMM.out; omega)) w21 C hv hbl hbg).mono ?_
          rintro e w22 ⟨ty, _, rfl, C1, ha⟩
          replace br := (ha.blk (z) (by have hc1 := HC.out; have hc2 := HZ.out; omega) (lt_of_block br)).trans br
          replace bm := (ha.blk (y1) (by have h3 := hley1.out; have hc1 := HC.out; have hc2 := HZ.out; omega) (lt_of_block bm)).trans bm
          replace bq := (ha.blk (y6) (by have h3 := hley6.out; have hc1 := HC.out; have hc2 := HZ.out; omega) (lt_of_block bq)).trans bq
          replace FR : Hid (FRow (z + 1) w22 (.slice fa L.length fc) L) := FR.out.keep (fun q h1 h2 => ha.blk q (by have hc1 := HC.out; have hc2 := HZ.out; omega) h2)
          replace GR : Hid (w22.ownsRow (z + 1) 57 3 (.slice ga G3.length gc) G3.length (gcv G3)) := own_keep GR.out (fun q hq => ha.blk q (by have h4 := (GR.out.lt q hq).1; have hc1 := HC.out; have hc2 := HZ.out; omega) (GR.out.lt q hq).2)
          replace A : Hid (Aft B g w w22) := A.out.trans ha
          replace LB : Hid (z + 1 ≤ w22.heap.size) := Nat.le_trans LB.out ha.size
          clear ha C hv hbl hbg bq
          have C := C1
          clear C1
          refine ⟨_, rfl, bm, ?_⟩
          simp only [Act.put, List.setIfInBounds_toArray, List.set_cons_zero, List.set_cons_succ]
          refine wb_call 6 (some 118) 29 #[.pointer (some ⟨g, 0, none⟩)] (by kernel_rfl) (by kernel_rfl) rfl rfl (by rfl) (by kernel_rfl) ?_
          refine (curWord g a n cap B (m + 520080 + 2 + 2) (hid_le (by have := HMM.out; omega)) w22 C).mono ?_
          rintro e w23 ⟨rg, rg0, rg1, rfl, C1, ha⟩
          replace br := (ha.blk (z) (by have hc1 := HC.out; have hc2 := HZ.out; omega) (lt_of_block br)).trans br
          replace bm := (ha.blk (y1) (by have h3 := hley1.out; have hc1 := HC.out; have hc2 := HZ.out; omega) (lt_of_block bm)).trans bm
          replace FR : Hid (FRow (z + 1) w23 (.slice fa L.length fc) L) := FR.out.keep (fun q h1 h2 => ha.blk q (by have hc1 := HC.out; have hc2 := HZ.out; omega) h2)
          replace GR : Hid (w23.ownsRow (z + 1) 57 3 (.slice ga G3.length gc) G3.length (gcv G3)) := own_keep GR.out (fun q hq => ha.blk q (by have h4 := (GR.out.lt q hq).1; have hc1 := HC.out; have hc2 := HZ.out; omega) (GR.out.lt q hq).2)
          replace A : Hid (Aft B g w w23) := A.out.trans ha
          replace LB : Hid (z + 1 ≤ w23.heap.size) := Nat.le_trans LB.out ha.size
          clear ha C
          have C := C1
          clear C1
          refine ⟨_, rfl, bm, ?_⟩
          simp only [Act.put, List.setIfInBounds_toArray, List.set_cons_zero, List.set_cons_succ]
          have HRG : Hid (0 ≤ rg ∧ rg ≤ 18446744073709551615) := ⟨rg0, rg1⟩
          clear rg0 rg1
          refine wb_val 7 (some 119) (.agg #[.int .i64 ty, .bool true, .int .u64 rg]) w23 (by kernel_rfl) (by kernel_rfl) rfl rfl (by rfl) (by go_simp) bm ?_
          simp only [Act.put, List.setIfInBounds_toArray, List.set_cons_zero, List.set_cons_succ]
          obtain ⟨y4, hy4⟩ : ∃ z, w23.heap.size = z := ⟨_, rfl⟩
          obtain ⟨w24, hNw24⟩ : ∃ W, w23.alloc (.cells #[.int .i64 ty, .bool true, .int .u64 rg] 57) = W := ⟨_, rfl⟩
          have hb : Below w23.heap.size w23 w24 := by rw [← hNw24]; exact bel_alloc (Below.refl _ _) _
          have hley4 : Hid (z + 1 ≤ y4) := by unfold Hid; rw [← hy4]; exact LB.out
          replace br := (hb.block (z) (lt_of_block br)).trans br
          replace bm := (hb.block (y1) (lt_of_block bm)).trans bm
          replace FR : Hid (FRow (z + 1) w24 (.slice fa L.length fc) L) := FR.out.keep (fun q h1 h2 => hb.block q h2)
          replace GR : Hid (w24.ownsRow (z + 1) 57 3 (.slice ga G3.length gc) G3.length (gcv G3)) := own_keep GR.out (fun q hq => hb.block q (GR.out.lt q hq).2)
          replace C := C.kept hb
          replace A : Hid (Aft B g w w24) := aft_step A.out hb (Nat.le_trans HC.out.2 (Nat.le_of_lt HC.out.1))
          replace LB : Hid (z + 1 ≤ w24.heap.size) := Nat.le_trans LB.out hb.size
          have be : w24.heap[y4]? = some (.cells #[.int .i64 ty, .bool true, .int .u64 rg] 57 (0, 0)) := by rw [← hNw24, ← hy4]; exact heap_alloc_new _ _
          clear hb
          refine wb_val 8 (some 120) (.slice (some ⟨y4, 0, none⟩) 1 1) w24 (by kernel_rfl) (by kernel_rfl) rfl rfl (by rfl) (by rw [← hNw24, ← hy4]; go_simp) bm ?_
          simp only [Act.put, List.setIfInBounds_toArray, List.set_cons_zero, List.set_cons_succ]
          clear hNw24 hy4
          have hc : ∀ (j : Nat) (u : Value), (gcv [(⟨ty, true, rg⟩ : Glo7)])[j]? = some u → w24.cell? ⟨y4, 0 + j, none⟩ = some u := fun j u hu => by
            have hj : j < 3 := by rcases Nat.lt_or_ge j 3 with h' | h'; exact h'; rw [List.getElem?_eq_none (by rw [gcv_len]; simpa using h')] at hu; cases hu
            have hjj : j = 0 ∨ j = 1 ∨ j = 2 := by omega
            rcases hjj with rfl | rfl | rfl
            · exact (cell_of_block be 0).trans (by simpa [gcv, gdC] using hu)
            · exact (cell_of_block be 1).trans (by simpa [gcv, gdC] using hu)
            · exact (cell_of_block be 2).trans (by simpa [gcv, gdC] using hu)
          obtain ⟨vG, w25, hrun, hG, hgG⟩ := appGlo w24 (z + 1) _ G3 GR.out y4 0 1 [(⟨ty, true, rg⟩ : Glo7)] hc (by have := HML.out.2.2.2; simp; omega) LB.out 24
          obtain ⟨aG, cG, e6, _⟩ := glos_own hG
          subst e6
          clear hc be
          have hbz : Below (z + 1) w24 w25 := (Below.refl _ _).grown hgG LB.out (fun q hq => (GR.out.lt q hq).1)
          replace br := (hbz.block z (by omega)).trans br
          replace bm := (hgG.block y1 (lt_of_block bm) (fun e => by obtain ⟨cur, hc, _⟩ := own_at GR.out e.symm; rw [bm] at hc; simp at hc)).trans bm
          replace FR : Hid (FRow (z + 1) w25 (.slice fa L.length fc) L) := FRow.grown GR.out hgG FR.out (by decide) (by decide) (by decide)
          replace C := cur_low C hbz (by have h1 := HC.out; have h2 := HZ.out; omega)
          replace A : Hid (Aft B g w w25) := aft_upto A.out (hbz.mono (by have h2 := HZ.out; omega)) (Nat.le_trans HC.out.2 (Nat.le_of_lt HC.out.1))
          replace LB : Hid (z + 1 ≤ w25.heap.size) := Nat.le_trans LB.out hbz.size
          clear hbz hgG GR
          obtain ⟨G4, hG4⟩ : ∃ l, G3 ++ [(⟨ty, true, rg⟩ : Glo7)] = l := ⟨_, rfl⟩
          have HG1 : Hid (G4 = G3 ++ [(⟨ty, true, rg⟩ : Glo7)] ∧ G4.length = G3.length + 1) := ⟨hG4.symm, by rw [← hG4]; simp⟩
          rw [hG4] at hG hrun
          have GR : Hid (w25.ownsRow (z + 1) 57 3 (.slice aG G4.length cG) G4.length (gcv G4)) := hG
          simp only [List.length_singleton] at hrun
          clear hG hG4
          refine wb_leave_val 9 (some 121) (.slice aG G4.length cG) w25 (by kernel_rfl) (by kernel_rfl) rfl rfl (by rfl) (by simp [execOp, resolve, invoke, builtin, Act.eval, hrun, Result.andThen]) ?_
          simp only [Act.put, List.setIfInBounds_toArray, List.set_cons_zero, List.set_cons_succ]
          clear hrun
          refine wa_val 10 (some 122) (.pointer (some ⟨y1, 1, none⟩)) w25 (by kernel_rfl) rfl rfl (by rfl) (by kernel_rfl) ?_
          simp only [Act.put, List.setIfInBounds_toArray, List.set_cons_zero, List.set_cons_succ]
          have pm0x10 : w25.cell? ⟨y1, 0, none⟩ = some (.slice fa L.length fc) := (cell_of_block bm 0).trans rfl
          have pm1x10 : w25.cell? ⟨y1, 1, none⟩ = some (.slice ga G3.length gc) := (cell_of_block bm 1).trans rfl
          have pm2x10 : w25.cell? ⟨y1, 2, none⟩ = some (.bool mem) := (cell_of_block bm 2).trans rfl
          have pm3x10 : w25.cell? ⟨y1, 3, none⟩ = some (.int .i64 pg) := (cell_of_block bm 3).trans rfl
          have pm4x10 : w25.cell? ⟨y1, 4, none⟩ = some (.int .i64 mo) := (cell_of_block bm 4).trans rfl
          have pm5x10 : w25.cell? ⟨y1, 5, none⟩ = some (.int .i64 so) := (cell_of_block bm 5).trans rfl
          have fm0x10 := free_of_block bm 0
          have fm1x10 := free_of_block bm 1
          have fm2x10 := free_of_block bm 2
          have fm3x10 := free_of_block bm 3
          have fm4x10 := free_of_block bm 4
          have fm5x10 := free_of_block bm 5
          obtain ⟨w26, hNw26⟩ : ∃ G, (w25.setCell ⟨y1, 1, none⟩ (.slice aG G4.length cG)) = G := ⟨_, rfl⟩
          obtain ⟨s1, s2, s3, s4⟩ := set1T bm 1 (.slice aG G4.length cG) hNw26
          replace s1 : w26.heap[y1]? = some (.cells #[.slice fa L.length fc, .slice aG G4.length cG, .bool mem, .int .i64 pg, .int .i64 mo, .int .i64 so] 26 (0, 0)) := s1
          replace br := (s2 (z) (by have h3 := hley1.out; omega)).trans br
          replace FR : Hid (FRow (z + 1) w26 (.slice fa L.length fc) L) := FRow.farM FR.out bm (by decide) (by decide) (by decide) s2
          replace GR : Hid (w26.ownsRow (z + 1) 57 3 (.slice aG G4.length cG) G4.length (gcv G4)) := own_keep GR.out (fun q hq => s2 q (fun e => by obtain ⟨cur, hc, _⟩ := own_at GR.out hq; rw [e, bm] at hc; simp at hc))
          have hsl : w.heap.size ≤ y1 := by have h3 := hley1.out; have hc1 := HC.out; have hc2 := HZ.out; omega
          have hs : Below w.heap.size w25 w26 := s4 _ _ hsl (Below.refl _ _)
          replace C := cur_upto C hs HC.out.1
          replace A : Hid (Aft B g w w26) := aft_upto A.out hs (Nat.le_trans HC.out.2 (Nat.le_of_lt HC.out.1))
          replace LB : Hid (z + 1 ≤ w26.heap.size) := by unfold Hid; rw [s3]; exact LB.out
          replace bm := s1
          clear s1 s2 s3 s4 hs hsl
          refine wa_store 11 none w26 (by kernel_rfl) rfl rfl (by rfl) (by rw [← hNw26]; go_simp) ?_
          simp only [Act.put]
          clear pm0x10 pm1x10 pm2x10 pm3x10 pm4x10 pm5x10 fm0x10 fm1x10 fm2x10 fm3x10 fm4x10 fm5x10 hNw26
          refine wa_done (by kernel_rfl) ?_
          have HGS : Hid (∀ x ∈ G4, okG x) := fun x hx => by
            rw [HG1.out.1] at hx
            rcases List.mem_append.1 hx with hx | hx
            · exact GS.out x hx
            · simp only [List.mem_singleton] at hx; rw [hx]; exact HRG.out
          go_wp2
          go_meet
          exact ⟨L, G4, ⟨⟨_, _, _, _, _, _, _, _, bm, FR.out, GR.out⟩, br, C.more (by omega), A.out, LB.out, HY1.out, (fun x hx => ⟨(SM.out x hx).1, (SM.out x hx).2.1, ⟨Nat.le_trans (SM.out x hx).2.2.1.1 (by omega), fun _ => (SM.out x hx).2.2.1.2 (by omega)⟩, (SM.out x hx).2.2.2⟩), HGS.out⟩, ⟨HML.out.2.1, HML.out.2.2.1, by have := HML.out.2.2.2; have := HG1.out.2; omega⟩⟩
        · skip
          go_wp2
          go_meet
          exact ⟨L, G3, ⟨⟨_, _, _, _, _, _, _, _, bm, FR.out, GR.out⟩, br, C.more (by omega), A.out, LB.out, HY1.out, (fun x hx => ⟨(SM.out x hx).1, (SM.out x hx).2.1, ⟨Nat.le_trans (SM.out x hx).2.2.1.1 (by omega), fun _ => (SM.out x hx).2.2.1.2 (by omega)⟩, (SM.out x hx).2.2.2⟩), GS.out⟩, ⟨HML.out.2.1, HML.out.2.2.1, by have := HML.out.2.2.2; omega⟩⟩
      case rest =>
      clear FR bm br C A LB GR SM GS HML HMM hq
      obtain ⟨L5, G5, hM5, hL5⟩ := hcut
      have HQ5 : Hid _ := hM5
      have HML : Hid (1 ≤ L5.length ∧ L5.length ≤ 3 ∧ G5.length ≤ 2) := hL5
      clear hM5 hL5
      obtain ⟨N, hN⟩ : ∃ k, L5.length = k := ⟨_, rfl⟩
      have HN : Hid (N ≤ 3 ∧ 1 ≤ N) := by have := HML.out; unfold Hid; omega
      have I0 : Hid (∃ L : List Fd, L.length = N ∧ ModL 20100 B g z y1 a n cap (m + 529000) w wc L G5) := ⟨L5, hN, HQ5.out⟩
      obtain ⟨⟨fa, fc, ga, gc, mem, pg, mo, so, bm, _, _⟩, _⟩ := HQ5.out
      rw [hN] at bm
      have p0 : wc.cell? ⟨y1, 0, none⟩ = some (.slice fa N fc) := (cell_of_block bm 0).trans rfl
      clear bm HQ5 hN
      go_wp2
      clear p0
      go_loopw [126] (fun i wr => ∃ (k : Nat), k ≤ N ∧ i = .int .i64 (k : Int) ∧ Hid (∃ L : List Fd, L.length = N ∧ ModL 20100 B g z y1 a n cap (m + 529000) w wr L G5)) (fun i _ => N - (intOf i).toNat)
      case atStart => exact ⟨0, by omega, rfl, I0⟩
      case round =>
        clear I0
        obtain ⟨k5, hk5, rfl, HI⟩ := hrel
        obtain ⟨L, hLN, hL⟩ := HI.out
        have HL : Hid _ := hL
        have HLN : Hid (L.length = N) := hLN
        clear HI hL hLN
        obtain ⟨⟨fa, fc, ga, gc, mem, pg, mo, so, bm, hFR, hGR⟩, br, C, hA, hLB, _, hsm, hgs⟩ := HL.out
        have A : Hid (Aft B g w wr) := hA
        have LB : Hid (z + 1 ≤ wr.heap.size) := hLB
        have FR : Hid (FRow (z + 1) wr (.slice fa L.length fc) L) := hFR
        have GR : Hid (wr.ownsRow (z + 1) 57 3 (.slice ga G5.length gc) G5.length (gcv G5)) := hGR
        have SM : Hid (∀ x ∈ L, SmW 20100 x.f) := hsm
        have GS : Hid (∀ x ∈ G5, okG x) := hgs
        clear hA hLB hFR hGR hsm hgs HL
        rw [HLN.out] at bm FR
        by_cases hlt : k5 < N
        · have HK5 : Hid (k5 < L.length) := by unfold Hid; rw [HLN.out]; exact hlt
          have hi1 : (k5 : Int) < (N : Int) := by omega
          have hrw : FRow (z + 1) wr (.slice fa L.length fc) L := by rw [HLN.out]; exact FR.out
          obtain ⟨gf, cf, hfa, _⟩ := own_pos hrw.row (by have := HK5.out; omega)
          simp only [Value.slice.injEq, true_and] at hfa
          obtain ⟨rfl, rfl⟩ := hfa
          clear hrw
          obtain ⟨Fk, hFk⟩ : ∃ x, L[k5]'HK5.out = x := ⟨_, rfl⟩
          have HFk : Hid (L[k5]'HK5.out = Fk ∧ Fk ∈ L) := ⟨hFk, by rw [← hFk]; exact List.getElem_mem HK5.out⟩
          clear hFk
          obtain ⟨ab, cb5, hvb⟩ := slice_ins (FR.out.ok _ HFk.out.2).bd
          obtain ⟨nb, hnb⟩ : ∃ k, Fk.f.body.length = k := ⟨_, rfl⟩
          have HNB : Hid (nb ≤ 20100) := by unfold Hid; rw [← hnb]; exact (SM.out _ HFk.out.2).2.2.1.1
          rw [hnb] at hvb
          have hrow : FRow (z + 1) wr (.slice (some ⟨gf, 0, none⟩) L.length fc) L := by rw [HLN.out]; exact FR.out
          have c3 := (hrow.cells k5 HK5.out).2.2.2
          rw [HFk.out.1, hvb] at c3
          clear hvb hnb hrow
          have pm0x10 : wr.cell? ⟨y1, 0, none⟩ = some (.slice (some ⟨gf, 0, none⟩) N fc) := (cell_of_block bm 0).trans rfl
          have HKW : Hid (wrap64 ((k5 : Int) + 1) = ((k5 + 1 : Nat) : Int) ∧ k5 + 1 ≤ N) := ⟨by have := HN.out.1; unfold wrap64; omega, hlt⟩
          by_cases hlong : 200 < (nb : Int)
          · skip
            obtain ⟨y7, hy7⟩ : ∃ z, wr.heap.size = z := ⟨_, rfl⟩
            obtain ⟨w20, hNw20⟩ : ∃ W, wr.alloc (.cells #[.int .i64 0, .int .i64 0, .int .i64 11, .int .i64 0] 41) = W := ⟨_, rfl⟩
            have hb : Below wr.heap.size wr w20 := by rw [← hNw20]; exact bel_alloc (Below.refl _ _) _
            have hley7 : Hid (z + 1 ≤ y7) := by unfold Hid; rw [← hy7]; exact LB.out
            replace br := (hb.block (z) (lt_of_block br)).trans br
            replace bm := (hb.block (y1) (lt_of_block bm)).trans bm
            replace FR : Hid (FRow (z + 1) w20 (.slice (some ⟨gf, 0, none⟩) N fc) L) := FR.out.keep (fun q h1 h2 => hb.block q h2)
            replace GR : Hid (w20.ownsRow (z + 1) 57 3 (.slice ga G5.length gc) G5.length (gcv G5)) := own_keep GR.out (fun q hq => hb.block q (GR.out.lt q hq).2)
            replace C := C.kept hb
            replace A : Hid (Aft B g w w20) := aft_step A.out hb (Nat.le_trans HC.out.2 (Nat.le_of_lt HC.out.1))
            replace LB : Hid (z + 1 ≤ w20.heap.size) := Nat.le_trans LB.out hb.size
            have bx : w20.heap[y7]? = some (.cells #[.int .i64 0, .int .i64 0, .int .i64 11, .int .i64 0] 41 (0, 0)) := by rw [← hNw20, ← hy7]; exact heap_alloc_new _ _
            clear hb
            have pm0x11 : w20.cell? ⟨y1, 0, none⟩ = some (.slice (some ⟨gf, 0, none⟩) N fc) := (cell_of_block bm 0).trans rfl
            have RN : w20.ownsRow (z + 1) 41 2 (.slice (some ⟨y7, 0, none⟩) 2 2) ([((0 : Int), (0 : Int)), (11, 0)] : List (Int × Int)).length (pv [(0, 0), (11, 0)]) := ⟨rfl, .inr ⟨y7, 2, _, rfl, hley7.out, bx, Nat.le_refl _, by unfold maxLen; omega, rfl, rfl⟩⟩
            have hrow : FRow (z + 1) w20 (.slice (some ⟨gf, 0, none⟩) L.length fc) L := by rw [HLN.out]; exact FR.out
            have c4 := (hrow.cells k5 HK5.out).2.2.2
            rw [HFk.out.1] at c4
            have f4 := hrow.row.frozenAt (k5 * 4 + 3)
            obtain ⟨w21, hNb⟩ : ∃ G, w20.setCell ⟨gf, k5 * 4 + 3, none⟩ (.slice (some ⟨y7, 0, none⟩) 2 2) = G := ⟨_, rfl⟩
            have hoth : ∀ b, b ≠ gf → w21.heap[b]? = w20.heap[b]? := fun b hb => by rw [← hNb]; exact heap_setCell_other _ ⟨gf, k5 * 4 + 3, none⟩ b _ hb
            have hgz : z + 1 ≤ gf := (hrow.row.lt gf rfl).1
            have hymf : y1 ≠ gf := fun e => by obtain ⟨cur, hc, _⟩ := own_at hrow.row (g := gf) rfl; rw [← e, bm] at hc; simp at hc
            have hbs : Below (z + 1) w20 w21 := by rw [← hNb]; exact (Below.refl _ _).setCell hgz _
            have FR2 : Hid (FRow (z + 1) w21 (.slice (some ⟨gf, 0, none⟩) L.length fc) (L.set k5 { Fk with vb := .slice (some ⟨y7, 0, none⟩) 2 2, f := { Fk.f with body := [(0, 0), (11, 0)] } })) := by unfold Hid; rw [← hNb]; have h := hrow.setB rfl k5 HK5.out RN; rw [HFk.out.1] at h; exact h
            have br2 := (hoth z (by omega)).trans br
            have bm2 := (hoth y1 hymf).trans bm
            have GR2 : Hid (w21.ownsRow (z + 1) 57 3 (.slice ga G5.length gc) G5.length (gcv G5)) := own_keep GR.out (fun q hq => hoth q (fun e => own_apart hrow.row GR.out (by decide) (q := gf) rfl (by rw [hq, e])))
            have C2 := cur_low C hbs (by have h1 := HC.out; have h2 := HZ.out; omega)
            have A2 : Hid (Aft B g w w21) := aft_upto A.out (hbs.mono (by have h2 := HZ.out; omega)) (Nat.le_trans HC.out.2 (Nat.le_of_lt HC.out.1))
            have LB2 : Hid (z + 1 ≤ w21.heap.size) := Nat.le_trans LB.out hbs.size
            obtain ⟨L2, hL2⟩ : ∃ l, L.set k5 { Fk with vb := .slice (some ⟨y7, 0, none⟩) 2 2, f := { Fk.f with body := [(0, 0), (11, 0)] } } = l := ⟨_, rfl⟩
            have HL2 : Hid (L2.length = N ∧ ∀ x ∈ L2, SmW 20100 x.f) := by
              unfold Hid; rw [← hL2]
              refine ⟨by rw [List.length_set]; exact HLN.out, fun x hx => ?_⟩
              rcases List.mem_or_eq_of_mem_set hx with hx | rfl
              · exact SM.out x hx
              · have h0 := SM.out _ HFk.out.2
                exact ⟨h0.1, h0.2.1, ⟨by simp, fun _ => by simp⟩, fun x hx => by simp at hx; rcases hx with rfl | rfl <;> exact ⟨by decide, by decide⟩⟩
            rw [hL2] at FR2
            have REL : Hid (∃ L : List Fd, L.length = N ∧ ModL 20100 B g z y1 a n cap (m + 529000) w w21 L G5) := ⟨L2, HL2.out.1, ⟨⟨_, _, _, _, _, _, _, _, (by rw [HL2.out.1]; exact bm2), (by rw [HL2.out.1, ← HLN.out]; exact FR2.out), GR2.out⟩, br2, C2, A2.out, LB2.out, HY1.out, HL2.out.2, GS.out⟩⟩
            clear RN hrow hoth hgz hymf hbs FR2 br2 bm2 GR2 C2 A2 LB2 hL2 HL2 FR GR A LB
            go_wp2
            go_roundw
            case rel => exact ⟨k5 + 1, HKW.out.2, congrArg (Value.int .i64) HKW.out.1, REL⟩
            case measure => rw [HKW.out.1]; exact measJ k5 N HKW.out.2
          · have REL : Hid (∃ L : List Fd, L.length = N ∧ ModL 20100 B g z y1 a n cap (m + 529000) w wr L G5) := ⟨L, HLN.out, ⟨⟨_, _, _, _, _, _, _, _, (by rw [HLN.out]; exact bm), (by rw [HLN.out]; exact FR.out), GR.out⟩, br, C, A.out, LB.out, HY1.out, SM.out, GS.out⟩⟩
            go_wp2
            go_roundw
            case rel => exact ⟨k5 + 1, HKW.out.2, congrArg (Value.int .i64) HKW.out.1, REL⟩
            case measure => rw [HKW.out.1]; exact measJ k5 N HKW.out.2
        · have hk6 : N = k5 := by omega
          subst hk6
          have pm0x10 : wr.cell? ⟨y1, 0, none⟩ = some (.slice fa N fc) := (cell_of_block bm 0).trans rfl
          have pm1x10 : wr.cell? ⟨y1, 1, none⟩ = some (.slice ga G5.length gc) := (cell_of_block bm 1).trans rfl
          have pm2x10 : wr.cell? ⟨y1, 2, none⟩ = some (.bool mem) := (cell_of_block bm 2).trans rfl
          have pm3x10 : wr.cell? ⟨y1, 3, none⟩ = some (.int .i64 pg) := (cell_of_block bm 3).trans rfl
          have pm4x10 : wr.cell? ⟨y1, 4, none⟩ = some (.int .i64 mo) := (cell_of_block bm 4).trans rfl
          have pm5x10 : wr.cell? ⟨y1, 5, none⟩ = some (.int .i64 so) := (cell_of_block bm 5).trans rfl
          have pr0x11 : wr.cell? ⟨z, 0, none⟩ = some (.slice none 0 0) := (cell_of_block br 0).trans rfl
          have pr1x11 : wr.cell? ⟨z, 1, none⟩ = some (.slice none 0 0) := (cell_of_block br 1).trans rfl
          have pr2x11 : wr.cell? ⟨z, 2, none⟩ = some (.bool false) := (cell_of_block br 2).trans rfl
          have pr3x11 : wr.cell? ⟨z, 3, none⟩ = some (.int .i64 0) := (cell_of_block br 3).trans rfl
          have pr4x11 : wr.cell? ⟨z, 4, none⟩ = some (.int .i64 0) := (cell_of_block br 4).trans rfl
          have pr5x11 : wr.cell? ⟨z, 5, none⟩ = some (.int .i64 0) := (cell_of_block br 5).trans rfl
          have fr0x11 := free_of_block br 0
          have fr1x11 := free_of_block br 1
          have fr2x11 := free_of_block br 2
          have fr3x11 := free_of_block br 3
          have fr4x11 := free_of_block br 4
          have fr5x11 := free_of_block br 5
          obtain ⟨w20, hNw20⟩ : ∃ G, ((((((wr.setCell ⟨z, 0, none⟩ (.slice fa N fc)).setCell ⟨z, 1, none⟩ (.slice ga G5.length gc)).setCell ⟨z, 2, none⟩ (.bool mem)).setCell ⟨z, 3, none⟩ (.int .i64 pg)).setCell ⟨z, 4, none⟩ (.int .i64 mo)).setCell ⟨z, 5, none⟩ (.int .i64 so)) = G := ⟨_, rfl⟩
          obtain ⟨s1, s2, s3, s4⟩ := set6T br _ _ _ _ _ _ hNw20
          replace bm := (s2 (y1) (by have h3 := hley1.out; omega)).trans bm
          replace FR : Hid (FRow (z + 1) w20 (.slice fa N fc) L) := FRow.farM FR.out br (by decide) (by decide) (by decide) s2
          replace GR : Hid (w20.ownsRow (z + 1) 57 3 (.slice ga G5.length gc) G5.length (gcv G5)) := own_keep GR.out (fun q hq => s2 q (fun e => by obtain ⟨cur, hc, _⟩ := own_at GR.out hq; rw [e, br] at hc; simp at hc))
          have hsl : w.heap.size ≤ z := by have hc1 := HC.out; have hc2 := HZ.out; omega
          have hs : Below w.heap.size wr w20 := s4 _ _ hsl (Below.refl _ _)
          replace C := cur_upto C hs HC.out.1
          replace A : Hid (Aft B g w w20) := aft_upto A.out hs (Nat.le_trans HC.out.2 (Nat.le_of_lt HC.out.1))
          replace LB : Hid (z + 1 ≤ w20.heap.size) := by unfold Hid; rw [s3]; exact LB.out
          replace br := s1
          clear s1 s2 s3 s4 hs hsl
          have z0r : w20.cell? ⟨z, 0, none⟩ = some (.slice fa N fc) := (cell_of_block br 0).trans rfl
          have z1r : w20.cell? ⟨z, 1, none⟩ = some (.slice ga G5.length gc) := (cell_of_block br 1).trans rfl
          have z2r : w20.cell? ⟨z, 2, none⟩ = some (.bool mem) := (cell_of_block br 2).trans rfl
          have z3r : w20.cell? ⟨z, 3, none⟩ = some (.int .i64 pg) := (cell_of_block br 3).trans rfl
          have z4r : w20.cell? ⟨z, 4, none⟩ = some (.int .i64 mo) := (cell_of_block br 4).trans rfl
          have z5r : w20.cell? ⟨z, 5, none⟩ = some (.int .i64 so) := (cell_of_block br 5).trans rfl
          have HMA : Hid (ModK w.heap.size w20 fa fc ga L G5) := fun w' hk => by
            have h0 : FRow (z + 1) w20 (.slice fa L.length fc) L := by rw [HLN.out]; exact FR.out
            have h1 := h0.keep (w' := w') (fun b h4 h5 => hk b (by have h6 := HZ.out; omega) h5)
            obtain ⟨a2, c2, e2, h3⟩ := glos_own (own_keep (w' := w') GR.out (fun q hq => hk q (by have h6 := HZ.out; have h7 := (GR.out.lt q hq).1; omega) (GR.out.lt q hq).2))
            simp only [Value.slice.injEq] at e2
            rw [← e2.1] at h3
            exact ⟨h1.base (by have h6 := HZ.out; omega), h3⟩
          have HSM : Hid (smM (mdOf L G5 mem pg mo so) ∧ 1 ≤ L.length ∧ L.length ≤ 3) := by
            unfold Hid
            refine ⟨⟨by simp only [mdOf, List.length_map]; have := HLN.out; have := HN.out; omega, by have := HML.out.2.2; simp only [mdOf]; omega, fun f hf => ?_, GS.out⟩, by have := HLN.out; have := HN.out; omega, by have := HLN.out; have := HN.out; omega⟩
            obtain ⟨x, hx, rfl⟩ := List.mem_map.1 hf
            have h0 := SM.out x hx
            exact ⟨by have := h0.1; omega, by have := h0.2.1; omega, by have := h0.2.2.1.1; omega, fun i hi => (h0.2.2.2 _ (List.getElem_mem hi)).2⟩
          go_wp2
          exact bodyPost_ret (v := .agg #[.slice fa N fc, .slice ga G5.length gc, .bool mem, .int .i64 pg, .int .i64 mo, .int .i64 so]) (by simp [results, Tryz.results12, go_sem, z0r, z1r, z2r, z3r, z4r, z5r]) rfl ⟨fa, fc, ga, gc, L, G5, mem, pg, mo, so, by rw [HLN.out], HMA, HSM, C.more (by omega), A⟩

end Go.Proofs.YtcgnefgdfgikdaaGreat

namespace Go.Proofs.YtcgnefgdfgikdaaGreat
open Go.ChangeShapes Go.WideShapes Go.ChangeAt Go.RowKit

/-- What DrawCheckFunc tells. -/
def DcfP (w : World) (e : Ending) (w' : World) : Prop := ∃ (fa : Option Addr) (fc : Nat) (ga : Option Addr) (gc : Nat) (L : List Fd) (G : List Glo7) (mem : Bool) (pg mo so k : Int), e = .returned (.tuple #[.agg #[.slice fa L.length fc, .slice ga G.length gc, .bool mem, .int .i64 pg, .int .i64 mo, .int .i64 so], .int .i64 k]) ∧ Hid (FRow w.heap.size w' (.slice fa L.length fc) L ∧ Glos w' ga G) ∧ Hid (smM (mdOf L G mem pg mo so) ∧ 1 ≤ L.length ∧ L.length ≤ 3) ∧ Hid (-1 ≤ k ∧ k ≤ 3) ∧ Hid (Below w.heap.size w w')
theorem bys_alloc6 {w : World} {a : Option Addr} {n : Nat} (h : Bys w a n w.heap.size) (o : Obj) : Bys (w.alloc o) a n (w.alloc o).heap.size := fun hn => by
  obtain ⟨b, off, e, hl, hc⟩ := (h.below ((Below.refl _ _).alloc (Nat.le_refl _) o)) hn
  exact ⟨b, off, e, by simp; omega, hc⟩

set_option maxRecDepth 100000 in
set_option maxHeartbeats 1600000 in
theorem drawCheck (a : Option Addr) (n cap : Nat) (w : World) (hb : Bys w a n w.heap.size) :
    Calls Tryz.prog 4 #[.slice a n cap] w fun e w' => DcfP w e w' := by
  obtain ⟨z, hz⟩ : ∃ z, w.heap.size = z := ⟨_, rfl⟩
  obtain ⟨V, hV⟩ : ∃ W, w.alloc (.cells #[.slice none 0 0, .slice none 0 0, .bool false, .int .i64 0, .int .i64 0, .int .i64 0] 26) = W := ⟨_, rfl⟩
  have hbV : Below w.heap.size w V := by rw [← hV]; exact bel_alloc (Below.refl _ _) _
  have hsV : V.heap.size = z + 1 := by rw [← hV, ← hz]; simp
  have br : V.heap[z]? = some (.cells #[.slice none 0 0, .slice none 0 0, .bool false, .int .i64 0, .int .i64 0, .int .i64 0] 26 (0, 0)) := by rw [← hV, ← hz]; exact heap_alloc_new _ _
  have hbB : Bys V a n V.heap.size := by rw [← hV]; exact bys_alloc6 hb _
  have C0 := cur_new V a n cap 46 hbB
  have N0 := below_new V (.cells #[.slice a n cap, .int .i64 0, .int .u64 0] 46)
  rw [hsV] at C0
  obtain ⟨V2, hV2⟩ : ∃ W, V.alloc (.cells #[.slice a n cap, .int .i64 0, .int .u64 0] 46) = W := ⟨_, rfl⟩
  rw [hV2] at C0 N0
  have br2 := (N0.block z (lt_of_block br)).trans br
  have HB : Hid (Below w.heap.size w V2) := hbV.trans (N0.mono hbV.size)
  have HZ : Hid (w.heap.size = z ∧ V2.heap.size = z + 1 + 1) := ⟨hz, by rw [← hV2, ← hsV]; simp⟩
  clear br hbB N0 hbV hb
  go_enter Tryz.func4, Tryz.ntmps4
  go_wp2_with fail
  clear hV hV2 hz hsV
  refine (curModule (z + 1) a n cap (z + 1) 0 (hid_le (by omega)) V2 C0).mono ?_
  rintro e w1 ⟨fa, fc, ga, gc, L, GG, mem, pg, mo, so, rfl, HM, HS, C1, HA⟩
  have br := (HA.out.blk z (by omega) (lt_of_block br2)).trans br2
  replace HB : Hid (Below w.heap.size w w1) := HB.out.trans (HA.out.below.mono (by have := HZ.out.1; omega))
  have LB : Hid (z + 1 + 1 ≤ w1.heap.size) := by unfold Hid; rw [← HZ.out.2]; exact HA.out.size
  clear HA C0 br2
  obtain ⟨nf, hnf⟩ : ∃ n, L.length = n := ⟨_, rfl⟩
  obtain ⟨ng, hng⟩ : ∃ n, GG.length = n := ⟨_, rfl⟩
  have HN : Hid (L.length = nf ∧ GG.length = ng) := ⟨hnf, hng⟩
  rw [hnf, hng]
  clear hnf hng
  obtain ⟨y, hy⟩ : ∃ z, w1.heap.size = z := ⟨_, rfl⟩
  obtain ⟨Z1, hZ1⟩ : ∃ W, w1.alloc (.cells #[.slice none 0 0, .slice none 0 0, .bool false, .int .i64 0, .int .i64 0, .int .i64 0] 26) = W := ⟨_, rfl⟩
  have hb1 : Below w1.heap.size w1 Z1 := by rw [← hZ1]; exact bel_alloc (Below.refl _ _) _
  have hn1 : Z1.heap[y]? = some (.cells #[.slice none 0 0, .slice none 0 0, .bool false, .int .i64 0, .int .i64 0, .int .i64 0] 26 (0, 0)) := by rw [← hZ1, ← hy]; exact heap_alloc_new _ _
  have HY : Hid (z + 1 + 1 ≤ y) := by unfold Hid; rw [← hy]; exact LB.out
  obtain ⟨Z2, hZ2⟩ : ∃ G, (((((Z1.setCell ⟨y, 0, none⟩ (.slice fa nf fc)).setCell ⟨y, 1, none⟩ (.slice ga ng gc)).setCell ⟨y, 2, none⟩ (.bool mem)).setCell ⟨y, 3, none⟩ (.int .i64 pg)).setCell ⟨y, 4, none⟩ (.int .i64 mo)).setCell ⟨y, 5, none⟩ (.int .i64 so) = G := ⟨_, rfl⟩
  obtain ⟨bm, s2, s3, s4⟩ := set6T hn1 _ _ _ _ _ _ hZ2
  have hb2 : Below w1.heap.size w1 Z2 := s4 _ _ (Nat.le_of_eq hy) hb1
  have e0 : Z1.cell? ⟨y, 0, none⟩ = some (.slice none 0 0) := (cell_of_block hn1 0).trans rfl
  have e1 : Z1.cell? ⟨y, 1, none⟩ = some (.slice none 0 0) := (cell_of_block hn1 1).trans rfl
  have e2 : Z1.cell? ⟨y, 2, none⟩ = some (.bool false) := (cell_of_block hn1 2).trans rfl
  have e3 : Z1.cell? ⟨y, 3, none⟩ = some (.int .i64 0) := (cell_of_block hn1 3).trans rfl
  have e4 : Z1.cell? ⟨y, 4, none⟩ = some (.int .i64 0) := (cell_of_block hn1 4).trans rfl
  have e5 : Z1.cell? ⟨y, 5, none⟩ = some (.int .i64 0) := (cell_of_block hn1 5).trans rfl
  have f0 := free_of_block hn1 0
  have f1 := free_of_block hn1 1
  have f2 := free_of_block hn1 2
  have f3 := free_of_block hn1 3
  have f4 := free_of_block hn1 4
  have f5 := free_of_block hn1 5
  obtain ⟨D, hD⟩ : ∃ W, Z2.drew = W := ⟨_, rfl⟩
  have hbD : Below w1.heap.size w1 D := hb2.trans (by rw [← hD]; exact ((Below.refl _ _).drew).mono hb2.size)
  have bmD : D.heap[y]? = some (.cells #[.slice fa nf fc, .slice ga ng gc, .bool mem, .int .i64 pg, .int .i64 mo, .int .i64 so] 26 (0, 0)) := by rw [← hD]; exact bm
  replace br := (hbD.block z (lt_of_block br)).trans br
  have HKD : Hid (∀ b, b < w1.heap.size → D.heap[b]? = w1.heap[b]?) := fun b h => hbD.block b h
  have HWD : Hid (w1.heap.size ≤ D.heap.size) := hbD.size
  replace HB : Hid (Below w.heap.size w D) := HB.out.trans (hbD.mono (by have := HZ.out.1; have := LB.out; omega))
  replace C1 := C1.kept hbD
  have LD : Hid (y < D.heap.size) := lt_of_block bmD
  go_wp2
  clear hy hZ1 hZ2 hn1 hb1 hb2 e0 e1 e2 e3 e4 e5 f0 f1 f2 f3 f4 f5 bm s2 s3 s4 hbD
  refine wh_begin (fun w' : World => w'.heap[y]? = some (.cells #[.slice fa nf fc, .slice ga ng gc, .bool mem, .int .i64 pg, .int .i64 mo, .int .i64 so] 26 (0, 0))) (by kernel_rfl) ?_
  rw [hD]
  clear hD
  have hw1 : IntKind.i64.wrap ((nf : Int) + 1) = ((nf + 1 : Nat) : Int) := by have := HS.out; have := HN.out.1; rw [IntKind.wrap_i64]; omega
  obtain ⟨np, hnp⟩ : ∃ p, nf + 1 = p := ⟨_, rfl⟩
  have HNP : Hid (1 ≤ np ∧ np ≤ 4) := by have := HS.out; have := HN.out.1; unfold Hid; omega
  rw [hnp] at hw1
  clear hnp
  refine wh_take 0 (some 11) (.agg #[.slice fa nf fc, .slice ga ng gc, .bool mem, .int .i64 pg, .int .i64 mo, .int .i64 so]) rfl rfl (by kernel_rfl) (by kernel_rfl) (by kernel_rfl) (fun _ _ _ h => h) bmD (by rfl) (fun w' hS => ?_) ?_
  · have q0 : w'.cell? ⟨y, 0, none⟩ = some (.slice fa nf fc) := (cell_of_block hS 0).trans rfl
    have q1 : w'.cell? ⟨y, 1, none⟩ = some (.slice ga ng gc) := (cell_of_block hS 1).trans rfl
    have q2 : w'.cell? ⟨y, 2, none⟩ = some (.bool mem) := (cell_of_block hS 2).trans rfl
    have q3 : w'.cell? ⟨y, 3, none⟩ = some (.int .i64 pg) := (cell_of_block hS 3).trans rfl
    have q4 : w'.cell? ⟨y, 4, none⟩ = some (.int .i64 mo) := (cell_of_block hS 4).trans rfl
    have q5 : w'.cell? ⟨y, 5, none⟩ = some (.int .i64 so) := (cell_of_block hS 5).trans rfl
    clear hS
    go_simp
  simp only [Act.put, List.setIfInBounds_toArray, List.set_cons_zero, List.set_cons_succ]
  refine wh_take 1 (some 12) (.pointer (some ⟨z + 1, 0, none⟩)) rfl rfl (by kernel_rfl) (by kernel_rfl) (by kernel_rfl) (fun _ _ _ h => h) bmD (by rfl) (fun w' _ => by kernel_rfl) ?_
  simp only [Act.put, List.setIfInBounds_toArray, List.set_cons_zero, List.set_cons_succ]
  refine wh_take 2 (some 13) (.pointer (some ⟨y, 0, none⟩)) rfl rfl (by kernel_rfl) (by kernel_rfl) (by kernel_rfl) (fun _ _ _ h => h) bmD (by rfl) (fun w' _ => by kernel_rfl) ?_
  simp only [Act.put, List.setIfInBounds_toArray, List.set_cons_zero, List.set_cons_succ]
  refine wh_take 3 (some 14) (.slice fa nf fc) rfl rfl (by kernel_rfl) (by kernel_rfl) (by kernel_rfl) (fun _ _ _ h => h) bmD (by rfl) (fun w' hS => by have q0 : w'.cell? ⟨y, 0, none⟩ = some (.slice fa nf fc) := (cell_of_block hS 0).trans rfl; clear hS; go_simp) ?_
  simp only [Act.put, List.setIfInBounds_toArray, List.set_cons_zero, List.set_cons_succ]
  refine wh_take 4 (some 15) (.int .i64 (nf : Int)) rfl rfl (by kernel_rfl) (by kernel_rfl) (by kernel_rfl) (fun _ _ _ h => h) bmD (by rfl) (fun w' hS => by clear hS; go_simp) ?_
  simp only [Act.put, List.setIfInBounds_toArray, List.set_cons_zero, List.set_cons_succ]
  refine wh_take 5 (some 16) (.int .i64 (np : Int)) rfl rfl (by kernel_rfl) (by kernel_rfl) (by kernel_rfl) (fun _ _ _ h => h) bmD (by rfl) (fun w' hS => by clear hS; go_simp) ?_
  simp only [Act.put, List.setIfInBounds_toArray, List.set_cons_zero, List.set_cons_succ]
  refine wh_take 7 (some 18) (.pointer (some ⟨z + 1, 0, none⟩)) rfl rfl (by kernel_rfl) (by kernel_rfl) (by kernel_rfl) (fun _ _ _ h => h) bmD (by rfl) (fun w' _ => by kernel_rfl) ?_
  simp only [Act.put, List.setIfInBounds_toArray, List.set_cons_zero, List.set_cons_succ]
  refine wh_call 6 (some 17) 13 #[.pointer (some ⟨z + 1, 0, none⟩), .int .i64 (np : Int)] (by kernel_rfl) rfl rfl (by rfl) (by kernel_rfl) ?_
  refine (curPick (np : Int) (by have := HNP.out; omega) (by have := HNP.out; omega) (z + 1) a n cap (z + 1) (0 + 530000) (hid_le (by omega)) D C1).mono ?_
  rintro e w2 ⟨r1, r10, r11, rfl, C2, ha2⟩
  have bm2 := (ha2.blk y (by have := HY.out; omega) (lt_of_block bmD)).trans bmD
  refine ⟨_, rfl, bm2, ?_⟩
  simp only [Act.put, List.setIfInBounds_toArray, List.set_cons_zero, List.set_cons_succ]
  refine wh_call 8 (some 19) 13 #[.pointer (some ⟨z + 1, 0, none⟩), .int .i64 2] (by kernel_rfl) rfl rfl (by rfl) (by kernel_rfl) ?_
  refine (curPick 2 (by omega) (by omega) (z + 1) a n cap (z + 1) (0 + 530000 + 2) (hid_le (by omega)) w2 C2).mono ?_
  rintro e w3 ⟨r2, r20, r21, rfl, C3, ha3⟩
  have bm3 := (ha3.blk y (by have := HY.out; omega) (lt_of_block bm2)).trans bm2
  have ha := ha2.trans ha3
  refine ⟨_, rfl, bm3, ?_⟩
  simp only [Act.put, List.setIfInBounds_toArray, List.set_cons_zero, List.set_cons_succ]
  replace br := (ha.blk z (by omega) (lt_of_block br)).trans br
  obtain ⟨k, hk⟩ : ∃ k : Int, r1 - r2 = k := ⟨_, rfl⟩
  have hwk : IntKind.i64.wrap (r1 - r2) = k := by have := HNP.out; rw [IntKind.wrap_i64]; omega
  have HK : Hid (-1 ≤ k ∧ k ≤ 3) := by have := HNP.out; unfold Hid; omega
  clear hk r10 r11 r20 r21 C1 C2 C3
  refine wh_take 9 (some 20) (.int .i64 k) rfl rfl (by kernel_rfl) (by kernel_rfl) (by kernel_rfl) (fun _ _ _ h => h) bm3 (by rfl) (fun w' hS => by clear hS; go_simp) ?_
  simp only [Act.put, List.setIfInBounds_toArray, List.set_cons_zero, List.set_cons_succ]
  obtain ⟨G, hG⟩ : ∃ G, (((((w3.setCell ⟨z, 0, none⟩ (.slice fa nf fc)).setCell ⟨z, 1, none⟩ (.slice ga ng gc)).setCell ⟨z, 2, none⟩ (.bool mem)).setCell ⟨z, 3, none⟩ (.int .i64 pg)).setCell ⟨z, 4, none⟩ (.int .i64 mo)).setCell ⟨z, 5, none⟩ (.int .i64 so) = G := ⟨_, rfl⟩
  obtain ⟨t1, t2, t3, t4⟩ := set6T br _ _ _ _ _ _ hG
  have e0 : w3.cell? ⟨z, 0, none⟩ = some (.slice none 0 0) := (cell_of_block br 0).trans rfl
  have e1 : w3.cell? ⟨z, 1, none⟩ = some (.slice none 0 0) := (cell_of_block br 1).trans rfl
  have e2 : w3.cell? ⟨z, 2, none⟩ = some (.bool false) := (cell_of_block br 2).trans rfl
  have e3 : w3.cell? ⟨z, 3, none⟩ = some (.int .i64 0) := (cell_of_block br 3).trans rfl
  have e4 : w3.cell? ⟨z, 4, none⟩ = some (.int .i64 0) := (cell_of_block br 4).trans rfl
  have e5 : w3.cell? ⟨z, 5, none⟩ = some (.int .i64 0) := (cell_of_block br 5).trans rfl
  have f0 := free_of_block br 0
  have f1 := free_of_block br 1
  have f2 := free_of_block br 2
  have f3 := free_of_block br 3
  have f4 := free_of_block br 4
  have f5 := free_of_block br 5
  have bm4 := (t2 y (by have := HY.out; omega)).trans bm3
  refine wh_skip 10 none G (by kernel_rfl) rfl rfl (by rfl) (by rw [← hG]; go_simp) bm4 ?_
  simp only [Act.put]
  refine wh_val 11 (some 3) (.int .i64 k) G (by kernel_rfl) rfl rfl (by rfl) (by go_simp) bm4 ?_
  simp only [Act.put, List.setIfInBounds_toArray, List.set_cons_zero, List.set_cons_succ]
  clear e0 e1 e2 e3 e4 e5 f0 f1 f2 f3 f4 f5 hG
  refine wh_done (by kernel_rfl) ?_
  have z0 : G.cell? ⟨z, 0, none⟩ = some (.slice fa nf fc) := (cell_of_block t1 0).trans rfl
  have z1 : G.cell? ⟨z, 1, none⟩ = some (.slice ga ng gc) := (cell_of_block t1 1).trans rfl
  have z2 : G.cell? ⟨z, 2, none⟩ = some (.bool mem) := (cell_of_block t1 2).trans rfl
  have z3 : G.cell? ⟨z, 3, none⟩ = some (.int .i64 pg) := (cell_of_block t1 3).trans rfl
  have z4 : G.cell? ⟨z, 4, none⟩ = some (.int .i64 mo) := (cell_of_block t1 4).trans rfl
  have z5 : G.cell? ⟨z, 5, none⟩ = some (.int .i64 so) := (cell_of_block t1 5).trans rfl
  have HBG : Hid (Below w.heap.size w G) := t4 _ _ (by have := HZ.out.1; omega) (HB.out.trans (ha.below.mono (by have := HZ.out.1; omega)))
  go_wp2
  refine bodyPost_ret (v := .tuple #[.agg #[.slice fa nf fc, .slice ga ng gc, .bool mem, .int .i64 pg, .int .i64 mo, .int .i64 so], .int .i64 k]) (by simp [results, Tryz.results4, go_sem, z0, z1, z2, z3, z4, z5]) rfl ⟨fa, fc, ga, gc, L, GG, mem, pg, mo, so, k, by rw [HN.out.1, HN.out.2], ?_, HS, HK, HBG⟩
  have hR := HM.out G (fun b h1 h2 => (t2 b (by have := HZ.out.2; omega)).trans ((ha.blk b (by have := HZ.out.2; omega) (Nat.lt_of_lt_of_le h2 HWD.out)).trans (HKD.out b h2)))
  exact ⟨hR.1.base (by have := HZ.out; omega), hR.2⟩

end Go.Proofs.YtcgnefgdfgikdaaGreat
