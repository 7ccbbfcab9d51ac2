/-
  The way through a body from the back: the whole of it.
-/
import Derived.Test.YtdcfflmfimepfaaGreatJA7
import Derived.Test.YtdcfflmfimepfaaGreatJA1
import Derived.Test.YtdcfflmfimepfaaGreatJA3
namespace Go.Proofs.YtdcfflmfimepfaaGreat
open Go.ChangeShapes Go.WideShapes Go.ChangeAt Go.RowKit

theorem bk_cons (L : List (Int × Int)) (k : Nat) (h : k < L.length) (st : List (Nat × Bool)) (hb : bk (k + 1) ((ops L).drop (k + 1)) = some st) : bk k ((ops L).drop k) = bkStep k L[k].1 st ∧ bkE k ((ops L).drop k) = bkTop k L[k].1 st :: bkE (k + 1) ((ops L).drop (k + 1)) ∧ bkD k ((ops L).drop k) = if L[k].1 = 11 then max (bkD (k + 1) ((ops L).drop (k + 1))) (st.length + 1) else bkD (k + 1) ((ops L).drop (k + 1)) := by
  rw [fw_op L k h]
  simp [bk, bkE, bkD, hb]
theorem bk_up : ∀ (l : List Int) (i : Nat), bk i l = none → ∀ (p : List Int) (j : Nat), j + p.length = i → bk j (p ++ l) = none
  | l, i, h, [], j, hj => by simp at hj; subst hj; exact h
  | l, i, h, x :: p, j, hj => by
    have := bk_up l i h p (j + 1) (by simp at hj; omega)
    simp [bk, this]
theorem eo_stop {L : List (Int × Int)} {k : Nat} (h : eo L = bodyOf (ops L)) (hb : bk k ((ops L).drop k) = none) (hk : k ≤ L.length) : eo L = none := by
  have h1 := bk_up _ k hb ((ops L).take k) 0 (by simp [ops]; omega)
  rw [List.take_append_drop] at h1
  rw [h]; unfold bodyOf; rw [h1]
theorem eo_yes {L : List (Int × Int)} (x : Nat) (h : eo L = bodyOf (ops L)) (hb : bk 0 (ops L) = some [(x, false)]) : eo L = some (bkE 0 (ops L), bkD 0 (ops L)) := by
  rw [h]; unfold bodyOf; rw [hb]
theorem eo_not {L : List (Int × Int)} (st : List (Nat × Bool)) (h : eo L = bodyOf (ops L)) (hb : bk 0 (ops L) = some st) (hne : ∀ x, st ≠ [(x, false)]) : eo L = none := by
  rw [h]; unfold bodyOf; rw [hb]
  split
  · rename_i x hx
    simp only [Option.some.injEq] at hx
    exact absurd hx (hne x)
  · rfl
theorem w64s (k : Nat) (h : k ≤ 400) : wrap64 ((k : Int) - 1) = (k : Int) - 1 := by unfold wrap64; omega
/-- What the walk from the back has found so far. -/
def found (L : List (Int × Int)) (k n : Nat) (st : List (Nat × Bool)) (e : Nat → Nat) (d : Nat) : Prop :=
  bk k ((ops L).drop k) = some st ∧ (∀ q, k ≤ q → q < n → some (e q) = (bkE k ((ops L).drop k))[q - k]?) ∧ d = bkD k ((ops L).drop k) ∧ st.length ≤ n - k
theorem found_next {L : List (Int × Int)} {k n : Nat} {st st' : List (Nat × Bool)} {e : Nat → Nat} {d : Nat} (hn : L.length = n) (hk : k < n) (h : found L (k + 1) n st e d) (hs : bkStep k (L[k]'(by omega)).1 st = some st') :
    found L k n st' (fun q => if q = k then bkTop k (L[k]'(by omega)).1 st else e q) (if (L[k]'(by omega)).1 = 11 then max d (st.length + 1) else d) := by
  obtain ⟨h1, h2, h3, h4⟩ := h
  obtain ⟨b1, b2, b3⟩ := bk_cons L k (by omega) st h1
  refine ⟨by rw [b1, hs], fun q hq hqn => ?_, by rw [b3, h3], ?_⟩
  · rw [b2]
    by_cases hqk : q = k
    · subst hqk; simp
    · obtain ⟨j, rfl⟩ : ∃ j, q = k + 1 + j := ⟨q - (k + 1), by omega⟩
      rw [show k + 1 + j - k = j + 1 by omega, List.getElem?_cons_succ]
      simp only [hqk, if_false]
      have := h2 (k + 1 + j) (by omega) hqn
      rw [show k + 1 + j - (k + 1) = j by omega] at this
      exact this
  · have : st'.length ≤ st.length + 1 := by
      unfold bkStep at hs
      split at hs
      · simp only [Option.some.injEq] at hs; subst hs; simp
      · cases st with
        | nil => simp at hs
        | cons y t =>
          simp only at hs
          repeat' split at hs
          all_goals simp only [Option.some.injEq, reduceCtorEq] at hs
          all_goals subst hs
          all_goals first | (simp; done) | (simp; omega)
    omega

/-- A region with one store that floats, some operations guarded away. -/
structure WF (P : Program) (ops : Array Oper) (C : Bool → World → Prop) (s : Nat) (Q : Act → Prop) (k : Nat) (l : List Oper) (a : Act) : Prop where
  out : wpFlag P ops C s Q k l a
section
variable {P : Program} {ops : Array Oper} {C : Bool → World → Prop} {s : Nat} {Q : Act → Prop} {a : Act} {o : Oper} {rest : List Oper} {k : Nat}
theorem wf_go (v : Value) (hw : Region.wanted o (yielded ops a.tmps) = true) (st : Bool) (hst : (k == s) = st)
    (h1 : ∀ b w, (st = true → b = false) → C b w → uponF P (C (b || st)) v ((execOp a.eval o).run P w)) (h2 : WF P ops C s Q (k + 1) rest (a.put o.dst v)) : WF P ops C s Q k (o :: rest) a := ⟨wpFlag_go v hw st hst h1 h2.out⟩
theorem wf_no (hw : Region.wanted o (yielded ops a.tmps) = false) (hk : k ≠ s) (h2 : WF P ops C s Q (k + 1) rest (a.put o.dst undef)) : WF P ops C s Q k (o :: rest) a := by
  refine ⟨?_⟩
  unfold wpFlag
  rw [if_neg (by rw [hw]; exact Bool.false_ne_true)]
  exact ⟨hk, h2.out⟩
theorem wf_nil (h : Q a) : WF P ops C s Q k [] a := ⟨h⟩
end
/-- Worlds that keep W; behind the store: that keep V. -/
def KG (W V : World) (b : Bool) (w : World) : Prop := Keeps (if b then V else W) w
structure KGany (W V w : World) : Prop where
  ex : ∃ b, KG W V b w
theorem KG.any {W V w : World} {b : Bool} (h : KG W V b w) : KGany W V w := ⟨b, h⟩
theorem gcall {W V w : World} {v : Value} {b : Bool} (hq : KG W V b w) {P : Program} {f : FuncId} {args : Array Value} (h : Calls P f args w fun e w' => e = .returned v ∧ Below w.heap.size w w') :
    Calls P f args w fun e w' => e = .returned v ∧ KG W V b w' := h.mono fun _ _ ⟨he, hb⟩ => ⟨he, Keeps.step hq hb⟩
/-- Three cells of one block are written. -/
def put3 (W : World) (g : Nat) (x y z : Value) : World := ((W.setCell ⟨g, 0, none⟩ x).setCell ⟨g, 1, none⟩ y).setCell ⟨g, 2, none⟩ z
theorem kg_store {W w : World} {g : Nat} {x y z : Value} (h : KG W (put3 W g x y z) false w) : KG W (put3 W g x y z) true (((w.setCell ⟨g, 0, none⟩ x).setCell ⟨g, 1, none⟩ y).setCell ⟨g, 2, none⟩ z) := by
  have h0 : KeepsB W ⟨g, 0, none⟩ x false w := h
  have h1 : KeepsB (W.setCell ⟨g, 0, none⟩ x) ⟨g, 1, none⟩ y false (w.setCell ⟨g, 0, none⟩ x) := keepsB_store h0
  have h2 : KeepsB ((W.setCell ⟨g, 0, none⟩ x).setCell ⟨g, 1, none⟩ y) ⟨g, 2, none⟩ z false ((w.setCell ⟨g, 0, none⟩ x).setCell ⟨g, 1, none⟩ y) := keepsB_store h1
  exact keepsB_store h2
theorem put3_other {W : World} {g q : Nat} {x y z : Value} (h : q ≠ g) : (put3 W g x y z).heap[q]? = W.heap[q]? := by
  unfold put3
  rw [heap_setCell_other _ _ _ _ h, heap_setCell_other _ _ _ _ h, heap_setCell_other _ _ _ _ h]
theorem put3_size {W : World} {g : Nat} {x y z : Value} : (put3 W g x y z).heap.size = W.heap.size := by simp [put3]
theorem KGany.block {W w : World} {g q : Nat} {x y z : Value} (h : KGany W (put3 W g x y z) w) (hq : q < W.heap.size) (hne : q ≠ g) : w.heap[q]? = W.heap[q]? := by
  obtain ⟨b, hb⟩ := h
  unfold KG at hb
  cases b
  · exact (Keeps.below hb).block q hq
  · exact ((Keeps.below (W := put3 W g x y z) hb).block q (by rw [put3_size]; exact hq)).trans (put3_other hne)
theorem KGany.cell {W w : World} {g q o : Nat} {x y z v : Value} (h : KGany W (put3 W g x y z) w) (hq : q < W.heap.size) (hne : q ≠ g) (hc : W.cell? ⟨q, o, none⟩ = some v) : w.cell? ⟨q, o, none⟩ = some v :=
  (World.cell?_of_block (a := ⟨q, o, none⟩) (h.block hq hne)).trans hc
theorem put3_cells {W : World} {g : Nat} {x y z : Value} (h : AnsAt W g) : (put3 W g x y z).cell? ⟨g, 0, none⟩ = some x ∧ (put3 W g x y z).cell? ⟨g, 1, none⟩ = some y ∧ (put3 W g x y z).cell? ⟨g, 2, none⟩ = some z := by
  obtain ⟨c0, c1, c2, _, _, _⟩ := h
  unfold put3
  refine ⟨?_, ?_, ?_⟩ <;> simp [go_sem, c0, c1, c2]

set_option maxRecDepth 100000 in
set_option maxHeartbeats 6400000 in
theorem outline_good (b off cap : Nat) (L : List (Int × Int)) (w : World) (hb : b < w.heap.size) (hL : insAt w b off L) (hf : fits L) (hg : (allG L && decide (L.length ≤ 200)) = true) (m : Nat) (hm : L.length = m + 1) (hop : (L[m]'(by omega)).1 = 11) :
    Calls Tryz.prog 90 #[.slice (some ⟨b, off, none⟩) L.length cap] w fun e w' => ToldO w L e w' := by
  obtain ⟨g, hgs⟩ : ∃ g, w.heap.size = g := ⟨_, rfl⟩
  obtain ⟨W, hW⟩ : ∃ W, w.alloc (.cells #[.slice none 0 0, .slice none 0 0, .int .i64 0] 147) = W := ⟨_, rfl⟩
  have hBW : Below w.heap.size w W := by rw [← hW]; exact (Below.refl _ _).alloc (Nat.le_refl _) _
  have hA : AnsAt W g := by rw [← hW, ← hgs]; exact AnsAt.new w
  have hWs : W.heap.size = g + 1 := by rw [← hW, ← hgs]; simp
  have hsz := hBW.size
  have hm2 : m < 200 := by
    simp only [Bool.and_eq_true, decide_eq_true_eq] at hg; omega
  have HG := implAll (some ⟨b, off, none⟩) b off cap L W (fun h => ⟨rfl, by omega⟩) (insAt_nilW hBW (fun _ => hb) hL) hf (by omega)
  rw [hg] at HG
  have hres : Hid (eo L = bodyOf (ops L)) := by unfold Hid eo; rw [hg]; rfl
  have HBW : Hid (Below w.heap.size w W) := hBW
  have HA : Hid (AnsAt W g) := hA
  have HLW : Hid (insAt W b off L) := insAt_nilW hBW (fun _ => hb) hL
  have hcW : W.cell? ⟨b, off + m * 2, none⟩ = some (.int .i64 11) := by
    have hc := hL m (by omega)
    rw [hop] at hc
    exact (hBW.cell (p := ⟨b, off + m * 2, none⟩) hb).trans hc.1
  obtain ⟨i0, i0i, i00, i01, i02⟩ := info_parts Tryz.infoI
  obtain ⟨n, hn⟩ : ∃ n, m + 1 = n := ⟨_, rfl⟩
  have hmk : ∀ X : World, (Instr.makeSlice 92 (.int .i64 ((m : Int) + 1)) (.int .i64 ((m : Int) + 1))).run Tryz.prog X = .ok (.slice (some ⟨X.heap.size, 0, none⟩) (m + 1) (m + 1)) (X.alloc (.cells (outRow (fun _ => 0) (m + 1)) 3)) := fun X => by
    have h := run_make (P := Tryz.prog) X 92 3 i0 _ Tryz.underlying92 i0i i00 .i64 .i64 (((m + 1 : Nat)) : Int) (((m + 1 : Nat)) : Int) (by omega) (by omega) (by rw [i02]; omega) (by omega)
    rw [i01] at h
    rw [← made_i64]
    simpa using h
  have HN : Hid (L.length = m + 1 ∧ m < 200) := ⟨hm, hm2⟩
  have HOP : Hid (∀ (k : Nat) (hk : k < L.length), k = m → (L[k]'hk).1 = 11) := fun k hk e => by subst e; exact hop
  rw [hm] at HG ⊢
  have hmm : (m : Int) < (m : Int) + 1 := by omega
  have hmz : ((m : Int) + 1 == 0) = false := by simp; omega
  have hbW : b < W.heap.size := by omega
  have hm4 : m ≤ 400 := by omega
  clear hg hBW hA hL hf hsz hm hop hm2 hn
  go_enter Tryz.func90, Tryz.ntmps90
  go_wp2_with fail
  refine HG.mono ?_
  rintro r0 w0 ⟨rfl, hb0⟩
  have HA0 : Hid (AnsAt w0 g) := HA.out.keep hb0 (by omega)
  have HB0 : Hid (Below w.heap.size w w0) := below2 HBW.out hb0
  have hc0 : w0.cell? ⟨b, off + m * 2, none⟩ = some (.int .i64 11) := (hb0.cell (p := ⟨b, off + m * 2, none⟩) hbW).trans hcW
  have HL0 : Hid (insAt w0 b off L) := insAt_nilW hb0 (fun _ => hbW) HLW.out
  have hgB : Hid (g < w0.heap.size ∧ b < w0.heap.size) := by have := hb0.size; unfold Hid; omega
  have HB3 : Hid (Below w0.heap.size w0 ((w0.alloc (.cells (outRow (fun _ => 0) (m + 1)) 3)).alloc (.cells #[.slice none 0 0, .slice (some ⟨w0.heap.size, 0, none⟩) (m + 1) (m + 1), .int .i64 0] 147))) := ((Below.refl _ _).alloc (Nat.le_refl _) _).alloc (by simp) _
  have HOI : Hid (OI ((w0.alloc (.cells (outRow (fun _ => 0) (m + 1)) 3)).alloc (.cells #[.slice none 0 0, .slice (some ⟨w0.heap.size, 0, none⟩) (m + 1) (m + 1), .int .i64 0] 147)) w0.heap.size (w0.heap.size + 1) w0.heap.size (m + 1) [] (fun _ => 0) 0 (.slice none 0 0)) := by
    refine ⟨?_, ?_, World.ownsRow_nil _ _ _ _, by omega, by omega⟩
    · have h := heap_alloc_new (w0.alloc (.cells (outRow (fun _ => 0) (m + 1)) 3)) (.cells #[.slice none 0 0, .slice (some ⟨w0.heap.size, 0, none⟩) (m + 1) (m + 1), .int .i64 0] 147)
      simp only [World.size_alloc] at h
      exact h
    · exact (Below.heap_alloc _ _ _ (by simp)).trans (heap_alloc_new w0 (.cells (outRow (fun _ => 0) (m + 1)) 3))
  clear HG hb0 HA HBW hcW HLW
  have hi1 := i64n m hm4
  have hi2 := w64m m hm4
  go_wp2
  clear hi1 hi2 hmm hmz hmk
  obtain ⟨B, hBs⟩ : ∃ B, w0.heap.size = B := ⟨_, rfl⟩
  rw [hBs] at HOI HB3 hgB ⊢
  go_loopw [5] (fun ix wr => ∃ (k : Nat) (st : List (Nat × Bool)) (e : Nat → Nat) (d : Nat) (va : Value), k ≤ m + 1 ∧ ix = .int .i64 ((k : Int) - 1) ∧ Hid (found L k (m + 1) st e d) ∧ Hid (OI wr B (B + 1) B (m + 1) st e d va) ∧ Below B w0 wr) (fun i _ => ((intOf i) + 1).toNat)
  case atStart =>
    refine ⟨m + 1, [], fun _ => 0, 0, .slice none 0 0, by omega, by go_num, ⟨?_, fun q h1 h2 => absurd h2 (by omega), ?_, by simp⟩, HOI.out, HB3.out⟩
    · rw [List.drop_of_length_le (by have := HN.out.1; simp [ops]; omega)]; rfl
    · rw [List.drop_of_length_le (by have := HN.out.1; simp [ops]; omega)]; rfl
  case round =>
    clear HOI HB3 hc0
    obtain ⟨k1, st, e, d, va, hk1, rfl, hfo, hOI, hnx⟩ := hrel
    cases k1 with
    | zero =>
      have hfo0 := hfo.out
      simp only [found, List.drop_zero] at hfo0
      obtain ⟨hb0, he0, hd0, hl0⟩ := hfo0
      by_cases h1 : st.length = 1
      · obtain ⟨⟨x, dd⟩, rfl⟩ := List.length_eq_one_iff.1 h1
        obtain ⟨ga, c, rfl, hcc⟩ := own_pos hOI.out.ar (by simp)
        simp only [List.length_cons, List.length_nil, Nat.zero_add] at hOI
        have HO : OpenAt wr B (B + 1) B (m + 1) x dd [] e d ga c 0 := ⟨hOI.out, rfl, by omega, by simpa using hcc⟩
        have hlo := lt_of_block hOI.out.o
        have hgl : g < wr.heap.size := by have := hgB.out; omega
        have HANS0 : Hid (AnsAt wr g) := HA0.out.keep hnx hgB.out.1
        have a0 : wr.cell? ⟨B + 1, 0, none⟩ = some (.slice (some ⟨ga, 0, none⟩) 1 c) := by rw [cell_of_block hOI.out.o]; rfl
        have a1 : wr.cell? ⟨B + 1, 1, none⟩ = some (.slice (some ⟨B, 0, none⟩) (m + 1) (m + 1)) := by rw [cell_of_block hOI.out.o]; rfl
        have a2 : wr.cell? ⟨B + 1, 2, none⟩ = some (.int .i64 (d : Int)) := by rw [cell_of_block hOI.out.o]; rfl
        have hBg1 : B + 1 ≠ g := by have := hgB.out.1; omega
        have k0 : ∀ w', KGany wr (put3 wr g (.slice (some ⟨ga, 0, none⟩) 1 c) (.slice (some ⟨B, 0, none⟩) (m + 1) (m + 1)) (.int .i64 (d : Int))) w' → w'.cell? ⟨B + 1, 0, none⟩ = some (.slice (some ⟨ga, 0, none⟩) 1 c) := fun w' h => h.cell hlo hBg1 a0
        have k1 : ∀ w', KGany wr (put3 wr g (.slice (some ⟨ga, 0, none⟩) 1 c) (.slice (some ⟨B, 0, none⟩) (m + 1) (m + 1)) (.int .i64 (d : Int))) w' → w'.cell? ⟨B + 1, 1, none⟩ = some (.slice (some ⟨B, 0, none⟩) (m + 1) (m + 1)) := fun w' h => h.cell hlo hBg1 a1
        have k2 : ∀ w', KGany wr (put3 wr g (.slice (some ⟨ga, 0, none⟩) 1 c) (.slice (some ⟨B, 0, none⟩) (m + 1) (m + 1)) (.int .i64 (d : Int))) w' → w'.cell? ⟨B + 1, 2, none⟩ = some (.int .i64 (d : Int)) := fun w' h => h.cell hlo hBg1 a2
        have kA : ∀ w', KG wr (put3 wr g (.slice (some ⟨ga, 0, none⟩) 1 c) (.slice (some ⟨B, 0, none⟩) (m + 1) (m + 1)) (.int .i64 (d : Int))) false w' → AnsAt w' g := fun w' h => HANS0.out.keep (Keeps.below (W := wr) h) hgl
        have HANS : Hid (AnsAt wr g) := HA0.out.keep hnx hgB.out.1
        have HOK : Hid (OI wr B (B + 1) B (m + 1) [(x, dd)] e d (.slice (some ⟨ga, 0, none⟩) 1 c)) := hOI.out
        have hBw : Hid (Below w.heap.size w wr) := HB0.out.trans (hnx.mono (by have := HB0.out.size; omega))
        have cd := HO.cells.2.1
        simp only [Nat.zero_mul, Nat.zero_add] at cd
        have hla : ga < wr.heap.size := by obtain ⟨cur, hc9, _⟩ := own_at hOI.out.ar (g := ga) rfl; exact lt_of_block hc9
        have hgag : ga ≠ g := fun h9 => by (obtain ⟨cur, hc9, hB9⟩ := own_at hOI.out.ar (g := ga) rfl; have := hgB.out.1; omega)
        have k3 : ∀ w', KGany wr (put3 wr g (.slice (some ⟨ga, 0, none⟩) 1 c) (.slice (some ⟨B, 0, none⟩) (m + 1) (m + 1)) (.int .i64 (d : Int))) w' → w'.cell? ⟨ga, 1, none⟩ = some (.bool dd) := fun w' h => h.cell hla hgag cd
        have HI : ∀ w2 : World, KGany wr (put3 wr g (.slice (some ⟨ga, 0, none⟩) 1 c) (.slice (some ⟨B, 0, none⟩) (m + 1) (m + 1)) (.int .i64 (d : Int))) w2 → Calls Tryz.prog 117 #[.pointer (some ⟨B + 1, 0, none⟩)] w2 fun r w' => r = .returned (.pointer (some ⟨ga, 0, none⟩)) ∧ Below w2.heap.size w2 w' := fun w2 h2 => by
          have h9 := innermost_at (B + 1) ga 0 c _ _ w2 ((h2.block hlo hBg1).trans hOI.out.o) (by omega)
          simpa using h9
        have HF : Hid (found L 0 (m + 1) [(x, dd)] e d) := hfo.out
        clear hOI HO cd a0 a1 a2 hfo hb0 he0 hd0 hl0 hcc hlo hla h1
        go_wp2_with fail
        refine region_flag (C := KG wr (put3 wr g (.slice (some ⟨ga, 0, none⟩) 1 c) (.slice (some ⟨B, 0, none⟩) (m + 1) (m + 1)) (.int .i64 (d : Int)))) 13 12 (by kernel_rfl) (by kernel_rfl) (by omega) (Keeps.drew wr) ?_
        apply WF.out
        (iterate 12
          (apply wf_go _ (by rfl) false (by rfl)
           · intro bq wq _ hq
             have hx := hq.any
             go_simp
             first
               | (apply uponF_call; go_at_call 117; exact gcall hq (HI wq hx))
               | exact uponF_value hq rfl
           simp only [Act.put, List.setIfInBounds_toArray, List.set_cons_succ, List.set_cons_zero]))
        (apply wf_go _ (by rfl) true (by rfl)
         · intro bq wq hb hq
           obtain rfl := hb rfl
           obtain ⟨p0, p1, p2, q0, q1, q2⟩ := kA wq hq
           go_simp
           first
             | exact uponF_skip (kg_store hq) rfl
             | exact uponF_value (kg_store hq) rfl
         simp only [Act.put])
        refine wf_nil ?_
        intro wz hkz
        have hkz' : Keeps (put3 wr g (.slice (some ⟨ga, 0, none⟩) 1 c) (.slice (some ⟨B, 0, none⟩) (m + 1) (m + 1)) (.int .i64 (d : Int))) wz := hkz
        obtain ⟨v0, v1, v2⟩ := put3_cells (x := .slice (some ⟨ga, 0, none⟩) 1 c) (y := .slice (some ⟨B, 0, none⟩) (m + 1) (m + 1)) (z := .int .i64 (d : Int)) HANS.out
        have p0 := hkz'.cell (by rw [put3_size]; exact hgl) v0
        have p1 := hkz'.cell (by rw [put3_size]; exact hgl) v1
        have p2 := hkz'.cell (by rw [put3_size]; exact hgl) v2
        have hBl : B < wr.heap.size := lt_of_block HOK.out.en
        have hBg : B ≠ g := fun h9 => by have := hgB.out.1; omega
        have HEN : Hid (wz.heap[B]? = some (.cells (outRow e (m + 1)) 3 (0, 0))) := ((hkz'.below.block B (by rw [put3_size]; exact hBl)).trans (put3_other hBg)).trans HOK.out.en
        have HZ : Hid (Below w.heap.size w wz) := (((hBw.out.setCell (by simp; omega) _).setCell (by simp; omega) _).setCell (by simp; omega) _).trans (hkz'.below.mono (by rw [put3_size]; exact hBw.out.size))
        clear hkz hkz' k0 k1 k2 kA HOK HANS HANS0 hBw v0 v1 v2
        go_wp2
        refine bodyPost_ret (v := .tuple #[.agg #[.slice (some ⟨ga, 0, none⟩) 1 c, .slice (some ⟨B, 0, none⟩) (m + 1) (m + 1), .int .i64 (d : Int)], .bool (!dd)]) (by simp [results, Tryz.results90, go_sem, p0, p1, p2]) rfl ?_
        have hB3 := HZ.out
        have hf9 := HF.out
        simp only [found, List.drop_zero, Nat.sub_zero] at hf9
        cases dd with
        | true => exact toldO_no (eo_not _ hres.out hf9.1 (by intro x h9; simp at h9)) hB3
        | false =>
          have he9 := eo_yes x hres.out hf9.1
          refine ⟨_, _, _, ⟨⟨_, _, _, rfl⟩, ⟨_, _, _, rfl⟩⟩, by rw [he9]; rfl, fun E D h9 => ?_, hB3⟩
          rw [he9] at h9
          simp only [Option.some.injEq, Prod.mk.injEq] at h9
          obtain ⟨rfl, rfl⟩ := h9
          have hEl : (bkE 0 (ops L)).length = m + 1 := by rw [bkE_len]; simp [ops]; exact HN.out.1
          refine ⟨by rw [hf9.2.2.1], by rw [nv_len]; omega, Or.inr ⟨B, m + 1, outRow e (m + 1), by rw [hEl], by have := HB0.out.size; omega, HEN.out, by omega, by unfold maxLen; have := HN.out.2; omega, by simp [outRow], ?_⟩⟩
          · rw [hEl, Nat.mul_one, List.take_of_length_le (by simp [outRow])]
            exact outRow_nv e _ _ hEl (fun q hq => hf9.2.1 q (by omega) hq)
      · have hz0 : 0 < st.length := by
          rcases Nat.eq_zero_or_pos st.length with h9 | h9
          · exfalso
            have h8 := hb0
            have hL0 : 0 < L.length := by have := HN.out.1; omega
            have e9 := fw_op L 0 hL0
            rw [List.drop_zero] at e9
            rw [e9] at h8
            exact bk_ne _ _ _ _ h8 (List.length_eq_zero_iff.1 h9)
          · exact h9
        obtain ⟨ga, c, rfl, hcc⟩ := own_pos hOI.out.ar hz0
        have he : Hid (eo L = none) := eo_not st hres.out hb0 (fun x h9 => h1 (by rw [h9]; rfl))
        obtain ⟨z, hz⟩ : ∃ z, st.length = z := ⟨_, rfl⟩
        rw [hz] at hOI
        have hz1 : ((z : Int) == 1) = false := by simp; omega
        have hlo := lt_of_block hOI.out.o
        have hgl : g < wr.heap.size := by have := hgB.out; omega
        have HANS0 : Hid (AnsAt wr g) := HA0.out.keep hnx hgB.out.1
        have a0 : wr.cell? ⟨B + 1, 0, none⟩ = some (.slice (some ⟨ga, 0, none⟩) z c) := by rw [cell_of_block hOI.out.o]; rfl
        have a1 : wr.cell? ⟨B + 1, 1, none⟩ = some (.slice (some ⟨B, 0, none⟩) (m + 1) (m + 1)) := by rw [cell_of_block hOI.out.o]; rfl
        have a2 : wr.cell? ⟨B + 1, 2, none⟩ = some (.int .i64 (d : Int)) := by rw [cell_of_block hOI.out.o]; rfl
        have hBg1 : B + 1 ≠ g := by have := hgB.out.1; omega
        have k0 : ∀ w', KGany wr (put3 wr g (.slice (some ⟨ga, 0, none⟩) z c) (.slice (some ⟨B, 0, none⟩) (m + 1) (m + 1)) (.int .i64 (d : Int))) w' → w'.cell? ⟨B + 1, 0, none⟩ = some (.slice (some ⟨ga, 0, none⟩) z c) := fun w' h => h.cell hlo hBg1 a0
        have k1 : ∀ w', KGany wr (put3 wr g (.slice (some ⟨ga, 0, none⟩) z c) (.slice (some ⟨B, 0, none⟩) (m + 1) (m + 1)) (.int .i64 (d : Int))) w' → w'.cell? ⟨B + 1, 1, none⟩ = some (.slice (some ⟨B, 0, none⟩) (m + 1) (m + 1)) := fun w' h => h.cell hlo hBg1 a1
        have k2 : ∀ w', KGany wr (put3 wr g (.slice (some ⟨ga, 0, none⟩) z c) (.slice (some ⟨B, 0, none⟩) (m + 1) (m + 1)) (.int .i64 (d : Int))) w' → w'.cell? ⟨B + 1, 2, none⟩ = some (.int .i64 (d : Int)) := fun w' h => h.cell hlo hBg1 a2
        have kA : ∀ w', KG wr (put3 wr g (.slice (some ⟨ga, 0, none⟩) z c) (.slice (some ⟨B, 0, none⟩) (m + 1) (m + 1)) (.int .i64 (d : Int))) false w' → AnsAt w' g := fun w' h => HANS0.out.keep (Keeps.below (W := wr) h) hgl
        have HANS : Hid (AnsAt wr g) := HA0.out.keep hnx hgB.out.1
        have HOK : Hid (OI wr B (B + 1) B (m + 1) st e d (.slice (some ⟨ga, 0, none⟩) z c)) := hOI.out
        have hBw : Hid (Below w.heap.size w wr) := HB0.out.trans (hnx.mono (by have := HB0.out.size; omega))
        clear hOI a0 a1 a2 hfo hb0 he0 hd0 hl0 hcc hlo h1 hz0 hz
        go_wp2_with fail
        refine region_flag (C := KG wr (put3 wr g (.slice (some ⟨ga, 0, none⟩) z c) (.slice (some ⟨B, 0, none⟩) (m + 1) (m + 1)) (.int .i64 (d : Int)))) 13 12 (by kernel_rfl) (by kernel_rfl) (by omega) (Keeps.drew wr) ?_
        apply WF.out
        (iterate 6
          (apply wf_go _ (by rfl) false (by rfl)
           · intro bq wq _ hq
             have hx := hq.any
             go_simp
             first
               | fail
               | exact uponF_value hq rfl
           simp only [Act.put, List.setIfInBounds_toArray, List.set_cons_succ, List.set_cons_zero]))
        (iterate 5
          (refine wf_no (by rfl) (by decide) ?_
           simp only [Act.put, List.setIfInBounds_toArray, List.set_cons_succ, List.set_cons_zero]))
        (iterate 1
          (apply wf_go _ (by rfl) false (by rfl)
           · intro bq wq _ hq
             have hx := hq.any
             go_simp
             first
               | fail
               | exact uponF_value hq rfl
           simp only [Act.put, List.setIfInBounds_toArray, List.set_cons_succ, List.set_cons_zero]))
        (apply wf_go _ (by rfl) true (by rfl)
         · intro bq wq hb hq
           obtain rfl := hb rfl
           obtain ⟨p0, p1, p2, q0, q1, q2⟩ := kA wq hq
           go_simp
           first
             | exact uponF_skip (kg_store hq) rfl
             | exact uponF_value (kg_store hq) rfl
         simp only [Act.put])
        refine wf_nil ?_
        intro wz hkz
        have hkz' : Keeps (put3 wr g (.slice (some ⟨ga, 0, none⟩) z c) (.slice (some ⟨B, 0, none⟩) (m + 1) (m + 1)) (.int .i64 (d : Int))) wz := hkz
        obtain ⟨v0, v1, v2⟩ := put3_cells (x := .slice (some ⟨ga, 0, none⟩) z c) (y := .slice (some ⟨B, 0, none⟩) (m + 1) (m + 1)) (z := .int .i64 (d : Int)) HANS.out
        have p0 := hkz'.cell (by rw [put3_size]; exact hgl) v0
        have p1 := hkz'.cell (by rw [put3_size]; exact hgl) v1
        have p2 := hkz'.cell (by rw [put3_size]; exact hgl) v2
        have hBl : B < wr.heap.size := lt_of_block HOK.out.en
        have hBg : B ≠ g := fun h9 => by have := hgB.out.1; omega
        have HEN : Hid (wz.heap[B]? = some (.cells (outRow e (m + 1)) 3 (0, 0))) := ((hkz'.below.block B (by rw [put3_size]; exact hBl)).trans (put3_other hBg)).trans HOK.out.en
        have HZ : Hid (Below w.heap.size w wz) := (((hBw.out.setCell (by simp; omega) _).setCell (by simp; omega) _).setCell (by simp; omega) _).trans (hkz'.below.mono (by rw [put3_size]; exact hBw.out.size))
        clear hkz hkz' k0 k1 k2 kA HOK HANS HANS0 hBw v0 v1 v2
        go_wp2
        refine bodyPost_ret (v := .tuple #[.agg #[.slice (some ⟨ga, 0, none⟩) z c, .slice (some ⟨B, 0, none⟩) (m + 1) (m + 1), .int .i64 (d : Int)], .bool false]) (by simp [results, Tryz.results90, go_sem, p0, p1, p2]) rfl ?_
        exact toldO_no he.out HZ.out
    | succ k =>
      have hkL : k < L.length := by have := HN.out; omega
      have hkn : k < m + 1 := by omega
      have hc := HL0.out k hkL
      have hop2 := HOP.out k hkL
      have hnext := fun st' hs => found_next (st' := st') (n := m + 1) HN.out.1 hkn hfo.out hs
      have hcons := (bk_cons L k hkL st hfo.out.1).1
      obtain ⟨x, hx⟩ : ∃ x, x = L[k] := ⟨_, rfl⟩
      rw [← hx] at hc hop2 hcons
      simp only [← hx] at hnext
      obtain ⟨op, y⟩ := x
      clear hx
      simp only at hc hop2 hnext hcons
      have hck : wr.cell? ⟨b, off + k * 2, none⟩ = some (.int .i64 op) := (hnx.cell (p := ⟨b, off + k * 2, none⟩) hgB.out.2).trans hc.1
      have hst2 : st.length ≤ 200 := by have := hfo.out.2.2.2; have := HN.out.2; omega
      have hne : st ≠ [] ∨ op = 11 := by
        by_cases hkm : k = m
        · exact Or.inr (hop2 hkm)
        · left
          have h1 := hfo.out.1
          have hk2 : k + 1 < L.length := by have := HN.out; omega
          rw [fw_op L (k + 1) hk2] at h1
          exact bk_ne _ _ _ _ h1
      have hkI : (k : Int) < (m : Int) + 1 := by omega
      rcases meet_step B (B + 1) B (m + 1) k st e d va op wr hOI.out hkn hst2 hne with ⟨hs, M⟩ | ⟨st', hs, M⟩
      · have he : Hid (eo L = none) := eo_stop (k := k) hres.out (by rw [hcons, hs]) (by omega)
        have HM : Hid (Calls Tryz.prog 116 #[.pointer (some ⟨B + 1, 0, none⟩), .int .i64 (k : Int), .int .i64 op] wr fun r w' => r = .returned (.bool false) ∧ Below B wr w') := M
        clear M hs hfo hOI hnext hcons hne hop2 hc hst2
        go_wp2_with fail
        refine HM.out.mono ?_
        rintro r1 w1 ⟨rfl, hb1⟩
        have hbb : Hid (Below B w0 w1) := hnx.trans hb1
        obtain ⟨p0, p1, p2, q0, q1, q2⟩ := HA0.out.keep hbb.out hgB.out.1
        have hBw : Hid (Below w.heap.size w w1) := HB0.out.trans (hbb.out.mono (by have := HB0.out.size; omega))
        clear HM hb1
        go_wp2
        refine bodyPost_ret (v := .tuple #[.agg #[.slice none 0 0, .slice none 0 0, .int .i64 0], .bool false]) (by simp [results, Tryz.results90, go_sem, p0, p1, p2]) rfl (toldO_no he.out ?_)
        exact ((hBw.out.setCell (by simp; omega) _).setCell (by simp; omega) _).setCell (by simp; omega) _
      · have HFO : Hid (found L k (m + 1) st' (fun q => if q = k then bkTop k op st else e q) (if op = 11 then max d (st.length + 1) else d)) := hnext st' hs
        have HM : Hid (Calls Tryz.prog 116 #[.pointer (some ⟨B + 1, 0, none⟩), .int .i64 (k : Int), .int .i64 op] wr fun r w' => ∃ va', r = .returned (.bool true) ∧ OI w' B (B + 1) B (m + 1) st' (fun q => if q = k then bkTop k op st else e q) (if op = 11 then max d (st.length + 1) else d) va' ∧ Below B wr w') := M
        clear M hs hfo hOI hnext hcons hne hop2 hc hst2
        have hwk1 : wrap64 ((k : Int) - 1) = (k : Int) - 1 := w64s k (by have := HN.out; omega)
        go_wp2_with fail
        refine HM.out.mono ?_
        rintro r1 w1 ⟨va', rfl, ho1, hb1⟩
        have HO1 : Hid (OI w1 B (B + 1) B (m + 1) st' (fun q => if q = k then bkTop k op st else e q) (if op = 11 then max d (st.length + 1) else d) va') := ho1
        have hbb : Below B w0 w1 := hnx.trans hb1
        clear HM hb1 ho1
        go_wp2
        go_roundw
        case rel =>
          try rw [hwk1]
          clear hwk1
          exact ⟨k, st', _, _, va', by omega, by go_num, HFO.out, HO1.out, hbb⟩
        case measure => (try rw [hwk1]); clear hwk1; simp [intOf]

end Go.Proofs.YtdcfflmfimepfaaGreat

namespace Go.Proofs.YtdcfflmfimepfaaGreat
open Go.ChangeShapes Go.WideShapes Go.ChangeAt Go.RowKit

/-- Numbers as the values of their cells. -/
def iv (L : List Int) : List Value := L.map fun x => .int .i64 x
theorem iv_app (l m : List Int) : iv l ++ iv m = iv (l ++ m) := by simp [iv]
theorem iv_one (l : List Int) : ∀ u ∈ iv l, u.oneCell' = true := by
  intro u hu; simp only [iv, List.mem_map] at hu; obtain ⟨b, _, rfl⟩ := hu; rfl
theorem ints_of_row {w : World} {B : Nat} {v : Value} {L : List Int} (h : w.ownsRow B 3 1 v L.length (iv L)) : ∃ a cap, v = .slice a L.length cap ∧ Ints w a L := by
  have h' := h
  rcases h'.2 with ⟨rfl, h0⟩ | ⟨g, cap, cur, rfl, _, hb, _⟩
  · obtain rfl : L = [] := List.length_eq_zero_iff.1 h0
    exact ⟨none, 0, rfl, fun h => absurd rfl h⟩
  · refine ⟨_, cap, rfl, fun _ => ⟨g, 0, rfl, lt_of_block hb, fun i hi => ?_⟩⟩
    rw [Nat.zero_add, h.cellAt i (by omega)]
    simp [iv, hi]

/-- The marks of n integers. -/
def marksI (n : Nat) : List Int := (List.range n).map fun (i : Nat) => 1 + (i : Int)
theorem marksI_len (n : Nat) : (marksI n).length = n := by simp [marksI]
theorem marksI_at (n i : Nat) (h : i < (marksI n).length) : (marksI n)[i] = 1 + (i : Int) := by simp [marksI]

set_option maxRecDepth 100000 in
set_option maxHeartbeats 1600000 in
theorem markInts (B : Nat) (v : Value) (L : List Int) (w : World) (hown : w.ownsRow B 3 1 v L.length (iv L)) (hn : L.length ≤ 1000000) :
    Calls Tryz.prog 72 #[v, .int .i64 1] w fun e w' => e = .returned (.int .i64 (1 + (L.length : Int))) ∧ w'.ownsRow B 3 1 v (marksI L.length).length (iv (marksI L.length)) ∧ Below B w w' := by
  obtain ⟨hl, h⟩ := hown
  obtain ⟨n, hnn⟩ : ∃ n, n = L.length := ⟨_, rfl⟩
  rw [← hnn] at h hn ⊢
  clear hnn hl
  rcases h with ⟨rfl, rfl⟩ | ⟨g, cap, cur, rfl, hB, hb, hc, hm, hcs, _⟩
  · go_enter Tryz.func72, Tryz.ntmps72
    go_wp2
    go_loopw [1, 5] (fun m i wr => i = .int .i64 0 ∧ m = .int .i64 1 ∧ wr = w) (fun _ _ _ => 0)
    case atStart => exact ⟨rfl, rfl, rfl⟩
    case round =>
      obtain ⟨rfl, rfl, rfl⟩ := hrel
      go_wp2
      go_ret
      exact ⟨rfl, World.ownsRow_nil _ _ _ _, Below.refl _ _⟩
  · rw [marksI_len]
    go_enter Tryz.func72, Tryz.ntmps72
    go_wp2
    go_loopw [1, 5] (fun m i wr => ∃ (k : Nat) (A : Array Value), k ≤ n ∧ i = .int .i64 k ∧ m = .int .i64 (1 + (k : Int)) ∧ wr.heap[g]? = some (.cells A 3 (0, 0)) ∧ A.size = cap * 1 ∧ Hid (∀ j, j < k → A[j]? = some (.int .i64 (1 + (j : Int)))) ∧ Below B w wr) (fun _ i _ => n - (intOf i).toNat)
    case atStart => exact ⟨0, cur, by omega, rfl, rfl, hb, hcs, fun j hj => absurd hj (by omega), Below.refl _ _⟩
    case round =>
      obtain ⟨k, A, hk, rfl, rfl, hA, hAs, hAv, hnx⟩ := hrel
      clear hb
      by_cases hlt : k < n
      · obtain ⟨o0, ho0⟩ : ∃ o, A[k]? = some o := ⟨_, Array.getElem?_eq_getElem (by omega)⟩
        have d0 := (icell_of_block hA k).trans ho0
        have f0 := ifree_of_block hA k
        have HS : Hid (A.size = cap * 1) := hAs
        clear hAs
        go_wp2
        go_roundw
        case rel =>
          refine ⟨k + 1, _, by omega, by go_num, by go_num, heap_setCell_same _ _ _ _ _ _ hA, by simpa using HS.out, ?_, hnx.setCell hB _⟩
          intro j hj
          by_cases e : j = k
          · subst e; rw [Array.getElem?_setIfInBounds_self_of_lt (by rw [HS.out]; omega)]
          · rw [Array.getElem?_setIfInBounds_ne (by omega)]; exact hAv.out j (by omega)
        case measure => simp [intOf]; omega
      · obtain rfl : k = n := by omega
        go_wp2
        go_ret
        refine ⟨rfl, ⟨by simp [iv, marksI_len], .inr ⟨g, cap, A, rfl, hB, hA, hc, hm, hAs, ?_⟩⟩, hnx⟩
        apply List.ext_getElem?
        intro i
        by_cases hi : i < k
        · rw [List.getElem?_take_of_lt (by omega), Array.getElem?_toList, hAv.out i hi]
          simp [iv, marksI, hi]
        · rw [List.getElem?_take_eq_none (by omega)]
          symm
          rw [List.getElem?_eq_none]
          simp [iv, marksI_len]; omega

end Go.Proofs.YtdcfflmfimepfaaGreat

namespace Go.Proofs.YtdcfflmfimepfaaGreat
open Go.ChangeShapes Go.WideShapes Go.ChangeAt Go.RowKit

set_option maxRecDepth 100000 in
set_option maxHeartbeats 800000 in
theorem toInsB (a : Option Addr) (b off cap : Nat) (L : List (Int × Int)) (w : World) (ha : Hid (L ≠ [] → a = some ⟨b, off, none⟩ ∧ b < w.heap.size)) (hL : insAt w b off L) (hlen : L.length ≤ 1048576) :
    Calls Tryz.prog 81 #[.slice a L.length cap] w fun e w' => e = .returned (.slice (some ⟨w.heap.size, 0, none⟩) L.length L.length) ∧ w.heap.size < w'.heap.size ∧ insAt w' w.heap.size 0 L ∧ (∃ arr, w'.heap[w.heap.size]? = some (.cells arr 128 (0, 0)) ∧ arr.size = L.length * 2) ∧ Below w.heap.size w w' := by
  obtain ⟨i0, hi, hz0, hz1, hz2⟩ := info_parts Tryz.info128
  obtain ⟨M, hM⟩ : ∃ M, M = madeCells (Value.agg #[.int .i64 0, .int .i64 0]).cells (((L.length : Nat) : Int).toNat * i0.size) := ⟨_, rfl⟩
  have hMs : M.size = L.length * 2 := by rw [hM, size_madeCells, hz1]; simp
  have hmk : ∀ W : World, (Instr.makeSlice 98 (.int .i64 (L.length : Int)) (.int .i64 (L.length : Int))).run Tryz.prog W = .ok (.slice (some ⟨W.heap.size, 0, none⟩) L.length L.length) (W.alloc (.cells M 128)) := fun W => by
    have h := run_make (P := Tryz.prog) W 98 128 i0 _ Tryz.underlying98 hi hz0 .i64 .i64 (L.length : Int) (L.length : Int) (by omega) (by omega) (by rw [hz2]; omega) (by omega)
    rw [← hM] at h
    simpa using h
  clear hM
  go_enter Tryz.func81, Tryz.ntmps81
  go_wp2
  go_loopw [4] (fun i wr => ∃ (k : Nat) (arr : Array Value), k ≤ L.length ∧ i = .int .i64 k ∧ wr.heap[w.heap.size]? = some (.cells arr 128 (0, 0)) ∧ arr.size = L.length * 2 ∧ Hid (∀ j (h : j < L.length), j < k → arr[j * 2]? = some (.int .i64 L[j].1) ∧ arr[j * 2 + 1]? = some (.int .i64 L[j].2)) ∧ Below w.heap.size w wr) (fun i _ => L.length - (intOf i).toNat)
  case atStart => exact ⟨0, M, by omega, rfl, heap_alloc_new _ _, hMs, fun j _ h => absurd h (by omega), (Below.refl _ _).alloc (Nat.le_refl _) _⟩
  case round =>
    clear hmk hMs
    obtain ⟨k, arr, hk, rfl, harr, hsz, hA, hnx⟩ := hrel
    have hgl := lt_of_block harr
    by_cases hlt : k < L.length
    · obtain ⟨rfl, hb⟩ := ha.out (fun h => by simp [h] at hlt)
      have hc := hL k hlt
      obtain ⟨x, hx⟩ : ∃ x, x = L[k] := ⟨_, rfl⟩
      rw [← hx] at hc
      obtain ⟨id, s⟩ := x
      have HX : Hid ((id, s) = L[k]) := hx
      clear hx
      simp only at hc
      have hc0 : wr.cell? ⟨b, off + k * 2, none⟩ = some (.int .i64 id) := (hnx.cell (by exact hb)).trans hc.1
      have hc1 : wr.cell? ⟨b, off + k * 2 + 1, none⟩ = some (.int .i64 s) := (hnx.cell (by exact hb)).trans hc.2
      clear hc
      have HS : Hid (arr.size = L.length * 2) := hsz
      obtain ⟨o0, ho0⟩ : ∃ o, arr[k * 2]? = some o := ⟨_, Array.getElem?_eq_getElem (by omega)⟩
      obtain ⟨o1, ho1⟩ : ∃ o, arr[k * 2 + 1]? = some o := ⟨_, Array.getElem?_eq_getElem (by omega)⟩
      clear hsz
      have H := toIns1 id s
      go_wp2_with (go_at_call 104; refine (H _).mono ?_; rintro e w1 ⟨rfl, hb2⟩; clear H; have harr1 := (hb2.block _ hgl).trans harr; have d0 := (cell_of_block harr1 (k * 2)).trans ho0; have d1 := (cell_of_block harr1 (k * 2 + 1)).trans ho1; have f0 := free_of_block harr1 (k * 2); have f1 := free_of_block harr1 (k * 2 + 1))
      go_roundw
      case rel =>
        obtain ⟨p1, p2⟩ := ins_put L arr k id s hlt HS.out HX.out hA.out
        exact ⟨k + 1, _, by omega, by go_num, heap_setCell_same _ _ _ _ _ _ (heap_setCell_same _ _ _ _ _ _ harr1), p1, p2, ((hnx.trans (hb2.mono hnx.size)).setCell (Nat.le_refl _) _).setCell (Nat.le_refl _) _⟩
      case measure => simp [intOf]; omega
    · go_wp2
      go_ret
      refine ⟨rfl, hgl, fun j hj => ?_, ⟨arr, harr, hsz⟩, hnx⟩
      have hj2 := hA.out j hj (by omega)
      rw [Nat.zero_add, cell_of_block harr, cell_of_block harr]
      exact hj2

set_option maxRecDepth 100000 in
set_option maxHeartbeats 1600000 in
theorem mark_far (a : Option Addr) (g n cap : Nat) (arr : Array Value) (w : World) (hn : n ≤ 1048576) (ha : Hid (0 < n → a = some ⟨g, 0, none⟩ ∧ w.heap[g]? = some (.cells arr 128 (0, 0)) ∧ n * 2 ≤ arr.size)) :
    Calls Tryz.prog 73 #[.slice a n cap, .int .i64 1] w fun e w' => e = .returned (.int .i64 (1 + 2 * (n : Int))) ∧ Below g w w' ∧ (∀ q, q ≠ g → w'.heap[q]? = w.heap[q]?) ∧ w'.heap.size = w.heap.size := by
  go_enter Tryz.func73, Tryz.ntmps73
  go_wp2
  go_loopw [1, 5] (fun m i wr => ∃ k : Nat, k ≤ n ∧ i = .int .i64 k ∧ m = .int .i64 (1 + 2 * (k : Int)) ∧ Hid (0 < n → ∃ cur : Array Value, wr.heap[g]? = some (.cells cur 128 (0, 0)) ∧ n * 2 ≤ cur.size) ∧ Below g w wr ∧ Hid ((∀ q, q ≠ g → wr.heap[q]? = w.heap[q]?) ∧ wr.heap.size = w.heap.size)) (fun _ i _ => n - (intOf i).toNat)
  case atStart => exact ⟨0, by omega, rfl, rfl, fun h => ⟨arr, (ha.out h).2.1, (ha.out h).2.2⟩, Below.refl _ _, ⟨fun _ _ => rfl, rfl⟩⟩
  case round =>
    obtain ⟨k, hk, rfl, rfl, hcur, hnx, hno⟩ := hrel
    by_cases hlt : k < n
    · obtain ⟨rfl, _, _⟩ := ha.out (by omega)
      obtain ⟨cur, hc, hcs⟩ := hcur.out (by omega)
      have hgl := lt_of_block hc
      obtain ⟨o0, ho0⟩ : ∃ o, cur[k * 2]? = some o := ⟨_, Array.getElem?_eq_getElem (by omega)⟩
      obtain ⟨o1, ho1⟩ : ∃ o, cur[k * 2 + 1]? = some o := ⟨_, Array.getElem?_eq_getElem (by omega)⟩
      have d0 := (cell_of_block hc (k * 2)).trans ho0
      have f0 := free_of_block hc (k * 2)
      have hc1 : (wr.setCell ⟨g, k * 2, none⟩ (.int .i64 (1 + 2 * (k : Int)))).heap[g]? = some (.cells (cur.setIfInBounds (k * 2) (.int .i64 (1 + 2 * (k : Int)))) 128 (0, 0)) := heap_setCell_same _ _ _ _ _ _ hc
      have d1 := (cell_of_block hc1 (k * 2 + 1)).trans ((Array.getElem?_setIfInBounds_ne (by omega)).trans ho1)
      have f1 := free_of_block hc1 (k * 2 + 1)
      have HC1 : Hid ((wr.setCell ⟨g, k * 2, none⟩ (.int .i64 (1 + 2 * (k : Int)))).heap[g]? = some (.cells (cur.setIfInBounds (k * 2) (.int .i64 (1 + 2 * (k : Int)))) 128 (0, 0))) := hc1
      clear hc hc1
      go_wp2
      go_roundw
      case rel =>
        refine ⟨k + 1, by omega, by go_num, by go_num, fun _ => ⟨_, heap_setCell_same _ _ _ _ _ _ HC1.out, by simpa using hcs⟩, (hnx.setCell (Nat.le_refl _) _).setCell (Nat.le_refl _) _, ⟨fun q hq => ?_, by simpa using hno.out.2⟩⟩
        rw [heap_setCell_other _ _ _ _ hq, heap_setCell_other _ _ _ _ hq]; exact hno.out.1 q hq
      case measure => simp [intOf]; omega
    · obtain rfl : k = n := by omega
      go_wp2
      go_ret
      exact ⟨rfl, hnx, hno.out.1, hno.out.2⟩

theorem specEnds (a : Option Addr) (b off cap : Nat) (L : List (Int × Int)) (w : World) (ha : Hid (L ≠ [] → a = some ⟨b, off, none⟩ ∧ b < w.heap.size)) (hL : insAt w b off L) (hlen : L.length ≤ 1048576) :
    Calls Tryz.prog 95 #[.slice a L.length cap] w fun e w' => Told w L e w' := by
  by_cases hg : (allG L && decide (L.length ≤ 200)) = true
  · by_cases h0 : L = []
    · exact specEnds_bad a b off cap L w ha hL hlen (Or.inr h0)
    · have h2 := hg
      simp only [Bool.and_eq_true, decide_eq_true_eq] at h2
      exact specEnds_good a b off cap L w ha hL (List.length_pos_iff.2 h0) h2.2 hg
  · exact specEnds_bad a b off cap L w ha hL hlen (Or.inl (by simpa using hg))
theorem implOutline (a : Option Addr) (b off cap : Nat) (L : List (Int × Int)) (w : World) (ha : Hid (L ≠ [] → a = some ⟨b, off, none⟩ ∧ b < w.heap.size)) (hL : insAt w b off L) (hf : fits L) (hlen : L.length ≤ 1048576) :
    Calls Tryz.prog 90 #[.slice a L.length cap] w fun e w' => ToldO w L e w' := by
  by_cases hg : (allG L && decide (L.length ≤ 200)) = true
  · by_cases h0 : L = []
    · exact outline_bad a b off cap L w ha hL hf hlen (Or.inr h0)
    · obtain ⟨rfl, hb⟩ := ha.out h0
      obtain ⟨m, hm⟩ : ∃ m, L.length = m + 1 := ⟨L.length - 1, by have := List.length_pos_iff.2 h0; omega⟩
      by_cases hop : (L[m]'(by omega)).1 = 11
      · exact outline_good b off cap L w hb hL hf hg m hm hop
      · exact outline_last b off cap L w hb hL hf hg m hm hop
  · exact outline_bad a b off cap L w ha hL hf hlen (Or.inl (by simpa using hg))

def endsOf (L : List (Int × Int)) : List Int := (((eo L).map (·.1)).getD []).map fun (k : Nat) => (k : Int)
def deepOf (L : List (Int × Int)) : Int := ((((eo L).map (·.2)).getD 0 : Nat) : Int)
theorem nv_iv (E : List Nat) : nv E = iv (E.map fun (k : Nat) => (k : Int)) := by simp [nv, iv]
theorem ends_row {w w' : World} {L : List (Int × Int)} {v : Value} {E : List Nat} {D : Nat} (h : eo L = some (E, D)) (ho : w'.ownsRow w.heap.size 3 1 v E.length (nv E)) : w'.ownsRow w.heap.size 3 1 v (endsOf L).length (iv (endsOf L)) := by
  unfold endsOf
  rw [h]
  simp only [Option.map_some, Option.getD_some]
  rw [nv_iv] at ho
  simpa using ho
theorem ends_len (L : List (Int × Int)) : (endsOf L).length ≤ 200 := by
  unfold endsOf eo
  split
  · rename_i hg
    simp only [Bool.and_eq_true, decide_eq_true_eq] at hg
    rcases h : bodyOf (ops L) with _ | ⟨E, D⟩
    · simp
    · have : E = bkE 0 (ops L) := by
        unfold bodyOf at h
        split at h
        · simp only [Option.some.injEq, Prod.mk.injEq] at h; exact h.1.symm
        · simp at h
      subst this
      simp only [Option.map_some, Option.getD_some, List.length_map, bkE_len]
      simp [ops]; exact hg.2
  · simp
def EndsTold (L : List (Int × Int)) (w : World) (r : Ending) (w' : World) : Prop := ∃ v, r = .returned (.tuple #[v, .bool (eo L).isSome]) ∧ w'.ownsRow w.heap.size 3 1 v (endsOf L).length (iv (endsOf L)) ∧ Below w.heap.size w w'

end Go.Proofs.YtdcfflmfimepfaaGreat

namespace Go.Proofs.YtdcfflmfimepfaaGreat
open Go.ChangeShapes Go.WideShapes Go.ChangeAt Go.RowKit

def isT (a : Int) : Bool := decide (125 ≤ a) && decide (a ≤ 127)
def allT (l : List Int) (m : Nat) : Bool := l.all isT && decide (l.length ≤ m)
def goodF (f : Fun7) : Bool := (((eo f.body).isSome && allT f.ps 6) && allT f.ls 20) && mayK 1 f.res
def goodG (g : Glo7) : Bool := isT g.ty && (decide (g.ty = 126) || decide (g.bits ≤ 4294967295))
def goodP (M : Mod7) : Bool := if M.mem then (decide (0 ≤ M.most) && decide (M.most ≤ 8)) && (decide (0 ≤ M.pages) && decide (M.pages ≤ M.most)) else decide (M.pages = 0) && decide (M.most = 0)
def goodS (M : Mod7) : Bool := decide (M.start = -1) || (decide (0 ≤ M.start) && (match M.fs[M.start.toNat]? with | some f => decide (f.ps.length = 0) && decide (f.res = 64) | none => false))
def shape (M : Mod7) : Bool := ((((decide (M.fs.length ≤ 10) && decide (M.gs.length ≤ 6)) && M.fs.all goodF) && M.gs.all goodG) && goodP M) && goodS M

theorem all_take {α : Type} (p : α → Bool) (L : List α) (k : Nat) (h : k < L.length) : (L.take (k + 1)).all p = ((L.take k).all p && p L[k]) := by
  rw [List.take_succ_eq_append_getElem h, List.all_append]; simp
theorem all_no {α : Type} (p : α → Bool) (L : List α) (k : Nat) (h : k < L.length) (hg : p L[k] = false) : L.all p = false := by
  rw [List.all_eq_false]
  exact ⟨L[k], List.getElem_mem h, by simp [hg]⟩

set_option maxRecDepth 100000 in
set_option maxHeartbeats 800000 in
theorem specTypes (a : Option Addr) (cap m : Nat) (L : List Int) (w : World) (hI : Hid (Ints w a L)) (hlen : L.length ≤ 1048576) :
    Calls Tryz.prog 96 #[.slice a L.length cap, .int .i64 (m : Int)] w fun e w' => e = .returned (.bool (allT L m)) ∧ Below w.heap.size w w' := by
  go_enter Tryz.func96, Tryz.ntmps96
  go_wp2
  go_loopw [9] (fun i wr => ∃ k : Nat, k ≤ L.length ∧ i = .int .i64 k ∧ Hid ((L.take k).all isT = true) ∧ Below w.heap.size w wr) (fun i _ => L.length - (intOf i).toNat)
  case atStart => exact ⟨0, by omega, rfl, by simp [Hid], Below.refl _ _⟩
  case round =>
    obtain ⟨k, hk, rfl, hg, hnx⟩ := hrel
    by_cases hlt : k < L.length
    · obtain ⟨b, off, rfl, hb, hc⟩ := hI.out.at k hlt
      have ht := all_take isT L k hlt
      have hn := all_no isT L k hlt
      obtain ⟨x, hx⟩ : ∃ x, x = L[k] := ⟨_, rfl⟩
      rw [← hx] at hc ht hn
      clear hx
      have hc0 : wr.cell? ⟨b, off + k, none⟩ = some (.int .i64 x) := (hnx.cell (by exact hb)).trans hc
      obtain ⟨r, hr⟩ : ∃ r, isT x = r := ⟨_, rfl⟩
      have HR : Hid ((decide (125 ≤ x) && decide (x ≤ 127)) = r) := hr
      rw [hr] at ht hn
      have HT : Hid ((L.take (k + 1)).all isT = ((L.take k).all isT && r)) := ht
      have HN : Hid (r = false → L.all isT = false) := hn
      clear hc ht hn hr
      cases r
      · go_wp2_with (go_at_call 77; refine (specType _ _ (by assumption) _).mono ?_; rintro e w1 ⟨rfl, hw⟩; obtain rfl := hw.symm)
        go_ret
        exact ⟨by unfold allT; rw [HN.out (by trivial)]; rfl, hnx⟩
      · go_wp2_with (go_at_call 77; refine (specType _ _ (by assumption) _).mono ?_; rintro e w1 ⟨rfl, hw⟩; obtain rfl := hw.symm)
        go_roundw
        case rel => exact ⟨k + 1, by omega, by go_num, by unfold Hid; rw [HT.out, hg.out]; rfl, hnx⟩
        case measure => simp [intOf]; omega
    · have e : L.take k = L := List.take_of_length_le (by omega)
      have hg' : Hid (L.all isT = true) := by have h := hg.out; rw [e] at h; exact h
      obtain ⟨y, hy⟩ : ∃ y, decide ((L.length : Int) ≤ (m : Int)) = y := ⟨_, rfl⟩
      have hx : Hid (decide (L.length ≤ m) = y) := by unfold Hid; rw [← hy]; simp
      clear hg e hlen
      go_wp2
      go_ret
      exact ⟨by unfold allT; rw [hg'.out, hx.out]; rfl, hnx⟩

set_option maxRecDepth 100000 in
set_option maxHeartbeats 800000 in
theorem implTypes (a : Option Addr) (cap m : Nat) (L : List Int) (w : World) (hI : Hid (Ints w a L)) (hlen : L.length ≤ 1048576) (hm : m ≤ 20) :
    Calls Tryz.prog 88 #[.slice a L.length cap, .int .i64 (m : Int)] w fun e w' => e = .returned (.bool (allT L m)) ∧ Below w.heap.size w w' := by
  by_cases h2 : L.length ≤ m
  · have hD : Hid (decide (L.length ≤ m) = true) := by unfold Hid; simpa using h2
    have hD2 : ¬ (m : Int) < (L.length : Int) := by omega
    go_enter Tryz.func88, Tryz.ntmps88
    go_wp2
    clear hD2
    go_loopw [13] (fun i wr => ∃ k : Nat, k ≤ L.length ∧ i = .int .i64 k ∧ Hid ((L.take k).all isT = true) ∧ Below w.heap.size w wr) (fun i _ => L.length - (intOf i).toNat)
    case atStart => exact ⟨0, by omega, rfl, by simp [Hid], Below.refl _ _⟩
    case round =>
      obtain ⟨k, hk, rfl, hg, hnx⟩ := hrel
      by_cases hlt : k < L.length
      · obtain ⟨b, off, rfl, hb, hc⟩ := hI.out.at k hlt
        have ht := all_take isT L k hlt
        have hn := all_no isT L k hlt
        obtain ⟨x, hx⟩ : ∃ x, x = L[k] := ⟨_, rfl⟩
        rw [← hx] at hc ht hn
        clear hx
        have hc0 : wr.cell? ⟨b, off + k, none⟩ = some (.int .i64 x) := (hnx.cell (by exact hb)).trans hc
        have I := isType_eq x
        obtain ⟨r, hr⟩ : ∃ r, isT x = r := ⟨_, rfl⟩
        rw [show (decide (125 ≤ x) && decide (x ≤ 127)) = r from hr] at I
        rw [hr] at ht hn
        have HT : Hid ((L.take (k + 1)).all isT = ((L.take k).all isT && r)) := ht
        have HN : Hid (r = false → L.all isT = false) := hn
        clear hc ht hn hr
        cases r
        · go_wp2_with (go_at_call 86; refine (I _).mono ?_; rintro e w1 ⟨rfl, hw⟩; obtain rfl := hw.symm; clear I)
          go_ret
          exact ⟨by unfold allT; rw [HN.out (by trivial)]; rfl, hnx⟩
        · go_wp2_with (go_at_call 86; refine (I _).mono ?_; rintro e w1 ⟨rfl, hw⟩; obtain rfl := hw.symm; clear I)
          go_roundw
          case rel => exact ⟨k + 1, by omega, by go_num, by unfold Hid; rw [HT.out, hg.out]; rfl, hnx⟩
          case measure => simp [intOf]; omega
      · have e : L.take k = L := List.take_of_length_le (by omega)
        have hg' : Hid (L.all isT = true) := by have h := hg.out; rw [e] at h; exact h
        clear hg e hlen
        go_wp2
        go_ret
        exact ⟨by unfold allT; rw [hg'.out, hD.out]; rfl, hnx⟩
  · have hD : Hid (decide (L.length ≤ m) = false) := by unfold Hid; simpa using h2
    have hD2 : (m : Int) < (L.length : Int) := by omega
    go_enter Tryz.func88, Tryz.ntmps88
    go_wp2
    go_ret
    exact ⟨by unfold allT; rw [hD.out, Bool.and_false]; rfl, Below.refl _ _⟩

set_option maxRecDepth 100000 in
set_option maxHeartbeats 1600000 in
theorem specFun1 (pa la ba : Option Addr) (pc lc bc : Nat) (f : Fun7) (w : World) (hR : Hid (FunRows w pa la ba f)) (hs : Hid (smF f)) :
    Calls Tryz.prog 76 #[.agg #[.slice pa f.ps.length pc, .int .i64 f.res, .slice la f.ls.length lc, .slice ba f.body.length bc]] w fun e w' => e = .returned (.bool (goodF f)) ∧ Below w.heap.size w w' := by
  obtain ⟨ps, res, ls, body⟩ := f
  simp only
  obtain ⟨e1, h1⟩ : ∃ x, (eo body).isSome = x := ⟨_, rfl⟩
  obtain ⟨e2, h2⟩ : ∃ x, allT ps 6 = x := ⟨_, rfl⟩
  obtain ⟨e3, h3⟩ : ∃ x, allT ls 20 = x := ⟨_, rfl⟩
  obtain ⟨e4, h4⟩ : ∃ x, isT res = x := ⟨_, rfl⟩
  obtain ⟨e5, h5⟩ : ∃ x, (res == 64) = x := ⟨_, rfl⟩
  have HG : Hid (goodF ⟨ps, res, ls, body⟩ = (((e1 && e2) && e3) && (e4 || e5))) := by
    unfold Hid goodF; simp only; rw [h1, h2, h3, ← h4, ← h5]; rfl
  have hb0 : Below w.heap.size w (w.alloc (.cells #[.slice pa ps.length pc, .int .i64 res, .slice la ls.length lc, .slice ba body.length bc] 100)) := (Below.refl _ _).alloc (Nat.le_refl _) _
  obtain ⟨bb, bo, k1, k2⟩ := (hR.out.2.2.below hb0).parts
  have S := specEnds ba bb bo bc body _ k1 k2 hs.out.2.2.1
  have hx0 : (w.alloc (.cells #[.slice pa ps.length pc, .int .i64 res, .slice la ls.length lc, .slice ba body.length bc] 100)).heap[w.heap.size]? = some (.cells #[.slice pa ps.length pc, .int .i64 res, .slice la ls.length lc, .slice ba body.length bc] 100 (0, 0)) := heap_alloc_new _ _
  have H4 : Hid ((decide (125 ≤ res) && decide (res ≤ 127)) = e4) := h4
  clear k1 k2 h4
  go_enter Tryz.func76, Tryz.ntmps76
  go_wp2_with fail
  refine S.mono ?_
  rintro r w1 ⟨v, d, rfl, _, hb1⟩
  rw [h1]
  have HB1 : Hid (Below w.heap.size w w1) := bel_step hb0 hb1
  have hx1 := (hb1.block w.heap.size (by simp)).trans hx0
  clear S hb1 hb0 hx0 h1
  have c0 := (cell_of_block hx1 0).trans rfl
  have hl1 := lt_of_block hx1
  cases e1
  · go_wp2
    go_ret
    exact ⟨by rw [HG.out]; rfl, HB1.out⟩
  · go_wp2_with fail
    refine (specTypes pa pc 6 ps w1 (hR.out.1.below HB1.out) hs.out.1).mono ?_
    rw [h2]
    rintro e w2 ⟨rfl, hb2⟩
    have HB2 : Hid (Below w.heap.size w w2) := bel_step HB1.out hb2
    have hx2 := (hb2.block w.heap.size hl1).trans hx1
    have hl2 := lt_of_block hx2
    clear hb2 hx1 c0 hl1 HB1 h2
    have c0 := (cell_of_block hx2 2).trans rfl
    cases e2
    · go_wp2
      go_ret
      exact ⟨by rw [HG.out]; rfl, HB2.out⟩
    · go_wp2_with fail
      refine (specTypes la lc 20 ls w2 (hR.out.2.1.below HB2.out) hs.out.2.1).mono ?_
      rw [h3]
      rintro e w3 ⟨rfl, hb3⟩
      have HB3 : Hid (Below w.heap.size w w3) := bel_step HB2.out hb3
      have hx3 := (hb3.block w.heap.size hl2).trans hx2
      clear hb3 hx2 c0 hl2 HB2 h3
      have c0 := (cell_of_block hx3 1).trans rfl
      cases e3
      · go_wp2
        go_ret
        exact ⟨by rw [HG.out]; rfl, HB3.out⟩
      · cases e4
        all_goals
          go_wp2_with (go_at_call 77; refine (specType _ _ (by assumption) _).mono ?_; rintro e w1 ⟨rfl, hw⟩; obtain rfl := hw.symm)
          go_ret
          exact ⟨by rw [HG.out]; rfl, HB3.out⟩

set_option maxRecDepth 100000 in
set_option maxHeartbeats 1600000 in
theorem implFun1 (pa la ba : Option Addr) (pc lc bc : Nat) (f : Fun7) (w : World) (hR : Hid (FunRows w pa la ba f)) (hs : Hid (smF f)) :
    Calls Tryz.prog 65 #[.agg #[.slice pa f.ps.length pc, .int .i64 f.res, .slice la f.ls.length lc, .slice ba f.body.length bc]] w fun e w' => e = .returned (.bool (goodF f)) ∧ Below w.heap.size w w' := by
  obtain ⟨ps, res, ls, body⟩ := f
  simp only
  obtain ⟨e1, h1⟩ : ∃ x, (eo body).isSome = x := ⟨_, rfl⟩
  obtain ⟨e2, h2⟩ : ∃ x, allT ps 6 = x := ⟨_, rfl⟩
  obtain ⟨e3, h3⟩ : ∃ x, allT ls 20 = x := ⟨_, rfl⟩
  obtain ⟨e4, h4⟩ : ∃ x, mayK 1 res = x := ⟨_, rfl⟩
  have HG : Hid (goodF ⟨ps, res, ls, body⟩ = (((e1 && e2) && e3) && e4)) := by
    unfold Hid goodF; simp only; rw [h1, h2, h3, ← h4]
  have hb0 : Below w.heap.size w (w.alloc (.cells #[.slice pa ps.length pc, .int .i64 res, .slice la ls.length lc, .slice ba body.length bc] 100)) := (Below.refl _ _).alloc (Nat.le_refl _) _
  have hx0 : (w.alloc (.cells #[.slice pa ps.length pc, .int .i64 res, .slice la ls.length lc, .slice ba body.length bc] 100)).heap[w.heap.size]? = some (.cells #[.slice pa ps.length pc, .int .i64 res, .slice la ls.length lc, .slice ba body.length bc] 100 (0, 0)) := heap_alloc_new _ _
  have M := may1 res
  rw [h4] at M
  go_enter Tryz.func65, Tryz.ntmps65
  go_wp2_with fail
  refine (implTypes pa pc 6 ps _ (hR.out.1.below hb0) hs.out.1 (by omega)).mono ?_
  rw [h2]
  rintro e w1 ⟨rfl, hb1⟩
  have HB1 : Hid (Below w.heap.size w w1) := bel_step hb0 hb1
  have hx1 := (hb1.block w.heap.size (by simp)).trans hx0
  clear hb1 hb0 hx0 h2 h4
  have c0 := (cell_of_block hx1 2).trans rfl
  have hl1 := lt_of_block hx1
  cases e2
  · go_wp2
    go_ret
    exact ⟨by rw [HG.out, Bool.and_false]; rfl, HB1.out⟩
  · go_wp2_with fail
    refine (implTypes la lc 20 ls w1 (hR.out.2.1.below HB1.out) hs.out.2.1 (by omega)).mono ?_
    rw [h3]
    rintro e w2 ⟨rfl, hb2⟩
    have HB2 : Hid (Below w.heap.size w w2) := bel_step HB1.out hb2
    have hx2 := (hb2.block w.heap.size hl1).trans hx1
    have hl2 := lt_of_block hx2
    clear hb2 hx1 c0 hl1 HB1 h3
    have c0 := (cell_of_block hx2 1).trans rfl
    cases e3
    · go_wp2
      go_ret
      exact ⟨by rw [HG.out]; simp, HB2.out⟩
    · go_wp2_with fail
      refine (M _).mono ?_
      rintro e w3 ⟨rfl, hb3⟩
      have HB3 : Hid (Below w.heap.size w w3) := bel_step HB2.out hb3
      have hx3 := (hb3.block w.heap.size hl2).trans hx2
      clear hb3 hx2 c0 hl2 HB2 M
      have c0 := (cell_of_block hx3 3).trans rfl
      cases e4
      · go_wp2
        go_ret
        exact ⟨by rw [HG.out]; simp, HB3.out⟩
      · obtain ⟨bb, bo, k1, k2⟩ := (hR.out.2.2.below HB3.out).parts
        have S := implOutline ba bb bo bc body w3 k1 k2 hs.out.2.2.2 hs.out.2.2.1
        clear k1 k2
        go_wp2_with fail
        refine S.mono ?_
        rintro r w4 ⟨va, ve, d, ⟨⟨p1, n1, c1, rfl⟩, ⟨p2, n2, c2, rfl⟩⟩, rfl, _, hb⟩
        rw [h1]
        have HB4 : Hid (Below w.heap.size w w4) := bel_step HB3.out hb
        clear hb S hx3 c0
        go_wp2
        go_ret
        exact ⟨by rw [HG.out]; simp, bel_alloc HB4.out _⟩

end Go.Proofs.YtdcfflmfimepfaaGreat
