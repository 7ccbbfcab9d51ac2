/-
  The way through a body from the back: what lies in memory, and how a block is opened.
-/
import Derived.Test.YtbliopgdkphoaaaCOut
namespace Go.Proofs.Ytbliopgdkphoaaa
open Go.ChangeShapes Go.WideShapes Go.ChangeAt Go.RowKit

/-- Blocks as the values of their cells. -/
def av (l : List (Nat × Bool)) : List Value := l.flatMap fun x => [.int .i64 (x.1 : Int), .bool x.2]
theorem av_app (l : List (Nat × Bool)) (x : Nat × Bool) : av (l ++ [x]) = av l ++ [.int .i64 (x.1 : Int), .bool x.2] := by simp [av]
theorem av_len (l : List (Nat × Bool)) : (av l).length = l.length * 2 := by
  induction l with
  | nil => rfl
  | cons x r ih => have e : av (x :: r) = .int .i64 (x.1 : Int) :: .bool x.2 :: av r := by simp [av]
                   rw [e, List.length_cons, List.length_cons, ih, List.length_cons]; omega
theorem av_last (l : List (Nat × Bool)) (e : Nat) (d : Bool) : (av (l ++ [(e, d)]))[l.length * 2]? = some (.int .i64 (e : Int)) ∧ (av (l ++ [(e, d)]))[l.length * 2 + 1]? = some (.bool d) := by
  rw [av_app]
  constructor
  · rw [List.getElem?_append_right (by rw [av_len]; omega), av_len]; simp
  · rw [List.getElem?_append_right (by rw [av_len]; omega), av_len, show l.length * 2 + 1 - l.length * 2 = 1 by omega]; simp

/-- The outline: its own block, the ends, the blocks around (the innermost first). -/
structure OI (w : World) (B go_ ge n : Nat) (st : List (Nat × Bool)) (e : Nat → Nat) (d : Nat) (va : Value) : Prop where
  o : w.heap[go_]? = some (.cells #[va, .slice (some ⟨ge, 0, none⟩) n n, .int .i64 (d : Int)] 133 (0, 0))
  en : w.heap[ge]? = some (.cells (outRow e n) 3 (0, 0))
  ar : w.ownsRow B 162 2 va st.length (av st.reverse)
  oB : B ≤ go_
  eB : B ≤ ge
theorem OI.keep {w w' : World} {B go_ ge n : Nat} {st : List (Nat × Bool)} {e : Nat → Nat} {d : Nat} {va : Value} (h : OI w B go_ ge n st e d va) (hb : Below w.heap.size w w') : OI w' B go_ ge n st e d va :=
  ⟨(hb.block _ (lt_of_block h.o)).trans h.o, (hb.block _ (lt_of_block h.en)).trans h.en, own_keep h.ar (fun g hg => by obtain ⟨cur, hc, _⟩ := own_at h.ar hg; exact hb.block g (lt_of_block hc)), h.oB, h.eB⟩
/-- The outline's own cells are written. -/
theorem OI.setO {w : World} {B go_ ge n : Nat} {st : List (Nat × Bool)} {e : Nat → Nat} {d : Nat} {va : Value} (h : OI w B go_ ge n st e d va) {st' : List (Nat × Bool)} {va' : Value} (har : w.ownsRow B 162 2 va' st'.length (av st'.reverse)) : OI (w.setCell ⟨go_, 0, none⟩ va') B go_ ge n st' e d va' := by
  have K : ∀ j, j ≠ go_ → (w.setCell ⟨go_, 0, none⟩ va').heap[j]? = w.heap[j]? := fun j hj => heap_setCell_other _ _ _ _ hj
  refine ⟨heap_setCell_same _ _ _ _ _ _ h.o, (K ge fun e2 => apart_types h.o h.en (by decide) e2.symm).trans h.en, own_keep har fun g hg => ?_, h.oB, h.eB⟩
  obtain ⟨cur, hc, _⟩ := own_at har hg
  exact K g fun e2 => apart_types h.o hc (by decide) e2.symm
theorem OI.setD {w : World} {B go_ ge n : Nat} {st : List (Nat × Bool)} {e : Nat → Nat} {d : Nat} {va : Value} (h : OI w B go_ ge n st e d va) (d' : Nat) : OI (w.setCell ⟨go_, 2, none⟩ (.int .i64 (d' : Int))) B go_ ge n st e d' va := by
  have K : ∀ j, j ≠ go_ → (w.setCell ⟨go_, 2, none⟩ (.int .i64 (d' : Int))).heap[j]? = w.heap[j]? := fun j hj => heap_setCell_other _ _ _ _ hj
  refine ⟨heap_setCell_same _ _ _ _ _ _ h.o, (K ge fun e2 => apart_types h.o h.en (by decide) e2.symm).trans h.en, own_keep h.ar fun g hg => ?_, h.oB, h.eB⟩
  obtain ⟨cur, hc, _⟩ := own_at h.ar hg
  exact K g fun e2 => apart_types h.o hc (by decide) e2.symm
theorem OI.setE {w : World} {B go_ ge n : Nat} {st : List (Nat × Bool)} {e : Nat → Nat} {d : Nat} {va : Value} (h : OI w B go_ ge n st e d va) (k x : Nat) : OI (w.setCell ⟨ge, k, none⟩ (.int .i64 (x : Int))) B go_ ge n st (fun j => if j = k then x else e j) d va := by
  have K : ∀ j, j ≠ ge → (w.setCell ⟨ge, k, none⟩ (.int .i64 (x : Int))).heap[j]? = w.heap[j]? := fun j hj => heap_setCell_other _ _ _ _ hj
  refine ⟨(K go_ fun e2 => apart_types h.o h.en (by decide) e2).trans h.o, ?_, own_keep h.ar fun g hg => ?_, h.oB, h.eB⟩
  · rw [← outRow_set]; exact heap_setCell_same _ _ _ _ _ _ h.en
  · obtain ⟨cur, hc, _⟩ := own_at h.ar hg
    exact K g fun e2 => apart_types h.en hc (by decide) e2.symm
theorem OI.setA {w : World} {B go_ ge n : Nat} {t : List (Nat × Bool)} {x : Nat} {b b' : Bool} {e : Nat → Nat} {d ga c q : Nat} (h : OI w B go_ ge n ((x, b) :: t) e d (.slice (some ⟨ga, 0, none⟩) q c)) (hq : q = t.length + 1) :
    OI (w.setCell ⟨ga, t.length * 2 + 1, none⟩ (.bool b')) B go_ ge n ((x, b') :: t) e d (.slice (some ⟨ga, 0, none⟩) q c) := by
  obtain ⟨cg, hcg, _⟩ := own_at h.ar (g := ga) rfl
  have K : ∀ j, j ≠ ga → (w.setCell ⟨ga, t.length * 2 + 1, none⟩ (.bool b')).heap[j]? = w.heap[j]? := fun j hj => heap_setCell_other _ _ _ _ hj
  have har := h.ar
  simp only [List.length_cons, List.reverse_cons] at har
  subst hq
  have h2 := own_set har (t.length * 2 + 1) (.bool b')
  have e2 : (av (t.reverse ++ [(x, b)])).set (t.length * 2 + 1) (.bool b') = av (t.reverse ++ [(x, b')]) := by
    have hl : (av t.reverse).length = t.length * 2 := by rw [av_len]; simp
    rw [av_app, av_app, List.set_append, if_neg (by omega), hl, show t.length * 2 + 1 - t.length * 2 = 1 by omega]; rfl
  rw [e2] at h2
  exact ⟨(K go_ fun e3 => apart_types h.o hcg (by decide) e3).trans h.o, (K ge fun e3 => apart_types h.en hcg (by decide) e3).trans h.en, by simpa using h2, h.oB, h.eB⟩
/-- The innermost block is left. -/
theorem OI.popRow {w : World} {B go_ ge n : Nat} {t : List (Nat × Bool)} {x : Nat × Bool} {e : Nat → Nat} {d ga c q : Nat} (h : OI w B go_ ge n (x :: t) e d (.slice (some ⟨ga, 0, none⟩) q c)) (hq : q = t.length + 1) :
    w.ownsRow B 162 2 (.slice (some ⟨ga, 0, none⟩) t.length c) t.length (av t.reverse) := by
  have har := h.ar
  simp only [List.length_cons, List.reverse_cons] at har
  subst hq
  have h2 := own_take har
  have e2 : (av (t.reverse ++ [x])).take (t.length * 2) = av t.reverse := by
    have hl : (av t.reverse).length = t.length * 2 := by rw [av_len]; simp
    rw [show t.reverse ++ [x] = t.reverse ++ [(x.1, x.2)] from rfl, av_app, ← hl, List.take_left]
  rw [e2] at h2
  exact h2

/-- What opening a block needs of memory. -/
structure OpenAt (w : World) (B go_ ge n : Nat) (e0 : Nat) (dd : Bool) (t : List (Nat × Bool)) (e : Nat → Nat) (d ga c j : Nat) : Prop where
  oi : OI w B go_ ge n ((e0, dd) :: t) e d (.slice (some ⟨ga, 0, none⟩) (j + 1) c)
  len : t.length = j
  j2 : j ≤ 200
  jc : j + 1 ≤ c
theorem OpenAt.cells {w : World} {B go_ ge n : Nat} {e0 : Nat} {dd : Bool} {t : List (Nat × Bool)} {e : Nat → Nat} {d ga c j : Nat} (h : OpenAt w B go_ ge n e0 dd t e d ga c j) :
    (w.cell? ⟨ga, j * 2, none⟩ = some (.int .i64 (e0 : Int)) ∧ w.frozen? ⟨ga, j * 2, none⟩ = false) ∧ (w.cell? ⟨ga, j * 2 + 1, none⟩ = some (.bool dd) ∧ w.frozen? ⟨ga, j * 2 + 1, none⟩ = false) := by
  have har := h.oi.ar
  simp only [List.length_cons, List.reverse_cons] at har
  rw [h.len] at har
  have hl := av_last t.reverse e0 dd
  rw [List.length_reverse, h.len] at hl
  exact ⟨own_cell har hl.1, own_cell har hl.2⟩

set_option maxRecDepth 100000 in
set_option maxHeartbeats 1600000 in
theorem open_first (B go_ ge n e0 : Nat) (dd : Bool) (e : Nat → Nat) (d ga c : Nat) (op : Int) (w : World) (h : OpenAt w B go_ ge n e0 dd [] e d ga c 0) :
    Calls Try.prog 134 #[.pointer (some ⟨go_, 0, none⟩), .int .i64 op] w fun e w' => e = .returned (.bool false) ∧ w' = w := by
  have c0 : w.cell? ⟨go_, 0, none⟩ = some (.slice (some ⟨ga, 0, none⟩) (0 + 1) c) := by rw [cell_of_block h.oi.o]; rfl
  simp only [Nat.zero_add] at c0
  clear h
  go_enter Try.func134, Try.ntmps134
  go_wp2
  go_ret
  exact ⟨rfl, rfl⟩

set_option maxRecDepth 100000 in
set_option maxHeartbeats 1600000 in
theorem open_bad (B go_ ge n e0 : Nat) (t : List (Nat × Bool)) (e : Nat → Nat) (d ga c j : Nat) (op : Int) (w : World) (h : OpenAt w B go_ ge n e0 true t e d ga c j) (hj : 0 < j) (hop : (op == 4) = false) :
    Calls Try.prog 134 #[.pointer (some ⟨go_, 0, none⟩), .int .i64 op] w fun e w' => e = .returned (.bool false) ∧ Below B w w' := by
  have hb0 := h.oi.o
  have c0 : w.cell? ⟨go_, 0, none⟩ = some (.slice (some ⟨ga, 0, none⟩) (j + 1) c) := by rw [cell_of_block hb0]; rfl
  have hj1 : ((j : Int) + 1 == 1) = false := by simp; omega
  have HH : Hid (OpenAt w B go_ ge n e0 true t e d ga c j) := h
  have HI : Hid (Calls Try.prog 114 #[.pointer (some ⟨go_, 0, none⟩)] w fun e w' => e = .returned (.pointer (some ⟨ga, j * 2, none⟩)) ∧ Below w.heap.size w w') := innermost_at go_ ga j c _ _ w hb0 h.j2
  clear h hb0
  go_enter Try.func134, Try.ntmps134
  go_wp2_with fail
  refine HI.out.mono ?_
  rintro e1 w1 ⟨rfl, hb1⟩
  have H1 : OpenAt w1 B go_ ge n e0 true t e d ga c j := ⟨HH.out.oi.keep hb1, HH.out.len, HH.out.j2, HH.out.jc⟩
  have cd := H1.cells.2.1
  have hBs : B ≤ w.heap.size := by have h1 := lt_of_block HH.out.oi.o; have h2 := HH.out.oi.oB; omega
  have hbB : Hid (Below B w w1) := hb1.mono hBs
  clear hb1 HI
  clear H1 HH
  go_wp2
  go_ret
  exact ⟨rfl, hbB.out⟩

set_option maxRecDepth 100000 in
set_option maxHeartbeats 1600000 in
theorem open_plain (B go_ ge n e0 : Nat) (t : List (Nat × Bool)) (e : Nat → Nat) (d ga c j : Nat) (op : Int) (w : World) (h : OpenAt w B go_ ge n e0 false t e d ga c j) (hj : 0 < j) :
    Calls Try.prog 134 #[.pointer (some ⟨go_, 0, none⟩), .int .i64 op] w fun r w' => r = .returned (.bool true) ∧ OI w' B go_ ge n t e d (.slice (some ⟨ga, 0, none⟩) j c) ∧ Below B w w' := by
  have hb0 := h.oi.o
  have c0 : w.cell? ⟨go_, 0, none⟩ = some (.slice (some ⟨ga, 0, none⟩) (j + 1) c) := by rw [cell_of_block hb0]; rfl
  have hj1 : ((j : Int) + 1 == 1) = false := by simp; omega
  have HH : Hid (OpenAt w B go_ ge n e0 false t e d ga c j) := h
  have HI : Hid (Calls Try.prog 114 #[.pointer (some ⟨go_, 0, none⟩)] w fun e w' => e = .returned (.pointer (some ⟨ga, j * 2, none⟩)) ∧ Below w.heap.size w w') := innermost_at go_ ga j c _ _ w hb0 h.j2
  clear h hb0
  go_enter Try.func134, Try.ntmps134
  go_wp2_with fail
  refine HI.out.mono ?_
  rintro e1 w1 ⟨rfl, hb1⟩
  have H1 : OpenAt w1 B go_ ge n e0 false t e d ga c j := ⟨HH.out.oi.keep hb1, HH.out.len, HH.out.j2, HH.out.jc⟩
  have cd := H1.cells.2.1
  have hBs : B ≤ w.heap.size := by have h1 := lt_of_block HH.out.oi.o; have h2 := HH.out.oi.oB; omega
  have hbB : Hid (Below B w w1) := hb1.mono hBs
  clear hb1 HI
  have c1 : w1.cell? ⟨go_, 0, none⟩ = some (.slice (some ⟨ga, 0, none⟩) (j + 1) c) := by rw [cell_of_block H1.oi.o]; rfl
  have f1 : w1.frozen? ⟨go_, 0, none⟩ = false := free_of_block H1.oi.o 0
  have hlt := lt_of_block H1.oi.o
  have k0 : ∀ w', Keeps w1 w' → w'.cell? ⟨go_, 0, none⟩ = some (.slice (some ⟨ga, 0, none⟩) (j + 1) c) := fun w' h => h.cell hlt c1
  have k1 : ∀ w', Keeps w1 w' → w'.frozen? ⟨go_, 0, none⟩ = false := fun w' h => h.frozen hlt f1
  have hi1 := i64n j (by have := H1.j2; omega)
  have hi2 := w64m j (by have := H1.j2; omega)
  have hjc : (j : Int) ≤ c := by have := H1.jc; omega
  have HH1 : Hid (OpenAt w1 B go_ ge n e0 false t e d ga c j) := H1
  clear c1 f1 H1 HH hj1 c0 hlt
  go_wp2_with fail
  refine region_qtail (C := Keeps w1) 14 (by kernel_rfl) (by kernel_rfl) (Keeps.drew w1) ?_
  (iterate 14
    (apply wpQuiet_go _ (by rfl)
     · intro wq hq
       go_simp
       first
         | exact rfl
     simp only [Act.put, List.setIfInBounds_toArray, List.set_cons_succ, List.set_cons_zero]))
  refine wpQuiet_nil ?_
  intro wz hk
  have H2 := HH1.out.oi.keep hk.below
  have cz := k0 _ hk
  have fz := k1 _ hk
  have hrow := H2.popRow (by rw [HH1.out.len])
  rw [HH1.out.len] at hrow
  have H3 : Hid (OI (wz.setCell ⟨go_, 0, none⟩ (.slice (some ⟨ga, 0, none⟩) j c)) B go_ ge n t e d (.slice (some ⟨ga, 0, none⟩) j c)) := by
    have h9 := HH1.out.len
    exact H2.setO (by rw [h9]; exact hrow)
  have hsz1 : B ≤ w1.heap.size := by have := hbB.out.size; omega
  have hbz : Hid (Below B w (wz.setCell ⟨go_, 0, none⟩ (.slice (some ⟨ga, 0, none⟩) j c))) := (hbB.out.trans (hk.below.mono hsz1)).setCell H2.oB _
  clear hk k0 k1 H2 hrow
  go_wp2
  go_ret
  exact ⟨rfl, H3.out, hbz.out⟩

set_option maxRecDepth 100000 in
set_option maxHeartbeats 1600000 in
theorem open_if (B go_ ge n e0 : Nat) (t : List (Nat × Bool)) (e : Nat → Nat) (d ga c j : Nat) (op : Int) (w : World) (h : OpenAt w B go_ ge n e0 true t e d ga c j) (hj : 0 < j) (hop : (op == 4) = true) :
    Calls Try.prog 134 #[.pointer (some ⟨go_, 0, none⟩), .int .i64 op] w fun r w' => r = .returned (.bool true) ∧ OI w' B go_ ge n t e d (.slice (some ⟨ga, 0, none⟩) j c) ∧ Below B w w' := by
  have hb0 := h.oi.o
  have c0 : w.cell? ⟨go_, 0, none⟩ = some (.slice (some ⟨ga, 0, none⟩) (j + 1) c) := by rw [cell_of_block hb0]; rfl
  have hj1 : ((j : Int) + 1 == 1) = false := by simp; omega
  have HH : Hid (OpenAt w B go_ ge n e0 true t e d ga c j) := h
  have HI : Hid (Calls Try.prog 114 #[.pointer (some ⟨go_, 0, none⟩)] w fun e w' => e = .returned (.pointer (some ⟨ga, j * 2, none⟩)) ∧ Below w.heap.size w w') := innermost_at go_ ga j c _ _ w hb0 h.j2
  clear h hb0
  go_enter Try.func134, Try.ntmps134
  go_wp2_with fail
  refine HI.out.mono ?_
  rintro e1 w1 ⟨rfl, hb1⟩
  have H1 : OpenAt w1 B go_ ge n e0 true t e d ga c j := ⟨HH.out.oi.keep hb1, HH.out.len, HH.out.j2, HH.out.jc⟩
  have cd := H1.cells.2.1
  have hBs : B ≤ w.heap.size := by have h1 := lt_of_block HH.out.oi.o; have h2 := HH.out.oi.oB; omega
  have hbB : Hid (Below B w w1) := hb1.mono hBs
  clear hb1 HI
  have c1 : w1.cell? ⟨go_, 0, none⟩ = some (.slice (some ⟨ga, 0, none⟩) (j + 1) c) := by rw [cell_of_block H1.oi.o]; rfl
  have f1 : w1.frozen? ⟨go_, 0, none⟩ = false := free_of_block H1.oi.o 0
  have hlt := lt_of_block H1.oi.o
  have k0 : ∀ w', Keeps w1 w' → w'.cell? ⟨go_, 0, none⟩ = some (.slice (some ⟨ga, 0, none⟩) (j + 1) c) := fun w' h => h.cell hlt c1
  have k1 : ∀ w', Keeps w1 w' → w'.frozen? ⟨go_, 0, none⟩ = false := fun w' h => h.frozen hlt f1
  have hi1 := i64n j (by have := H1.j2; omega)
  have hi2 := w64m j (by have := H1.j2; omega)
  have hjc : (j : Int) ≤ c := by have := H1.jc; omega
  have HH1 : Hid (OpenAt w1 B go_ ge n e0 true t e d ga c j) := H1
  clear c1 f1 H1 HH hj1 c0 hlt
  go_wp2_with fail
  refine region_qtail (C := Keeps w1) 14 (by kernel_rfl) (by kernel_rfl) (Keeps.drew w1) ?_
  (iterate 14
    (apply wpQuiet_go _ (by rfl)
     · intro wq hq
       go_simp
       first
         | exact rfl
     simp only [Act.put, List.setIfInBounds_toArray, List.set_cons_succ, List.set_cons_zero]))
  refine wpQuiet_nil ?_
  intro wz hk
  have H2 := HH1.out.oi.keep hk.below
  have cz := k0 _ hk
  have fz := k1 _ hk
  have hrow := H2.popRow (by rw [HH1.out.len])
  rw [HH1.out.len] at hrow
  have H3 : Hid (OI (wz.setCell ⟨go_, 0, none⟩ (.slice (some ⟨ga, 0, none⟩) j c)) B go_ ge n t e d (.slice (some ⟨ga, 0, none⟩) j c)) := by
    have h9 := HH1.out.len
    exact H2.setO (by rw [h9]; exact hrow)
  have hsz1 : B ≤ w1.heap.size := by have := hbB.out.size; omega
  have hbz : Hid (Below B w (wz.setCell ⟨go_, 0, none⟩ (.slice (some ⟨ga, 0, none⟩) j c))) := (hbB.out.trans (hk.below.mono hsz1)).setCell H2.oB _
  clear hk k0 k1 H2 hrow
  go_wp2
  go_ret
  exact ⟨rfl, H3.out, hbz.out⟩

end Go.Proofs.Ytbliopgdkphoaaa
