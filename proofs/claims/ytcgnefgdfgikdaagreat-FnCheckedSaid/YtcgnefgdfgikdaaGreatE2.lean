/-
  The way through a body from the back: the program's own small functions.
-/
import Derived.Test.YtcgnefgdfgikdaaGreatE1
import Derived.Test.YtcgnefgdfgikdaaGreatA1
import Derived.Test.YtcgnefgdfgikdaaGreatU4
import Derived.Deep.AppendLies
namespace Go.Proofs.YtcgnefgdfgikdaaGreat
open Go.ChangeShapes Go.WideShapes Go.ChangeAt Go.RowKit

def role (op : Int) : Int := if op = 2 ∨ op = 3 ∨ op = 4 then 1 else if op = 5 then 2 else if op = 11 then 3 else 0

set_option maxRecDepth 100000 in
set_option maxHeartbeats 800000 in
theorem roleOf_eq (op : Int) (w : World) : Calls Tryz.prog 83 #[.int .i64 op] w fun e w' => e = .returned (.int .i64 (role op)) ∧ w' = w := by
  by_cases h : op = 2 ∨ op = 3 ∨ op = 4 ∨ op = 5 ∨ op = 11
  · rcases h with rfl | rfl | rfl | rfl | rfl
    all_goals
      go_enter Tryz.func83, Tryz.ntmps83
      go_wp2
      go_ret
      exact ⟨rfl, rfl⟩
  · simp only [not_or] at h
    obtain ⟨h2, h3, h4, h5, h11⟩ := h
    have e : role op = 0 := by simp [role, h2, h3, h4, h5, h11]
    rw [e]
    clear e
    go_enter Tryz.func83, Tryz.ntmps83
    go_wp2
    go_ret
    exact ⟨rfl, rfl⟩

theorem i64n (m : Nat) (h : m ≤ 400) : IntKind.i64.wrap (m : Int) = m := IntWalk.i64_in _ ⟨by omega, by omega⟩
theorem w64m (m : Nat) (h : m ≤ 400) : wrap64 (m : Int) = m := by unfold wrap64; omega

set_option maxRecDepth 100000 in
set_option maxHeartbeats 800000 in
theorem innermost_at (go_ ga j c : Nat) (x y : Value) (w : World) (hb : w.heap[go_]? = some (.cells #[.slice (some ⟨ga, 0, none⟩) (j + 1) c, x, y] 88 (0, 0))) (hj : j ≤ 200) :
    Calls Tryz.prog 65 #[.pointer (some ⟨go_, 0, none⟩)] w fun e w' => e = .returned (.pointer (some ⟨ga, j * 2, none⟩)) ∧ Below w.heap.size w w' := by
  have hlt := lt_of_block hb
  have c0 : w.cell? ⟨go_, 0, none⟩ = some (.slice (some ⟨ga, 0, none⟩) (j + 1) c) := by rw [cell_of_block hb]; rfl
  have k0 : ∀ w', Keeps w w' → w'.cell? ⟨go_, 0, none⟩ = some (.slice (some ⟨ga, 0, none⟩) (j + 1) c) := fun w' h => h.cell hlt c0
  have hi1 := i64n j (by omega)
  have hi2 := w64m j (by omega)
  have hjj : (j : Int) < (j : Int) + 1 := by omega
  clear hb c0 hj hlt
  go_enter Tryz.func65, Tryz.ntmps65
  go_wp2_with fail
  refine region_q (C := Keeps w) (by kernel_rfl) (by kernel_rfl) (Keeps.drew w) ?_
  (iterate 12
    (apply wpQuiet_go _ (by rfl)
     · intro wq hq
       go_simp
       first
         | exact rfl
     simp only [Act.put, List.setIfInBounds_toArray, List.set_cons_succ, List.set_cons_zero]))
  refine wpQuiet_nil ?_
  intro wz hk
  have hbz := hk.below
  clear hk k0
  go_wp2
  go_ret
  exact ⟨rfl, hbz⟩

end Go.Proofs.YtcgnefgdfgikdaaGreat

namespace Go.Proofs.YtcgnefgdfgikdaaGreat
open Go.ChangeShapes Go.WideShapes Go.ChangeAt Go.RowKit

/-- Blocks as the values of their cells. -/
def av (l : List (Nat × Bool)) : List Value := l.flatMap fun x => [.int .i64 (x.1 : Int), .bool x.2]
theorem av_app (l : List (Nat × Bool)) (x : Nat × Bool) : av (l ++ [x]) = av l ++ [.int .i64 (x.1 : Int), .bool x.2] := by simp [av]
theorem av_len (l : List (Nat × Bool)) : (av l).length = l.length * 2 := by
  induction l with
  | nil => rfl
  | cons x r ih => have e : av (x :: r) = .int .i64 (x.1 : Int) :: .bool x.2 :: av r := by simp [av]
                   rw [e, List.length_cons, List.length_cons, ih, List.length_cons]; omega
theorem av_last (l : List (Nat × Bool)) (e : Nat) (d : Bool) : (av (l ++ [(e, d)]))[l.length * 2]? = some (.int .i64 (e : Int)) ∧ (av (l ++ [(e, d)]))[l.length * 2 + 1]? = some (.bool d) := by
  rw [av_app]
  constructor
  · rw [List.getElem?_append_right (by rw [av_len]; omega), av_len]; simp
  · rw [List.getElem?_append_right (by rw [av_len]; omega), av_len, show l.length * 2 + 1 - l.length * 2 = 1 by omega]; simp

/-- The outline: its own block, the ends, the blocks around (the innermost first). -/
structure OI (w : World) (B go_ ge n : Nat) (st : List (Nat × Bool)) (e : Nat → Nat) (d : Nat) (va : Value) : Prop where
  o : w.heap[go_]? = some (.cells #[va, .slice (some ⟨ge, 0, none⟩) n n, .int .i64 (d : Int)] 88 (0, 0))
  en : w.heap[ge]? = some (.cells (outRow e n) 3 (0, 0))
  ar : w.ownsRow B 105 2 va st.length (av st.reverse)
  oB : B ≤ go_
  eB : B ≤ ge
theorem OI.keep {w w' : World} {B go_ ge n : Nat} {st : List (Nat × Bool)} {e : Nat → Nat} {d : Nat} {va : Value} (h : OI w B go_ ge n st e d va) (hb : Below w.heap.size w w') : OI w' B go_ ge n st e d va :=
  ⟨(hb.block _ (lt_of_block h.o)).trans h.o, (hb.block _ (lt_of_block h.en)).trans h.en, own_keep h.ar (fun g hg => by obtain ⟨cur, hc, _⟩ := own_at h.ar hg; exact hb.block g (lt_of_block hc)), h.oB, h.eB⟩
/-- The outline's own cells are written. -/
theorem OI.setO {w : World} {B go_ ge n : Nat} {st : List (Nat × Bool)} {e : Nat → Nat} {d : Nat} {va : Value} (h : OI w B go_ ge n st e d va) {st' : List (Nat × Bool)} {va' : Value} (har : w.ownsRow B 105 2 va' st'.length (av st'.reverse)) : OI (w.setCell ⟨go_, 0, none⟩ va') B go_ ge n st' e d va' := by
  have K : ∀ j, j ≠ go_ → (w.setCell ⟨go_, 0, none⟩ va').heap[j]? = w.heap[j]? := fun j hj => heap_setCell_other _ _ _ _ hj
  refine ⟨heap_setCell_same _ _ _ _ _ _ h.o, (K ge fun e2 => apart_types h.o h.en (by decide) e2.symm).trans h.en, own_keep har fun g hg => ?_, h.oB, h.eB⟩
  obtain ⟨cur, hc, _⟩ := own_at har hg
  exact K g fun e2 => apart_types h.o hc (by decide) e2.symm
theorem OI.setD {w : World} {B go_ ge n : Nat} {st : List (Nat × Bool)} {e : Nat → Nat} {d : Nat} {va : Value} (h : OI w B go_ ge n st e d va) (d' : Nat) : OI (w.setCell ⟨go_, 2, none⟩ (.int .i64 (d' : Int))) B go_ ge n st e d' va := by
  have K : ∀ j, j ≠ go_ → (w.setCell ⟨go_, 2, none⟩ (.int .i64 (d' : Int))).heap[j]? = w.heap[j]? := fun j hj => heap_setCell_other _ _ _ _ hj
  refine ⟨heap_setCell_same _ _ _ _ _ _ h.o, (K ge fun e2 => apart_types h.o h.en (by decide) e2.symm).trans h.en, own_keep h.ar fun g hg => ?_, h.oB, h.eB⟩
  obtain ⟨cur, hc, _⟩ := own_at h.ar hg
  exact K g fun e2 => apart_types h.o hc (by decide) e2.symm
theorem OI.setE {w : World} {B go_ ge n : Nat} {st : List (Nat × Bool)} {e : Nat → Nat} {d : Nat} {va : Value} (h : OI w B go_ ge n st e d va) (k x : Nat) : OI (w.setCell ⟨ge, k, none⟩ (.int .i64 (x : Int))) B go_ ge n st (fun j => if j = k then x else e j) d va := by
  have K : ∀ j, j ≠ ge → (w.setCell ⟨ge, k, none⟩ (.int .i64 (x : Int))).heap[j]? = w.heap[j]? := fun j hj => heap_setCell_other _ _ _ _ hj
  refine ⟨(K go_ fun e2 => apart_types h.o h.en (by decide) e2).trans h.o, ?_, own_keep h.ar fun g hg => ?_, h.oB, h.eB⟩
  · rw [← outRow_set]; exact heap_setCell_same _ _ _ _ _ _ h.en
  · obtain ⟨cur, hc, _⟩ := own_at h.ar hg
    exact K g fun e2 => apart_types h.en hc (by decide) e2.symm
theorem OI.setA {w : World} {B go_ ge n : Nat} {t : List (Nat × Bool)} {x : Nat} {b b' : Bool} {e : Nat → Nat} {d ga c q : Nat} (h : OI w B go_ ge n ((x, b) :: t) e d (.slice (some ⟨ga, 0, none⟩) q c)) (hq : q = t.length + 1) :
    OI (w.setCell ⟨ga, t.length * 2 + 1, none⟩ (.bool b')) B go_ ge n ((x, b') :: t) e d (.slice (some ⟨ga, 0, none⟩) q c) := by
  obtain ⟨cg, hcg, _⟩ := own_at h.ar (g := ga) rfl
  have K : ∀ j, j ≠ ga → (w.setCell ⟨ga, t.length * 2 + 1, none⟩ (.bool b')).heap[j]? = w.heap[j]? := fun j hj => heap_setCell_other _ _ _ _ hj
  have har := h.ar
  simp only [List.length_cons, List.reverse_cons] at har
  subst hq
  have h2 := own_set har (t.length * 2 + 1) (.bool b')
  have e2 : (av (t.reverse ++ [(x, b)])).set (t.length * 2 + 1) (.bool b') = av (t.reverse ++ [(x, b')]) := by
    have hl : (av t.reverse).length = t.length * 2 := by rw [av_len]; simp
    rw [av_app, av_app, List.set_append, if_neg (by omega), hl, show t.length * 2 + 1 - t.length * 2 = 1 by omega]; rfl
  rw [e2] at h2
  exact ⟨(K go_ fun e3 => apart_types h.o hcg (by decide) e3).trans h.o, (K ge fun e3 => apart_types h.en hcg (by decide) e3).trans h.en, by simpa using h2, h.oB, h.eB⟩
/-- The innermost block is left. -/
theorem OI.popRow {w : World} {B go_ ge n : Nat} {t : List (Nat × Bool)} {x : Nat × Bool} {e : Nat → Nat} {d ga c q : Nat} (h : OI w B go_ ge n (x :: t) e d (.slice (some ⟨ga, 0, none⟩) q c)) (hq : q = t.length + 1) :
    w.ownsRow B 105 2 (.slice (some ⟨ga, 0, none⟩) t.length c) t.length (av t.reverse) := by
  have har := h.ar
  simp only [List.length_cons, List.reverse_cons] at har
  subst hq
  have h2 := own_take har
  have e2 : (av (t.reverse ++ [x])).take (t.length * 2) = av t.reverse := by
    have hl : (av t.reverse).length = t.length * 2 := by rw [av_len]; simp
    rw [show t.reverse ++ [x] = t.reverse ++ [(x.1, x.2)] from rfl, av_app, ← hl, List.take_left]
  rw [e2] at h2
  exact h2

/-- What opening a block needs of memory. -/
structure OpenAt (w : World) (B go_ ge n : Nat) (e0 : Nat) (dd : Bool) (t : List (Nat × Bool)) (e : Nat → Nat) (d ga c j : Nat) : Prop where
  oi : OI w B go_ ge n ((e0, dd) :: t) e d (.slice (some ⟨ga, 0, none⟩) (j + 1) c)
  len : t.length = j
  j2 : j ≤ 200
  jc : j + 1 ≤ c
theorem OpenAt.cells {w : World} {B go_ ge n : Nat} {e0 : Nat} {dd : Bool} {t : List (Nat × Bool)} {e : Nat → Nat} {d ga c j : Nat} (h : OpenAt w B go_ ge n e0 dd t e d ga c j) :
    (w.cell? ⟨ga, j * 2, none⟩ = some (.int .i64 (e0 : Int)) ∧ w.frozen? ⟨ga, j * 2, none⟩ = false) ∧ (w.cell? ⟨ga, j * 2 + 1, none⟩ = some (.bool dd) ∧ w.frozen? ⟨ga, j * 2 + 1, none⟩ = false) := by
  have har := h.oi.ar
  simp only [List.length_cons, List.reverse_cons] at har
  rw [h.len] at har
  have hl := av_last t.reverse e0 dd
  rw [List.length_reverse, h.len] at hl
  exact ⟨own_cell har hl.1, own_cell har hl.2⟩

set_option maxRecDepth 100000 in
set_option maxHeartbeats 1600000 in
theorem open_first (B go_ ge n e0 : Nat) (dd : Bool) (e : Nat → Nat) (d ga c : Nat) (op : Int) (w : World) (h : OpenAt w B go_ ge n e0 dd [] e d ga c 0) :
    Calls Tryz.prog 84 #[.pointer (some ⟨go_, 0, none⟩), .int .i64 op] w fun e w' => e = .returned (.bool false) ∧ w' = w := by
  have c0 : w.cell? ⟨go_, 0, none⟩ = some (.slice (some ⟨ga, 0, none⟩) (0 + 1) c) := by rw [cell_of_block h.oi.o]; rfl
  simp only [Nat.zero_add] at c0
  clear h
  go_enter Tryz.func84, Tryz.ntmps84
  go_wp2
  go_ret
  exact ⟨rfl, rfl⟩

set_option maxRecDepth 100000 in
set_option maxHeartbeats 1600000 in
theorem open_bad (B go_ ge n e0 : Nat) (t : List (Nat × Bool)) (e : Nat → Nat) (d ga c j : Nat) (op : Int) (w : World) (h : OpenAt w B go_ ge n e0 true t e d ga c j) (hj : 0 < j) (hop : (op == 4) = false) :
    Calls Tryz.prog 84 #[.pointer (some ⟨go_, 0, none⟩), .int .i64 op] w fun e w' => e = .returned (.bool false) ∧ Below B w w' := by
  have hb0 := h.oi.o
  have c0 : w.cell? ⟨go_, 0, none⟩ = some (.slice (some ⟨ga, 0, none⟩) (j + 1) c) := by rw [cell_of_block hb0]; rfl
  have hj1 : ((j : Int) + 1 == 1) = false := by simp; omega
  have HH : Hid (OpenAt w B go_ ge n e0 true t e d ga c j) := h
  have HI : Hid (Calls Tryz.prog 65 #[.pointer (some ⟨go_, 0, none⟩)] w fun e w' => e = .returned (.pointer (some ⟨ga, j * 2, none⟩)) ∧ Below w.heap.size w w') := innermost_at go_ ga j c _ _ w hb0 h.j2
  clear h hb0
  go_enter Tryz.func84, Tryz.ntmps84
  go_wp2_with fail
  refine HI.out.mono ?_
  rintro e1 w1 ⟨rfl, hb1⟩
  have H1 : OpenAt w1 B go_ ge n e0 true t e d ga c j := ⟨HH.out.oi.keep hb1, HH.out.len, HH.out.j2, HH.out.jc⟩
  have cd := H1.cells.2.1
  have hBs : B ≤ w.heap.size := by have h1 := lt_of_block HH.out.oi.o; have h2 := HH.out.oi.oB; omega
  have hbB : Hid (Below B w w1) := hb1.mono hBs
  clear hb1 HI
  clear H1 HH
  go_wp2
  go_ret
  exact ⟨rfl, hbB.out⟩

set_option maxRecDepth 100000 in
set_option maxHeartbeats 1600000 in
theorem open_plain (B go_ ge n e0 : Nat) (t : List (Nat × Bool)) (e : Nat → Nat) (d ga c j : Nat) (op : Int) (w : World) (h : OpenAt w B go_ ge n e0 false t e d ga c j) (hj : 0 < j) :
    Calls Tryz.prog 84 #[.pointer (some ⟨go_, 0, none⟩), .int .i64 op] w fun r w' => r = .returned (.bool true) ∧ OI w' B go_ ge n t e d (.slice (some ⟨ga, 0, none⟩) j c) ∧ Below B w w' := by
  have hb0 := h.oi.o
  have c0 : w.cell? ⟨go_, 0, none⟩ = some (.slice (some ⟨ga, 0, none⟩) (j + 1) c) := by rw [cell_of_block hb0]; rfl
  have hj1 : ((j : Int) + 1 == 1) = false := by simp; omega
  have HH : Hid (OpenAt w B go_ ge n e0 false t e d ga c j) := h
  have HI : Hid (Calls Tryz.prog 65 #[.pointer (some ⟨go_, 0, none⟩)] w fun e w' => e = .returned (.pointer (some ⟨ga, j * 2, none⟩)) ∧ Below w.heap.size w w') := innermost_at go_ ga j c _ _ w hb0 h.j2
  clear h hb0
  go_enter Tryz.func84, Tryz.ntmps84
  go_wp2_with fail
  refine HI.out.mono ?_
  rintro e1 w1 ⟨rfl, hb1⟩
  have H1 : OpenAt w1 B go_ ge n e0 false t e d ga c j := ⟨HH.out.oi.keep hb1, HH.out.len, HH.out.j2, HH.out.jc⟩
  have cd := H1.cells.2.1
  have hBs : B ≤ w.heap.size := by have h1 := lt_of_block HH.out.oi.o; have h2 := HH.out.oi.oB; omega
  have hbB : Hid (Below B w w1) := hb1.mono hBs
  clear hb1 HI
  have c1 : w1.cell? ⟨go_, 0, none⟩ = some (.slice (some ⟨ga, 0, none⟩) (j + 1) c) := by rw [cell_of_block H1.oi.o]; rfl
  have f1 : w1.frozen? ⟨go_, 0, none⟩ = false := free_of_block H1.oi.o 0
  have hlt := lt_of_block H1.oi.o
  have k0 : ∀ w', Keeps w1 w' → w'.cell? ⟨go_, 0, none⟩ = some (.slice (some ⟨ga, 0, none⟩) (j + 1) c) := fun w' h => h.cell hlt c1
  have k1 : ∀ w', Keeps w1 w' → w'.frozen? ⟨go_, 0, none⟩ = false := fun w' h => h.frozen hlt f1
  have hi1 := i64n j (by have := H1.j2; omega)
  have hi2 := w64m j (by have := H1.j2; omega)
  have hjc : (j : Int) ≤ c := by have := H1.jc; omega
  have HH1 : Hid (OpenAt w1 B go_ ge n e0 false t e d ga c j) := H1
  clear c1 f1 H1 HH hj1 c0 hlt
  go_wp2_with fail
  refine region_qtail (C := Keeps w1) 14 (by kernel_rfl) (by kernel_rfl) (Keeps.drew w1) ?_
  (iterate 14
    (apply wpQuiet_go _ (by rfl)
     · intro wq hq
       go_simp
       first
         | exact rfl
     simp only [Act.put, List.setIfInBounds_toArray, List.set_cons_succ, List.set_cons_zero]))
  refine wpQuiet_nil ?_
  intro wz hk
  have H2 := HH1.out.oi.keep hk.below
  have cz := k0 _ hk
  have fz := k1 _ hk
  have hrow := H2.popRow (by rw [HH1.out.len])
  rw [HH1.out.len] at hrow
  have H3 : Hid (OI (wz.setCell ⟨go_, 0, none⟩ (.slice (some ⟨ga, 0, none⟩) j c)) B go_ ge n t e d (.slice (some ⟨ga, 0, none⟩) j c)) := by
    have h9 := HH1.out.len
    exact H2.setO (by rw [h9]; exact hrow)
  have hsz1 : B ≤ w1.heap.size := by have := hbB.out.size; omega
  have hbz : Hid (Below B w (wz.setCell ⟨go_, 0, none⟩ (.slice (some ⟨ga, 0, none⟩) j c))) := (hbB.out.trans (hk.below.mono hsz1)).setCell H2.oB _
  clear hk k0 k1 H2 hrow
  go_wp2
  go_ret
  exact ⟨rfl, H3.out, hbz.out⟩

set_option maxRecDepth 100000 in
set_option maxHeartbeats 1600000 in
theorem open_if (B go_ ge n e0 : Nat) (t : List (Nat × Bool)) (e : Nat → Nat) (d ga c j : Nat) (op : Int) (w : World) (h : OpenAt w B go_ ge n e0 true t e d ga c j) (hj : 0 < j) (hop : (op == 4) = true) :
    Calls Tryz.prog 84 #[.pointer (some ⟨go_, 0, none⟩), .int .i64 op] w fun r w' => r = .returned (.bool true) ∧ OI w' B go_ ge n t e d (.slice (some ⟨ga, 0, none⟩) j c) ∧ Below B w w' := by
  have hb0 := h.oi.o
  have c0 : w.cell? ⟨go_, 0, none⟩ = some (.slice (some ⟨ga, 0, none⟩) (j + 1) c) := by rw [cell_of_block hb0]; rfl
  have hj1 : ((j : Int) + 1 == 1) = false := by simp; omega
  have HH : Hid (OpenAt w B go_ ge n e0 true t e d ga c j) := h
  have HI : Hid (Calls Tryz.prog 65 #[.pointer (some ⟨go_, 0, none⟩)] w fun e w' => e = .returned (.pointer (some ⟨ga, j * 2, none⟩)) ∧ Below w.heap.size w w') := innermost_at go_ ga j c _ _ w hb0 h.j2
  clear h hb0
  go_enter Tryz.func84, Tryz.ntmps84
  go_wp2_with fail
  refine HI.out.mono ?_
  rintro e1 w1 ⟨rfl, hb1⟩
  have H1 : OpenAt w1 B go_ ge n e0 true t e d ga c j := ⟨HH.out.oi.keep hb1, HH.out.len, HH.out.j2, HH.out.jc⟩
  have cd := H1.cells.2.1
  have hBs : B ≤ w.heap.size := by have h1 := lt_of_block HH.out.oi.o; have h2 := HH.out.oi.oB; omega
  have hbB : Hid (Below B w w1) := hb1.mono hBs
  clear hb1 HI
  have c1 : w1.cell? ⟨go_, 0, none⟩ = some (.slice (some ⟨ga, 0, none⟩) (j + 1) c) := by rw [cell_of_block H1.oi.o]; rfl
  have f1 : w1.frozen? ⟨go_, 0, none⟩ = false := free_of_block H1.oi.o 0
  have hlt := lt_of_block H1.oi.o
  have k0 : ∀ w', Keeps w1 w' → w'.cell? ⟨go_, 0, none⟩ = some (.slice (some ⟨ga, 0, none⟩) (j + 1) c) := fun w' h => h.cell hlt c1
  have k1 : ∀ w', Keeps w1 w' → w'.frozen? ⟨go_, 0, none⟩ = false := fun w' h => h.frozen hlt f1
  have hi1 := i64n j (by have := H1.j2; omega)
  have hi2 := w64m j (by have := H1.j2; omega)
  have hjc : (j : Int) ≤ c := by have := H1.jc; omega
  have HH1 : Hid (OpenAt w1 B go_ ge n e0 true t e d ga c j) := H1
  clear c1 f1 H1 HH hj1 c0 hlt
  go_wp2_with fail
  refine region_qtail (C := Keeps w1) 14 (by kernel_rfl) (by kernel_rfl) (Keeps.drew w1) ?_
  (iterate 14
    (apply wpQuiet_go _ (by rfl)
     · intro wq hq
       go_simp
       first
         | exact rfl
     simp only [Act.put, List.setIfInBounds_toArray, List.set_cons_succ, List.set_cons_zero]))
  refine wpQuiet_nil ?_
  intro wz hk
  have H2 := HH1.out.oi.keep hk.below
  have cz := k0 _ hk
  have fz := k1 _ hk
  have hrow := H2.popRow (by rw [HH1.out.len])
  rw [HH1.out.len] at hrow
  have H3 : Hid (OI (wz.setCell ⟨go_, 0, none⟩ (.slice (some ⟨ga, 0, none⟩) j c)) B go_ ge n t e d (.slice (some ⟨ga, 0, none⟩) j c)) := by
    have h9 := HH1.out.len
    exact H2.setO (by rw [h9]; exact hrow)
  have hsz1 : B ≤ w1.heap.size := by have := hbB.out.size; omega
  have hbz : Hid (Below B w (wz.setCell ⟨go_, 0, none⟩ (.slice (some ⟨ga, 0, none⟩) j c))) := (hbB.out.trans (hk.below.mono hsz1)).setCell H2.oB _
  clear hk k0 k1 H2 hrow
  go_wp2
  go_ret
  exact ⟨rfl, H3.out, hbz.out⟩

end Go.Proofs.YtcgnefgdfgikdaaGreat

namespace Go.Proofs.YtcgnefgdfgikdaaGreat
open Go.ChangeShapes Go.WideShapes Go.ChangeAt Go.RowKit

theorem Tryz.infoBl : (Tryz.prog.info? 105).map (fun i => (i.zero, i.size, i.bytes)) = some (some (.agg #[.int .i64 0, .bool false]), 2, 16) := by kernel_rfl
theorem pair_new (w : World) (x y : Value) (t : TypeId) (g : Nat) (hg : g = w.heap.size) : ∀ j u, [x, y][j]? = some u → (w.alloc (.cells #[x, y] t)).cell? ((⟨g, 0, none⟩ : Addr).add j) = some u := by
  subst hg
  intro j u hj
  match j, hj with
  | 0, hj => simp at hj; subst hj; simp [Addr.add]
  | 1, hj => simp at hj; subst hj; simp [Addr.add]

set_option maxRecDepth 100000 in
set_option maxHeartbeats 3200000 in
theorem meet_other (B go_ ge n k x : Nat) (dd : Bool) (t : List (Nat × Bool)) (e : Nat → Nat) (d ga c j : Nat) (op : Int) (w : World) (h : OpenAt w B go_ ge n x dd t e d ga c j) (hk : k < n) (hr : role op = 0) :
    Calls Tryz.prog 64 #[.pointer (some ⟨go_, 0, none⟩), .int .i64 (k : Int), .int .i64 op] w fun r w' => r = .returned (.bool true) ∧ OI w' B go_ ge n ((x, dd) :: t) (fun q => if q = k then x else e q) d (.slice (some ⟨ga, 0, none⟩) (j + 1) c) ∧ Below B w w' := by
  have R := roleOf_eq op
  rw [hr] at R
  have HH : Hid (OpenAt w B go_ ge n x dd t e d ga c j) := h
  have HBW : Hid (Below B w w) := Below.refl _ _
  have R' : Hid (∀ w : World, Calls Tryz.prog 83 #[.int .i64 op] w fun e w' => e = .returned (.int .i64 0) ∧ w' = w) := R
  clear R h
  go_enter Tryz.func64, Tryz.ntmps64
  go_wp2_with fail
  refine (R'.out _).mono ?_
  rintro r0 w0 ⟨rfl, hw0⟩
  obtain rfl := hw0.symm
  clear R' hw0
  have HI : Hid (Calls Tryz.prog 65 #[.pointer (some ⟨go_, 0, none⟩)] w fun e w' => e = .returned (.pointer (some ⟨ga, j * 2, none⟩)) ∧ Below w.heap.size w w') := innermost_at go_ ga j c _ _ w HH.out.oi.o HH.out.j2
  go_wp2_with fail
  refine HI.out.mono ?_
  rintro r1 w1 ⟨rfl, hb1⟩
  have H1 : OpenAt w1 B go_ ge n x dd t e d ga c j := ⟨HH.out.oi.keep hb1, HH.out.len, HH.out.j2, HH.out.jc⟩
  have hBs : B ≤ w.heap.size := by have h1 := lt_of_block HH.out.oi.o; have h2 := HH.out.oi.oB; omega
  have hbB : Hid (Below B w w1) := HBW.out.trans (hb1.mono hBs)
  have hlo := lt_of_block H1.oi.o
  have hle := lt_of_block H1.oi.en
  have hla : ga < w1.heap.size := by obtain ⟨cur, hc, _⟩ := own_at H1.oi.ar (g := ga) rfl; exact lt_of_block hc
  have c1 : w1.cell? ⟨go_, 1, none⟩ = some (.slice (some ⟨ge, 0, none⟩) n n) := by rw [cell_of_block H1.oi.o]; rfl
  have c2 := H1.cells.1.1
  have c3 : w1.cell? ⟨ge, k, none⟩ = some (.int .i64 ((e k : Nat) : Int)) := by rw [cell_of_block H1.oi.en]; simp [outRow, hk]
  have f3 : w1.frozen? ⟨ge, k, none⟩ = false := free_of_block H1.oi.en k
  have k1 : ∀ w', Keeps w1 w' → w'.cell? ⟨go_, 1, none⟩ = some (.slice (some ⟨ge, 0, none⟩) n n) := fun w' h => h.cell hlo c1
  have k2 : ∀ w', Keeps w1 w' → w'.cell? ⟨ga, j * 2, none⟩ = some (.int .i64 (x : Int)) := fun w' h => h.cell hla c2
  have k3 : ∀ w', Keeps w1 w' → w'.cell? ⟨ge, k, none⟩ = some (.int .i64 ((e k : Nat) : Int)) := fun w' h => h.cell hle c3
  have y3 : ∀ w', Keeps w1 w' → w'.frozen? ⟨ge, k, none⟩ = false := fun w' h => h.frozen hle f3
  have hki : (k : Int) < n := by omega
  have HH1 : Hid (OpenAt w1 B go_ ge n x dd t e d ga c j) := H1
  have hBw1 : B ≤ w1.heap.size := by have h2 := H1.oi.oB; omega
  clear c1 c2 c3 f3 H1 HI hb1 hBs HH HBW hlo hle hla
  go_wp2_with fail
  refine region_qtail (C := Keeps w1) 10 (by kernel_rfl) (by kernel_rfl) (Keeps.drew w1) ?_
  (iterate 10
    (apply wpQuiet_go _ (by rfl)
     · intro wq hq
       go_simp
       first
         | exact rfl
     simp only [Act.put, List.setIfInBounds_toArray, List.set_cons_succ, List.set_cons_zero]))
  refine wpQuiet_nil ?_
  intro wz hkz
  have cz := k3 _ hkz
  have fz := y3 _ hkz
  have HZ0 := HH1.out.oi.keep hkz.below
  have HZ : Hid (OpenAt (wz.setCell ⟨ge, k, none⟩ (.int .i64 (x : Int))) B go_ ge n x dd t (fun q => if q = k then x else e q) d ga c j) := ⟨HZ0.setE k x, HH1.out.len, HH1.out.j2, HH1.out.jc⟩
  have HBZ : Hid (Below B w (wz.setCell ⟨ge, k, none⟩ (.int .i64 (x : Int)))) := (hbB.out.trans (hkz.below.mono hBw1)).setCell HZ0.eB _
  clear hkz k1 k2 k3 y3 HZ0 HH1 hbB
  go_wp2
  go_ret
  exact ⟨rfl, HZ.out.oi, HBZ.out⟩

set_option maxRecDepth 100000 in
set_option maxHeartbeats 3200000 in
theorem meet_else (B go_ ge n k x : Nat) (dd : Bool) (t : List (Nat × Bool)) (e : Nat → Nat) (d ga c j : Nat) (op : Int) (w : World) (h : OpenAt w B go_ ge n x dd t e d ga c j) (hk : k < n) (hr : role op = 2) :
    Calls Tryz.prog 64 #[.pointer (some ⟨go_, 0, none⟩), .int .i64 (k : Int), .int .i64 op] w fun r w' => r = .returned (.bool (!dd)) ∧ OI w' B go_ ge n ((x, true) :: t) (fun q => if q = k then x else e q) d (.slice (some ⟨ga, 0, none⟩) (j + 1) c) ∧ Below B w w' := by
  have R := roleOf_eq op
  rw [hr] at R
  have HH : Hid (OpenAt w B go_ ge n x dd t e d ga c j) := h
  have HBW : Hid (Below B w w) := Below.refl _ _
  have R' : Hid (∀ w : World, Calls Tryz.prog 83 #[.int .i64 op] w fun e w' => e = .returned (.int .i64 2) ∧ w' = w) := R
  clear R h
  go_enter Tryz.func64, Tryz.ntmps64
  go_wp2_with fail
  refine (R'.out _).mono ?_
  rintro r0 w0 ⟨rfl, hw0⟩
  obtain rfl := hw0.symm
  clear R' hw0
  have HI : Hid (Calls Tryz.prog 65 #[.pointer (some ⟨go_, 0, none⟩)] w fun e w' => e = .returned (.pointer (some ⟨ga, j * 2, none⟩)) ∧ Below w.heap.size w w') := innermost_at go_ ga j c _ _ w HH.out.oi.o HH.out.j2
  go_wp2_with fail
  refine HI.out.mono ?_
  rintro r1 w1 ⟨rfl, hb1⟩
  have H1 : OpenAt w1 B go_ ge n x dd t e d ga c j := ⟨HH.out.oi.keep hb1, HH.out.len, HH.out.j2, HH.out.jc⟩
  have hBs : B ≤ w.heap.size := by have h1 := lt_of_block HH.out.oi.o; have h2 := HH.out.oi.oB; omega
  have hbB : Hid (Below B w w1) := HBW.out.trans (hb1.mono hBs)
  have hlo := lt_of_block H1.oi.o
  have hle := lt_of_block H1.oi.en
  have hla : ga < w1.heap.size := by obtain ⟨cur, hc, _⟩ := own_at H1.oi.ar (g := ga) rfl; exact lt_of_block hc
  have c1 : w1.cell? ⟨go_, 1, none⟩ = some (.slice (some ⟨ge, 0, none⟩) n n) := by rw [cell_of_block H1.oi.o]; rfl
  have c2 := H1.cells.1.1
  have c3 : w1.cell? ⟨ge, k, none⟩ = some (.int .i64 ((e k : Nat) : Int)) := by rw [cell_of_block H1.oi.en]; simp [outRow, hk]
  have f3 : w1.frozen? ⟨ge, k, none⟩ = false := free_of_block H1.oi.en k
  have k1 : ∀ w', Keeps w1 w' → w'.cell? ⟨go_, 1, none⟩ = some (.slice (some ⟨ge, 0, none⟩) n n) := fun w' h => h.cell hlo c1
  have k2 : ∀ w', Keeps w1 w' → w'.cell? ⟨ga, j * 2, none⟩ = some (.int .i64 (x : Int)) := fun w' h => h.cell hla c2
  have k3 : ∀ w', Keeps w1 w' → w'.cell? ⟨ge, k, none⟩ = some (.int .i64 ((e k : Nat) : Int)) := fun w' h => h.cell hle c3
  have y3 : ∀ w', Keeps w1 w' → w'.frozen? ⟨ge, k, none⟩ = false := fun w' h => h.frozen hle f3
  have hki : (k : Int) < n := by omega
  have HH1 : Hid (OpenAt w1 B go_ ge n x dd t e d ga c j) := H1
  have hBw1 : B ≤ w1.heap.size := by have h2 := H1.oi.oB; omega
  clear c1 c2 c3 f3 H1 HI hb1 hBs HH HBW hlo hle hla
  go_wp2_with fail
  refine region_qtail (C := Keeps w1) 10 (by kernel_rfl) (by kernel_rfl) (Keeps.drew w1) ?_
  (iterate 10
    (apply wpQuiet_go _ (by rfl)
     · intro wq hq
       go_simp
       first
         | exact rfl
     simp only [Act.put, List.setIfInBounds_toArray, List.set_cons_succ, List.set_cons_zero]))
  refine wpQuiet_nil ?_
  intro wz hkz
  have cz := k3 _ hkz
  have fz := y3 _ hkz
  have HZ0 := HH1.out.oi.keep hkz.below
  have HZ : Hid (OpenAt (wz.setCell ⟨ge, k, none⟩ (.int .i64 (x : Int))) B go_ ge n x dd t (fun q => if q = k then x else e q) d ga c j) := ⟨HZ0.setE k x, HH1.out.len, HH1.out.j2, HH1.out.jc⟩
  have HBZ : Hid (Below B w (wz.setCell ⟨ge, k, none⟩ (.int .i64 (x : Int)))) := (hbB.out.trans (hkz.below.mono hBw1)).setCell HZ0.eB _
  clear hkz k1 k2 k3 y3 HZ0 HH1 hbB
  obtain ⟨wy, hwy⟩ : ∃ wy, wz.setCell ⟨ge, k, none⟩ (.int .i64 (x : Int)) = wy := ⟨_, rfl⟩
  rw [hwy] at HZ HBZ
  have cd := HZ.out.cells.2.1
  have fd := HZ.out.cells.2.2
  have HY : Hid (OI (wy.setCell ⟨ga, j * 2 + 1, none⟩ (.bool true)) B go_ ge n ((x, true) :: t) (fun q => if q = k then x else e q) d (.slice (some ⟨ga, 0, none⟩) (j + 1) c)) := by
    have h9 := HZ.out.oi.setA (b' := true) (by rw [HZ.out.len])
    rw [HZ.out.len] at h9
    exact h9
  have hBy : Hid (Below B w (wy.setCell ⟨ga, j * 2 + 1, none⟩ (.bool true))) := HBZ.out.setCell (by obtain ⟨cur, hc, hB⟩ := own_at HZ.out.oi.ar (g := ga) rfl; exact hB) _
  clear HZ HBZ
  go_wp2
  go_ret
  exact ⟨rfl, HY.out, hBy.out⟩

set_option maxRecDepth 100000 in
set_option maxHeartbeats 3200000 in
theorem meet_first (B go_ ge n k x : Nat) (dd : Bool) (t : List (Nat × Bool)) (e : Nat → Nat) (d ga c j : Nat) (op : Int) (w : World) (h : OpenAt w B go_ ge n x dd t e d ga c j) (hk : k < n) (hr : role op = 1) (hj0 : Hid (j = 0)) :
    Calls Tryz.prog 64 #[.pointer (some ⟨go_, 0, none⟩), .int .i64 (k : Int), .int .i64 op] w fun r w' => r = .returned (.bool false) ∧ Below B w w' := by
  have R := roleOf_eq op
  rw [hr] at R
  have HH : Hid (OpenAt w B go_ ge n x dd t e d ga c j) := h
  have HBW : Hid (Below B w w) := Below.refl _ _
  have R' : Hid (∀ w : World, Calls Tryz.prog 83 #[.int .i64 op] w fun e w' => e = .returned (.int .i64 1) ∧ w' = w) := R
  clear R h
  go_enter Tryz.func64, Tryz.ntmps64
  go_wp2_with fail
  refine (R'.out _).mono ?_
  rintro r0 w0 ⟨rfl, hw0⟩
  obtain rfl := hw0.symm
  clear R' hw0
  have HI : Hid (Calls Tryz.prog 65 #[.pointer (some ⟨go_, 0, none⟩)] w fun e w' => e = .returned (.pointer (some ⟨ga, j * 2, none⟩)) ∧ Below w.heap.size w w') := innermost_at go_ ga j c _ _ w HH.out.oi.o HH.out.j2
  go_wp2_with fail
  refine HI.out.mono ?_
  rintro r1 w1 ⟨rfl, hb1⟩
  have H1 : OpenAt w1 B go_ ge n x dd t e d ga c j := ⟨HH.out.oi.keep hb1, HH.out.len, HH.out.j2, HH.out.jc⟩
  have hBs : B ≤ w.heap.size := by have h1 := lt_of_block HH.out.oi.o; have h2 := HH.out.oi.oB; omega
  have hbB : Hid (Below B w w1) := HBW.out.trans (hb1.mono hBs)
  have hlo := lt_of_block H1.oi.o
  have hle := lt_of_block H1.oi.en
  have hla : ga < w1.heap.size := by obtain ⟨cur, hc, _⟩ := own_at H1.oi.ar (g := ga) rfl; exact lt_of_block hc
  have c1 : w1.cell? ⟨go_, 1, none⟩ = some (.slice (some ⟨ge, 0, none⟩) n n) := by rw [cell_of_block H1.oi.o]; rfl
  have c2 := H1.cells.1.1
  have c3 : w1.cell? ⟨ge, k, none⟩ = some (.int .i64 ((e k : Nat) : Int)) := by rw [cell_of_block H1.oi.en]; simp [outRow, hk]
  have f3 : w1.frozen? ⟨ge, k, none⟩ = false := free_of_block H1.oi.en k
  have k1 : ∀ w', Keeps w1 w' → w'.cell? ⟨go_, 1, none⟩ = some (.slice (some ⟨ge, 0, none⟩) n n) := fun w' h => h.cell hlo c1
  have k2 : ∀ w', Keeps w1 w' → w'.cell? ⟨ga, j * 2, none⟩ = some (.int .i64 (x : Int)) := fun w' h => h.cell hla c2
  have k3 : ∀ w', Keeps w1 w' → w'.cell? ⟨ge, k, none⟩ = some (.int .i64 ((e k : Nat) : Int)) := fun w' h => h.cell hle c3
  have y3 : ∀ w', Keeps w1 w' → w'.frozen? ⟨ge, k, none⟩ = false := fun w' h => h.frozen hle f3
  have hki : (k : Int) < n := by omega
  have HH1 : Hid (OpenAt w1 B go_ ge n x dd t e d ga c j) := H1
  have hBw1 : B ≤ w1.heap.size := by have h2 := H1.oi.oB; omega
  clear c1 c2 c3 f3 H1 HI hb1 hBs HH HBW hlo hle hla
  go_wp2_with fail
  refine region_qtail (C := Keeps w1) 10 (by kernel_rfl) (by kernel_rfl) (Keeps.drew w1) ?_
  (iterate 10
    (apply wpQuiet_go _ (by rfl)
     · intro wq hq
       go_simp
       first
         | exact rfl
     simp only [Act.put, List.setIfInBounds_toArray, List.set_cons_succ, List.set_cons_zero]))
  refine wpQuiet_nil ?_
  intro wz hkz
  have cz := k3 _ hkz
  have fz := y3 _ hkz
  have HZ0 := HH1.out.oi.keep hkz.below
  have HZ : Hid (OpenAt (wz.setCell ⟨ge, k, none⟩ (.int .i64 (x : Int))) B go_ ge n x dd t (fun q => if q = k then x else e q) d ga c j) := ⟨HZ0.setE k x, HH1.out.len, HH1.out.j2, HH1.out.jc⟩
  have HBZ : Hid (Below B w (wz.setCell ⟨ge, k, none⟩ (.int .i64 (x : Int)))) := (hbB.out.trans (hkz.below.mono hBw1)).setCell HZ0.eB _
  clear hkz k1 k2 k3 y3 HZ0 HH1 hbB
  obtain ⟨wy, hwy⟩ : ∃ wy, wz.setCell ⟨ge, k, none⟩ (.int .i64 (x : Int)) = wy := ⟨_, rfl⟩
  rw [hwy] at HZ HBZ
  have hj1 := hj0.out
  clear hj0
  subst hj1
  have ht : t = [] := List.length_eq_zero_iff.1 HZ.out.len
  subst ht
  have U : Hid (Calls Tryz.prog 84 #[.pointer (some ⟨go_, 0, none⟩), .int .i64 op] wy fun e w' => e = .returned (.bool false) ∧ w' = wy) := open_first B go_ ge n x dd _ d ga c op wy HZ.out
  clear HZ
  go_wp2_with fail
  refine U.out.mono ?_
  rintro r2 w2 ⟨rfl, hw2⟩
  obtain rfl := hw2.symm
  go_wp2
  go_ret
  exact ⟨rfl, HBZ.out⟩

set_option maxRecDepth 100000 in
set_option maxHeartbeats 3200000 in
theorem meet_bad (B go_ ge n k x : Nat) (dd : Bool) (t : List (Nat × Bool)) (e : Nat → Nat) (d ga c j : Nat) (op : Int) (w : World) (h : OpenAt w B go_ ge n x dd t e d ga c j) (hk : k < n) (hr : role op = 1) (hj0 : 0 < j) (hdd : dd = true) (hop : (op == 4) = false) :
    Calls Tryz.prog 64 #[.pointer (some ⟨go_, 0, none⟩), .int .i64 (k : Int), .int .i64 op] w fun r w' => r = .returned (.bool false) ∧ Below B w w' := by
  have R := roleOf_eq op
  rw [hr] at R
  have HH : Hid (OpenAt w B go_ ge n x dd t e d ga c j) := h
  have HBW : Hid (Below B w w) := Below.refl _ _
  have R' : Hid (∀ w : World, Calls Tryz.prog 83 #[.int .i64 op] w fun e w' => e = .returned (.int .i64 1) ∧ w' = w) := R
  clear R h
  go_enter Tryz.func64, Tryz.ntmps64
  go_wp2_with fail
  refine (R'.out _).mono ?_
  rintro r0 w0 ⟨rfl, hw0⟩
  obtain rfl := hw0.symm
  clear R' hw0
  have HI : Hid (Calls Tryz.prog 65 #[.pointer (some ⟨go_, 0, none⟩)] w fun e w' => e = .returned (.pointer (some ⟨ga, j * 2, none⟩)) ∧ Below w.heap.size w w') := innermost_at go_ ga j c _ _ w HH.out.oi.o HH.out.j2
  go_wp2_with fail
  refine HI.out.mono ?_
  rintro r1 w1 ⟨rfl, hb1⟩
  have H1 : OpenAt w1 B go_ ge n x dd t e d ga c j := ⟨HH.out.oi.keep hb1, HH.out.len, HH.out.j2, HH.out.jc⟩
  have hBs : B ≤ w.heap.size := by have h1 := lt_of_block HH.out.oi.o; have h2 := HH.out.oi.oB; omega
  have hbB : Hid (Below B w w1) := HBW.out.trans (hb1.mono hBs)
  have hlo := lt_of_block H1.oi.o
  have hle := lt_of_block H1.oi.en
  have hla : ga < w1.heap.size := by obtain ⟨cur, hc, _⟩ := own_at H1.oi.ar (g := ga) rfl; exact lt_of_block hc
  have c1 : w1.cell? ⟨go_, 1, none⟩ = some (.slice (some ⟨ge, 0, none⟩) n n) := by rw [cell_of_block H1.oi.o]; rfl
  have c2 := H1.cells.1.1
  have c3 : w1.cell? ⟨ge, k, none⟩ = some (.int .i64 ((e k : Nat) : Int)) := by rw [cell_of_block H1.oi.en]; simp [outRow, hk]
  have f3 : w1.frozen? ⟨ge, k, none⟩ = false := free_of_block H1.oi.en k
  have k1 : ∀ w', Keeps w1 w' → w'.cell? ⟨go_, 1, none⟩ = some (.slice (some ⟨ge, 0, none⟩) n n) := fun w' h => h.cell hlo c1
  have k2 : ∀ w', Keeps w1 w' → w'.cell? ⟨ga, j * 2, none⟩ = some (.int .i64 (x : Int)) := fun w' h => h.cell hla c2
  have k3 : ∀ w', Keeps w1 w' → w'.cell? ⟨ge, k, none⟩ = some (.int .i64 ((e k : Nat) : Int)) := fun w' h => h.cell hle c3
  have y3 : ∀ w', Keeps w1 w' → w'.frozen? ⟨ge, k, none⟩ = false := fun w' h => h.frozen hle f3
  have hki : (k : Int) < n := by omega
  have HH1 : Hid (OpenAt w1 B go_ ge n x dd t e d ga c j) := H1
  have hBw1 : B ≤ w1.heap.size := by have h2 := H1.oi.oB; omega
  clear c1 c2 c3 f3 H1 HI hb1 hBs HH HBW hlo hle hla
  go_wp2_with fail
  refine region_qtail (C := Keeps w1) 10 (by kernel_rfl) (by kernel_rfl) (Keeps.drew w1) ?_
  (iterate 10
    (apply wpQuiet_go _ (by rfl)
     · intro wq hq
       go_simp
       first
         | exact rfl
     simp only [Act.put, List.setIfInBounds_toArray, List.set_cons_succ, List.set_cons_zero]))
  refine wpQuiet_nil ?_
  intro wz hkz
  have cz := k3 _ hkz
  have fz := y3 _ hkz
  have HZ0 := HH1.out.oi.keep hkz.below
  have HZ : Hid (OpenAt (wz.setCell ⟨ge, k, none⟩ (.int .i64 (x : Int))) B go_ ge n x dd t (fun q => if q = k then x else e q) d ga c j) := ⟨HZ0.setE k x, HH1.out.len, HH1.out.j2, HH1.out.jc⟩
  have HBZ : Hid (Below B w (wz.setCell ⟨ge, k, none⟩ (.int .i64 (x : Int)))) := (hbB.out.trans (hkz.below.mono hBw1)).setCell HZ0.eB _
  clear hkz k1 k2 k3 y3 HZ0 HH1 hbB
  obtain ⟨wy, hwy⟩ : ∃ wy, wz.setCell ⟨ge, k, none⟩ (.int .i64 (x : Int)) = wy := ⟨_, rfl⟩
  rw [hwy] at HZ HBZ
  subst hdd
  have U : Hid (Calls Tryz.prog 84 #[.pointer (some ⟨go_, 0, none⟩), .int .i64 op] wy fun e w' => e = .returned (.bool false) ∧ Below B wy w') := open_bad B go_ ge n x t _ d ga c j op wy HZ.out hj0 hop
  clear HZ
  go_wp2_with fail
  refine U.out.mono ?_
  rintro r2 w2 ⟨rfl, hb2⟩
  go_wp2
  go_ret
  exact ⟨rfl, HBZ.out.trans hb2⟩

set_option maxRecDepth 100000 in
set_option maxHeartbeats 3200000 in
theorem meet_open (B go_ ge n k x : Nat) (dd : Bool) (t : List (Nat × Bool)) (e : Nat → Nat) (d ga c j : Nat) (op : Int) (w : World) (h : OpenAt w B go_ ge n x dd t e d ga c j) (hk : k < n) (hr : role op = 1) (hj0 : 0 < j) (hdd : dd = false ∨ (op == 4) = true) :
    Calls Tryz.prog 64 #[.pointer (some ⟨go_, 0, none⟩), .int .i64 (k : Int), .int .i64 op] w fun r w' => r = .returned (.bool true) ∧ OI w' B go_ ge n t (fun q => if q = k then x else e q) d (.slice (some ⟨ga, 0, none⟩) j c) ∧ Below B w w' := by
  have R := roleOf_eq op
  rw [hr] at R
  have HH : Hid (OpenAt w B go_ ge n x dd t e d ga c j) := h
  have HBW : Hid (Below B w w) := Below.refl _ _
  have R' : Hid (∀ w : World, Calls Tryz.prog 83 #[.int .i64 op] w fun e w' => e = .returned (.int .i64 1) ∧ w' = w) := R
  clear R h
  go_enter Tryz.func64, Tryz.ntmps64
  go_wp2_with fail
  refine (R'.out _).mono ?_
  rintro r0 w0 ⟨rfl, hw0⟩
  obtain rfl := hw0.symm
  clear R' hw0
  have HI : Hid (Calls Tryz.prog 65 #[.pointer (some ⟨go_, 0, none⟩)] w fun e w' => e = .returned (.pointer (some ⟨ga, j * 2, none⟩)) ∧ Below w.heap.size w w') := innermost_at go_ ga j c _ _ w HH.out.oi.o HH.out.j2
  go_wp2_with fail
  refine HI.out.mono ?_
  rintro r1 w1 ⟨rfl, hb1⟩
  have H1 : OpenAt w1 B go_ ge n x dd t e d ga c j := ⟨HH.out.oi.keep hb1, HH.out.len, HH.out.j2, HH.out.jc⟩
  have hBs : B ≤ w.heap.size := by have h1 := lt_of_block HH.out.oi.o; have h2 := HH.out.oi.oB; omega
  have hbB : Hid (Below B w w1) := HBW.out.trans (hb1.mono hBs)
  have hlo := lt_of_block H1.oi.o
  have hle := lt_of_block H1.oi.en
  have hla : ga < w1.heap.size := by obtain ⟨cur, hc, _⟩ := own_at H1.oi.ar (g := ga) rfl; exact lt_of_block hc
  have c1 : w1.cell? ⟨go_, 1, none⟩ = some (.slice (some ⟨ge, 0, none⟩) n n) := by rw [cell_of_block H1.oi.o]; rfl
  have c2 := H1.cells.1.1
  have c3 : w1.cell? ⟨ge, k, none⟩ = some (.int .i64 ((e k : Nat) : Int)) := by rw [cell_of_block H1.oi.en]; simp [outRow, hk]
  have f3 : w1.frozen? ⟨ge, k, none⟩ = false := free_of_block H1.oi.en k
  have k1 : ∀ w', Keeps w1 w' → w'.cell? ⟨go_, 1, none⟩ = some (.slice (some ⟨ge, 0, none⟩) n n) := fun w' h => h.cell hlo c1
  have k2 : ∀ w', Keeps w1 w' → w'.cell? ⟨ga, j * 2, none⟩ = some (.int .i64 (x : Int)) := fun w' h => h.cell hla c2
  have k3 : ∀ w', Keeps w1 w' → w'.cell? ⟨ge, k, none⟩ = some (.int .i64 ((e k : Nat) : Int)) := fun w' h => h.cell hle c3
  have y3 : ∀ w', Keeps w1 w' → w'.frozen? ⟨ge, k, none⟩ = false := fun w' h => h.frozen hle f3
  have hki : (k : Int) < n := by omega
  have HH1 : Hid (OpenAt w1 B go_ ge n x dd t e d ga c j) := H1
  have hBw1 : B ≤ w1.heap.size := by have h2 := H1.oi.oB; omega
  clear c1 c2 c3 f3 H1 HI hb1 hBs HH HBW hlo hle hla
  go_wp2_with fail
  refine region_qtail (C := Keeps w1) 10 (by kernel_rfl) (by kernel_rfl) (Keeps.drew w1) ?_
  (iterate 10
    (apply wpQuiet_go _ (by rfl)
     · intro wq hq
       go_simp
       first
         | exact rfl
     simp only [Act.put, List.setIfInBounds_toArray, List.set_cons_succ, List.set_cons_zero]))
  refine wpQuiet_nil ?_
  intro wz hkz
  have cz := k3 _ hkz
  have fz := y3 _ hkz
  have HZ0 := HH1.out.oi.keep hkz.below
  have HZ : Hid (OpenAt (wz.setCell ⟨ge, k, none⟩ (.int .i64 (x : Int))) B go_ ge n x dd t (fun q => if q = k then x else e q) d ga c j) := ⟨HZ0.setE k x, HH1.out.len, HH1.out.j2, HH1.out.jc⟩
  have HBZ : Hid (Below B w (wz.setCell ⟨ge, k, none⟩ (.int .i64 (x : Int)))) := (hbB.out.trans (hkz.below.mono hBw1)).setCell HZ0.eB _
  clear hkz k1 k2 k3 y3 HZ0 HH1 hbB
  obtain ⟨wy, hwy⟩ : ∃ wy, wz.setCell ⟨ge, k, none⟩ (.int .i64 (x : Int)) = wy := ⟨_, rfl⟩
  rw [hwy] at HZ HBZ
  have U : Hid (Calls Tryz.prog 84 #[.pointer (some ⟨go_, 0, none⟩), .int .i64 op] wy fun r w' => r = .returned (.bool true) ∧ OI w' B go_ ge n t (fun q => if q = k then x else e q) d (.slice (some ⟨ga, 0, none⟩) j c) ∧ Below B wy w') := by
    cases dd with
    | false => exact open_plain B go_ ge n x t _ d ga c j op wy HZ.out hj0
    | true => exact open_if B go_ ge n x t _ d ga c j op wy HZ.out hj0 (hdd.resolve_left (by simp))
  clear HZ
  go_wp2_with fail
  refine U.out.mono ?_
  rintro r2 w2 ⟨rfl, hO2, hb2⟩
  have HO2 : Hid (OI w2 B go_ ge n t (fun q => if q = k then x else e q) d (.slice (some ⟨ga, 0, none⟩) j c)) := hO2
  clear hO2
  go_wp2
  go_ret
  exact ⟨rfl, HO2.out, HBZ.out.trans hb2⟩

set_option maxRecDepth 100000 in
set_option maxHeartbeats 3200000 in
theorem meet_end (B go_ ge n k : Nat) (st : List (Nat × Bool)) (e : Nat → Nat) (d : Nat) (va : Value) (op : Int) (w : World) (h : OI w B go_ ge n st e d va) (hk : k < n) (hr : role op = 3) (hst : st.length ≤ 200) :
    Calls Tryz.prog 64 #[.pointer (some ⟨go_, 0, none⟩), .int .i64 (k : Int), .int .i64 op] w fun r w' => ∃ ga c, r = .returned (.bool true) ∧ OI w' B go_ ge n ((k, false) :: st) (fun q => if q = k then k else e q) (max d (st.length + 1)) (.slice (some ⟨ga, 0, none⟩) (st.length + 1) c) ∧ Below B w w' := by
  have R := roleOf_eq op
  rw [hr] at R
  obtain ⟨b0, b0i, b00, b01, b02⟩ := info_parts Tryz.infoBl
  obtain ⟨z, hz⟩ : ∃ z, w.heap.size = z := ⟨_, rfl⟩
  obtain ⟨j, hj⟩ : ∃ j, st.length = j := ⟨_, rfl⟩
  have HI0 : Hid (OI w B go_ ge n st e d va) := h
  have co : w.cell? ⟨go_, 0, none⟩ = some va := by rw [cell_of_block h.o]; rfl
  have har := h.ar
  rw [hj] at har
  have HAR : Hid (w.ownsRow B 105 2 va j (av st.reverse)) := har
  have HJ : Hid (st.length = j ∧ j ≤ 200) := ⟨hj, by omega⟩
  have hBz : B ≤ z := by have h1 := lt_of_block h.o; have h2 := h.oB; omega
  have R' : Hid (∀ w : World, Calls Tryz.prog 83 #[.int .i64 op] w fun e w' => e = .returned (.int .i64 3) ∧ w' = w) := R
  rw [hj]
  clear R h har hst hj
  go_enter Tryz.func64, Tryz.ntmps64
  go_wp2_with (first | (go_at_call 83; refine (R'.out _).mono ?_; rintro r0 w0 ⟨rfl, hw0⟩; obtain rfl := hw0.symm; clear R') | (at_builtin; refine wpList_append_lies _ rfl _ _ 86 rfl B 105 b0 (.agg #[.int .i64 0, .bool false]) 2 16 Tryz.underlying86 b0i b00 b01 b02 rfl (by decide) _ _ _ rfl ((HAR.out).alloc _) ⟨z, 0, none⟩ 1 1 [.int .i64 (k : Int), .bool false] rfl rfl (pair_new _ _ _ _ _ hz.symm) (by intro u hu; simp at hu; rcases hu with rfl | rfl <;> rfl) (by decide) (by have := HJ.out; unfold maxLen; omega) (by have := HJ.out; omega) (by simp; omega) (z + 1) (by simp; omega) ?_))
  intro ga c w3 hown3 hgrow3 hlie3 hlt3
  have HO3 : Hid (OI w3 B go_ ge n st e d va ∨ True) := Or.inr trivial
  have ho3 : w3.heap[go_]? = some (.cells #[va, .slice (some ⟨ge, 0, none⟩) n n, .int .i64 (d : Int)] 88 (0, 0)) := grown_other ((HAR.out).alloc _) hgrow3 ((Below.heap_alloc _ _ _ (lt_of_block HI0.out.o)).trans HI0.out.o) (by decide)
  have he3 : w3.heap[ge]? = some (.cells (outRow e n) 3 (0, 0)) := grown_other ((HAR.out).alloc _) hgrow3 ((Below.heap_alloc _ _ _ (lt_of_block HI0.out.en)).trans HI0.out.en) (by decide)
  have har3 : w3.ownsRow B 105 2 (.slice (some ⟨ga, 0, none⟩) (j + 1) c) ((k, false) :: st).length (av ((k, false) :: st).reverse) := by
    rw [List.length_cons, HJ.out.1, List.reverse_cons, av_app]; exact hown3
  have K4 : ∀ q, q ≠ go_ → (w3.setCell ⟨go_, 0, none⟩ (.slice (some ⟨ga, 0, none⟩) (j + 1) c)).heap[q]? = w3.heap[q]? := fun q hq => heap_setCell_other _ _ _ _ hq
  have H4 : OI (w3.setCell ⟨go_, 0, none⟩ (.slice (some ⟨ga, 0, none⟩) (j + 1) c)) B go_ ge n ((k, false) :: st) e d (.slice (some ⟨ga, 0, none⟩) (j + 1) c) :=
    ⟨heap_setCell_same _ _ _ _ _ _ ho3, (K4 ge fun e2 => apart_types ho3 he3 (by decide) e2.symm).trans he3, own_keep har3 (fun q hq => by obtain ⟨cur, hc, _⟩ := own_at har3 hq; exact K4 q fun e2 => apart_types ho3 hc (by decide) e2.symm), HI0.out.oB, HI0.out.eB⟩
  have hcc : j + 1 ≤ c := by
    obtain ⟨g', c', h1, h2⟩ := own_pos hown3 (by omega)
    simp only [Value.slice.injEq] at h1
    omega
  have co3 : w3.cell? ⟨go_, 0, none⟩ = some va := by rw [cell_of_block ho3]; rfl
  have fo3 : w3.frozen? ⟨go_, 0, none⟩ = false := free_of_block ho3 0
  have hbB3 : Below B w w3 := ((Below.refl B w).alloc (by omega) _).grown hgrow3 (by simp; omega) (ownsRow_block HAR.out)
  obtain ⟨w4, hw4⟩ : ∃ w4, w3.setCell ⟨go_, 0, none⟩ (.slice (some ⟨ga, 0, none⟩) (j + 1) c) = w4 := ⟨_, rfl⟩
  rw [hw4] at H4
  have hbB4 : Below B w w4 := by rw [← hw4]; exact hbB3.setCell HI0.out.oB _
  have hlo := lt_of_block H4.o
  have c0 : w4.cell? ⟨go_, 0, none⟩ = some (.slice (some ⟨ga, 0, none⟩) (j + 1) c) := by rw [cell_of_block H4.o]; rfl
  have c2 : w4.cell? ⟨go_, 2, none⟩ = some (.int .i64 (d : Int)) := by rw [cell_of_block H4.o]; rfl
  have f2 : w4.frozen? ⟨go_, 2, none⟩ = false := free_of_block H4.o 2
  have k0 : ∀ w', Keeps w4 w' → w'.cell? ⟨go_, 0, none⟩ = some (.slice (some ⟨ga, 0, none⟩) (j + 1) c) := fun w' h => h.cell hlo c0
  have k2 : ∀ w', Keeps w4 w' → w'.cell? ⟨go_, 2, none⟩ = some (.int .i64 (d : Int)) := fun w' h => h.cell hlo c2
  have y2 : ∀ w', Keeps w4 w' → w'.frozen? ⟨go_, 2, none⟩ = false := fun w' h => h.frozen hlo f2
  have hBw4 : B ≤ w4.heap.size := by have h2 := H4.oB; omega
  have hmx : (if (d : Int) < (j : Int) + 1 then (j : Int) + 1 else (d : Int)) = ((max d (j + 1) : Nat) : Int) := by split <;> omega
  obtain ⟨D, hD⟩ : ∃ D : Nat, max d (j + 1) = D := ⟨_, rfl⟩
  rw [hD] at hmx
  have HD : Hid (max d (j + 1) = D) := hD
  have HH4 : Hid (OI w4 B go_ ge n ((k, false) :: st) e d (.slice (some ⟨ga, 0, none⟩) (j + 1) c)) := H4
  have HB4 : Hid (Below B w w4) := hbB4
  clear hown3 hgrow3 hlie3 hlt3 HO3 ho3 he3 har3 K4 H4 hbB3 hbB4 c0 c2 f2 hlo co HI0 HAR hD
  go_wp2_with fail
  refine region_qtail (C := Keeps w4) 13 (by kernel_rfl) (by kernel_rfl) (Keeps.drew w4) ?_
  (iterate 13
    (apply wpQuiet_go _ (by rfl)
     · intro wq hq
       go_simp
       first
         | exact rfl
     simp only [Act.put, List.setIfInBounds_toArray, List.set_cons_succ, List.set_cons_zero]))
  refine wpQuiet_nil ?_
  intro wv hkv
  have cv := k2 _ hkv
  have fv := y2 _ hkv
  have HV0 := HH4.out.keep hkv.below
  obtain ⟨wu, hwu⟩ : ∃ wu, wv.setCell ⟨go_, 2, none⟩ (.int .i64 (D : Int)) = wu := ⟨_, rfl⟩
  have HV : Hid (OpenAt wu B go_ ge n k false st e D ga c j) := ⟨by rw [← hwu]; exact HV0.setD D, HJ.out.1, HJ.out.2, hcc⟩
  have HBW : Hid (Below B w wu) := by rw [← hwu]; exact (HB4.out.trans (hkv.below.mono hBw4)).setCell HV0.oB _
  clear hkv k0 k2 y2 HV0 HH4 HB4
  have HI : Hid (Calls Tryz.prog 65 #[.pointer (some ⟨go_, 0, none⟩)] wu fun e w' => e = .returned (.pointer (some ⟨ga, j * 2, none⟩)) ∧ Below wu.heap.size wu w') := innermost_at go_ ga j c _ _ wu HV.out.oi.o HV.out.j2
  go_wp2_with fail
  refine HI.out.mono ?_
  rintro r1 w1 ⟨rfl, hb1⟩
  have H1 : OpenAt w1 B go_ ge n k false st e D ga c j := ⟨HV.out.oi.keep hb1, HV.out.len, HV.out.j2, HV.out.jc⟩
  have hBs : B ≤ wu.heap.size := by have h1 := lt_of_block HV.out.oi.o; have h2 := HV.out.oi.oB; omega
  have hbB : Hid (Below B w w1) := HBW.out.trans (hb1.mono hBs)
  have hlo := lt_of_block H1.oi.o
  have hle := lt_of_block H1.oi.en
  have hla : ga < w1.heap.size := by obtain ⟨cur, hc, _⟩ := own_at H1.oi.ar (g := ga) rfl; exact lt_of_block hc
  have c1 : w1.cell? ⟨go_, 1, none⟩ = some (.slice (some ⟨ge, 0, none⟩) n n) := by rw [cell_of_block H1.oi.o]; rfl
  have c2 := H1.cells.1.1
  have c3 : w1.cell? ⟨ge, k, none⟩ = some (.int .i64 ((e k : Nat) : Int)) := by rw [cell_of_block H1.oi.en]; simp [outRow, hk]
  have f3 : w1.frozen? ⟨ge, k, none⟩ = false := free_of_block H1.oi.en k
  have k1 : ∀ w', Keeps w1 w' → w'.cell? ⟨go_, 1, none⟩ = some (.slice (some ⟨ge, 0, none⟩) n n) := fun w' h => h.cell hlo c1
  have k2 : ∀ w', Keeps w1 w' → w'.cell? ⟨ga, j * 2, none⟩ = some (.int .i64 (k : Int)) := fun w' h => h.cell hla c2
  have k3 : ∀ w', Keeps w1 w' → w'.cell? ⟨ge, k, none⟩ = some (.int .i64 ((e k : Nat) : Int)) := fun w' h => h.cell hle c3
  have y3 : ∀ w', Keeps w1 w' → w'.frozen? ⟨ge, k, none⟩ = false := fun w' h => h.frozen hle f3
  have hki : (k : Int) < n := by omega
  have HH1 : Hid (OpenAt w1 B go_ ge n k false st e D ga c j) := H1
  have hBw1 : B ≤ w1.heap.size := by have h2 := H1.oi.oB; omega
  clear c1 c2 c3 f3 H1 HI hb1 hBs HV HBW hlo hle hla
  go_wp2_with fail
  refine region_qtail (C := Keeps w1) 10 (by kernel_rfl) (by kernel_rfl) (Keeps.drew w1) ?_
  (iterate 10
    (apply wpQuiet_go _ (by rfl)
     · intro wq hq
       go_simp
       first
         | exact rfl
     simp only [Act.put, List.setIfInBounds_toArray, List.set_cons_succ, List.set_cons_zero]))
  refine wpQuiet_nil ?_
  intro wz hkz
  have cz := k3 _ hkz
  have fz := y3 _ hkz
  have HZ0 := HH1.out.oi.keep hkz.below
  have HZ : Hid (OpenAt (wz.setCell ⟨ge, k, none⟩ (.int .i64 (k : Int))) B go_ ge n k false st (fun q => if q = k then k else e q) D ga c j) := ⟨HZ0.setE k k, HH1.out.len, HH1.out.j2, HH1.out.jc⟩
  have HBZ : Hid (Below B w (wz.setCell ⟨ge, k, none⟩ (.int .i64 (k : Int)))) := (hbB.out.trans (hkz.below.mono hBw1)).setCell HZ0.eB _
  clear hkz k1 k2 k3 y3 HZ0 HH1 hbB
  go_wp2
  go_ret
  refine ⟨ga, c, rfl, ?_, HBZ.out⟩
  rw [HD.out]
  exact HZ.out.oi

end Go.Proofs.YtcgnefgdfgikdaaGreat
