/-
  Types as keys of a map.
-/
import Derived.Test.YtnoajihlkjeknaaDoorYRm7
import Derived.Maps.OwnSet
import Derived.Maps.Views
import Derived.Maps.AppendAt
import Derived.DeepKeys5
namespace Go.Proofs.YtnoajihlkjeknaaDoor
open Go.ChangeShapes Go.WideShapes Go.ChangeAt Go.RowKit
open Go.Maps (Keyed IsMap)

def ndC (x : Nd) : List Value := [.int .i64 x.1, .int .i64 x.2.1, .int .i64 x.2.2]
def litC (x : Nd) : List Lit := [.int .i64 x.1, .int .i64 x.2.1, .int .i64 x.2.2]
def cellsN : List Nd → List Value
  | [] => []
  | x :: r => ndC x ++ cellsN r
def wfN (x : Nd) : Prop := (Lit.int .i64 x.1).wf = true ∧ (Lit.int .i64 x.2.1).wf = true ∧ (Lit.int .i64 x.2.2).wf = true

theorem cellsN_len : ∀ X : List Nd, (cellsN X).length = X.length * 3
  | [] => rfl
  | x :: r => by
    show (ndC x ++ cellsN r).length = _
    rw [List.length_append, cellsN_len r, List.length_cons]
    show 3 + _ = _
    omega
theorem cellsN_at : ∀ (X : List Nd) (i : Nat) (h : i < X.length), ((cellsN X).drop (i * 3)).take 3 = ndC X[i]
  | [], _, h => by simp at h
  | x :: r, 0, _ => rfl
  | x :: r, i + 1, h => by
    have := cellsN_at r i (by simpa using h)
    rw [List.getElem_cons_succ, ← this]
    show ((ndC x ++ cellsN r).drop ((i + 1) * 3)).take 3 = _
    rw [show (i + 1) * 3 = 3 + i * 3 by omega, ← List.drop_drop]
    rfl
theorem cellsN_inj : ∀ (X Y : List Nd), cellsN X = cellsN Y → X = Y
  | [], [], _ => rfl
  | [], y :: s, h => by have := congrArg List.length h; rw [cellsN_len, cellsN_len] at this; simp at this
  | x :: r, [], h => by have := congrArg List.length h; rw [cellsN_len, cellsN_len] at this; simp at this
  | (a, b, c) :: r, (a', b', c') :: s, h => by
    have h' : ndC (a, b, c) ++ cellsN r = ndC (a', b', c') ++ cellsN s := h
    simp only [ndC, List.cons_append, List.nil_append, List.cons.injEq, Value.int.injEq, true_and] at h'
    obtain ⟨rfl, rfl, rfl, h2⟩ := h'
    rw [cellsN_inj r s h2]
theorem cellsN_app : ∀ (X Y : List Nd), cellsN (X ++ Y) = cellsN X ++ cellsN Y
  | [], _ => rfl
  | x :: r, Y => by
    show ndC x ++ cellsN (r ++ Y) = (ndC x ++ cellsN r) ++ cellsN Y
    rw [cellsN_app r Y, List.append_assoc]

def padN (X : List Nd) : List Nd := X ++ List.replicate (40 - X.length) (0, 0, 0)
theorem padN_len {X : List Nd} (h : X.length ≤ 40) : (padN X).length = 40 := by unfold padN; simp; omega
theorem padN_real {X : List Nd} (h : ∀ x ∈ X, x.1 ≠ 0) : (padN X).filter (fun x => decide (x.1 ≠ 0)) = X := by
  unfold padN
  rw [List.filter_append, List.filter_eq_self.2 (fun x hx => by simpa using h x hx), List.filter_eq_nil_iff.2 (fun x hx => by rw [(List.mem_replicate.1 hx).2]; simp)]
  simp
theorem padN_inj {X Y : List Nd} (hx : ∀ x ∈ X, x.1 ≠ 0) (hy : ∀ x ∈ Y, x.1 ≠ 0) (h : padN X = padN Y) : X = Y := by
  rw [← padN_real hx, ← padN_real hy, h]

theorem mapM_some {α β : Type} (f : α → Option β) : ∀ (l : List α), (∀ x ∈ l, ∃ y, f x = some y) → ∃ ys, l.mapM f = some ys
  | [], _ => ⟨[], by simp⟩
  | x :: r, h => by
    obtain ⟨y, hy⟩ := h x (by simp)
    obtain ⟨ys, hys⟩ := mapM_some f r (fun z hz => h z (List.mem_cons_of_mem _ hz))
    exact ⟨y :: ys, by simp [hy, hys]⟩

theorem laidOutP : laidOutB Tryd.prog = true := by kernel_rfl
theorem whCells : Tryd.prog.cellsOf 100 = 120 := by kernel_rfl
theorem ndCellsK : Tryd.prog.cellsOf 53 = 3 := by kernel_rfl
theorem intCellsK : Tryd.prog.cellsOf 3 = 1 := by kernel_rfl
theorem whKey : Tryd.prog.keyType 100 = true := by kernel_rfl
theorem whSize : ∃ d, Tryd.prog.types.size = d + 2 := ⟨Tryd.prog.types.size - 2, by kernel_rfl⟩

theorem keyedW : Keyed Tryd.prog 100 := Keyed.of_law (deep_law_gate laidOutP (by decide +kernel) (by decide +kernel) whKey (by rw [Tryd.underlying100]))

theorem lits_int (d : Nat) (n : Int) (h : (Lit.int .i64 n).wf = true) : Tryd.prog.keyLits (d + 1) 3 [.int .i64 n] = some [.int .i64 n] := by
  unfold Program.keyLits
  rw [Tryd.underlying3]
  simp [h]
theorem lits_node (d : Nat) (x : Nd) (h : wfN x) : Tryd.prog.keyLits (d + 2) 53 (ndC x) = some (litC x) := by
  unfold Program.keyLits
  rw [Tryd.underlying53]
  have h1 := lits_int d x.1 h.1
  have h2 := lits_int d x.2.1 h.2.1
  have h3 := lits_int d x.2.2 h.2.2
  simp [ndC, ndCellsK, intCellsK, h1, h2, h3, litC]
theorem key_ex (X : List Nd) (h : X.length = 40) (hw : ∀ x ∈ X, wfN x) : ∃ kl, keyOf Tryd.prog 100 (.agg (cellsN X).toArray) = some kl := by
  obtain ⟨d, hd⟩ := whSize
  have hl : (cellsN X).length = 120 := by rw [cellsN_len, h]
  have hm : ∃ ys, (List.range 40).mapM (fun i => Tryd.prog.keyLits (d + 2) 53 (((cellsN X).drop (i * 3)).take 3)) = some ys := mapM_some _ _ (fun i hi => by
    have hi := List.mem_range.1 hi
    rw [cellsN_at X i (by omega)]
    exact ⟨_, lits_node d _ (hw _ (List.getElem_mem _))⟩)
  obtain ⟨ys, hys⟩ := hm
  refine ⟨.string (keyBytes ys.flatten), ?_⟩
  unfold keyOf
  rw [Tryd.underlying100]
  have hf : Value.formed Tryd.prog 100 (.agg (cellsN X).toArray) = true := by
    unfold Value.formed
    rw [Tryd.underlying100]
    simp [whCells, hl]
  have hk : Tryd.prog.keyLits (Tryd.prog.types.size + 1) 100 (cellsN X) = some ys.flatten := by
    rw [hd]
    unfold Program.keyLits
    rw [Tryd.underlying100]
    simp only [whCells, ndCellsK, hl, if_true, hys, Option.map_some]
  simp only [whKey, hf, Bool.and_self, if_true, Value.cells, hk, Option.map_some]

/-- The value that a type is as a key. -/
def wv (X : List Nd) : Value := .agg (cellsN (padN X)).toArray
theorem wv_inj {X Y : List Nd} (hx : ∀ x ∈ X, x.1 ≠ 0) (hy : ∀ x ∈ Y, x.1 ≠ 0) (h : wv X = wv Y) : X = Y := by
  unfold wv at h
  simp only [Value.agg.injEq] at h
  exact padN_inj hx hy (cellsN_inj _ _ (by simpa using h))

theorem good_n {L : List Nd} (h : goodT L = true) {k : Nat} (hk : k < L.length) : 0 ≤ nAt L k ∧ nAt L k ≤ 300 := by
  have hg := good_node h hk
  unfold nodeOk at hg
  simp only [Bool.and_eq_true, decide_eq_true_eq] at hg
  obtain ⟨⟨⟨⟨⟨h1, h2⟩, h3⟩, h4⟩, h5⟩, h6⟩ := hg
  have e2 : (L.getD k (0, 0, -1)).2.1 = nAt L k := rfl
  rw [e2] at h5 h6
  obtain ⟨x, hx⟩ : ∃ x, (L.getD k (0, 0, -1)).1 = x := ⟨_, rfl⟩
  rw [hx] at h5 h6
  have hb : 0 ≤ (shp4 x).2.2.1 ∧ (shp4 x).2.2.2 ≤ 300 := by
    unfold shp4
    repeat' split
    all_goals simp
  omega
theorem wf_small {n : Int} (h0 : -1000 ≤ n) (h1 : n ≤ 1000) : (Lit.int .i64 n).wf = true := by
  show (decide ((-9223372036854775808 : Int) ≤ n) && decide (n ≤ (9223372036854775807 : Int))) = true
  simp
  omega
theorem seg_mem {L : List Nd} (hG : goodT L = true) {p e : Nat} (he : isEnd L p e) : ∀ x ∈ segL L p e, x.1 ≠ 0 ∧ wfN x := by
  intro x hx
  have hel := he.2.1
  have hU := ups_good hG
  have h40 := hU.2.1
  obtain ⟨i, hi, rfl⟩ := List.getElem_of_mem hx
  have hi' := hi
  rw [segL_len he.1] at hi'
  have hk := good_kind hG (show p + i < L.length by omega)
  have hn := good_n hG (show p + i < L.length by omega)
  by_cases h0 : i = 0
  · subst h0
    rw [segL_zero]
    rw [Nat.add_zero] at hk hn
    exact ⟨by show kdAt L p ≠ 0; omega, wf_small (n := kdAt L p) (by omega) (by omega), wf_small (n := nAt L p) (by omega) (by omega), wf_small (n := -1) (by omega) (by omega)⟩
  · rw [segL_get i hi (by omega)]
    have h1 := he.2.2.1 (p + i) (by omega) (by omega)
    obtain ⟨s, hs⟩ := ups_at hU (show p + i < L.length by omega)
    have h2 := up_lt hs (by omega)
    exact ⟨by show kdAt L (p + i) ≠ 0; omega, wf_small (n := kdAt L (p + i)) (by omega) (by omega), wf_small (n := nAt L (p + i)) (by omega) (by omega), wf_small (n := upAt L (p + i) - (p : Int)) (by omega) (by omega)⟩
theorem seg_key {L : List Nd} (hG : goodT L = true) {p e : Nat} (he : isEnd L p e) : ∃ kl, keyOf Tryd.prog 100 (wv (segL L p e)) = some kl := by
  have h40 := (ups_good hG).2.1
  have hel := he.2.1
  refine key_ex _ (padN_len (by rw [segL_len he.1]; omega)) (fun x hx => ?_)
  unfold padN at hx
  rcases List.mem_append.1 hx with hx | hx
  · exact (seg_mem hG he x hx).2
  · rw [(List.mem_replicate.1 hx).2]
    exact ⟨by decide, by decide, by decide⟩

end Go.Proofs.YtnoajihlkjeknaaDoor
