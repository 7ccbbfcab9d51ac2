/-
  The program's parts of a type.
-/
import Derived.Test.YtljnciclbjcinaaGreatDoorYPm
import Derived.Deep.QuietTactic
import Derived.BigQuiet
namespace Go.Proofs.YtljnciclbjcinaaGreatDoor
open Go.ChangeShapes Go.WideShapes Go.ChangeAt Go.RowKit

/-- Nodes as the values of their cells. -/
def ndv (l : List Nd) : List Value := l.flatMap fun x => [.int .i64 x.1, .int .i64 x.2.1, .int .i64 x.2.2]
theorem ndv_len (l : List Nd) : (ndv l).length = l.length * 3 := by
  induction l with
  | nil => rfl
  | cons a r ih =>
    have : ndv (a :: r) = [.int .i64 a.1, .int .i64 a.2.1, .int .i64 a.2.2] ++ ndv r := rfl
    rw [this, List.length_append, ih]; simp; omega
theorem ndv_app (l m : List Nd) : ndv l ++ ndv m = ndv (l ++ m) := by simp [ndv]
theorem ndv_get : ∀ (l : List Nd) (i : Nat) (h : i < l.length), (ndv l)[i * 3]? = some (.int .i64 l[i].1) ∧ (ndv l)[i * 3 + 1]? = some (.int .i64 l[i].2.1) ∧ (ndv l)[i * 3 + 2]? = some (.int .i64 l[i].2.2)
  | [], _, h => by simp at h
  | a :: r, 0, _ => ⟨rfl, rfl, rfl⟩
  | a :: r, i + 1, h => by
    have := ndv_get r i (by simpa using h)
    have e : ndv (a :: r) = .int .i64 a.1 :: .int .i64 a.2.1 :: .int .i64 a.2.2 :: ndv r := rfl
    rw [e, show (i + 1) * 3 = i * 3 + 1 + 1 + 1 by omega, show i * 3 + 1 + 1 + 1 + 1 = (i * 3 + 1) + 1 + 1 + 1 by omega, show i * 3 + 1 + 1 + 1 + 2 = (i * 3 + 2) + 1 + 1 + 1 by omega]
    simpa using this
theorem nd_of_own {w : World} {B : Nat} {g n c : Nat} {l : List Nd} (hn : n = l.length) (h : w.ownsRow B 54 3 (.slice (some ⟨g, 0, none⟩) n c) n (ndv l)) : ndAt w g 0 l := by
  intro i hi
  obtain ⟨h0, h1, h2⟩ := ndv_get l i hi
  rw [Nat.zero_add]
  exact ⟨(h.cellAt _ (by omega)).trans h0, (h.cellAt _ (by omega)).trans h1, (h.cellAt _ (by omega)).trans h2⟩

theorem Tryz.infoNd : (Tryz.prog.info? 54).map (fun i => (i.zero, i.size, i.bytes)) = some (some (.agg #[.int .i64 0, .int .i64 0, .int .i64 0]), 3, 24) := by kernel_rfl
theorem Tryz.infoRw : (Tryz.prog.info? 28).map (fun i => (i.zero, i.size, i.bytes)) = some (some (.slice none 0 0), 1, 24) := by kernel_rfl

/-- The parts as they are met: rows of their own, one a part. -/
structure PI (L : List Nd) (w : World) (B : Nat) (ks : List Nat) (q : Nat) (v : Value) (S : List Value) : Prop where
  row : w.ownsRow B 28 1 v ks.length S
  each : ∀ (i : Nat) (h : i < ks.length) (s : Value), S[i]? = some s → w.ownsRow B 54 3 s (segL L ks[i] (endAt ks q i)).length (ndv (segL L ks[i] (endAt ks q i)))
  apart : ∀ (i j : Nat) (s t : Value), S[i]? = some s → S[j]? = some t → i ≠ j → s.ownBlock ≠ t.ownBlock

/-- The parts of node p lie behind v, in blocks from lo on and below hi. -/
def PartsAt (L : List Nd) (lo hi : Nat) (w : World) (p e : Nat) (v : Value) : Prop :=
  ∃ a cap, v = .slice a (kidsOf L p).length cap ∧ ∀ i (h : i < (kidsOf L p).length), ∃ g gi ci, a = some ⟨g, 0, none⟩ ∧ lo ≤ g ∧ g < hi ∧ lo ≤ gi ∧ gi < hi ∧
    w.cell? ⟨g, i, none⟩ = some (.slice (some ⟨gi, 0, none⟩) (segL L (kidsOf L p)[i] (endAt (kidsOf L p) e i)).length ci) ∧ ndAt w gi 0 (segL L (kidsOf L p)[i] (endAt (kidsOf L p) e i))

theorem PartsAt.below {L : List Nd} {lo hi B : Nat} {w w' : World} {p e : Nat} {v : Value} (h : PartsAt L lo hi w p e v) (hb : Below B w w') (hh : hi ≤ B) : PartsAt L lo hi w' p e v := by
  obtain ⟨a, cap, e1, h1⟩ := h
  refine ⟨a, cap, e1, fun i hi => ?_⟩
  obtain ⟨g, gi, ci, x1, x2, x3, x4, x5, x6, x7⟩ := h1 i hi
  exact ⟨g, gi, ci, x1, x2, x3, x4, x5, keepCell hb (by omega) x6, x7.below hb (by omega)⟩

theorem PI.done {L : List Nd} {w : World} {B p e : Nat} {v : Value} {S : List Value} (h : PI L w B (kidsOf L p) e v S) (hlt : ∀ i (h : i < (kidsOf L p).length), (kidsOf L p)[i] < endAt (kidsOf L p) e i) : PartsAt L B w.heap.size w p e v := by
  obtain ⟨a, c, e1⟩ := ownsRow_shape h.row
  refine ⟨a, c, e1, fun i hi => ?_⟩
  obtain ⟨g, c', e2, _⟩ := own_pos h.row (by omega)
  obtain ⟨cu, hcu, hgb⟩ := own_at h.row (g := g) (by rw [e2]; rfl)
  have hS : S.length = (kidsOf L p).length := by have := h.row.1; omega
  obtain ⟨s, hs⟩ : ∃ s, S[i]? = some s := ⟨S[i]'(by omega), List.getElem?_eq_getElem (by omega)⟩
  have he := h.each i hi s hs
  have hl0 : 0 < (segL L (kidsOf L p)[i] (endAt (kidsOf L p) e i)).length := by rw [segL_len (hlt i hi)]; have := hlt i hi; omega
  obtain ⟨gi, ci, e3, _⟩ := own_pos he hl0
  subst e3
  obtain ⟨cu2, hcu2, hgb2⟩ := own_at he (g := gi) rfl
  have hr := h.row
  rw [e2] at hr
  refine ⟨g, gi, ci, ?_, hgb, lt_of_block hcu, hgb2, lt_of_block hcu2, (hr.cellAt i (by omega)).trans hs, nd_of_own rfl he⟩
  rw [e1] at e2
  simp at e2
  exact e2.1

end Go.Proofs.YtljnciclbjcinaaGreatDoor
