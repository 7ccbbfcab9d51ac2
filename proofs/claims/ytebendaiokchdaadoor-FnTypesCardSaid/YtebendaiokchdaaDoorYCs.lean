/-
  The cases of what has a number ahead: the specification's side.
-/
import Derived.Test.YtebendaiokchdaaDoorYPw
import Derived.Maps.AppendAt
namespace Go.Proofs.YtebendaiokchdaaDoor
open Go.ChangeShapes Go.WideShapes Go.ChangeAt Go.RowKit

def casesOf (L : List Nd) (k : Nat) : List (Option Nat) := if kdAt L k = 17 then none :: (kidsOf L k).map some else (kidsOf L k).map some

/-- What lies at a case: nothing, or a part. -/
def EntAt (L : List Nd) (lo hi f : Nat) (w : World) (G j : Nat) (o : Option Nat) : Prop :=
  ∃ kx ny sl', w.cell? ⟨G, j * 3, none⟩ = some (.int .i64 kx) ∧ w.cell? ⟨G, j * 3 + 1, none⟩ = some (.int .i64 ny) ∧ w.cell? ⟨G, j * 3 + 2, none⟩ = some sl' ∧
    ((o = none ∧ kx = 0 ∧ ny = 0 ∧ sl' = .slice none 0 0) ∨ ∃ c, o = some c ∧ kx = kdAt L c ∧ ny = nAt L c ∧ TrRep L lo hi f w c sl')

theorem EntAt.keep {L : List Nd} {lo hi f : Nat} {w w' : World} {G j : Nat} {o : Option Nat} (h : EntAt L lo hi f w G j o) (hG : w'.heap[G]? = w.heap[G]?) (hk : ∀ g, lo ≤ g → g < hi → w'.heap[g]? = w.heap[g]?) : EntAt L lo hi f w' G j o := by
  obtain ⟨kx, ny, sl', h0, h1, h2, h3⟩ := h
  refine ⟨kx, ny, sl', (cell_heap hG _).trans h0, (cell_heap hG _).trans h1, (cell_heap hG _).trans h2, ?_⟩
  rcases h3 with h3 | ⟨c, e1, e2, e3, e4⟩
  · exact Or.inl h3
  · exact Or.inr ⟨c, e1, e2, e3, e4.keep hk⟩
theorem EntAt.shape {L : List Nd} {lo hi f : Nat} {w : World} {G j : Nat} {o : Option Nat} (h : EntAt L lo hi f w G j o) : ∃ kx ny sa sn sc, w.cell? ⟨G, j * 3, none⟩ = some (.int .i64 kx) ∧ w.cell? ⟨G, j * 3 + 1, none⟩ = some (.int .i64 ny) ∧ w.cell? ⟨G, j * 3 + 2, none⟩ = some (.slice sa sn sc) ∧
    ((o = none ∧ kx = 0 ∧ ny = 0 ∧ Value.slice sa sn sc = .slice none 0 0) ∨ ∃ c, o = some c ∧ kx = kdAt L c ∧ ny = nAt L c ∧ TrRep L lo hi f w c (.slice sa sn sc)) := by
  obtain ⟨kx, ny, sl', h0, h1, h2, h3⟩ := h
  rcases h3 with ⟨e1, e2, e3, rfl⟩ | ⟨c, e1, e2, e3, e4⟩
  · exact ⟨kx, ny, none, 0, 0, h0, h1, h2, Or.inl ⟨e1, e2, e3, rfl⟩⟩
  · cases f with
    | zero => exact e4.elim
    | succ f =>
      have h4 := e4
      obtain ⟨a, c', rfl, _⟩ := h4
      exact ⟨kx, ny, _, _, _, h0, h1, h2, Or.inr ⟨c, e1, e2, e3, e4⟩⟩

theorem TrRep.ents {L : List Nd} {lo hi f : Nat} {w : World} {k : Nat} {sl : Value} (h : TrRep L lo hi (f + 1) w k sl) (h0 : 0 < (kidsOf L k).length) :
    ∃ G cap, sl = .slice (some ⟨G, 0, none⟩) (kidsOf L k).length cap ∧ lo ≤ G ∧ G < hi ∧ ∀ j (h : j < (kidsOf L k).length), EntAt L lo hi f w G j (some (kidsOf L k)[j]) := by
  obtain ⟨a, cap, rfl, hh⟩ := h
  obtain ⟨g, _, rfl, l1, l2, _⟩ := hh 0 h0
  refine ⟨g, cap, rfl, l1, l2, fun j hj => ?_⟩
  obtain ⟨g', sl', e1, _, _, x0, x1, x2, x3⟩ := hh j hj
  simp at e1
  subst e1
  exact ⟨_, _, sl', x0, x1, x2, Or.inr ⟨_, rfl, rfl, rfl, x3⟩⟩

end Go.Proofs.YtebendaiokchdaaDoor
