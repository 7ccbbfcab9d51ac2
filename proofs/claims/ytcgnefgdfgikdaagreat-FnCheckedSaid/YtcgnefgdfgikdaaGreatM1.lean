/-
  A struct behind a pointer that holds two rows of its own: numbers, and frames.
-/
import Derived.Test.YtcgnefgdfgikdaaGreatA4
import Derived.Test.YtcgnefgdfgikdaaGreatA1
namespace Go.Proofs.YtcgnefgdfgikdaaGreat
open Go.RowKit

/-- A row that is new. -/
theorem row_new' (w : World) (xs : Array Value) (t : TypeId) (g : Nat) (hg : g = w.heap.size) : ∀ j u, xs.toList[j]? = some u → (w.alloc (.cells xs t)).cell? ((⟨g, 0, none⟩ : Addr).add j) = some u := by
  subst hg
  exact World.news_of_block (heap_alloc_new _ _)
theorem own_cut {w : World} {B : Nat} {e : TypeId} {s n g cap : Nat} {xs : List Value} (h : w.ownsRow B e s (.slice (some ⟨g, 0, none⟩) n cap) n xs) (m : Nat) (hm : m ≤ n) : w.ownsRow B e s (.slice (some ⟨g, 0, none⟩) m cap) m (xs.take (m * s)) := by
  have hl := h.1
  have e1 : m * s ≤ n * s := Nat.mul_le_mul_right _ hm
  refine ⟨by rw [List.length_take, hl]; omega, Or.inr ?_⟩
  rcases h.2 with ⟨h0, _⟩ | ⟨g', cap', cur, h1, h2, h3, h4, h5, h6, h7⟩
  · simp at h0
  · simp only [Value.slice.injEq, Option.some.injEq, Addr.mk.injEq] at h1
    obtain ⟨⟨rfl, _⟩, _, rfl⟩ := h1
    refine ⟨g, cap, cur, rfl, h2, h3, by omega, h5, h6, ?_⟩
    rw [← h7, List.take_take]
    congr 1; omega
theorem own_shape {w : World} {B : Nat} {e : TypeId} {s n : Nat} {v : Value} {xs : List Value} (h : w.ownsRow B e s v n xs) : ∃ a cap, v = .slice a n cap ∧ n ≤ cap := by
  rcases h.2 with ⟨rfl, h0⟩ | ⟨g, cap, cur, rfl, _, _, hc, _⟩
  · subst h0; exact ⟨none, 0, rfl, by omega⟩
  · exact ⟨_, cap, rfl, hc⟩

/-- The struct at block g (mk: its cells, of the frames' slice and the numbers' slice), the numbers R, the frames Q (n of them, of fs cells each). -/
def Ck (w : World) (g : Nat) (T fT : TypeId) (fs : Nat) (mk : Value → Value → Array Value) (R : List Value) (n : Nat) (Q : List Value) (vf : Value) : Prop :=
  ∃ vs, w.heap[g]? = some (.cells (mk vf vs) T (0, 0)) ∧ w.ownsRow (g + 1) 3 1 vs R.length R ∧ w.ownsRow (g + 1) fT fs vf n Q

section
variable {w w' : World} {g : Nat} {T fT : TypeId} {fs : Nat} {mk : Value → Value → Array Value} {R : List Value} {n : Nat} {Q : List Value}
theorem own_kept {B : Nat} {e : TypeId} {s k : Nat} {v : Value} {xs : List Value} (h : w.ownsRow B e s v k xs) (hb : Below w.heap.size w w') : w'.ownsRow B e s v k xs :=
  own_keep h fun g hg => by obtain ⟨cur, hc, _⟩ := own_at h hg; exact hb.block g (lt_of_block hc)
theorem Ck.keep {vf : Value} (h : Ck w g T fT fs mk R n Q vf) (hb : Below w.heap.size w w') : Ck w' g T fT fs mk R n Q vf := by
  obtain ⟨vs, h0, h1, h2⟩ := h
  exact ⟨vs, (hb.block g (lt_of_block h0)).trans h0, own_kept h1 hb, own_kept h2 hb⟩
/-- A row whose block is not g stays if g is written. -/
theorem own_far {e : TypeId} {s k : Nat} {v : Value} {xs : List Value} (h : w.ownsRow (g + 1) e s v k xs) (j : Nat) (u : Value) : (w.setCell ⟨g, j, none⟩ u).ownsRow (g + 1) e s v k xs :=
  own_keep h fun b hb => by obtain ⟨cur, _, hB⟩ := own_at h hb; exact heap_setCell_other _ _ _ _ (show b ≠ g by omega)
/-- Cells of the struct are written: whatever they are. -/
theorem ck_set {vf vs : Value} (h0 : w.heap[g]? = some (.cells (mk vf vs) T (0, 0))) {mk' : Value → Value → Array Value} {vf' vs' : Value} {R' : List Value} {n' : Nat} {Q' : List Value} (j : Nat) (u : Value) (hm : (mk vf vs).setIfInBounds j u = mk' vf' vs')
    (h1 : w.ownsRow (g + 1) 3 1 vs' R'.length R') (h2 : w.ownsRow (g + 1) fT fs vf' n' Q') : Ck (w.setCell ⟨g, j, none⟩ u) g T fT fs mk' R' n' Q' vf' :=
  ⟨vs', by rw [← hm]; exact heap_setCell_same _ _ _ _ _ _ h0, own_far h1 j u, own_far h2 j u⟩
/-- The numbers grow: what is kept. -/
theorem grow_keeps {B : Nat} {e e' : TypeId} {s s' k k' : Nat} {v u : Value} {xs ys : List Value} (h : w.ownsRow B e s v k xs) (hg : w.grownBy w' v.ownBlock) (h2 : w.ownsRow B e' s' u k' ys) (hne : e ≠ e') : w'.ownsRow B e' s' u k' ys :=
  own_keep h2 fun b hb => by
    obtain ⟨cur, hc, _⟩ := own_at h2 hb
    refine hg.block b (lt_of_block hc) fun e0 => ?_
    obtain ⟨cur', hc', _⟩ := own_at h e0.symm
    exact apart_types hc' hc hne rfl
theorem grow_block {e : TypeId} {s k : Nat} {v : Value} {xs : List Value} {A : Array Value} {t : TypeId} (h : w.ownsRow (g + 1) e s v k xs) (hg : w.grownBy w' v.ownBlock) (h0 : w.heap[g]? = some (.cells A t (0, 0))) : w'.heap[g]? = some (.cells A t (0, 0)) := by
  rw [hg.block g (lt_of_block h0) fun e0 => ?_]
  · exact h0
  · obtain ⟨_, _, hB⟩ := own_at h e0.symm; omega
theorem grow_below {B : Nat} {e : TypeId} {s k : Nat} {v : Value} {xs : List Value} {V : World} (h : w.ownsRow (g + 1) e s v k xs) (hg : w.grownBy w' v.ownBlock) (hb : Below B V w) (hB : B ≤ g) (hgw : g < w.heap.size) : Below B V w' :=
  hb.grown hg (by omega) (fun k hk => by obtain ⟨_, _, h1⟩ := own_at h hk; omega)
/-- A cell of the frames is written. -/
theorem Ck.setQ {gf k cap : Nat} {vs : Value} (h0 : w.heap[g]? = some (.cells (mk (.slice (some ⟨gf, 0, none⟩) k cap) vs) T (0, 0))) (h1 : w.ownsRow (g + 1) 3 1 vs R.length R) (h2 : w.ownsRow (g + 1) fT fs (.slice (some ⟨gf, 0, none⟩) k cap) k Q) (hne : 3 ≠ fT) (j : Nat) (u : Value) :
    (w.setCell ⟨gf, j, none⟩ u).heap[g]? = some (.cells (mk (.slice (some ⟨gf, 0, none⟩) k cap) vs) T (0, 0)) ∧ (w.setCell ⟨gf, j, none⟩ u).ownsRow (g + 1) 3 1 vs R.length R ∧ (w.setCell ⟨gf, j, none⟩ u).ownsRow (g + 1) fT fs (.slice (some ⟨gf, 0, none⟩) k cap) k (Q.set j u) := by
  obtain ⟨cur, hc, hB⟩ := own_at h2 (g := gf) rfl
  refine ⟨(heap_setCell_other _ ⟨gf, j, none⟩ g _ (show g ≠ gf by omega)).trans h0, own_keep h1 fun b hb => ?_, own_set h2 j u⟩
  obtain ⟨cur', hc', _⟩ := own_at h1 hb
  exact heap_setCell_other _ ⟨gf, j, none⟩ b _ (fun e => apart_types hc' hc hne e)
end

end Go.Proofs.YtcgnefgdfgikdaaGreat
