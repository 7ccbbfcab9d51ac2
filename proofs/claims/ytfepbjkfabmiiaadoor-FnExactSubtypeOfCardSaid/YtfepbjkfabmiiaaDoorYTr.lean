/-
  Types as trees: what the specification makes of nodes.
-/
import Derived.Test.YtfepbjkfabmiiaaDoorYGd5
import Derived.Test.YtfepbjkfabmiiaaDoorQChain2
import Derived.Deep.QuietTactic
import Derived.BigQuiet
namespace Go.Proofs.YtfepbjkfabmiiaaDoor
open Go.ChangeShapes Go.WideShapes Go.ChangeAt Go.RowKit

def kdAt (L : List Nd) (k : Nat) : Int := (L.getD k (0, 0, -1)).1
def nAt (L : List Nd) (k : Nat) : Int := (L.getD k (0, 0, -1)).2.1
theorem kdAt_get (L : List Nd) (k : Nat) (h : k < L.length) : kdAt L k = L[k].1 := by
  unfold kdAt; rw [List.getD_eq_getElem?_getD, List.getElem?_eq_getElem h]; rfl
theorem nAt_get (L : List Nd) (k : Nat) (h : k < L.length) : nAt L k = L[k].2.1 := by
  unfold nAt; rw [List.getD_eq_getElem?_getD, List.getElem?_eq_getElem h]; rfl
theorem kids_mem {L : List Nd} {k j : Nat} (h : j ∈ kidsOf L k) : k < j ∧ j < L.length := by
  unfold kidsOf at h
  simp at h
  exact ⟨h.2.1, h.1⟩

/-- The parts of node k lie behind the slice sl, in blocks from lo on and below hi. -/
def TrRep (L : List Nd) (lo hi : Nat) : Nat → World → Nat → Value → Prop
  | 0, _, _, _ => False
  | f + 1, w, k, sl => ∃ a cap, sl = .slice a (kidsOf L k).length cap ∧ ∀ j (h : j < (kidsOf L k).length), ∃ g sl', a = some ⟨g, 0, none⟩ ∧ lo ≤ g ∧ g < hi ∧
    w.cell? ⟨g, j * 3, none⟩ = some (.int .i64 (kdAt L (kidsOf L k)[j])) ∧ w.cell? ⟨g, j * 3 + 1, none⟩ = some (.int .i64 (nAt L (kidsOf L k)[j])) ∧ w.cell? ⟨g, j * 3 + 2, none⟩ = some sl' ∧ TrRep L lo hi f w (kidsOf L k)[j] sl'

theorem cell_heap {w w' : World} {g : Nat} (h : w'.heap[g]? = w.heap[g]?) (o : Nat) : w'.cell? ⟨g, o, none⟩ = w.cell? ⟨g, o, none⟩ := by
  simp [World.cell?, h]
theorem TrRep.keep {L : List Nd} {lo hi : Nat} : ∀ {f : Nat} {w w' : World} {k : Nat} {sl : Value}, TrRep L lo hi f w k sl → (∀ g, lo ≤ g → g < hi → w'.heap[g]? = w.heap[g]?) → TrRep L lo hi f w' k sl
  | 0, _, _, _, _, h, _ => h.elim
  | f + 1, w, w', k, sl, h, hk => by
    obtain ⟨a, cap, e, hh⟩ := h
    refine ⟨a, cap, e, fun j hj => ?_⟩
    obtain ⟨g, sl', h1, h2, h3, h4, h5, h6, h7⟩ := hh j hj
    have hg := hk g h2 h3
    exact ⟨g, sl', h1, h2, h3, (cell_heap hg _).trans h4, (cell_heap hg _).trans h5, (cell_heap hg _).trans h6, h7.keep hk⟩
theorem TrRep.wide {L : List Nd} {lo hi lo' hi' : Nat} (h1 : lo' ≤ lo) (h2 : hi ≤ hi') : ∀ {f : Nat} {w : World} {k : Nat} {sl : Value}, TrRep L lo hi f w k sl → TrRep L lo' hi' f w k sl
  | 0, _, _, _, h => h.elim
  | f + 1, w, k, sl, h => by
    obtain ⟨a, cap, e, hh⟩ := h
    refine ⟨a, cap, e, fun j hj => ?_⟩
    obtain ⟨g, sl', g1, g2, g3, g4, g5, g6, g7⟩ := hh j hj
    exact ⟨g, sl', g1, by omega, by omega, g4, g5, g6, TrRep.wide h1 h2 g7⟩
theorem TrRep.below {L : List Nd} {lo hi f B : Nat} {w w' : World} {k : Nat} {sl : Value} (h : TrRep L lo hi f w k sl) (hb : Below B w w') (hh : hi ≤ B) : TrRep L lo hi f w' k sl :=
  h.keep fun g _ h2 => hb.block g (by omega)

theorem tri_new (w : World) (x y z : Value) (t : TypeId) : ∀ j u, [x, y, z][j]? = some u → (w.alloc (.cells #[x, y, z] t)).cell? ((⟨w.heap.size, 0, none⟩ : Addr).add j) = some u := by
  intro j u hj
  match j, hj with
  | 0, hj => simp at hj; subst hj; simp [Addr.add]
  | 1, hj => simp at hj; subst hj; simp [Addr.add]
  | 2, hj => simp at hj; subst hj; simp [Addr.add]
theorem TrRep.one {L : List Nd} {lo hi f : Nat} {w : World} {k : Nat} {sl : Value} (h : TrRep L lo hi f w k sl) : sl.oneCell' = true := by
  cases f with
  | zero => exact h.elim
  | succ f => obtain ⟨a, cap, rfl, _⟩ := h; rfl
theorem row3_left {xs ys : List Value} {m i : Nat} (hl : xs.length = m * 3) (hi : i < m) (r : Nat) (hr : r < 3) : (xs ++ ys)[i * 3 + r]? = xs[i * 3 + r]? := List.getElem?_append_left (by omega)
theorem row3_right {xs : List Value} {m : Nat} {x y z : Value} (hl : xs.length = m * 3) : (xs ++ [x, y, z])[m * 3]? = some x ∧ (xs ++ [x, y, z])[m * 3 + 1]? = some y ∧ (xs ++ [x, y, z])[m * 3 + 2]? = some z := by
  refine ⟨?_, ?_, ?_⟩
  · rw [List.getElem?_append_right (by omega), show m * 3 - xs.length = 0 by omega]; rfl
  · rw [List.getElem?_append_right (by omega), show m * 3 + 1 - xs.length = 1 by omega]; rfl
  · rw [List.getElem?_append_right (by omega), show m * 3 + 2 - xs.length = 2 by omega]; rfl

theorem Tryd.infoTr : (Tryd.prog.info? 42).map (fun i => (i.zero, i.size, i.bytes)) = some (some (.agg #[.int .i64 0, .int .i64 0, .slice none 0 0]), 3, 40) := by kernel_rfl

end Go.Proofs.YtfepbjkfabmiiaaDoor
