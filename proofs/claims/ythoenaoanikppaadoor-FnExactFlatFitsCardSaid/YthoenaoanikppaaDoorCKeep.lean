/-
  Rows that are kept; kinds of instructions.
-/
import Derived.Test.YthoenaoanikppaaDoorCGoodL
namespace Go.Proofs.YthoenaoanikppaaDoor
open Go.ChangeShapes Go.WideShapes Go.ChangeAt Go.RowKit

theorem owns_below {w w' : World} {B : Nat} {e : TypeId} {size n : Nat} {v : Value} {xs : List Value} (h : w.ownsRow B e size v n xs) (hb : Below w.heap.size w w') : w'.ownsRow B e size v n xs := by
  refine ⟨h.1, ?_⟩
  rcases h.2 with h0 | ⟨g, cap, cur, h1, h2, h3, h4⟩
  · exact Or.inl h0
  · exact Or.inr ⟨g, cap, cur, h1, h2, (hb.block g (lt_of_block h3)).trans h3, h4⟩
theorem kinds_of {op y : Int} (h : gi op y = true) : shp op = 0 ∨ shp op = 1 ∨ shp op = 2 ∨ shp op = 3 ∨ shp op = 4 ∨ shp op = 5 ∨ shp op = 6 := by
  rcases shp_one op with k | k | k | k | k | k | k | k
  all_goals first | omega | skip
  unfold gi at h; rw [k] at h; simp [mayK] at h

end Go.Proofs.YthoenaoanikppaaDoor
