/-
  The walk of the law on the bytes of sections.
-/
import Derived.Test.YtnimlkobcginjaaSecSpec
import Derived.Test.YtnimlkobcginjaaSecEq
namespace Go.Proofs.Ytnimlkobcginjaa
open Go.ChangeShapes Go.WideShapes Go.ChangeAt Go.RowKit

theorem secAt_below {w w' : World} {B b off : Nat} {L : List (Int × ByteArray)} (h : Below B w w') (hb : b < B) (hL : secAt w b off L) : secAt w' b off L :=
  fun i hi => ⟨(h.cell (p := ⟨b, off + i * 2, none⟩) hb).trans (hL i hi).1, (h.cell (p := ⟨b, off + i * 2 + 1, none⟩) hb).trans (hL i hi).2⟩
theorem secAt_nil {w w' : World} {b off : Nat} {L : List (Int × ByteArray)} (h : Below w.heap.size w w') (hb : L ≠ [] → b < w.heap.size) (hL : secAt w b off L) : secAt w' b off L := by
  by_cases e : L = []
  · subst e; intro i hi; simp at hi
  · exact secAt_below h (hb e) hL
theorem secRes_form (L : List (Int × ByteArray)) : ∃ x y, secRes L = .tuple #[.string x, .bool y] := by
  by_cases h : secGood L = true ∧ (secBytes L).length ≤ 4000
  · exact ⟨_, _, secRes_yes L h.1 h.2⟩
  · exact ⟨_, _, secRes_no L h⟩
theorem bulk_at (L : List (Int × ByteArray)) (k : Nat) (h : k < L.length) : L[k].2.size ≤ secBulk L := by
  have h1 := secBulk_snoc L k h
  have h2 : secBulk L = secBulk (L.take (k + 1)) + secBulk (L.drop (k + 1)) := by
    unfold secBulk; rw [← List.sum_append, ← List.map_append, List.take_append_drop]
  omega

end Go.Proofs.Ytnimlkobcginjaa
