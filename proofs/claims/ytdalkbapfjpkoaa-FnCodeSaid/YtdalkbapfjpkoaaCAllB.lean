/-
  Whether all instructions of a list are good: plain facts.
-/
import Derived.Test.YtdalkbapfjpkoaaCGoodL
namespace Go.Proofs.Ytdalkbapfjpkoaa
open Go.ChangeShapes Go.WideShapes Go.ChangeAt Go.RowKit

def allG (L : List (Int × Int)) : Bool := L.all fun x => gi x.1 x.2
theorem allG_take (L : List (Int × Int)) (k : Nat) (h : k < L.length) : allG (L.take (k + 1)) = (allG (L.take k) && gi L[k].1 L[k].2) := by
  unfold allG; rw [List.take_succ_eq_append_getElem h, List.all_append]; simp
theorem allG_no (L : List (Int × Int)) (k : Nat) (h : k < L.length) (hg : gi L[k].1 L[k].2 = false) : allG L = false := by
  unfold allG
  rw [List.all_eq_false]
  exact ⟨L[k], List.getElem_mem h, by simp [hg]⟩
theorem allG_at (L : List (Int × Int)) (k : Nat) (h : k < L.length) (hg : allG L = true) : gi L[k].1 L[k].2 = true := by
  unfold allG at hg
  rw [List.all_eq_true] at hg
  exact hg _ (List.getElem_mem h)

end Go.Proofs.Ytdalkbapfjpkoaa
