/-
  The walks of the tests whether points are good.
-/
import Derived.Test.YthboenlfcolinaaDoorInts
import Derived.Test.YthboenlfcolinaaDoorIn
namespace Go.Proofs.YthboenlfcolinaaDoor
open Go.ChangeShapes Go.WideShapes Go.ChangeAt Go.RowKit

/-- A point that is good. -/
def okP (p : Int) : Bool := decide (0 ≤ p ∧ p < 1114112 ∧ (p < 55296 ∨ 57344 ≤ p))
/-- Points that are good. -/
def okL (L : List Int) : Bool := decide (L.length ≤ 300) && L.all okP
theorem okP_yes {p : Int} (h : 0 ≤ p ∧ p < 1114112 ∧ (p < 55296 ∨ 57344 ≤ p)) : okP p = true := decide_eq_true h
theorem okP_no {p : Int} (h : ¬ (0 ≤ p ∧ p < 1114112 ∧ (p < 55296 ∨ 57344 ≤ p))) : okP p = false := decide_eq_false h
theorem okP_iff {p : Int} : okP p = true ↔ (0 ≤ p ∧ p < 1114112 ∧ (p < 55296 ∨ 57344 ≤ p)) := by unfold okP; exact decide_eq_true_iff
theorem all_snoc (f : Int → Bool) (L : List Int) (k : Nat) (h : k < L.length) : (L.take (k + 1)).all f = ((L.take k).all f && f L[k]) := by
  rw [List.take_succ_eq_append_getElem h, List.all_append]; simp
theorem all_bad (f : Int → Bool) (L : List Int) (k : Nat) (h : k < L.length) (hb : f L[k] = false) : L.all f = false := by
  rw [List.all_eq_false]; exact ⟨_, List.getElem_mem h, by rw [hb]; simp⟩
theorem okL_bad (L : List Int) (k : Nat) (h : k < L.length) (hb : okP L[k] = false) : okL L = false := by
  unfold okL; rw [all_bad okP L k h hb, Bool.and_false]
theorem okL_long (L : List Int) (h : 300 < L.length) : okL L = false := by
  unfold okL; rw [decide_eq_false (by omega), Bool.false_and]
theorem okL_iff {L : List Int} : okL L = true ↔ L.length ≤ 300 ∧ ∀ p ∈ L, 0 ≤ p ∧ p < 1114112 ∧ (p < 55296 ∨ 57344 ≤ p) := by
  unfold okL; rw [Bool.and_eq_true, decide_eq_true_iff, List.all_eq_true]
  exact and_congr Iff.rfl ⟨fun h p hp => okP_iff.1 (h p hp), fun h p hp => okP_iff.2 (h p hp)⟩

end Go.Proofs.YthboenlfcolinaaDoor
