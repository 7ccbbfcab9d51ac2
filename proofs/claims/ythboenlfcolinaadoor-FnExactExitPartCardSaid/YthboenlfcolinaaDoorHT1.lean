/-
  What lays values down: made, room taken, the heap that comes of it.
-/
import Derived.Test.YthboenlfcolinaaDoorHG
namespace Go.Proofs.YthboenlfcolinaaDoor
open Go.ChangeShapes Go.WideShapes Go.ChangeAt Go.RowKit Go.Deep

/-- The next multiple of A from N on. -/
def upA (N A : Int) : Int := (N + A - 1) / A * A
theorem upA_in {N A : Int} (hA : A = 1 ∨ A = 2 ∨ A = 4 ∨ A = 8) : N ≤ upA N A ∧ upA N A ≤ N + 7 := by
  unfold upA
  rcases hA with rfl | rfl | rfl | rfl <;> omega
theorem up_go {N A : Int} (hA : A = 1 ∨ A = 2 ∨ A = 4 ∨ A = 8) (h0 : 0 ≤ N) (h1 : N ≤ 1048576) : wrap64 (N + A) = N + A ∧ wrap64 (N + A - 1) = N + A - 1 ∧ 1 ≤ A ∧ (A == 0) = false ∧ ∃ q, (N + A - 1).tdiv A = q ∧ wrap64 q = q ∧ q * A = upA N A ∧ wrap64 (upA N A) = upA N A := by
  have h2 := upA_in (N := N) hA
  have h3 : (N + A - 1).tdiv A = (N + A - 1) / A := Int.tdiv_eq_ediv_of_nonneg (by omega)
  refine ⟨by unfold wrap64; omega, by unfold wrap64; omega, by omega, by rw [beq_eq_false_iff_ne]; omega, (N + A - 1) / A, h3, ?_, rfl, by unfold wrap64; omega⟩
  have : 0 ≤ (N + A - 1) / A ∧ (N + A - 1) / A ≤ 1048600 := by rcases hA with rfl | rfl | rfl | rfl <;> omega
  unfold wrap64; omega

end Go.Proofs.YthboenlfcolinaaDoor
