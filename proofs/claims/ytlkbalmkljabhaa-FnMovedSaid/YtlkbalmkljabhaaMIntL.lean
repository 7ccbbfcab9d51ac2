/-
  The law on numbers loaded. (Made by a generator.)
-/
import Derived.Test.YtlkbalmkljabhaaMInt
namespace Go.Proofs.Ytlkbalmkljabhaa
open Go.ChangeShapes Go.WideShapes Go.ChangeAt Go.RowKit Go.PlainAid

/-- A code of nought: a good memory, and bytes within. -/
theorem code1_zero {M : Int} {D : ByteArray} {a n : Int} (hc : codeOf (good M D) D.size [(a, n)] = 0) : good M D = true ∧ 0 ≤ a ∧ 0 ≤ n ∧ n ≤ (D.size : Int) - a := by
  have hg : good M D = true := by
    cases hG : good M D
    · rw [hG] at hc; cases hc
    · rfl
  rw [hg] at hc
  have h0 : ¬ (a < 0 ∨ n < 0) := fun h => by rw [code1_none _ _ _ h] at hc; cases hc
  have h1 : ¬ (D.size : Int) - a < n := fun h => by rw [code1_out _ _ _ (by omega) (by omega) h] at hc; cases hc
  exact ⟨hg, by omega, by omega, by omega⟩

end Go.Proofs.Ytlkbalmkljabhaa
