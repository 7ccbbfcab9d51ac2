/-
  Bytes loaded and stored: both sides.
-/
import Derived.Test.YthboenlfcolinaaDoorMStoreB
namespace Go.Proofs.YthboenlfcolinaaDoor
open Go.ChangeShapes Go.WideShapes Go.ChangeAt Go.RowKit

theorem code1_bad (N a n : Int) : codeOf false N [(a, n)] = 1 := rfl
theorem code1_none (N a n : Int) (h : a < 0 ∨ n < 0) : codeOf true N [(a, n)] = 1 := by
  have : spNone (a, n) = true := by simp [spNone]; omega
  simp [codeOf, this]
theorem code1_out (N a n : Int) (h0 : 0 ≤ a) (h1 : 0 ≤ n) (h : N - a < n) : codeOf true N [(a, n)] = 2 := by
  have e1 : spNone (a, n) = false := by simp [spNone]; omega
  have e2 : spIn N (a, n) = false := by simp [spIn]; omega
  simp [codeOf, e1, e2]
theorem code1_in (N a n : Int) (h0 : 0 ≤ a) (h1 : 0 ≤ n) (h : n ≤ N - a) : codeOf true N [(a, n)] = 0 := by
  have e1 : spNone (a, n) = false := by simp [spNone]; omega
  have e2 : spIn N (a, n) = true := by simp [spIn]; omega
  simp [codeOf, e1, e2]

end Go.Proofs.YthboenlfcolinaaDoor
