/-
  Rows of numbers, their marks and the look for them.
-/
import Derived.Test.YtjielcilcningaaInts
import Derived.Test.YtjielcilcningaaOwn
namespace Go.Proofs.Ytjielcilcningaa
open Go.ChangeShapes Go.WideShapes Go.ChangeAt Go.RowKit

/-- Numbers as the values of their cells. -/
def iv (L : List Int) : List Value := L.map fun x => .int .i64 x
theorem iv_app (l m : List Int) : iv l ++ iv m = iv (l ++ m) := by simp [iv]
theorem iv_one (l : List Int) : ∀ u ∈ iv l, u.oneCell' = true := by
  intro u hu; simp only [iv, List.mem_map] at hu; obtain ⟨b, _, rfl⟩ := hu; rfl
theorem ints_of_row {w : World} {B : Nat} {v : Value} {L : List Int} (h : w.ownsRow B 3 1 v L.length (iv L)) : ∃ a cap, v = .slice a L.length cap ∧ Ints w a L := by
  have h' := h
  rcases h'.2 with ⟨rfl, h0⟩ | ⟨g, cap, cur, rfl, _, hb, _⟩
  · obtain rfl : L = [] := List.length_eq_zero_iff.1 h0
    exact ⟨none, 0, rfl, fun h => absurd rfl h⟩
  · refine ⟨_, cap, rfl, fun _ => ⟨g, 0, rfl, lt_of_block hb, fun i hi => ?_⟩⟩
    rw [Nat.zero_add, h.cellAt i (by omega)]
    simp [iv, hi]

/-- The marks of n integers. -/
def marksI (n : Nat) : List Int := (List.range n).map fun (i : Nat) => 1 + (i : Int)
theorem marksI_len (n : Nat) : (marksI n).length = n := by simp [marksI]
theorem marksI_at (n i : Nat) (h : i < (marksI n).length) : (marksI n)[i] = 1 + (i : Int) := by simp [marksI]

end Go.Proofs.Ytjielcilcningaa
