/-
  The walks of the specification's answers: points told in a code, and how many bytes they have.
-/
import Derived.Test.YthboenlfcolinaaDoorEnc
namespace Go.Proofs.YthboenlfcolinaaDoor
open Go.ChangeShapes Go.WideShapes Go.ChangeAt Go.RowKit

/-- The points are good, and the code is one of the three. -/
def sureC (code : Int) (L : List Int) : Bool := okL L && decide (1 ≤ code ∧ code ≤ 3)
/-- What is told of any points in any code. -/
def encF (code : Int) (L : List Int) : Value := if sureC code L = true then encR code L else .tuple #[.string ⟨#[]⟩, .bool false]
def sizeF (code : Int) (L : List Int) : Value := if sureC code L = true ∧ L.all (fitC code) = true then .tuple #[.int .i64 (encL code L).length, .bool true] else .tuple #[.int .i64 0, .bool false]
theorem encF_yes {code : Int} {L : List Int} (h : sureC code L = true) : encF code L = encR code L := by unfold encF; rw [if_pos h]
theorem encF_no {code : Int} {L : List Int} (h : sureC code L = false) : encF code L = .tuple #[.string ⟨#[]⟩, .bool false] := by unfold encF; rw [if_neg (by rw [h]; simp)]
theorem sizeF_yes {code : Int} {L : List Int} (h : sureC code L = true) (h2 : L.all (fitC code) = true) : sizeF code L = .tuple #[.int .i64 (encL code L).length, .bool true] := by unfold sizeF; rw [if_pos ⟨h, h2⟩]
theorem sizeF_no {code : Int} {L : List Int} (h : sureC code L = false) : sizeF code L = .tuple #[.int .i64 0, .bool false] := by unfold sizeF; rw [if_neg (by rw [h]; simp)]
theorem sizeF_no2 {code : Int} {L : List Int} (h : L.all (fitC code) = false) : sizeF code L = .tuple #[.int .i64 0, .bool false] := by unfold sizeF; rw [if_neg (by rw [h]; simp)]
/-- What is told of points is a text that it hasn't, or the bytes. -/
theorem encF_cases (code : Int) (L : List Int) : (encF code L = .tuple #[.string ⟨#[]⟩, .bool false] ∧ sizeF code L = .tuple #[.int .i64 0, .bool false]) ∨
    (encF code L = .tuple #[.string ⟨(encL code L).toArray⟩, .bool true] ∧ sizeF code L = .tuple #[.int .i64 (encL code L).length, .bool true] ∧ (encL code L).length ≤ 1200) := by
  rcases h : sureC code L with _ | _
  · exact .inl ⟨encF_no h, sizeF_no h⟩
  · rcases h2 : L.all (fitC code) with _ | _
    · exact .inl ⟨(encF_yes h).trans (encR_no h2), sizeF_no2 h2⟩
    · refine .inr ⟨(encF_yes h).trans (encR_yes h2), sizeF_yes h h2, ?_⟩
      have h3 := encL_len code L
      have h4 : okL L = true := by unfold sureC at h; rw [Bool.and_eq_true] at h; exact h.1
      have h5 := (okL_iff.1 h4).1
      omega

theorem utf_len (l : List UInt8) : (ByteArray.mk l.toArray).size = l.length := by simp [ByteArray.size]

end Go.Proofs.YthboenlfcolinaaDoor
