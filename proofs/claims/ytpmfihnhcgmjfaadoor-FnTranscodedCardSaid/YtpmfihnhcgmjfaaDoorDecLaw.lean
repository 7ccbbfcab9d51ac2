/-
  The walks of the laws on points of a text, and on a text told in another code.
-/
import Derived.Test.YtpmfihnhcgmjfaaDoorDecBoth
import Derived.Test.YtpmfihnhcgmjfaaDoorMarkI
namespace Go.Proofs.YtpmfihnhcgmjfaaDoor
open Go.ChangeShapes Go.WideShapes Go.ChangeAt Go.RowKit Go.PlainAid

theorem tabs_below {w w' : World} (h : UTabs w) (hb : Below w.heap.size w w') : UTabs w' := Utf8Tabs_below h hb
def okR (r : Option (List Int)) : Bool := r.isSome
def ptsR (r : Option (List Int)) : List Int := r.getD []
theorem told_form {w w' : World} {e : Ending} {r : Option (List Int)} (h : ToldN w w' e r) : ∃ v, e = .returned (.tuple #[v, .bool (okR r)]) ∧ w'.ownsRow w.heap.size 3 1 v (ptsR r).length (iv (ptsR r)) ∧ Below w.heap.size w w' := by
  obtain ⟨⟨L, v, rfl, rfl, ho⟩ | ⟨rfl, rfl⟩, hb⟩ := h
  · exact ⟨v, rfl, ho, hb⟩
  · exact ⟨_, rfl, World.ownsRow_nil _ _ _ _, hb⟩
theorem pts_len {code : Int} {s : ByteArray} : (ptsR (gdF code s)).length ≤ 300 := by
  rcases h : gdF code s with _ | L
  · simp [ptsR]
  · have h2 : gd code s = some L := by
      unfold gdF at h; split at h
      · exact h
      · cases h
    exact (okL_iff.1 (gd_some h2).2).1

end Go.Proofs.YtpmfihnhcgmjfaaDoor
