/-
  A slice of instructions in memory, and the walks of what the laws do with it: its size, its copy, its comparison, its marks.
-/
import Derived.Test.YtdalkbapfjpkoaaRows
import Derived.WalkKit
import Derived.WalkLawsBesides
import Derived.ProofKit
import Derived.OpenShut
import Derived.Test.YtdalkbapfjpkoaaOwn
import Derived.Test.YtdalkbapfjpkoaaBlk
import Derived.Deep.RegionWith
namespace Go.Proofs.Ytdalkbapfjpkoaa
open Go.ChangeShapes Go.WideShapes Go.ChangeAt Go.RowKit

/-- The instructions L lie from cell 'off' of block b on. -/
def insAt (w : World) (b off : Nat) (L : List (Int × Int)) : Prop :=
  ∀ i (h : i < L.length), w.cell? ⟨b, off + i * 2, none⟩ = some (.int .i64 L[i].1) ∧ w.cell? ⟨b, off + i * 2 + 1, none⟩ = some (.int .i64 L[i].2)

theorem ins_put (L : List (Int × Int)) (arr : Array Value) (k : Nat) (id : Int) (s : Int) (hk : k < L.length) (hs : arr.size = L.length * 2) (hx : (id, s) = L[k])
    (hA : ∀ j (h : j < L.length), j < k → arr[j * 2]? = some (.int .i64 L[j].1) ∧ arr[j * 2 + 1]? = some (.int .i64 L[j].2)) :
    ((arr.setIfInBounds (k * 2) (.int .i64 id)).setIfInBounds (k * 2 + 1) (.int .i64 s)).size = L.length * 2 ∧
    ∀ j (h : j < L.length), j < k + 1 → ((arr.setIfInBounds (k * 2) (.int .i64 id)).setIfInBounds (k * 2 + 1) (.int .i64 s))[j * 2]? = some (.int .i64 L[j].1) ∧ ((arr.setIfInBounds (k * 2) (.int .i64 id)).setIfInBounds (k * 2 + 1) (.int .i64 s))[j * 2 + 1]? = some (.int .i64 L[j].2) := by
  refine ⟨by simpa using hs, fun j hj hjk => ?_⟩
  by_cases e : j = k
  · subst e
    rw [← hx]
    constructor
    · rw [Array.getElem?_setIfInBounds_ne (by omega), Array.getElem?_setIfInBounds_self_of_lt (by omega)]
    · rw [Array.getElem?_setIfInBounds_self_of_lt (by simp; omega)]
  · have h := hA j hj (by omega)
    constructor
    · rw [Array.getElem?_setIfInBounds_ne (by omega), Array.getElem?_setIfInBounds_ne (by omega)]; exact h.1
    · rw [Array.getElem?_setIfInBounds_ne (by omega), Array.getElem?_setIfInBounds_ne (by omega)]; exact h.2

theorem Try.info37 : (Try.prog.info? 37).map (fun i => (i.zero, i.size, i.bytes)) = some (some (.agg #[.int .i64 0, .int .i64 0]), 2, 16) := by kernel_rfl

end Go.Proofs.Ytdalkbapfjpkoaa
