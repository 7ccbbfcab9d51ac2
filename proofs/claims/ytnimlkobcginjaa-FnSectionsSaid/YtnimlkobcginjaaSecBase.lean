/-
  A slice of sections in memory, and the walks of what the laws do with it: its size, its copy, its comparison.
-/
import Derived.Test.YtnimlkobcginjaaRows
import Derived.WalkKit
import Derived.WalkLawsBesides
import Derived.ProofKit
import Derived.OpenShut
import Derived.Test.YtnimlkobcginjaaOwn
import Derived.Test.YtnimlkobcginjaaBlk
namespace Go.Proofs.Ytnimlkobcginjaa
open Go.ChangeShapes Go.WideShapes Go.ChangeAt Go.RowKit

/-- The sections L lie from cell 'off' of block b on. -/
def secAt (w : World) (b off : Nat) (L : List (Int × ByteArray)) : Prop :=
  ∀ i (h : i < L.length), w.cell? ⟨b, off + i * 2, none⟩ = some (.int .i64 L[i].1) ∧ w.cell? ⟨b, off + i * 2 + 1, none⟩ = some (.string L[i].2)
/-- How many there are, and how many bytes they hold. -/
def secBulk (L : List (Int × ByteArray)) : Nat := (L.map fun x => x.2.size).sum

theorem secBulk_snoc (L : List (Int × ByteArray)) (k : Nat) (h : k < L.length) : secBulk (L.take (k + 1)) = secBulk (L.take k) + L[k].2.size := by
  unfold secBulk; rw [List.take_succ_eq_append_getElem h, List.map_append, List.sum_append]; simp

theorem secs_put (L : List (Int × ByteArray)) (arr : Array Value) (k : Nat) (id : Int) (s : ByteArray) (hk : k < L.length) (hs : arr.size = L.length * 2) (hx : (id, s) = L[k])
    (hA : ∀ j (h : j < L.length), j < k → arr[j * 2]? = some (.int .i64 L[j].1) ∧ arr[j * 2 + 1]? = some (.string L[j].2)) :
    ((arr.setIfInBounds (k * 2) (.int .i64 id)).setIfInBounds (k * 2 + 1) (.string s)).size = L.length * 2 ∧
    ∀ j (h : j < L.length), j < k + 1 → ((arr.setIfInBounds (k * 2) (.int .i64 id)).setIfInBounds (k * 2 + 1) (.string s))[j * 2]? = some (.int .i64 L[j].1) ∧ ((arr.setIfInBounds (k * 2) (.int .i64 id)).setIfInBounds (k * 2 + 1) (.string s))[j * 2 + 1]? = some (.string L[j].2) := by
  refine ⟨by simpa using hs, fun j hj hjk => ?_⟩
  by_cases e : j = k
  · subst e
    rw [← hx]
    constructor
    · rw [Array.getElem?_setIfInBounds_ne (by omega), Array.getElem?_setIfInBounds_self_of_lt (by omega)]
    · rw [Array.getElem?_setIfInBounds_self_of_lt (by simp; omega)]
  · have h := hA j hj (by omega)
    constructor
    · rw [Array.getElem?_setIfInBounds_ne (by omega), Array.getElem?_setIfInBounds_ne (by omega)]; exact h.1
    · rw [Array.getElem?_setIfInBounds_ne (by omega), Array.getElem?_setIfInBounds_ne (by omega)]; exact h.2

theorem Try.info44 : (Try.prog.info? 44).map (fun i => (i.zero, i.size, i.bytes)) = some (some (.agg #[.int .i64 0, .string ⟨#[]⟩]), 2, 24) := by kernel_rfl

end Go.Proofs.Ytnimlkobcginjaa
