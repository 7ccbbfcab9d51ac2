/-
  What is read of a slice of instructions that comes in.
-/
import Derived.Test.YtcgnefgdfgikdaaGreatA3
import Derived.Deep.SlicePairs
import Derived.Test.YtcgnefgdfgikdaaGreatE4
import Derived.Test.YtcgnefgdfgikdaaGreatA2
namespace Go.Proofs.YtcgnefgdfgikdaaGreat
open Go.ChangeShapes Go.WideShapes Go.ChangeAt Go.RowKit Go.Deep

def IsInss (W : World) (a : Option Addr) (L : List (Int × Int)) : Prop :=
  ∃ b off, (L ≠ [] → a = some ⟨b, off, none⟩ ∧ b < W.heap.size) ∧ insAt W b off L ∧ L.length ≤ 9223372036854775807 ∧ fits L

theorem block_of_cell {w : World} {b o : Nat} {v : Value} (h : w.cell? ⟨b, o, none⟩ = some v) : b < w.heap.size := by
  rcases Nat.lt_or_ge b w.heap.size with h' | h'
  · exact h'
  · simp [World.cell?, Array.getElem?_eq_none h'] at h

end Go.Proofs.YtcgnefgdfgikdaaGreat

namespace Go.Proofs.YtcgnefgdfgikdaaGreat
open Go.ChangeShapes Go.WideShapes Go.ChangeAt Go.RowKit

theorem specEnds (a : Option Addr) (b off cap : Nat) (L : List (Int × Int)) (w : World) (ha : Hid (L ≠ [] → a = some ⟨b, off, none⟩ ∧ b < w.heap.size)) (hL : insAt w b off L) (hlen : L.length ≤ 1048576) :
    Calls Tryz.prog 36 #[.slice a L.length cap] w fun e w' => Told w L e w' := by
  by_cases hg : (allG L && decide (L.length ≤ 200)) = true
  · by_cases h0 : L = []
    · exact specEnds_bad a b off cap L w ha hL hlen (Or.inr h0)
    · have h2 := hg
      simp only [Bool.and_eq_true, decide_eq_true_eq] at h2
      exact specEnds_good a b off cap L w ha hL (List.length_pos_iff.2 h0) h2.2 hg
  · exact specEnds_bad a b off cap L w ha hL hlen (Or.inl (by simpa using hg))
theorem implOutline (a : Option Addr) (b off cap : Nat) (L : List (Int × Int)) (w : World) (ha : Hid (L ≠ [] → a = some ⟨b, off, none⟩ ∧ b < w.heap.size)) (hL : insAt w b off L) (hf : fits L) (hlen : L.length ≤ 1048576) :
    Calls Tryz.prog 42 #[.slice a L.length cap] w fun e w' => ToldO w L e w' := by
  by_cases hg : (allG L && decide (L.length ≤ 200)) = true
  · by_cases h0 : L = []
    · exact outline_bad a b off cap L w ha hL hf hlen (Or.inr h0)
    · obtain ⟨rfl, hb⟩ := ha.out h0
      obtain ⟨m, hm⟩ : ∃ m, L.length = m + 1 := ⟨L.length - 1, by have := List.length_pos_iff.2 h0; omega⟩
      by_cases hop : (L[m]'(by omega)).1 = 11
      · exact outline_good b off cap L w hb hL hf hg m hm hop
      · exact outline_last b off cap L w hb hL hf hg m hm hop
  · exact outline_bad a b off cap L w ha hL hf hlen (Or.inl (by simpa using hg))

def endsOf (L : List (Int × Int)) : List Int := (((eo L).map (·.1)).getD []).map fun (k : Nat) => (k : Int)
def deepOf (L : List (Int × Int)) : Int := ((((eo L).map (·.2)).getD 0 : Nat) : Int)
theorem nv_iv (E : List Nat) : nv E = iv (E.map fun (k : Nat) => (k : Int)) := by simp [nv, iv]
theorem ends_row {w w' : World} {L : List (Int × Int)} {v : Value} {E : List Nat} {D : Nat} (h : eo L = some (E, D)) (ho : w'.ownsRow w.heap.size 3 1 v E.length (nv E)) : w'.ownsRow w.heap.size 3 1 v (endsOf L).length (iv (endsOf L)) := by
  unfold endsOf
  rw [h]
  simp only [Option.map_some, Option.getD_some]
  rw [nv_iv] at ho
  simpa using ho
theorem ends_len (L : List (Int × Int)) : (endsOf L).length ≤ 200 := by
  unfold endsOf eo
  split
  · rename_i hg
    simp only [Bool.and_eq_true, decide_eq_true_eq] at hg
    rcases h : bodyOf (ops L) with _ | ⟨E, D⟩
    · simp
    · have : E = bkE 0 (ops L) := by
        unfold bodyOf at h
        split at h
        · simp only [Option.some.injEq, Prod.mk.injEq] at h; exact h.1.symm
        · simp at h
      subst this
      simp only [Option.map_some, Option.getD_some, List.length_map, bkE_len]
      simp [ops]; exact hg.2
  · simp
def EndsTold (L : List (Int × Int)) (w : World) (r : Ending) (w' : World) : Prop := ∃ v, r = .returned (.tuple #[v, .bool (eo L).isSome]) ∧ w'.ownsRow w.heap.size 3 1 v (endsOf L).length (iv (endsOf L)) ∧ Below w.heap.size w w'

end Go.Proofs.YtcgnefgdfgikdaaGreat
