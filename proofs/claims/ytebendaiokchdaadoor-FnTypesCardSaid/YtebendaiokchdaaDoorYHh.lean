/-
  Whether a type has handles: both sides, and the law.
-/
import Derived.Test.YtebendaiokchdaaDoorYTr
namespace Go.Proofs.YtebendaiokchdaaDoor
open Go.ChangeShapes Go.WideShapes Go.ChangeAt Go.RowKit

def isH (k : Int) : Bool := k == 20 || k == 21
def hnd (L : List Nd) : Nat → Nat → Bool
  | 0, _ => false
  | f + 1, k => isH (kdAt L k) || (kidsOf L k).any (hnd L f)

theorem any_take_succ {K : List Nat} {p : Nat → Bool} {m : Nat} (h : m < K.length) : (K.take (m + 1)).any p = ((K.take m).any p || p K[m]) := by
  rw [List.take_succ_eq_append_getElem h, List.any_append]; simp

/-- A handle anywhere is found from the first node. -/
theorem hnd_up {L : List Nd} : ∀ (s : List Nat) (j : Nat), Path (upAt L) (j :: s) → (∀ x ∈ j :: s, x < L.length) → hnd L (L.length - j) j = true → hnd L L.length 0 = true
  | [], j, h, _, hh => by obtain ⟨rfl, _⟩ := h; simpa using hh
  | i :: s, j, h, hm, hh => by
    obtain ⟨h1, h2, h3⟩ := h
    refine hnd_up s i h3 (fun x hx => hm x (List.mem_cons_of_mem _ hx)) ?_
    have hj := hm j (by simp)
    have hi := hm i (by simp)
    have hk : j ∈ kidsOf L i := by unfold kidsOf; simp [h1, h2, hj]
    have mono : ∀ (f k : Nat), hnd L f k = true → hnd L (f + 1) k = true := by
      intro f
      induction f with
      | zero => intro k h; simp [hnd] at h
      | succ f ih =>
        intro k h
        unfold hnd at h ⊢
        rw [Bool.or_eq_true] at h ⊢
        rcases h with h | h
        · exact Or.inl h
        · right
          obtain ⟨q, hq1, hq2⟩ := List.any_eq_true.1 h
          exact List.any_eq_true.2 ⟨q, hq1, ih q hq2⟩
    have mono2 : ∀ (d f k : Nat), hnd L f k = true → hnd L (f + d) k = true := by
      intro d
      induction d with
      | zero => intro f k h; exact h
      | succ d ih => intro f k h; exact mono _ k (ih f k h)
    have h4 := mono2 (L.length - i - 1 - (L.length - j)) _ _ hh
    rw [show L.length - j + (L.length - i - 1 - (L.length - j)) = L.length - i - 1 by omega] at h4
    rw [show L.length - i = (L.length - i - 1) + 1 by omega]
    unfold hnd
    rw [Bool.or_eq_true]
    right
    exact List.any_eq_true.2 ⟨j, hk, h4⟩
theorem hnd_down {L : List Nd} : ∀ (f k : Nat), hnd L f k = true → ∃ j, j < max L.length (k + 1) ∧ isH (kdAt L j) = true
  | 0, k, h => by simp [hnd] at h
  | f + 1, k, h => by
    unfold hnd at h
    rw [Bool.or_eq_true] at h
    rcases h with h | h
    · exact ⟨k, by omega, h⟩
    · obtain ⟨q, hq1, hq2⟩ := List.any_eq_true.1 h
      obtain ⟨j, hj1, hj2⟩ := hnd_down f q hq2
      have := kids_mem hq1
      exact ⟨j, by omega, hj2⟩
theorem hnd_all {L : List Nd} (hg : goodT L = true) : hnd L L.length 0 = L.any (fun x => isH x.1) := by
  have h1 : 1 ≤ L.length ∧ ∃ s, stk (upAt L) (L.length - 1) = some s := by
    unfold goodT at hg
    simp at hg
    obtain ⟨⟨⟨a, b⟩, c⟩, d⟩ := hg
    exact ⟨by omega, Option.isSome_iff_exists.1 c⟩
  obtain ⟨h1, s, hs⟩ := h1
  cases e : L.any (fun x => isH x.1) with
  | true =>
    obtain ⟨x, hx, hxh⟩ := List.any_eq_true.1 e
    obtain ⟨j, hj, rfl⟩ := List.getElem_of_mem hx
    obtain ⟨t, ht⟩ := stk_up hs (show j ≤ L.length - 1 by omega)
    obtain ⟨p1, p2, p3, p4⟩ := stk_good _ _ ht
    cases t with
    | nil => simp at p2
    | cons a r =>
      simp at p2
      subst p2
      refine hnd_up r a p1 (fun x hx => by have := p4 x hx; omega) ?_
      rw [show L.length - a = (L.length - a - 1) + 1 by omega]
      unfold hnd
      rw [kdAt_get L a hj, hxh]
      rfl
  | false =>
    cases h : hnd L L.length 0 with
    | false => rfl
    | true =>
      obtain ⟨j, hj, hjh⟩ := hnd_down _ _ h
      have hj' : j < L.length := by omega
      rw [kdAt_get L j hj'] at hjh
      have : L.any (fun x => isH x.1) = true := List.any_eq_true.2 ⟨L[j], List.getElem_mem hj', hjh⟩
      rw [this] at e
      cases e

end Go.Proofs.YtebendaiokchdaaDoor
