/-
  Which rows of nodes are types: the specification's side.
-/
import Derived.Test.YtljnciclbjcinaaGreatDoorYGd3
namespace Go.Proofs.YtljnciclbjcinaaGreatDoor
open Go.ChangeShapes Go.WideShapes Go.ChangeAt Go.RowKit

def hdY : List Nat → Int
  | [] => -1
  | j :: _ => (j : Int)
def PathE (U : Nat → Int) (t : List Nat) : Prop := t = [] ∨ Path U t
theorem path_step {U : Nat → Int} {j : Nat} {r : List Nat} (h : Path U (j :: r)) : PathE U r ∧ U j = hdY r ∧ hdY r < (j : Int) := by
  cases r with
  | nil => obtain ⟨rfl, h0⟩ := h; exact ⟨Or.inl rfl, h0, by simp [hdY]⟩
  | cons i r => obtain ⟨h1, h2, h3⟩ := h; exact ⟨Or.inr h3, h1, by simp [hdY]; omega⟩
theorem path_unique {U : Nat → Int} : ∀ (r r' : List Nat) (j : Nat), Path U (j :: r) → Path U (j :: r') → r = r'
  | [], [], _, _, _ => rfl
  | [], i :: r', j, h, h' => by
    obtain ⟨rfl, h0⟩ := h
    obtain ⟨h1, _, _⟩ := h'
    omega
  | i :: r, [], j, h, h' => by
    obtain ⟨rfl, h0⟩ := h'
    obtain ⟨h1, _, _⟩ := h
    omega
  | i :: r, i' :: r', j, h, h' => by
    obtain ⟨h1, _, h3⟩ := h
    obtain ⟨h1', _, h3'⟩ := h'
    have : i = i' := by omega
    subst this
    rw [path_unique r r' i h3 h3']
theorem hdY_ge (t : List Nat) : -1 ≤ hdY t := by cases t <;> simp [hdY]

/-- What the specification finds at node k: whether its Up is around, and what is around it; and what that says. -/
theorem node_facts {L : List Nd} {k : Nat} (hk : k < L.length) (hz : (k = 0 ∧ upAt L k = -1) ∨ (0 < k ∧ 0 ≤ upAt L k ∧ upAt L k ≤ (k : Int) - 1)) (hs : k = 0 ∨ ∃ s, stk (upAt L) (k - 1) = some s) :
    ∃ (P : Bool) (t q : List Nat), PathE (upAt L) t ∧ (∀ x ∈ t, x < L.length) ∧ hdY t = (k : Int) - 1 ∧ (k = 0 → P = true ∧ t = []) ∧ (0 < k → P = decide ((pops (upAt L k) t).length ≠ 0)) ∧
      Path (upAt L) q ∧ (∀ x ∈ q, x < L.length) ∧ hdY q = (k : Int) ∧ q.length ≤ 9 ∧ ((stk (upAt L) k).isSome = (P && decide (q.length ≤ 8))) := by
  rcases hz with ⟨rfl, hz⟩ | ⟨h0, hz1, hz2⟩
  · refine ⟨true, [], [0], Or.inl rfl, by simp, by simp [hdY], fun _ => ⟨rfl, rfl⟩, fun h => absurd h (by omega), ⟨rfl, hz⟩, by simpa using hk, by simp [hdY], by simp, ?_⟩
    unfold stk; rw [if_pos hz]; simp
  · obtain ⟨s, hs⟩ : ∃ s, stk (upAt L) (k - 1) = some s := by
      rcases hs with h | h
      · omega
      · exact h
    obtain ⟨p1, p2, p3, p4⟩ := stk_good _ _ hs
    obtain ⟨z, hzz⟩ : ∃ z : Nat, upAt L k = (z : Int) := ⟨(upAt L k).toNat, by omega⟩
    obtain ⟨qz, hq⟩ := stk_up hs (show z ≤ k - 1 by omega)
    obtain ⟨q1, q2, q3, q4⟩ := stk_good _ _ hq
    have hqp : Path (upAt L) (k :: qz) := by
      cases qz with
      | nil => simp [Path] at q1
      | cons a r => simp at q2; subst q2; exact ⟨hzz, by omega, q1⟩
    refine ⟨decide ((pops (upAt L k) s).length ≠ 0), s, k :: qz, Or.inr p1, fun x hx => by have := p4 x hx; omega, ?_, fun h => by omega, fun _ => rfl, hqp, ?_, rfl, by simp only [List.length_cons]; omega, ?_⟩
    · cases s with
      | nil => simp [Path] at p1
      | cons a r => simp at p2; subst p2; simp [hdY]; omega
    · intro x hx
      rcases List.mem_cons.1 hx with rfl | hx
      · exact hk
      · have := q4 x hx; omega
    · rw [stk_at (by omega) hs]
      have hpl := pops_len (upAt L k) s
      by_cases hd : (pops (upAt L k) s).length = 0
      · rw [if_pos (Or.inl hd)]; simp [hd]
      · obtain ⟨pp, i, r, e, hi⟩ := pops_path (upAt L k) s p1 hd
        have hiz : i = z := by omega
        subst hiz
        cases qz with
        | nil => simp [Path] at q1
        | cons a r' =>
          simp at q2
          subst q2
          rw [e] at pp
          have hr := path_unique r r' a pp q1
          subst hr
          rw [e] at hpl ⊢
          simp only [List.length_cons] at hpl ⊢
          by_cases h8 : r.length + 1 = 8
          · rw [if_pos (Or.inr h8)]; simp; omega
          · rw [if_neg (by omega)]; simp; omega

/-- A node whose Up is out of bounds. -/
theorem node_out {L : List Nd} {k : Nat} (hz : ¬ ((k = 0 ∧ upAt L k = -1) ∨ (0 < k ∧ 0 ≤ upAt L k ∧ upAt L k ≤ (k : Int) - 1))) (hs : k = 0 ∨ ∃ s, stk (upAt L) (k - 1) = some s) : stk (upAt L) k = none := by
  by_cases h0 : k = 0
  · subst h0
    unfold stk
    rw [if_neg (fun h => hz (Or.inl ⟨rfl, h⟩))]
  · obtain ⟨s, hs⟩ : ∃ s, stk (upAt L) (k - 1) = some s := by
      rcases hs with h | h
      · omega
      · exact h
    rw [stk_at (by omega) hs]
    rw [if_pos]
    left
    apply Classical.byContradiction
    intro hd
    obtain ⟨j, hj, he⟩ := (pops_mem _ _).1 hd
    have := (stk_good _ _ hs).2.2.2 j hj
    exact hz (Or.inr ⟨by omega, by omega, by omega⟩)

end Go.Proofs.YtljnciclbjcinaaGreatDoor
