/-
  Which rows of nodes are types: a plain model, and small laws on it.
-/
import Derived.WalkKit
namespace Go.Proofs.YtljnciclbjcinaaGreatDoor

def upAt (L : List (Int × Int × Int)) (k : Nat) : Int := (L.getD k (0, 0, -1)).2.2

/-- Nodes each around the one ahead, down to the first one. -/
def Path (U : Nat → Int) : List Nat → Prop
  | [] => False
  | [j] => j = 0 ∧ U 0 = -1
  | j :: i :: r => U j = (i : Int) ∧ i < j ∧ Path U (i :: r)

def pops (u : Int) : List Nat → List Nat
  | [] => []
  | j :: r => if (j : Int) = u then j :: r else pops u r

/-- What is around node k, with itself, where all is right up to it. -/
def stk (U : Nat → Int) : Nat → Option (List Nat)
  | 0 => if U 0 = -1 then some [0] else none
  | k + 1 => match stk U k with
    | none => none
    | some s => if (pops (U (k + 1)) s).length = 0 ∨ (pops (U (k + 1)) s).length = 8 then none else some ((k + 1) :: pops (U (k + 1)) s)

theorem pops_len (u : Int) (s : List Nat) : (pops u s).length ≤ s.length := by
  induction s with
  | nil => simp [pops]
  | cons j r ih => unfold pops; split <;> simp <;> omega
theorem pops_path {U : Nat → Int} (u : Int) : ∀ s : List Nat, Path U s → (pops u s).length ≠ 0 → Path U (pops u s) ∧ ∃ i r, pops u s = i :: r ∧ (i : Int) = u
  | [], h, _ => by simp [Path] at h
  | [j], h, hn => by
    unfold pops at hn ⊢
    by_cases e : (j : Int) = u
    · rw [if_pos e]; exact ⟨h, j, [], rfl, e⟩
    · rw [if_neg e] at hn; simp [pops] at hn
  | j :: i :: r, h, hn => by
    unfold pops at hn ⊢
    by_cases e : (j : Int) = u
    · rw [if_pos e]; exact ⟨h, j, i :: r, rfl, e⟩
    · rw [if_neg e] at hn ⊢
      exact pops_path u (i :: r) h.2.2 hn
theorem pops_mem (u : Int) (s : List Nat) : (pops u s).length ≠ 0 ↔ ∃ j ∈ s, (j : Int) = u := by
  induction s with
  | nil => simp [pops]
  | cons j r ih =>
    unfold pops
    by_cases e : (j : Int) = u
    · rw [if_pos e]; exact ⟨fun _ => ⟨j, by simp, e⟩, fun _ => by simp⟩
    · rw [if_neg e, ih]
      constructor
      · rintro ⟨i, hi, he⟩; exact ⟨i, by simp [hi], he⟩
      · rintro ⟨i, hi, he⟩
        rcases List.mem_cons.1 hi with rfl | hi
        · exact absurd he e
        · exact ⟨i, hi, he⟩
theorem stk_good {U : Nat → Int} : ∀ k s, stk U k = some s → Path U s ∧ s.head? = some k ∧ s.length ≤ 8 ∧ ∀ j ∈ s, j ≤ k
  | 0, s, h => by
    unfold stk at h
    split at h
    · rename_i h0; simp at h; subst h; exact ⟨⟨rfl, h0⟩, rfl, by simp, by simp⟩
    · simp at h
  | k + 1, s, h => by
    unfold stk at h
    cases hs : stk U k with
    | none => rw [hs] at h; simp at h
    | some t =>
      rw [hs] at h
      simp only at h
      obtain ⟨p1, p2, p3, p4⟩ := stk_good k t hs
      split at h
      · simp at h
      · rename_i hn
        simp at h
        subst h
        obtain ⟨q, i, r, e, hi⟩ := pops_path (U (k + 1)) t p1 (fun e => hn (.inl e))
        have hl := pops_len (U (k + 1)) t
        have hm : ∀ j ∈ pops (U (k + 1)) t, j ∈ t := fun j hj => by
          clear e q hn p1 p2 p3 p4 hs hl
          induction t with
          | nil => simp [pops] at hj
          | cons a b ih =>
            unfold pops at hj
            split at hj
            · exact hj
            · exact List.mem_cons_of_mem _ (ih hj)
        refine ⟨?_, rfl, by simp only [List.length_cons]; omega, ?_⟩
        · rw [e] at q ⊢
          exact ⟨hi.symm, by have := p4 i (hm i (by rw [e]; simp)); omega, q⟩
        · intro j hj
          rcases List.mem_cons.1 hj with rfl | hj
          · omega
          · have := p4 j (hm j hj); omega
theorem stk_none {U : Nat → Int} : ∀ (k m : Nat), stk U k = none → k ≤ m → stk U m = none
  | k, m, h, hl => by
    induction m with
    | zero => obtain rfl : k = 0 := by omega
              exact h
    | succ m ih =>
      by_cases e : k = m + 1
      · subst e; exact h
      · have := ih (by omega)
        unfold stk
        rw [this]
theorem stk_up {U : Nat → Int} {k m : Nat} {s : List Nat} (h : stk U m = some s) (hl : k ≤ m) : ∃ t, stk U k = some t := by
  cases e : stk U k with
  | some t => exact ⟨t, rfl⟩
  | none => rw [stk_none k m e hl] at h; simp at h

/-- The parts of node k. -/
def kidsOf (L : List (Int × Int × Int)) (k : Nat) : List Nat := (List.range L.length).filter fun i => decide (k < i) && decide (upAt L i = (k : Int))

/-- How many parts a kind has at least and at most, and the bounds of its N. -/
def shp4 (kind : Int) : Int × Int × Int × Int :=
  if kind = 13 ∨ kind = 17 then (1, 1, 0, 0)
  else if kind = 14 ∨ kind = 15 then (1, 8, 0, 0)
  else if kind = 18 then (2, 2, 0, 0)
  else if kind = 16 then (0, 0, 1, 32)
  else if kind = 19 then (0, 0, 1, 300)
  else if kind = 20 ∨ kind = 21 then (0, 0, 0, 9)
  else (0, 0, 0, 0)

def nodeOk (x : Int × Int × Int) (c : Int) : Bool :=
  decide (1 ≤ x.1) && decide (x.1 ≤ 21) && decide ((shp4 x.1).1 ≤ c) && decide (c ≤ (shp4 x.1).2.1) && decide ((shp4 x.1).2.2.1 ≤ x.2.1) && decide (x.2.1 ≤ (shp4 x.1).2.2.2)

def nodesOk (L : List (Int × Int × Int)) (k : Nat) : Bool := (List.range k).all fun i => nodeOk (L.getD i (0, 0, -1)) ((kidsOf L i).length : Int)
theorem nodesOk_succ (L : List (Int × Int × Int)) (k : Nat) : nodesOk L (k + 1) = (nodesOk L k && nodeOk (L.getD k (0, 0, -1)) ((kidsOf L k).length : Int)) := by
  unfold nodesOk
  rw [List.range_succ, List.all_append]
  simp
theorem nodesOk_le (L : List (Int × Int × Int)) : ∀ (m k : Nat), nodesOk L m = true → k ≤ m → nodesOk L k = true
  | 0, k, h, hl => by obtain rfl : k = 0 := by omega
                      exact h
  | m + 1, k, h, hl => by
    by_cases e : k = m + 1
    · subst e; exact h
    · rw [nodesOk_succ] at h
      simp at h
      exact nodesOk_le L m k h.1 (by omega)

def goodT (L : List (Int × Int × Int)) : Bool := decide (1 ≤ L.length) && decide (L.length ≤ 40) && (stk (upAt L) (L.length - 1)).isSome && nodesOk L L.length

/-- A node that is wrong makes all of it wrong. -/
theorem goodT_bad {L : List (Int × Int × Int)} {k : Nat} (hk : k < L.length) (h : stk (upAt L) k = none ∨ nodeOk (L.getD k (0, 0, -1)) ((kidsOf L k).length : Int) = false) : goodT L = false := by
  unfold goodT
  rcases h with h | h
  · rw [stk_none k (L.length - 1) h (by omega)]; simp
  · cases e : nodesOk L L.length with
    | false => simp
    | true =>
      have := nodesOk_le L L.length (k + 1) e (by omega)
      rw [nodesOk_succ, h] at this
      simp at this
theorem goodT_yes {L : List (Int × Int × Int)} {s : List Nat} (h1 : 1 ≤ L.length) (h2 : L.length ≤ 40) (h : stk (upAt L) (L.length - 1) = some s) (hn : nodesOk L L.length = true) : goodT L = true := by
  unfold goodT; rw [h, hn]; simp [h1, h2]

/-- How many of the first m nodes, but for the first one, are parts of node i. -/
def cntTo (L : List (Int × Int × Int)) (m i : Nat) : Nat := ((List.range m).filter fun j => decide (0 < j) && decide (upAt L j = (i : Int))).length
theorem cntTo_one (L : List (Int × Int × Int)) (i : Nat) : cntTo L 1 i = 0 := by simp [cntTo]
theorem cntTo_succ (L : List (Int × Int × Int)) (m i : Nat) (hm : 0 < m) : cntTo L (m + 1) i = cntTo L m i + if upAt L m = (i : Int) then 1 else 0 := by
  unfold cntTo
  rw [List.range_succ, List.filter_append, List.length_append]
  congr 1
  by_cases h : upAt L m = (i : Int) <;> simp [h, hm]
theorem cntTo_le (L : List (Int × Int × Int)) (m i : Nat) : cntTo L m i ≤ m := by
  unfold cntTo
  exact Nat.le_trans (List.length_filter_le ..) (by simp)
theorem up_lt {U : Nat → Int} {k : Nat} {s : List Nat} (h : stk U k = some s) (hk : 0 < k) : 0 ≤ U k ∧ U k < k := by
  obtain ⟨p, hh, _, hm⟩ := stk_good k s h
  match s, p, hh with
  | [j], p, hh => simp at hh; obtain ⟨rfl, _⟩ := p; omega
  | j :: i :: r, p, hh => simp at hh; subst hh; obtain ⟨p1, p2, _⟩ := p; omega
theorem cntTo_kids {L : List (Int × Int × Int)} {s : List Nat} (h : stk (upAt L) (L.length - 1) = some s) (i : Nat) : cntTo L L.length i = (kidsOf L i).length := by
  unfold cntTo kidsOf
  congr 1
  apply List.filter_congr
  intro j hj
  have hj := List.mem_range.1 hj
  by_cases e : upAt L j = (i : Int)
  · by_cases h0 : 0 < j
    · obtain ⟨t, ht⟩ := stk_up h (show j ≤ L.length - 1 by omega)
      have := up_lt ht h0
      have : i < j := by omega
      simp [e, h0, this]
    · have : ¬ i < j := by omega
      simp [h0, this]
  · simp [e]
theorem kids_le (L : List (Int × Int × Int)) (k : Nat) : (kidsOf L k).length ≤ L.length := by
  unfold kidsOf
  exact Nat.le_trans (List.length_filter_le ..) (by simp)

end Go.Proofs.YtljnciclbjcinaaGreatDoor
