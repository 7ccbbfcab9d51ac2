/-
  The walk of the program's parts of a type.
-/
import Derived.Test.YtljnciclbjcinaaGreatDoorYPo
namespace Go.Proofs.YtljnciclbjcinaaGreatDoor
open Go.ChangeShapes Go.WideShapes Go.ChangeAt Go.RowKit

theorem endAt_kid {ks : List Nat} {q i : Nat} (h : i < ks.length) : endAt (ks ++ [q]) (q + 1) i = endAt ks q i := by
  unfold endAt
  rw [List.getD_eq_getElem?_getD, List.getD_eq_getElem?_getD]
  by_cases h2 : i + 1 < ks.length
  · rw [List.getElem?_append_left h2]
    rw [List.getElem?_eq_getElem h2]; rfl
  · have e1 : (ks ++ [q])[i + 1]? = some q := by rw [List.getElem?_append_right (by omega), show i + 1 - ks.length = 0 by omega]; rfl
    have e2 : ks[i + 1]? = none := List.getElem?_eq_none (by omega)
    rw [e1, e2]; rfl
theorem endAt_last {ks : List Nat} {c q : Nat} : endAt (ks ++ [c]) q ks.length = q := by
  unfold endAt
  rw [List.getD_eq_getElem?_getD, List.getElem?_eq_none (by simp)]; rfl
theorem endAt_same {ks : List Nat} {q q' i : Nat} (h : i + 1 < ks.length) : endAt ks q i = endAt ks q' i := by
  unfold endAt
  rw [List.getD_eq_getElem?_getD, List.getD_eq_getElem?_getD, List.getElem?_eq_getElem h]; rfl

/-- One more part. -/
theorem PI.kid {L : List Nd} {wr w5 : World} {B q g1 : Nat} {ks : List Nat} {v v' : Value} {S : List Value} (h : PI L wr B ks q v S)
    (hrow : w5.ownsRow B 28 1 v' (ks.length + 1) (S ++ [.slice (some ⟨g1, 0, none⟩) 1 1])) (hg1 : wr.heap.size ≤ g1) (hB : B ≤ g1)
    (hnew : w5.heap[g1]? = some (.cells #[.int .i64 (kdAt L q), .int .i64 (nAt L q), .int .i64 (-1)] 54 (0, 0)))
    (hkeep : ∀ g, g < wr.heap.size → some g ≠ v.ownBlock → w5.heap[g]? = wr.heap[g]?) : PI L w5 B (ks ++ [q]) (q + 1) v' (S ++ [.slice (some ⟨g1, 0, none⟩) 1 1]) := by
  have hS : S.length = ks.length := by have := h.row.1; omega
  refine ⟨by simpa using hrow, fun i hi s hs => ?_, fun i j s t hs ht hne => ?_⟩
  · rcases Nat.lt_or_ge i ks.length with h1 | h1
    · rw [List.getElem?_append_left (by omega)] at hs
      have := h.each i h1 s hs
      rw [List.getElem_append_left h1, endAt_kid h1]
      refine own_keep this fun g hg => ?_
      obtain ⟨cu, hcu, _⟩ := own_at this hg
      refine hkeep g (lt_of_block hcu) fun e => ?_
      obtain ⟨cu', hcu', _⟩ := own_at h.row e.symm
      exact apart_types hcu' hcu (by decide) rfl
    · have hi' : i = ks.length := by simp at hi; omega
      subst hi'
      rw [List.getElem?_append_right (by omega), hS, Nat.sub_self] at hs
      simp at hs
      subst hs
      have e1 : (ks ++ [q])[ks.length]'hi = q := by simp
      rw [e1, endAt_last, segL_one]
      refine ⟨rfl, Or.inr ⟨g1, 1, _, rfl, hB, hnew, by simp, by unfold maxLen; omega, rfl, rfl⟩⟩
  · have old : ∀ (i : Nat) (s : Value), S[i]? = some s → ∀ g, s.ownBlock = some g → g < wr.heap.size := fun i s hs g hg => by
      have hi : i < ks.length := by
        rcases Nat.lt_or_ge i S.length with h1 | h1
        · omega
        · rw [List.getElem?_eq_none h1] at hs; simp at hs
      obtain ⟨cu, hcu, _⟩ := own_at (h.each i hi s hs) hg
      exact lt_of_block hcu
    have new : ∀ (i : Nat) (s : Value), ¬ i < S.length → (S ++ [Value.slice (some ⟨g1, 0, none⟩) 1 1])[i]? = some s → i = S.length ∧ s.ownBlock = some g1 := fun i s hi hs => by
      rw [List.getElem?_append_right (by omega)] at hs
      have : i - S.length = 0 := by
        rcases Nat.eq_zero_or_pos (i - S.length) with h0 | h0
        · exact h0
        · rw [List.getElem?_eq_none (by simp; omega)] at hs; simp at hs
      rw [this] at hs
      simp at hs
      exact ⟨by omega, by rw [← hs]; rfl⟩
    by_cases h1 : i < S.length
    · rw [List.getElem?_append_left h1] at hs
      by_cases h2 : j < S.length
      · rw [List.getElem?_append_left h2] at ht
        exact h.apart i j s t hs ht hne
      · obtain ⟨_, e⟩ := new j t h2 ht
        rw [e]
        intro e2
        have := old i s hs g1 e2
        omega
    · obtain ⟨e0, e⟩ := new i s h1 hs
      by_cases h2 : j < S.length
      · rw [List.getElem?_append_left h2] at ht
        rw [e]
        intro e2
        have := old j t ht g1 e2.symm
        omega
      · obtain ⟨e1, _⟩ := new j t h2 ht
        omega

/-- The last part goes on. -/
theorem PI.more {L : List Nd} {wr w5 : World} {B q c : Nat} {ks : List Nat} {v s' : Value} {S : List Value} (h : PI L wr B (ks ++ [c]) q v S) (hcq : c < q) {s : Value} (hs : S[ks.length]? = some s)
    (hrow : w5.ownsRow B 28 1 v (ks.length + 1) (S.set ks.length s'))
    (hnew : w5.ownsRow B 54 3 s' ((segL L c q).length + 1) (ndv (segL L c q) ++ [.int .i64 (kdAt L q), .int .i64 (nAt L q), .int .i64 (upAt L q - (c : Int))]))
    (hloc : s'.ownBlock = s.ownBlock ∨ ∀ g, s'.ownBlock = some g → wr.heap.size ≤ g)
    (hkeep : ∀ g, g < wr.heap.size → some g ≠ s.ownBlock → some g ≠ v.ownBlock → w5.heap[g]? = wr.heap[g]?) : PI L w5 B (ks ++ [c]) (q + 1) v (S.set ks.length s') := by
  have hS : S.length = ks.length + 1 := by have := h.row.1; simp at this; omega
  refine ⟨by simpa using hrow, fun i hi t ht => ?_, fun i j t u ht hu hne => ?_⟩
  · by_cases hi2 : i = ks.length
    · subst hi2
      rw [List.getElem?_set_self (by omega)] at ht
      simp at ht
      subst ht
      have e1 : (ks ++ [c])[ks.length]'hi = c := by simp
      rw [e1, endAt_last, segL_succ hcq, ← ndv_app, List.length_append]
      exact hnew
    · rw [List.getElem?_set_ne (by omega)] at ht
      have hi3 : i + 1 < (ks ++ [c]).length := by simp at hi ⊢; omega
      have := h.each i hi t ht
      rw [endAt_same hi3 (q' := q)]
      refine own_keep this fun g hg => ?_
      obtain ⟨cu, hcu, _⟩ := own_at this hg
      refine hkeep g (lt_of_block hcu) (fun e => h.apart i ks.length t s ht hs hi2 (by rw [hg, e])) (fun e => ?_)
      obtain ⟨cu', hcu', _⟩ := own_at h.row e.symm
      exact apart_types hcu' hcu (by decide) rfl
  · have bnd : ∀ (i : Nat) (t : Value), S[i]? = some t → i < (ks ++ [c]).length := fun i t ht => by
      rcases Nat.lt_or_ge i S.length with h1 | h1
      · simp; omega
      · rw [List.getElem?_eq_none h1] at ht; simp at ht
    have old : ∀ (i : Nat) (t : Value), S[i]? = some t → i ≠ ks.length → t.ownBlock ≠ s'.ownBlock := fun i t ht hi e => by
      rcases hloc with e1 | e1
      · exact h.apart i ks.length t s ht hs hi (by rw [e, e1])
      · have hb := bnd i t ht
        have he := h.each i hb t ht
        cases hto : t.ownBlock with
        | none =>
          rcases he.2 with ⟨_, h0⟩ | ⟨g, cap, cur, h1, _⟩
          · unfold segL at h0; simp at h0
          · rw [h1] at hto; simp [Value.ownBlock] at hto
        | some g =>
          obtain ⟨cu, hcu, _⟩ := own_at he hto
          have := e1 g (by rw [← e]; exact hto)
          have := lt_of_block hcu
          omega
    by_cases h1 : i = ks.length
    · subst h1
      rw [List.getElem?_set_self (by omega)] at ht
      rw [List.getElem?_set_ne (by omega)] at hu
      simp at ht
      subst ht
      exact fun e => old j u hu (by omega) e.symm
    · rw [List.getElem?_set_ne (by omega)] at ht
      by_cases h2 : j = ks.length
      · subst h2
        rw [List.getElem?_set_self (by omega)] at hu
        simp at hu
        subst hu
        exact old i t ht h1
      · rw [List.getElem?_set_ne (by omega)] at hu
        exact h.apart i j t u ht hu hne

end Go.Proofs.YtljnciclbjcinaaGreatDoor
