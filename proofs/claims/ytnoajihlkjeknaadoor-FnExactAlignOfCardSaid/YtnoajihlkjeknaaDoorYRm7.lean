/-
  Rooms of types: equal rows of nodes have equal rooms.
-/
import Derived.Test.YtnoajihlkjeknaaDoorYRm1
namespace Go.Proofs.YtnoajihlkjeknaaDoor

theorem kd_seg {L : List Nd} {p e i : Nat} (hi : p + i < e) : kdAt (segL L p e) i = kdAt L (p + i) := by
  have hl : i < (segL L p e).length := by rw [segL_len (by omega)]; omega
  rw [kdAt_get _ i hl]
  by_cases h0 : i = 0
  · subst h0; rw [segL_zero]; rfl
  · rw [segL_get i hl (by omega)]
theorem n_seg {L : List Nd} {p e i : Nat} (hi : p + i < e) : nAt (segL L p e) i = nAt L (p + i) := by
  have hl : i < (segL L p e).length := by rw [segL_len (by omega)]; omega
  rw [nAt_get _ i hl]
  by_cases h0 : i = 0
  · subst h0; rw [segL_zero]; rfl
  · rw [segL_get i hl (by omega)]
theorem up_seg {L : List Nd} {p e i : Nat} (hi : p + i < e) (h0 : 0 < i) : upAt (segL L p e) i = upAt L (p + i) - (p : Int) := by
  have hl : i < (segL L p e).length := by rw [segL_len (by omega)]; omega
  rw [upAt_get _ i hl, segL_get i hl h0]

/-- What lies within a node's part ends no later. -/
theorem end_in {L : List Nd} {p e k e' : Nat} (he : isEnd L p e) (hk : isEnd L k e') (h1 : p ≤ k) (h2 : k < e) : e' ≤ e := by
  apply Classical.byContradiction
  intro hn
  have h3 := hk.2.2.1 e h2 (by omega)
  have h4 := hk.2.1
  rcases he.2.2.2 with h | h <;> omega

theorem kids_seg {L : List Nd} (hU : ups L) {p e i : Nat} (he : isEnd L p e) (hi : p + i < e) {e' : Nat} (hk : isEnd L (p + i) e') : kidsOf L (p + i) = (kidsOf (segL L p e) i).map (fun j => p + j) := by
  have hpe := he.1
  have hel := he.2.1
  have hin := end_in he hk (by omega) hi
  unfold kidsOf
  rw [segL_len hpe]
  have h1 : L.length = p + ((e - p) + (L.length - e)) := by omega
  rw [h1, List.range_add, List.filter_append, List.range_add, List.map_append, List.filter_append]
  have z1 : (List.range p).filter (fun j => decide (p + i < j) && decide (upAt L j = ((p + i : Nat) : Int))) = [] := by
    rw [List.filter_eq_nil_iff]
    intro a ha
    have := List.mem_range.1 ha
    simp
    omega
  have z2 : (List.map (fun x => p + x) (List.map (fun x => e - p + x) (List.range (L.length - e)))).filter (fun j => decide (p + i < j) && decide (upAt L j = ((p + i : Nat) : Int))) = [] := by
    rw [List.filter_eq_nil_iff]
    intro a ha hh
    obtain ⟨x, hx, rfl⟩ := List.mem_map.1 ha
    obtain ⟨y, hy, rfl⟩ := List.mem_map.1 hx
    have hy := List.mem_range.1 hy
    have hm : p + (e - p + y) ∈ kidsOf L (p + i) := by
      unfold kidsOf
      rw [List.mem_filter]
      exact ⟨List.mem_range.2 (by omega), hh⟩
    have := kids_in hU hk _ hm
    omega
  rw [z1, z2, List.nil_append, List.append_nil, List.filter_map]
  congr 1
  apply List.filter_congr
  intro j hj
  have hj := List.mem_range.1 hj
  simp only [Function.comp]
  by_cases hij : i < j
  · rw [up_seg (show p + j < e by omega) (by omega)]
    have e1 : decide (p + i < p + j) = decide (i < j) := by simp
    have e2 : decide (upAt L (p + j) = ((p + i : Nat) : Int)) = decide (upAt L (p + j) - (p : Int) = (i : Int)) := by
      apply decide_eq_decide.2
      omega
    rw [e1, e2]
  · have e1 : decide (p + i < p + j) = false := by simp; omega
    have e2 : decide (i < j) = false := by simp; omega
    rw [e1, e2]; rfl

theorem foldl_map2 {α β γ : Type} (g : γ → β → γ) (h : α → β) : ∀ (l : List α) (s : γ), (l.map h).foldl g s = l.foldl (fun s a => g s (h a)) s
  | [], _ => rfl
  | _ :: r, _ => foldl_map2 g h r _
theorem foldl_cong {α γ : Type} {g g' : γ → α → γ} : ∀ (l : List α) (s : γ), (∀ s, ∀ a ∈ l, g s a = g' s a) → l.foldl g s = l.foldl g' s
  | [], _, _ => rfl
  | a :: r, s, h => by
    rw [List.foldl_cons, List.foldl_cons, h s a (by simp)]
    exact foldl_cong r _ (fun s b hb => h s b (List.mem_cons_of_mem _ hb))

theorem endEx {L : List Nd} {k : Nat} (hk : k < L.length) : ∃ e, isEnd L k e := by
  have key : ∀ d, k + 1 + d ≤ L.length → (∀ j, k < j → j < k + 1 + d → (k : Int) ≤ upAt L j) → ∃ e, isEnd L k e := by
    intro d
    induction hd : L.length - (k + 1 + d) generalizing d with
    | zero =>
      intro h1 h2
      exact ⟨L.length, by omega, Nat.le_refl _, fun j g1 g2 => h2 j g1 (by omega), Or.inl rfl⟩
    | succ n ih =>
      intro h1 h2
      by_cases hu : upAt L (k + 1 + d) < (k : Int)
      · exact ⟨k + 1 + d, by omega, h1, h2, Or.inr hu⟩
      · refine ih (d + 1) (by omega) (by omega) (fun j g1 g2 => ?_)
        by_cases e : j = k + 1 + d
        · subst e; omega
        · exact h2 j g1 (by omega)
  exact key 0 (by omega) (fun j g1 g2 => by omega)

theorem rm_seg {L : List Nd} (hU : ups L) {p e : Nat} (he : isEnd L p e) : ∀ (f i : Nat), p + i < e → rm (segL L p e) f i = rm L f (p + i)
  | 0, _, _ => rfl
  | f + 1, i, hi => by
    have hel := he.2.1
    obtain ⟨e', hk⟩ := endEx (show p + i < L.length by omega)
    have hin := end_in he hk (by omega) hi
    have hks := kids_seg hU he hi hk
    have ih : ∀ j ∈ kidsOf (segL L p e) i, rm (segL L p e) f j = rm L f (p + j) := fun j hj => by
      have hm : p + j ∈ kidsOf L (p + i) := by rw [hks]; exact List.mem_map.2 ⟨j, hj, rfl⟩
      have := kids_in hU hk _ hm
      exact rm_seg hU he f j (by omega)
    unfold rm
    rw [kd_seg hi, n_seg hi, hks, foldl_map2, foldl_map2]
    rw [foldl_cong (g := fun s c => recS s (rm (segL L p e) f c)) (g' := fun s c => recS s (rm L f (p + c))) _ _ (fun s a ha => by rw [ih a ha])]
    rw [foldl_cong (g := fun s c => varS s (rm (segL L p e) f c)) (g' := fun s c => varS s (rm L f (p + c))) _ _ (fun s a ha => by rw [ih a ha])]

/-- Nodes with equal rows have equal rooms. -/
theorem rm_same {L : List Nd} (hU : ups L) {p e p' e' : Nat} (he : isEnd L p e) (he' : isEnd L p' e') (h : segL L p e = segL L p' e') (f : Nat) : rm L f p = rm L f p' := by
  have h1 := rm_seg hU he f 0 (by have := he.1; omega)
  have h2 := rm_seg hU he' f 0 (by have := he'.1; omega)
  rw [Nat.add_zero] at h1 h2
  rw [← h1, ← h2, h]

/-- More fuel does not matter. -/
theorem rm_fuel (L : List Nd) : ∀ (f g k : Nat), L.length - k ≤ f → L.length - k ≤ g → k < L.length → rm L f k = rm L g k
  | 0, g, k, h1, _, h3 => by omega
  | f + 1, 0, k, _, h2, h3 => by omega
  | f + 1, g + 1, k, h1, h2, h3 => by
    have ih : ∀ c ∈ kidsOf L k, rm L f c = rm L g c := fun c hc => by
      have := kids_mem hc
      exact rm_fuel L f g c (by omega) (by omega) this.2
    unfold rm
    rw [foldl_cong (g := fun s c => recS s (rm L f c)) (g' := fun s c => recS s (rm L g c)) _ _ (fun s a ha => by rw [ih a ha])]
    rw [foldl_cong (g := fun s c => varS s (rm L f c)) (g' := fun s c => varS s (rm L g c)) _ _ (fun s a ha => by rw [ih a ha])]

end Go.Proofs.YtnoajihlkjeknaaDoor
