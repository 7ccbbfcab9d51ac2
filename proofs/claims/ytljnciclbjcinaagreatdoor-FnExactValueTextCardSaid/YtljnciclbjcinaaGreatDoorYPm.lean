/-
  Parts of types as rows of their own: plain laws.
-/
import Derived.Test.YtljnciclbjcinaaGreatDoorYTr
namespace Go.Proofs.YtljnciclbjcinaaGreatDoor

theorem pops_app {u : Int} {p : Nat} {sk : List Nat} (hu : (p : Int) ≤ u) (hsk : ∀ x ∈ sk, x < p) : ∀ (t : List Nat), (pops u (t ++ p :: sk)).length ≠ 0 → ∃ t', pops u (t ++ p :: sk) = t' ++ p :: sk ∧ ∀ x ∈ t', x ∈ t
  | [], hn => by
    refine ⟨[], ?_, by simp⟩
    by_cases e : (p : Int) = u
    · exact pops_cons_eq e
    · exfalso
      rw [List.nil_append, pops_cons_ne e] at hn
      obtain ⟨j, hj, he⟩ := (pops_mem u sk).1 hn
      have := hsk j hj
      omega
  | a :: t, hn => by
    by_cases e : (a : Int) = u
    · exact ⟨a :: t, pops_cons_eq e, fun x hx => hx⟩
    · rw [List.cons_append, pops_cons_ne e] at hn
      obtain ⟨t', h1, h2⟩ := pops_app hu hsk t hn
      exact ⟨t', by rw [List.cons_append, pops_cons_ne e]; exact h1, fun x hx => List.mem_cons_of_mem _ (h2 x hx)⟩

theorem path_lt {U : Nat → Int} : ∀ (r : List Nat) (j : Nat), Path U (j :: r) → ∀ x ∈ r, x < j ∧ (x : Int) ≤ U j
  | [], _, _, x, hx => by simp at hx
  | i :: r, j, h, x, hx => by
    obtain ⟨h1, h2, h3⟩ := h
    rcases List.mem_cons.1 hx with rfl | hx
    · exact ⟨h2, by omega⟩
    · have := path_lt r i h3 x hx
      omega

/-- While nodes stay within p, what is around p stays around. -/
theorem gap {U : Nat → Int} {p : Nat} {sk : List Nat} (hp : stk U p = some (p :: sk)) : ∀ (d : Nat) (s : List Nat), stk U (p + d) = some s → (∀ i, p < i → i ≤ p + d → (p : Int) ≤ U i) → ∃ t, s = t ++ p :: sk ∧ ∀ x ∈ t, p < x
  | 0, s, h, _ => by
    rw [Nat.add_zero, hp] at h
    simp at h
    exact ⟨[], by simp [← h], by simp⟩
  | d + 1, s, h, hu => by
    obtain ⟨s0, h0⟩ := stk_up h (show p + d ≤ p + (d + 1) by omega)
    obtain ⟨t, rfl, ht⟩ := gap hp d s0 h0 (fun i h1 h2 => hu i h1 (by omega))
    have hpa := (stk_good _ _ hp).1
    have h2 := stk_next h0
    rw [show p + d + 1 = p + (d + 1) by omega] at h2
    rw [h] at h2
    split at h2
    · simp at h2
    · rename_i hn
      simp at h2
      have hne : (pops (U (p + (d + 1))) (t ++ p :: sk)).length ≠ 0 := fun e => hn (Or.inl e)
      obtain ⟨t', e1, e2⟩ := pops_app (hu (p + (d + 1)) (by omega) (by omega)) (fun x hx => (path_lt sk p hpa x hx).1) t hne
      rw [e1] at h2
      refine ⟨(p + (d + 1)) :: t', by rw [h2]; rfl, ?_⟩
      intro x hx
      rcases List.mem_cons.1 hx with rfl | hx
      · omega
      · exact ht x (e2 x hx)

theorem head_of {U : Nat → Int} {k : Nat} {s : List Nat} (h : stk U k = some s) : ∃ sk, s = k :: sk := by
  have := (stk_good _ _ h).2.1
  cases s with
  | nil => simp at this
  | cons a r => simp at this; exact ⟨r, by rw [this]⟩

/-- The next node is within p, or beside p or further out. -/
theorem gap2 {U : Nat → Int} {p j : Nat} {s : List Nat} (hj : stk U j = some s) (hpj : p < j) (hu : ∀ i, p < i → i < j → (p : Int) ≤ U i) : (p : Int) ≤ U j ∨ U j ≤ U p := by
  obtain ⟨sp, hp⟩ := stk_up hj (show p ≤ j by omega)
  obtain ⟨sk, rfl⟩ := head_of hp
  obtain ⟨s0, h0⟩ := stk_up hj (show p + (j - 1 - p) ≤ j by omega)
  obtain ⟨t, rfl, ht⟩ := gap hp (j - 1 - p) s0 h0 (fun i h1 h2 => hu i h1 (by omega))
  have h2 := stk_at (show 1 ≤ j by omega) (show stk U (j - 1) = some (t ++ p :: sk) by rw [← h0]; congr 1; omega)
  rw [hj] at h2
  split at h2
  · simp at h2
  · rename_i hn
    obtain ⟨x, hx, he⟩ := (pops_mem _ _).1 (fun e => hn (Or.inl e))
    rcases List.mem_append.1 hx with hx | hx
    · left; have := ht x hx; omega
    · rcases List.mem_cons.1 hx with rfl | hx
      · left; omega
      · right
        have := (path_lt sk p (stk_good _ _ hp).1 x hx).2
        omega

/-- The nodes of p are those from p on and below e. -/
def isEnd (L : List Nd) (p e : Nat) : Prop := p < e ∧ e ≤ L.length ∧ (∀ j, p < j → j < e → (p : Int) ≤ upAt L j) ∧ (e = L.length ∨ upAt L e < (p : Int))
/-- They, as a type of its own. -/
def segL (L : List Nd) (p e : Nat) : List Nd := (kdAt L p, nAt L p, -1) :: (List.range (e - p - 1)).map fun i => (kdAt L (p + 1 + i), nAt L (p + 1 + i), upAt L (p + 1 + i) - (p : Int))
theorem segL_len {L : List Nd} {p e : Nat} (h : p < e) : (segL L p e).length = e - p := by simp [segL]; omega
theorem segL_one (L : List Nd) (p : Nat) : segL L p (p + 1) = [(kdAt L p, nAt L p, -1)] := by simp [segL]
theorem segL_succ {L : List Nd} {p e : Nat} (h : p < e) : segL L p (e + 1) = segL L p e ++ [(kdAt L e, nAt L e, upAt L e - (p : Int))] := by
  unfold segL
  rw [show e + 1 - p - 1 = (e - p - 1) + 1 by omega, List.range_succ, List.map_append]
  simp only [List.cons_append, List.map_cons, List.map_nil]
  rw [show p + 1 + (e - p - 1) = e by omega]
theorem segL_get {L : List Nd} {p e : Nat} (i : Nat) (h : i < (segL L p e).length) (h0 : 0 < i) : (segL L p e)[i] = (kdAt L (p + i), nAt L (p + i), upAt L (p + i) - (p : Int)) := by
  obtain ⟨j, rfl⟩ : ∃ j, i = j + 1 := ⟨i - 1, by omega⟩
  simp only [segL, List.getElem_cons_succ, List.getElem_map, List.getElem_range]
  rw [show p + 1 + j = p + (j + 1) by omega]
theorem segL_zero {L : List Nd} {p e : Nat} (h : 0 < (segL L p e).length) : (segL L p e)[0] = (kdAt L p, nAt L p, -1) := rfl

/-- All that is good about the Ups. -/
def ups (L : List Nd) : Prop := 1 ≤ L.length ∧ L.length ≤ 40 ∧ ∃ s, stk (upAt L) (L.length - 1) = some s
theorem ups_good {L : List Nd} (h : goodT L = true) : ups L := by
  unfold goodT at h
  simp at h
  obtain ⟨⟨⟨a, b⟩, c⟩, d⟩ := h
  exact ⟨by omega, b, Option.isSome_iff_exists.1 c⟩
theorem ups_at {L : List Nd} (h : ups L) {j : Nat} (hj : j < L.length) : ∃ s, stk (upAt L) j = some s := by
  obtain ⟨_, _, s, hs⟩ := h
  exact stk_up hs (by omega)
theorem segL_whole {L : List Nd} (h : ups L) : segL L 0 L.length = L := by
  apply List.ext_getElem
  · rw [segL_len h.1]; omega
  · intro i h1 h2
    by_cases h0 : i = 0
    · subst h0
      rw [segL_zero]
      obtain ⟨s, hs⟩ := ups_at h h2
      unfold stk at hs
      split at hs
      · rename_i e
        rw [kdAt_get L 0 h2, nAt_get L 0 h2]
        rw [upAt_get L 0 h2] at e
        rw [← e]
      · simp at hs
    · rw [segL_get i h1 (by omega), Nat.zero_add, kdAt_get L i h2, nAt_get L i h2, upAt_get L i h2]
      simp
theorem isEnd_whole {L : List Nd} (h : ups L) : isEnd L 0 L.length := by
  refine ⟨h.1, Nat.le_refl _, fun j h1 h2 => ?_, Or.inl rfl⟩
  obtain ⟨s, hs⟩ := ups_at h h2
  have := up_lt hs h1
  omega

/-- Behind the end nothing is within p any more. -/
theorem kids_in {L : List Nd} (h : ups L) {p e : Nat} (he : isEnd L p e) : ∀ j ∈ kidsOf L p, j < e := by
  obtain ⟨h1, h2, h3, h4⟩ := he
  intro j hj
  apply Classical.byContradiction
  intro hn
  have hjl := (kids_mem hj).2
  have hup : upAt L j = (p : Int) := by unfold kidsOf at hj; simp at hj; exact hj.2.2
  have he2 : upAt L e < (p : Int) := by
    rcases h4 with h4 | h4
    · omega
    · exact h4
  have key : ∀ d s, e + d < L.length → stk (upAt L) (e + d) = some s → p ∉ s := by
    intro d
    induction d with
    | zero =>
      intro s hd hs hm
      obtain ⟨sk, rfl⟩ := head_of hs
      rcases List.mem_cons.1 hm with hm | hm
      · omega
      · have := (path_lt sk _ (stk_good _ _ hs).1 p hm).2
        rw [Nat.add_zero] at this
        omega
    | succ d ih =>
      intro s hd hs hm
      obtain ⟨s0, h0⟩ := ups_at h (show e + d < L.length by omega)
      have h2 := stk_next h0
      rw [show e + d + 1 = e + (d + 1) by omega, hs] at h2
      split at h2
      · simp at h2
      · simp at h2
        rw [h2] at hm
        rcases List.mem_cons.1 hm with hm | hm
        · omega
        · exact ih s0 (by omega) h0 (pops_sub _ _ _ hm)
  by_cases hje : j = e
  · subst hje; omega
  · obtain ⟨s, hs⟩ := ups_at h hjl
    obtain ⟨s0, h0⟩ := ups_at h (show e + (j - 1 - e) < L.length by omega)
    have h2 := stk_at (show 1 ≤ j by omega) (show stk (upAt L) (j - 1) = some s0 by rw [← h0]; congr 1; omega)
    rw [hs] at h2
    split at h2
    · simp at h2
    · rename_i hnn
      obtain ⟨x, hx, hxe⟩ := (pops_mem _ _).1 (fun e => hnn (Or.inl e))
      have : x = p := by omega
      subst this
      exact key _ s0 (by omega) h0 hx
theorem kidsTo_all {L : List Nd} (h : ups L) {p e : Nat} (he : isEnd L p e) : kidsTo L p e = kidsOf L p := by
  unfold kidsTo kidsOf
  have h1 : L.length = e + (L.length - e) := by have := he.2.1; omega
  rw [h1, List.range_add, List.filter_append]
  have : (List.map (fun x => e + x) (List.range (L.length - e))).filter (fun i => decide (p < i) && decide (upAt L i = (p : Int))) = [] := by
    rw [List.filter_eq_nil_iff]
    intro a ha
    obtain ⟨x, hx, rfl⟩ := List.mem_map.1 ha
    have hx := List.mem_range.1 hx
    intro hh
    have hm : e + x ∈ kidsOf L p := by
      unfold kidsOf
      rw [List.mem_filter]
      exact ⟨List.mem_range.2 (by omega), hh⟩
    have := kids_in h he _ hm
    omega
  rw [this]
  simp

/-- Between a part and the next one all lies within it. -/
theorem between {L : List Nd} (h : ups L) {p e c q : Nat} (he : isEnd L p e) (hpc : p < c) (hc : upAt L c = (p : Int)) (hq : q ≤ e) (hno : ∀ j, c < j → j < q → upAt L j ≠ (p : Int)) : ∀ j, c < j → j < q → (c : Int) ≤ upAt L j := by
  intro j
  induction j using Nat.strongRecOn with
  | ind j ih =>
    intro h1 h2
    have hjl : j < L.length := by have := he.2.1; omega
    obtain ⟨s, hs⟩ := ups_at h hjl
    rcases gap2 hs h1 (fun i g1 g2 => ih i g2 g1 (by omega)) with g | g
    · exact g
    · have g2 := he.2.2.1 j (by omega) (by omega)
      have := hno j h1 h2
      omega

/-- Parts one behind the other, the last one up to q. -/
def segsOf (L : List Nd) : List Nat → Nat → List (List Nd)
  | [], _ => []
  | [c], q => [segL L c q]
  | c :: c' :: r, q => segL L c c' :: segsOf L (c' :: r) q
theorem segsOf_app (L : List Nd) : ∀ (ks : List Nat) (c q : Nat), segsOf L (ks ++ [c]) q = segsOf L ks c ++ [segL L c q]
  | [], c, q => rfl
  | [d], c, q => rfl
  | d :: d' :: r, c, q => by
    show segL L d d' :: segsOf L ((d' :: r) ++ [c]) q = _
    rw [segsOf_app L (d' :: r) c q]
    rfl
theorem segsOf_len (L : List Nd) : ∀ (ks : List Nat) (q : Nat), (segsOf L ks q).length = ks.length
  | [], _ => rfl
  | [_], _ => rfl
  | _ :: c' :: r, q => by
    show (segsOf L (c' :: r) q).length + 1 = _
    rw [segsOf_len L (c' :: r) q]; rfl
/-- The end of part i. -/
def endAt (ks : List Nat) (q i : Nat) : Nat := ks.getD (i + 1) q
theorem segsOf_get (L : List Nd) : ∀ (ks : List Nat) (q i : Nat) (h : i < ks.length), (segsOf L ks q)[i]'(by rw [segsOf_len]; exact h) = segL L ks[i] (endAt ks q i)
  | [], _, _, h => by simp at h
  | [c], q, 0, _ => rfl
  | [c], q, i + 1, h => by simp at h
  | c :: c' :: r, q, 0, _ => rfl
  | c :: c' :: r, q, i + 1, h => by
    have := segsOf_get L (c' :: r) q i (by simpa using h)
    show (segsOf L (c' :: r) q)[i]'_ = _
    rw [this]
    rfl

theorem kidsTo_sorted (L : List Nd) (p m : Nat) : (kidsTo L p m).Pairwise (· < ·) := by
  unfold kidsTo
  exact List.Pairwise.filter _ List.pairwise_lt_range
theorem kidsTo_mem {L : List Nd} {p m j : Nat} : j ∈ kidsTo L p m ↔ j < m ∧ p < j ∧ upAt L j = (p : Int) := by
  unfold kidsTo; simp

theorem parts_end {L : List Nd} (h : ups L) {p e : Nat} (he : isEnd L p e) (i : Nat) (hi : i < (kidsOf L p).length) : isEnd L (kidsOf L p)[i] (endAt (kidsOf L p) e i) := by
  obtain ⟨K, hK⟩ : ∃ K, kidsOf L p = K := ⟨_, rfl⟩
  have hs : K.Pairwise (· < ·) := by rw [← hK, ← kidsTo_all h he]; exact kidsTo_sorted ..
  have hm : ∀ j, j ∈ K ↔ j < e ∧ p < j ∧ upAt L j = (p : Int) := by intro j; rw [← hK, ← kidsTo_all h he]; exact kidsTo_mem
  revert hi
  rw [hK]
  intro hi
  have hc := (hm K[i]).1 (List.getElem_mem hi)
  have hend : K[i] < endAt K e i ∧ endAt K e i ≤ e ∧ (endAt K e i = e ∨ upAt L (endAt K e i) = (p : Int)) ∧ ∀ j, K[i] < j → j < endAt K e i → j < e → upAt L j ≠ (p : Int) := by
    unfold endAt
    by_cases hi2 : i + 1 < K.length
    · rw [List.getD_eq_getElem?_getD, List.getElem?_eq_getElem hi2, Option.getD_some]
      have h2 := (hm K[i + 1]).1 (List.getElem_mem hi2)
      refine ⟨List.pairwise_iff_getElem.1 hs i (i + 1) hi hi2 (by omega), by omega, Or.inr h2.2.2, fun j g1 g2 g3 hu => ?_⟩
      obtain ⟨x, hx, e1⟩ := List.getElem_of_mem ((hm j).2 ⟨g3, by omega, hu⟩)
      rcases Nat.lt_or_ge x (i + 1) with hx2 | hx2
      · by_cases e2 : x = i
        · subst e2; omega
        · have := List.pairwise_iff_getElem.1 hs x i hx hi (by omega)
          omega
      · by_cases e2 : x = i + 1
        · subst e2; omega
        · have := List.pairwise_iff_getElem.1 hs (i + 1) x hi2 hx (by omega)
          omega
    · rw [List.getD_eq_getElem?_getD, List.getElem?_eq_none (by omega), Option.getD_none]
      refine ⟨hc.1, Nat.le_refl _, Or.inl rfl, fun j g1 g2 g3 hu => ?_⟩
      obtain ⟨x, hx, e1⟩ := List.getElem_of_mem ((hm j).2 ⟨g3, by omega, hu⟩)
      by_cases e2 : x = i
      · subst e2; omega
      · have := List.pairwise_iff_getElem.1 hs x i hx hi (by omega)
        omega
  obtain ⟨e1, e2, e3, e4⟩ := hend
  refine ⟨e1, by have := he.2.1; omega, between h he hc.2.1 hc.2.2 e2 (fun j g1 g2 => e4 j g1 g2 (by omega)), ?_⟩
  rcases e3 with e3 | e3
  · rw [e3]
    rcases he.2.2.2 with g | g
    · exact Or.inl g
    · right; omega
  · right; omega

/-- The last part met so far goes on. -/
theorem last_part {L : List Nd} (h : ups L) {p e q : Nat} (he : isEnd L p e) (hq : p + 1 ≤ q) (hqe : q < e) (hu : upAt L q ≠ (p : Int)) : ∃ ks c, kidsTo L p q = ks ++ [c] ∧ p < c ∧ c < q ∧ (c : Int) ≤ upAt L q := by
  have hne : kidsTo L p q ≠ [] := by
    intro hn
    have hm : ∀ j, j ∉ kidsTo L p q := by intro j hj; rw [hn] at hj; simp at hj
    have hpl : p + 1 < L.length := by have := he.2.1; omega
    obtain ⟨s, hs⟩ := ups_at h hpl
    have h1 := up_lt hs (by omega)
    have h2 := he.2.2.1 (p + 1) (by omega) (by omega)
    have h3 : upAt L (p + 1) = (p : Int) := by omega
    by_cases e1 : q = p + 1
    · subst e1; exact hu h3
    · exact hm (p + 1) (kidsTo_mem.2 ⟨by omega, by omega, h3⟩)
  obtain ⟨ks, c, hk⟩ : ∃ ks c, kidsTo L p q = ks ++ [c] := ⟨_, _, (List.dropLast_concat_getLast hne).symm⟩
  have hc := kidsTo_mem.1 (show c ∈ kidsTo L p q by rw [hk]; simp)
  have hs := kidsTo_sorted L p q
  rw [hk] at hs
  have hlast : ∀ x ∈ ks, x < c := fun x hx => (List.pairwise_append.1 hs).2.2 x hx c (by simp)
  refine ⟨ks, c, hk, hc.2.1, hc.1, ?_⟩
  exact between h he hc.2.1 hc.2.2 (show q + 1 ≤ e by omega) (fun j g1 g2 hj => by
    by_cases e1 : j = q
    · subst e1; exact hu hj
    · have hm := kidsTo_mem.2 ⟨show j < q by omega, show p < j by omega, hj⟩
      rw [hk] at hm
      rcases List.mem_append.1 hm with hm | hm
      · have := hlast j hm; omega
      · simp at hm; omega) q hc.1 (by omega)

end Go.Proofs.YtljnciclbjcinaaGreatDoor
