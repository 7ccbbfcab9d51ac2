/-
  Where the blocks of a body end, and how deep they go. Plain facts.
-/
import Derived.Test.YtcgnefgdfgikdaaGreatE5
import Derived.Test.YtcgnefgdfgikdaaGreatKA8
namespace Go.Proofs.YtcgnefgdfgikdaaGreat

theorem bk_ends : ∀ (l : List Int) (i : Nat) (st : List (Nat × Bool)), bk i l = some st → ∀ x ∈ st, i ≤ x.1 ∧ x.1 < i + l.length ∧ l[x.1 - i]? = some 11
  | [], i, st, h, x, hx => by
    simp [bk] at h
    subst h
    cases hx
  | op :: r, i, st, h, x, hx => by
    simp only [bk, Option.bind_eq_some_iff] at h
    obtain ⟨s', hs', h⟩ := h
    have ih := bk_ends r (i + 1) s' hs'
    have up : ∀ y ∈ s', i ≤ y.1 ∧ y.1 < i + (op :: r).length ∧ (op :: r)[y.1 - i]? = some 11 := fun y hy => by
      obtain ⟨a, b, c⟩ := ih y hy
      refine ⟨by omega, by simp only [List.length_cons]; omega, ?_⟩
      rw [show y.1 - i = (y.1 - (i + 1)) + 1 by omega, List.getElem?_cons_succ]
      exact c
    unfold bkStep at h
    by_cases h11 : op = 11
    · rw [if_pos h11] at h
      simp only [Option.some.injEq] at h
      subst h
      rcases List.mem_cons.1 hx with rfl | hx
      · subst h11
        simp
      · exact up x hx
    · rw [if_neg h11] at h
      cases s' with
      | nil => simp at h
      | cons y t =>
        obtain ⟨e, d⟩ := y
        simp only at h
        split at h
        · split at h
          · simp at h
          · simp only [Option.some.injEq] at h
            subst h
            rcases List.mem_cons.1 hx with rfl | hx
            · exact up (e, d) (by simp)
            · exact up x (by simp [hx])
        · split at h
          · split at h
            · simp at h
            · simp only [Option.some.injEq] at h
              subst h
              exact up x (by simp [hx])
          · simp only [Option.some.injEq] at h
            subst h
            exact up x hx
theorem bk_more {op : Int} {r : List Int} {i : Nat} {st : List (Nat × Bool)} (h : bk i (op :: r) = some st) : ∃ s', bk (i + 1) r = some s' ∧ bkStep i op s' = some st := by
  simpa only [bk, Option.bind_eq_some_iff] using h
theorem bkE_at : ∀ (l : List Int) (i : Nat) (st : List (Nat × Bool)), bk i l = some st → ∀ (j e : Nat), (bkE i l)[j]? = some e → i + j ≤ e ∧ e < i + l.length ∧ l[e - i]? = some 11
  | [], i, st, h, j, e, he => by simp [bkE] at he
  | op :: r, i, st, h, j, e, he => by
    obtain ⟨s', hs', h⟩ := bk_more h
    cases j with
    | zero =>
      simp only [bkE, List.getElem?_cons_zero, Option.some.injEq, hs', Option.getD_some] at he
      unfold bkTop at he
      by_cases h11 : op = 11
      · rw [if_pos h11] at he
        subst he
        subst h11
        simp
      · rw [if_neg h11] at he
        unfold bkStep at h
        rw [if_neg h11] at h
        cases s' with
        | nil => simp at h
        | cons y t =>
          simp only [List.headD_cons] at he
          obtain ⟨a, b, c⟩ := bk_ends r (i + 1) _ hs' y (by simp)
          rw [he] at a b c
          refine ⟨by omega, by simp only [List.length_cons]; omega, ?_⟩
          rw [show e - i = (e - (i + 1)) + 1 by omega, List.getElem?_cons_succ]
          exact c
    | succ j =>
      simp only [bkE, List.getElem?_cons_succ] at he
      obtain ⟨a, b, c⟩ := bkE_at r (i + 1) s' hs' j e he
      refine ⟨by omega, by simp only [List.length_cons]; omega, ?_⟩
      rw [show e - i = (e - (i + 1)) + 1 by omega, List.getElem?_cons_succ]
      exact c
theorem bkE_end : ∀ (l : List Int) (i j : Nat), l[j]? = some 11 → (bkE i l)[j]? = some (i + j)
  | [], i, j, h => by simp at h
  | op :: r, i, 0, h => by
    simp only [List.getElem?_cons_zero, Option.some.injEq] at h
    subst h
    simp [bkE, bkTop]
  | op :: r, i, j + 1, h => by
    simp only [List.getElem?_cons_succ] at h
    simp only [bkE, List.getElem?_cons_succ]
    rw [bkE_end r (i + 1) j h]
    congr 1
    omega
/-- How many blocks are open behind an instruction. -/
theorem bk_open {op : Int} {i : Nat} {s' st : List (Nat × Bool)} (h : bkStep i op s' = some st) : (opens op = true → op ≠ 11 ∧ s'.length = st.length + 1) ∧ (op = 11 → st.length = s'.length + 1) ∧ (opens op = false → op ≠ 11 → s'.length = st.length) := by
  have hno := opens_not op
  unfold bkStep at h
  by_cases h11 : op = 11
  · rw [if_pos h11] at h
    simp only [Option.some.injEq] at h
    subst h
    subst h11
    exact ⟨fun h => absurd rfl (hno h).2, fun _ => by simp, fun _ h => absurd rfl h⟩
  · rw [if_neg h11] at h
    cases s' with
    | nil => simp at h
    | cons y t =>
      obtain ⟨e, d⟩ := y
      simp only at h
      split at h
      · rename_i h5
        split at h
        · simp at h
        · simp only [Option.some.injEq] at h
          subst h
          exact ⟨fun h => absurd h5 (hno h).1, fun h => absurd h h11, fun _ _ => by simp⟩
      · split at h
        · rename_i ho
          split at h
          · simp at h
          · simp only [Option.some.injEq] at h
            subst h
            exact ⟨fun _ => ⟨h11, by simp⟩, fun h => absurd h h11, fun h => by rw [ho] at h; cases h⟩
        · rename_i ho
          simp only [Option.some.injEq] at h
          subst h
          exact ⟨fun h => absurd h ho, fun h => absurd h h11, fun _ _ => rfl⟩
/-- The deepest so far, one instruction on. -/
theorem bk_most {op : Int} {r : List Int} {i m D : Nat} {s' st : List (Nat × Bool)} (hs : bk (i + 1) r = some s') (h : bkStep i op s' = some st) (hm : st.length ≤ m) (hD : max m (bkD i (op :: r)) = D) : s'.length ≤ max m s'.length ∧ max (max m s'.length) (bkD (i + 1) r) = D := by
  have h1 := bk_len_le r (i + 1) s' hs
  refine ⟨Nat.le_max_right _ _, ?_⟩
  rw [← hD]
  simp only [bkD, hs, Option.getD_some]
  split
  · rename_i h11
    have h2 := (bk_open h).2.1 h11
    omega
  · omega
/-- What a body's ends are. -/
structure BodyT (L : List (Int × Int)) (E : List Nat) (D : Nat) : Prop where
  len : E.length = L.length
  ends : ∀ (i e : Nat), E[i]? = some e → i ≤ e ∧ e < L.length ∧ (ops L)[e]? = some 11 ∧ E[e]? = some e
  first : ∃ st, bk 0 (ops L) = some st ∧ st.length ≤ 1 ∧ st.length = 1 ∧ max 1 (bkD 0 (ops L)) = D
theorem body_told {L : List (Int × Int)} {E : List Nat} {D : Nat} (h : eo L = some (E, D)) : L.length ≤ 200 ∧ allG L = true ∧ BodyT L E D := by
  unfold eo at h
  split at h
  · rename_i hg
    simp only [Bool.and_eq_true, decide_eq_true_eq] at hg
    unfold bodyOf at h
    split at h
    · rename_i e he
      simp only [Option.some.injEq, Prod.mk.injEq] at h
      obtain ⟨rfl, rfl⟩ := h
      have hlen : (bkE 0 (ops L)).length = L.length := by rw [bkE_len]; simp [ops]
      refine ⟨hg.2, hg.1, hlen, fun i e2 h2 => ?_, _, he, by simp, by simp, ?_⟩
      · obtain ⟨a, b, c⟩ := bkE_at _ 0 _ he i e2 h2
        rw [Nat.sub_zero] at c
        refine ⟨by omega, by simpa [ops] using b, c, ?_⟩
        have := bkE_end (ops L) 0 e2 c
        simpa using this
      · have := bk_len_le _ 0 _ he
        simp only [List.length_cons, List.length_nil] at this
        omega
    · cases h
  · cases h

end Go.Proofs.YtcgnefgdfgikdaaGreat

namespace Go.Proofs.YtcgnefgdfgikdaaGreat

/-- A func with a step that does nothing ahead. -/
def nopF (f : Fun7) : Fun7 := { f with body := (1, 0) :: f.body }
def nopM (M : Mod7) (k : Nat) : Mod7 := { M with fs := M.fs.modify k nopF }
theorem nopM_at (M : Mod7) (k j : Nat) : (nopM M k).fs[j]? = (M.fs[j]?).map (fun f => if k = j then nopF f else f) := by
  unfold nopM
  simp only [List.getElem?_modify]
  cases M.fs[j]? <;> split <;> simp_all
theorem nopM_eff (M : Mod7) (k : Nat) (own : List Int) (op a : Int) (s : St) : effS (nopM M k) own op a s = effS M own op a s := by
  have hg : (nopM M k).gs = M.gs := rfl
  have hm : (nopM M k).mem = M.mem := rfl
  unfold effS
  rw [nopM_at, hg, hm]
  cases M.fs[a.toNat]? with
  | none => rfl
  | some f => by_cases h : k = a.toNat <;> simp [h, nopF]
theorem nopM_step (M : Mod7) (k : Nat) (own : List Int) (res op a : Int) (s : St) : stepS (nopM M k) own res op a s = stepS M own res op a s := by
  unfold stepS
  rw [nopM_eff]
theorem nopM_run (M : Mod7) (k : Nat) (own : List Int) (res : Int) : ∀ (L : List (Int × Int)) (j : Nat) (s : St), runS (nopM M k) own res j L s = runS M own res j L s
  | [], _, _ => rfl
  | x :: L, j, s => by
    unfold runS
    rw [nopM_step]
    cases stepS M own res x.1 x.2 s with
    | error c => rfl
    | ok s' => exact nopM_run M k own res L (j + 1) s'
theorem run_shift (M : Mod7) (own : List Int) (res : Int) : ∀ (L : List (Int × Int)) (j : Nat) (s : St), runS M own res (j + 1) L s = (match runS M own res j L s with | .error (c, q) => .error (c, q + 1) | .ok s' => .ok s')
  | [], _, _ => rfl
  | x :: L, j, s => by
    unfold runS
    cases stepS M own res x.1 x.2 s with
    | error c => rfl
    | ok s' => exact run_shift M own res L (j + 1) s'
theorem nop_step (M : Mod7) (own : List Int) (res : Int) (s : St) : stepS M own res 1 0 s = .ok s := by
  unfold stepS effS plainEff
  simp [takes, Except.bind, Except.map, putI, List.foldlM, pure, Except.pure]
/-- What is told of a func with such a step ahead. -/
theorem nop_check (M : Mod7) (k : Nat) (f : Fun7) : (checkS (nopM M k) (nopF f)).1 = (checkS M f).1 ∧ ((checkS M f).1 = 0 ∨ (checkS (nopM M k) (nopF f)).2.1 = (checkS M f).2.1 + 1) := by
  unfold checkS nopF
  simp only [nopM_run]
  have e : runS M (f.ps ++ f.ls) f.res 0 ((1, 0) :: f.body) (firstS f.res) = runS M (f.ps ++ f.ls) f.res 1 f.body (firstS f.res) := by
    rw [runS]
    simp only [nop_step]
  rw [e, run_shift]
  cases h : runS M (f.ps ++ f.ls) f.res 0 f.body (firstS f.res) with
  | error x => obtain ⟨c, q⟩ := x; exact ⟨rfl, .inr (by simp)⟩
  | ok s => exact ⟨rfl, .inl rfl⟩
theorem bk_shift : ∀ (l : List Int) (i : Nat), bk (i + 1) l = (bk i l).map (fun st => st.map fun x => (x.1 + 1, x.2))
  | [], i => rfl
  | op :: r, i => by
    simp only [bk, bk_shift r (i + 1)]
    cases bk (i + 1) r with
    | none => rfl
    | some st =>
      simp only [Option.map_some, Option.bind_some]
      unfold bkStep
      by_cases h11 : op = 11
      · simp [h11]
      · simp only [if_neg h11]
        cases st with
        | nil => rfl
        | cons y t =>
          obtain ⟨e, d⟩ := y
          simp only [List.map_cons]
          by_cases h5 : op = 5
          · simp only [if_pos h5]
            cases d <;> simp
          · simp only [if_neg h5]
            by_cases ho : opens op = true
            · simp only [if_pos ho]
              by_cases ht : t = [] ∨ (d = true ∧ op ≠ 4)
              · rw [if_pos ht, if_pos (by simpa using ht)]; rfl
              · rw [if_neg ht, if_neg (by simpa using ht)]; rfl
            · simp [if_neg ho]
theorem nop_body {L : List (Int × Int)} (h : (eo L).isSome = true) (hl : L.length < 200) : (eo ((1, 0) :: L)).isSome = true := by
  obtain ⟨⟨E, D⟩, he⟩ := Option.isSome_iff_exists.1 h
  unfold eo at he
  split at he
  · rename_i hg
    simp only [Bool.and_eq_true, decide_eq_true_eq] at hg
    unfold bodyOf at he
    split at he
    · rename_i e hb
      have hb2 : bk 0 (ops ((1, 0) :: L)) = some [(e + 1, false)] := by
        have := bk_shift (ops L) 0
        rw [hb] at this
        simp only [Nat.zero_add, Option.map_some, List.map_cons, List.map_nil] at this
        show bk 0 (1 :: ops L) = _
        simp only [bk, this, Nat.zero_add, Option.bind_some]
        simp [bkStep, opens]
      have hg2 : (allG ((1, 0) :: L) && decide (((1, 0) :: L : List (Int × Int)).length ≤ 200)) = true := by
        simp only [allG, List.all_cons, Bool.and_eq_true, decide_eq_true_eq, List.length_cons]
        exact ⟨⟨by decide, hg.1⟩, by omega⟩
      unfold eo
      rw [if_pos hg2]
      unfold bodyOf
      rw [hb2]
      rfl
    · cases he
  · cases he
theorem nop_good {f : Fun7} (h : goodF f = true) (hl : f.body.length < 200) : goodF (nopF f) = true := by
  unfold goodF at h ⊢
  simp only [Bool.and_eq_true] at h ⊢
  obtain ⟨⟨⟨a, b⟩, c⟩, d⟩ := h
  exact ⟨⟨⟨nop_body a hl, b⟩, c⟩, d⟩
theorem nop_shape {M : Mod7} {k : Nat} {f : Fun7} (h : shape M = true) (hf : M.fs[k]? = some f) (hl : f.body.length < 200) : shape (nopM M k) = true := by
  unfold shape at h ⊢
  simp only [Bool.and_eq_true, decide_eq_true_eq] at h ⊢
  obtain ⟨⟨⟨⟨⟨h1, h2⟩, h3⟩, h4⟩, h5⟩, h6⟩ := h
  refine ⟨⟨⟨⟨⟨by simpa [nopM] using h1, h2⟩, ?_⟩, h4⟩, h5⟩, ?_⟩
  · rw [List.all_eq_true] at h3 ⊢
    intro x hx
    obtain ⟨j, hj⟩ := List.mem_iff_getElem?.1 hx
    rw [nopM_at] at hj
    cases hm : M.fs[j]? with
    | none => rw [hm] at hj; simp at hj
    | some y =>
      rw [hm] at hj
      simp only [Option.map_some, Option.some.injEq] at hj
      have hy := h3 y (List.mem_iff_getElem?.2 ⟨j, hm⟩)
      by_cases hkj : k = j
      · rw [if_pos hkj] at hj
        subst hkj
        rw [hf] at hm
        obtain rfl := Option.some.inj hm
        rw [← hj]
        exact nop_good hy hl
      · rw [if_neg hkj] at hj
        rw [← hj]
        exact hy
  · unfold goodS at h6 ⊢
    show (decide (M.start = -1) || (decide (0 ≤ M.start) && (match (nopM M k).fs[M.start.toNat]? with | some f => decide (f.ps.length = 0) && decide (f.res = 64) | none => false))) = true
    rw [nopM_at]
    cases hm : M.fs[M.start.toNat]? with
    | none => rw [hm] at h6; exact h6
    | some y =>
      rw [hm] at h6
      by_cases hkj : k = M.start.toNat
      · simpa [hkj, nopF] using h6
      · simpa [hkj] using h6
theorem firstBad_ok (M : Mod7) : ∀ (L : List Fun7) (k : Nat), (firstBad M k L).1 = 0 → ∀ f ∈ L, (checkS M f).1 = 0
  | [], _, _, f, hf => by cases hf
  | g :: L, k, h, f, hf => by
    unfold firstBad at h
    by_cases h0 : (checkS M g).1 = 0
    · rw [if_pos h0] at h
      rcases List.mem_cons.1 hf with rfl | hf
      · exact h0
      · exact firstBad_ok M L (k + 1) h f hf
    · rw [if_neg h0] at h
      exact absurd h h0

/-- A stack that is no higher, and no higher mark. -/
def noMore (s s' : St) : Prop := s'.vals.length ≤ s.vals.length ∧ s'.most = s.most
def oneMore (s s' : St) : Prop := s'.vals.length ≤ s.vals.length + 1 ∧ s'.most ≤ max s.most (s.vals.length + 1)
theorem noMore_trans {a b c : St} (h : noMore a b) (k : noMore b c) : noMore a c := ⟨Nat.le_trans k.1 h.1, k.2.trans h.2⟩
theorem noMore_one {a b : St} (h : noMore a b) : oneMore a b := ⟨Nat.le_succ_of_le h.1, by rw [h.2]; exact Nat.le_max_left _ _⟩
theorem one_after {a b c : St} (h : noMore a b) (k : oneMore b c) : oneMore a c := ⟨by have := h.1; have := k.1; omega, by have h1 := h.1; have h2 := k.2; rw [h.2] at h2; omega⟩
theorem takeT_no {want : Ty} {s : St} {x : Ty × St} (h : takeT want s = .ok x) : noMore s x.2 := by
  unfold takeT at h
  cases ho : s.opn with
  | nil => rw [ho] at h; cases h
  | cons b r =>
    rw [ho] at h
    simp only at h
    split at h
    · split at h
      · simp only [Except.ok.injEq] at h; subst h; exact ⟨Nat.le_refl _, rfl⟩
      · cases h
    · cases hv : s.vals with
      | nil => rw [hv] at h; cases h
      | cons t vs =>
        rw [hv] at h
        simp only at h
        split at h
        · simp only [Except.ok.injEq] at h; subst h; exact ⟨by simp [hv], rfl⟩
        · cases h
theorem takeI_no {k : Int} {s s' : St} (h : takeI k s = .ok s') : noMore s s' := by
  unfold takeI at h
  split at h
  · simp only [Except.ok.injEq] at h; subst h; exact ⟨Nat.le_refl _, rfl⟩
  · cases ht : takeT (wt k) s with
    | error e => rw [ht] at h; cases h
    | ok x => rw [ht] at h; simp only [Except.map, Except.ok.injEq] at h; subst h; exact takeT_no ht
theorem putT_one (t : Ty) (s : St) : oneMore s (putT t s) := ⟨by simp [putT], Nat.le_refl _⟩
theorem putI_one (k : Int) (s : St) : oneMore s (putI k s) := by
  unfold putI
  split
  · exact ⟨Nat.le_succ _, Nat.le_max_left _ _⟩
  · exact putT_one _ _
theorem dieS_no (s : St) : noMore s (dieS s) := by
  unfold dieS
  split
  · exact ⟨Nat.le_refl _, rfl⟩
  · exact ⟨by simp, rfl⟩
theorem beginS_no (op k : Int) (s : St) : noMore s (beginS op k s) := ⟨Nat.le_refl _, rfl⟩
theorem closeS_no {s s' : St} (h : closeS s = .ok s') : noMore s s' := by
  unfold closeS at h
  cases ho : s.opn with
  | nil => rw [ho] at h; cases h
  | cons b r =>
    rw [ho] at h
    simp only at h
    cases ht : takeI b.kind s with
    | error e => rw [ht] at h; cases h
    | ok x =>
      rw [ht] at h
      simp only [Except.bind] at h
      split at h
      · simp only [Except.ok.injEq] at h; subst h; exact takeI_no ht
      · cases h
theorem takes_no : ∀ (ks : List Int) (s s' : St), takes ks s = .ok s' → noMore s s'
  | [], s, s', h => by
    simp only [takes, List.foldlM, pure, Except.pure, Except.ok.injEq] at h
    subst h
    exact ⟨Nat.le_refl _, rfl⟩
  | k :: ks, s, s', h => by
    simp only [takes, List.foldlM, bind, Except.bind] at h
    cases ht : takeI k s with
    | error e => rw [ht] at h; cases h
    | ok x => rw [ht] at h; exact noMore_trans (takeI_no ht) (takes_no ks x s' h)
theorem stepJ_one {M : Mod7} {own : List Int} {res op a : Int} {s s' : St} (h : stepS M own res op a s = .ok s') : oneMore s s' := by
  unfold stepS at h
  split at h
  · simp only [Except.ok.injEq] at h; subst h; exact noMore_one (beginS_no _ _ _)
  split at h
  · cases ht : takeI 127 s with
    | error e => rw [ht] at h; cases h
    | ok x => rw [ht] at h; simp only [Except.map, Except.ok.injEq] at h; subst h; exact noMore_one (noMore_trans (takeI_no ht) (beginS_no _ _ _))
  split at h
  · unfold elseS at h
    cases ht : closeS s with
    | error e => rw [ht] at h; cases h
    | ok x =>
      rw [ht] at h
      simp only [Except.map, Except.ok.injEq] at h
      subst h
      refine noMore_one (noMore_trans (closeS_no ht) ?_)
      split
      · exact ⟨Nat.le_refl _, rfl⟩
      · exact ⟨Nat.le_refl _, rfl⟩
  split at h
  · unfold endS at h
    cases ht : closeS s with
    | error e => rw [ht] at h; cases h
    | ok x =>
      rw [ht] at h
      simp only [Except.bind] at h
      cases ho : x.opn with
      | nil => rw [ho] at h; cases h
      | cons b r =>
        rw [ho] at h
        simp only at h
        split at h
        · cases h
        · simp only [Except.ok.injEq] at h
          subst h
          refine one_after (closeS_no ht) ?_
          split
          · exact ⟨Nat.le_succ _, Nat.le_max_left _ _⟩
          · exact putI_one b.kind { x with opn := r }
  split at h
  · simp only [Except.ok.injEq] at h; subst h; exact noMore_one (dieS_no _)
  split at h
  · cases ht : takeI res s with
    | error e => rw [ht] at h; cases h
    | ok x => rw [ht] at h; simp only [Except.map, Except.ok.injEq] at h; subst h; exact noMore_one (noMore_trans (takeI_no ht) (dieS_no _))
  split at h
  · cases hw : wantsS a s with
    | error e => rw [hw] at h; cases h
    | ok k =>
      rw [hw] at h
      simp only [Except.bind] at h
      cases ht : takeI k s with
      | error e => rw [ht] at h; cases h
      | ok x => rw [ht] at h; simp only [Except.map, Except.ok.injEq] at h; subst h; exact noMore_one (noMore_trans (takeI_no ht) (dieS_no _))
  split at h
  · unfold selS at h
    cases h1 : takeI 127 s with
    | error e => rw [h1] at h; cases h
    | ok x =>
      rw [h1] at h
      simp only [Except.bind] at h
      cases h2 : takeT none x with
      | error e => rw [h2] at h; cases h
      | ok y =>
        rw [h2] at h
        simp only at h
        cases h3 : takeT y.1 y.2 with
        | error e => rw [h3] at h; cases h
        | ok z =>
          rw [h3] at h
          simp only [Except.map, Except.ok.injEq] at h
          subst h
          exact one_after (noMore_trans (noMore_trans (takeI_no h1) (takeT_no h2)) (takeT_no h3)) (putT_one _ _)
  · cases he : effS M own op a s with
    | error e => rw [he] at h; cases h
    | ok e =>
      rw [he] at h
      simp only [Except.bind] at h
      cases ht : takes e.1 s with
      | error e' => rw [ht] at h; cases h
      | ok x => rw [ht] at h; simp only [Except.map, Except.ok.injEq] at h; subst h; exact one_after (takes_no _ _ _ ht) (putI_one _ _)
theorem run_high {M : Mod7} {own : List Int} {res : Int} : ∀ (L : List (Int × Int)) (j : Nat) (s s' : St) (n : Nat), runS M own res j L s = .ok s' → s.vals.length ≤ n → s.most ≤ n → s'.most ≤ n + L.length
  | [], j, s, s', n, h, h1, h2 => by simp only [runS, Except.ok.injEq] at h; subst h; simpa using h2
  | x :: L, j, s, s', n, h, h1, h2 => by
    unfold runS at h
    cases hs : stepS M own res x.1 x.2 s with
    | error c => rw [hs] at h; cases h
    | ok t =>
      rw [hs] at h
      have ho := stepJ_one hs
      have := run_high L (j + 1) t s' (n + 1) h (by have := ho.1; omega) (by have := ho.2; omega)
      simp only [List.length_cons]
      omega
/-- How high a stack becomes. -/
theorem check_high (M : Mod7) (f : Fun7) : (checkS M f).2.2 ≤ (f.body.length : Int) := by
  unfold checkS
  cases h : runS M (f.ps ++ f.ls) f.res 0 f.body (firstS f.res) with
  | error x => obtain ⟨c, q⟩ := x; simp
  | ok s =>
    have := run_high f.body 0 (firstS f.res) s 0 h (by simp [firstS, beginS]) (by simp [firstS, beginS])
    simp only
    omega

end Go.Proofs.YtcgnefgdfgikdaaGreat
