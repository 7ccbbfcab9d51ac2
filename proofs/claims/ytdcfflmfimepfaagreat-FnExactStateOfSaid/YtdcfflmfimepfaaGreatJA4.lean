/-
  Bodies from the front and from the back: both ways tell the same. Nothing of the program stands here.
-/
import Derived.Below
import Derived.Test.YtdcfflmfimepfaaGreatRows
import Derived.Test.YtdcfflmfimepfaaGreatJA1
import Derived.Deep.AppendLies
import Derived.Test.YtdcfflmfimepfaaGreatJA3
namespace Go.Proofs.YtdcfflmfimepfaaGreat

def opens (op : Int) : Bool := op == 2 || op == 3 || op == 4
theorem opens_not (op : Int) (h : opens op = true) : op ≠ 5 ∧ op ≠ 11 := by
  simp only [opens, Bool.or_eq_true, beq_iff_eq] at h; omega

/-- From the back: one instruction met, on the blocks around it (the innermost first): where each ends, and whether an else was met in it. -/
def bkStep (i : Nat) (op : Int) (st : List (Nat × Bool)) : Option (List (Nat × Bool)) :=
  if op = 11 then some ((i, false) :: st)
  else match st with
    | [] => none
    | (e, d) :: t => if op = 5 then (if d = true then none else some ((e, true) :: t))
      else if opens op = true then (if t = [] ∨ (d = true ∧ op ≠ 4) then none else some t)
      else some ((e, d) :: t)
def bk : Nat → List Int → Option (List (Nat × Bool))
  | _, [] => some []
  | i, op :: r => (bk (i + 1) r).bind (bkStep i op)
/-- Where the block of an instruction ends. -/
def bkTop (i : Nat) (op : Int) (st : List (Nat × Bool)) : Nat := if op = 11 then i else (st.headD (0, false)).1
def bkE : Nat → List Int → List Nat
  | _, [] => []
  | i, op :: r => bkTop i op ((bk (i + 1) r).getD []) :: bkE (i + 1) r
def bkD : Nat → List Int → Nat
  | _, [] => 0
  | i, op :: r => if op = 11 then max (bkD (i + 1) r) (((bk (i + 1) r).getD []).length + 1) else bkD (i + 1) r

/-- From the front: blocks that are open (the innermost first), whether one may have no else any more, and what lies in it. -/
def fw : Nat → List Int → List (Bool × List Nat) → (Nat → Nat) → Nat → Option ((Nat → Nat) × Nat)
  | _, [], S, o, d => if S = [] then some (o, d) else none
  | _, _ :: _, [], _, _ => none
  | i, op :: r, (f, ins) :: T, o, d =>
    if opens op = true then fw (i + 1) r ((decide (op ≠ 4), [i]) :: (f, ins) :: T) o (max d (T.length + 2))
    else if op = 5 ∧ f = true then none
    else if op = 11 then fw (i + 1) r T (fun k => if k ∈ ins ++ [i] then i else o k) d
    else fw (i + 1) r ((f || decide (op = 5), ins ++ [i]) :: T) o d

/-- Blocks from the front and from the back fit. -/
def cmp : List (Nat × Bool) → List (Bool × List Nat) → Bool
  | [], [] => true
  | (_, d) :: t, (f, _) :: T => !(d && f) && cmp t T
  | _, _ => false
theorem cmp_len : ∀ {st S}, cmp st S = true → st.length = S.length
  | [], [], _ => rfl
  | (_, _) :: t, (_, _) :: T, h => by
    simp only [cmp, Bool.and_eq_true] at h
    simp [cmp_len h.2]
  | [], _ :: _, h => by simp [cmp] at h
  | _ :: _, [], h => by simp [cmp] at h
def app : List (Bool × List Nat) → List (Nat × Bool) → (Nat → Nat) → Nat → Nat
  | (_, ins) :: T, (e, _) :: t, o => app T t (fun k => if k ∈ ins then e else o k)
  | _, _, o => o
def low (S : List (Bool × List Nat)) (i : Nat) : Prop := ∀ x ∈ S, ∀ k ∈ x.2, k < i
theorem app_cong (S : List (Bool × List Nat)) : ∀ (st : List (Nat × Bool)) (o o' : Nat → Nat) (k : Nat), o k = o' k → app S st o k = app S st o' k := by
  induction S with
  | nil => intro st o o' k h; cases st <;> exact h
  | cons x T ih =>
    intro st o o' k h
    cases st with
    | nil => exact h
    | cons y t => exact ih t _ _ k (by show (if k ∈ x.2 then y.1 else o k) = (if k ∈ x.2 then y.1 else o' k); rw [h])
theorem app_low (S : List (Bool × List Nat)) : ∀ (st : List (Nat × Bool)) (o : Nat → Nat) (i k : Nat), low S i → i ≤ k → app S st o k = o k := by
  induction S with
  | nil => intro st o i k _ _; cases st <;> rfl
  | cons x T ih =>
    intro st o i k h hk
    cases st with
    | nil => rfl
    | cons y t =>
      have h1 : ¬ k ∈ x.2 := fun hm => by have := h x (List.mem_cons_self ..) k hm; omega
      have h2 := ih t (fun k => if k ∈ x.2 then y.1 else o k) i k (fun z hz => h z (List.mem_cons_of_mem _ hz)) hk
      show app T t _ k = _
      rw [h2]; simp [h1]

theorem bkE_len : ∀ (l : List Int) (i : Nat), (bkE i l).length = l.length
  | [], _ => rfl
  | _ :: r, i => by simp [bkE, bkE_len r (i + 1)]

/-- What the front's way tells, at each place. -/
def told (i : Nat) (l : List Int) (S : List (Bool × List Nat)) (st : List (Nat × Bool)) (o : Nat → Nat) (k : Nat) : Nat :=
  if i ≤ k then (bkE i l).getD (k - i) (o k) else app S st o k

theorem bk_len_le : ∀ (l : List Int) (i : Nat) (st : List (Nat × Bool)), bk i l = some st → st.length ≤ bkD i l
  | [], _, st, h => by simp [bk] at h; subst h; simp
  | op :: r, i, st, h => by
    simp only [bk] at h
    rcases hb : bk (i + 1) r with _ | s0
    · rw [hb] at h; simp at h
    · have ih := bk_len_le r (i + 1) s0 hb
      rw [hb] at h
      simp only [Option.bind_some] at h
      simp only [bkD, hb, Option.getD_some]
      unfold bkStep at h
      by_cases h11 : op = 11
      · rw [if_pos h11] at h ⊢
        simp only [Option.some.injEq] at h
        subst h; simp only [List.length_cons]; omega
      · rw [if_neg h11] at h ⊢
        cases s0 with
        | nil => simp at h
        | cons y t =>
          obtain ⟨e, d⟩ := y
          simp only at h
          simp only [List.length_cons] at ih
          repeat' split at h
          all_goals simp only [Option.some.injEq, reduceCtorEq] at h
          all_goals subst h
          all_goals first | omega | (simp only [List.length_cons]; omega)

set_option maxHeartbeats 1000000 in
theorem fw_some : ∀ (l : List Int) (i : Nat) (S : List (Bool × List Nat)) (st : List (Nat × Bool)) (o : Nat → Nat) (d : Nat), bk i l = some st → cmp st S = true → low S i → S.length ≤ d →
    ∃ o', fw i l S o d = some (o', max d (bkD i l)) ∧ ∀ k, o' k = told i l S st o k
  | [], i, S, st, o, d, hb, hc, _, _ => by
    simp [bk] at hb; subst hb
    cases S with
    | nil =>
      refine ⟨o, by simp [fw, bkD], fun k => ?_⟩
      unfold told; split <;> simp [bkE, app]
    | cons x T => simp [cmp] at hc
  | op :: r, i, S, st, o, d, hb, hc, hl, hd => by
    simp only [bk] at hb
    rcases hr : bk (i + 1) r with _ | s0
    · rw [hr] at hb; simp at hb
    · rw [hr] at hb
      simp only [Option.bind_some] at hb
      have hle := bk_len_le r (i + 1) s0 hr
      have hE : bkE i (op :: r) = bkTop i op s0 :: bkE (i + 1) r := by simp [bkE, hr]
      have hD : bkD i (op :: r) = if op = 11 then max (bkD (i + 1) r) (s0.length + 1) else bkD (i + 1) r := by simp [bkD, hr]
      have stepT : ∀ (S' : List (Bool × List Nat)) (st' : List (Nat × Bool)) (o1 : Nat → Nat), low S' (i + 1) → (app S' st' o1 i = bkTop i op s0) → (∀ k, k < i → app S' st' o1 k = app S st o k) → (∀ k, i < k → o1 k = o k) → ∀ k, told (i + 1) r S' st' o1 k = told i (op :: r) S st o k := by
        intro S' st' o1 hl' h1 h2 h3 k
        unfold told
        rw [hE]
        by_cases hk : i + 1 ≤ k
        · rw [if_pos hk, if_pos (by omega), h3 k (by omega)]
          obtain ⟨m, rfl⟩ : ∃ m, k = i + 1 + m := ⟨k - (i + 1), by omega⟩
          rw [show i + 1 + m - (i + 1) = m by omega, show i + 1 + m - i = m + 1 by omega, List.getD_cons_succ]
        · rw [if_neg hk]
          by_cases hki : i ≤ k
          · obtain rfl : k = i := by omega
            rw [if_pos hki, h1]; simp
          · rw [if_neg hki, h2 k (by omega)]
      cases S with
      | nil =>
        exfalso
        have h0 := cmp_len hc
        simp at h0; subst h0
        unfold bkStep at hb
        split at hb
        · simp at hb
        · cases s0 with
          | nil => simp at hb
          | cons y t =>
            simp only at hb
            repeat' split at hb
            all_goals simp only [Option.some.injEq, reduceCtorEq] at hb
            all_goals first | (simp at hb; done) | skip
            simp_all
      | cons x T =>
        obtain ⟨f, ins⟩ := x
        have hlI : ∀ k ∈ ins, k < i := fun k hk => hl (f, ins) (List.mem_cons_self ..) k hk
        have hlT : low T i := fun z hz => hl z (List.mem_cons_of_mem _ hz)
        have hlT1 : low T (i + 1) := fun z hz k hk => by have := hlT z hz k hk; omega
        simp only [List.length_cons] at hd
        by_cases h11 : op = 11
        · subst h11
          simp only [bkStep, if_true, Option.some.injEq] at hb
          subst hb
          simp only [cmp, Bool.false_and, Bool.not_false, Bool.true_and] at hc
          obtain ⟨o', ho, hk⟩ := fw_some r (i + 1) T s0 (fun k => if k ∈ ins ++ [i] then i else o k) d hr hc hlT1 (by omega)
          refine ⟨o', ?_, fun k => ?_⟩
          · have hno : opens 11 = false := rfl
            simp only [fw, hno, Bool.false_eq_true, if_false, if_true]
            rw [if_neg (by omega), ho, hD, if_pos rfl]
            have := cmp_len hc
            congr 2; omega
          · rw [hk k]
            refine stepT T s0 _ hlT1 ?_ (fun j hj => ?_) (fun j hj => ?_) k
            · rw [app_low T s0 _ i i hlT (Nat.le_refl _)]; simp [bkTop]
            · show _ = app T s0 _ j
              apply app_cong
              have : ¬ j = i := by omega
              simp [this]
            · have h1 : ¬ j ∈ ins := fun h => by have := hlI j h; omega
              have h2 : ¬ j = i := by omega
              simp [h1, h2]
        · have hD' : bkD i (op :: r) = bkD (i + 1) r := by rw [hD, if_neg h11]
          unfold bkStep at hb
          rw [if_neg h11] at hb
          cases s0 with
          | nil => simp at hb
          | cons y t =>
            obtain ⟨e, dd⟩ := y
            simp only at hb
            have hT : bkTop i op ((e, dd) :: t) = e := by simp [bkTop, h11]
            by_cases h5 : op = 5
            · subst h5
              simp only [if_true] at hb
              cases dd with
              | true => simp at hb
              | false =>
                simp only [Bool.false_eq_true, if_false, Option.some.injEq] at hb
                subst hb
                simp only [cmp, Bool.true_and, Bool.and_eq_true, Bool.not_eq_true'] at hc
                obtain ⟨rfl, hc⟩ := hc
                have hl' : low ((true, ins ++ [i]) :: T) (i + 1) := fun z hz k hk => by
                  rcases List.mem_cons.1 hz with rfl | hz
                  · rcases List.mem_append.1 hk with hk | hk
                    · have := hlI k hk; omega
                    · simp at hk; omega
                  · exact hlT1 z hz k hk
                obtain ⟨o', ho, hk⟩ := fw_some r (i + 1) ((true, ins ++ [i]) :: T) ((e, false) :: t) o d hr (by simp [cmp, hc]) hl' (by simp; omega)
                refine ⟨o', ?_, fun k => ?_⟩
                · have hno : opens 5 = false := rfl
                  simp only [fw, hno, Bool.false_eq_true, if_false, and_false, Bool.false_or, decide_true, h11]
                  rw [ho, hD']
                · rw [hk k]
                  refine stepT _ _ o hl' ?_ (fun j hj => ?_) (fun j hj => rfl) k
                  · show app T t _ i = _
                    rw [app_low T t _ i i hlT (Nat.le_refl _), hT]; simp
                  · show app T t _ j = app T t _ j
                    apply app_cong
                    have : ¬ j = i := by omega
                    simp [this]
            · rw [if_neg h5] at hb
              by_cases ho : opens op = true
              · rw [if_pos ho] at hb
                split at hb
                · simp at hb
                · rename_i hcond
                  simp only [Option.some.injEq] at hb
                  subst hb
                  have hl' : low ((decide (op ≠ 4), [i]) :: (f, ins) :: T) (i + 1) := fun z hz k hk => by
                    rcases List.mem_cons.1 hz with rfl | hz
                    · simp at hk; omega
                    · have := hl z hz k hk; omega
                  have hlen := cmp_len hc
                  simp only [List.length_cons] at hlen hle
                  obtain ⟨o', hf, hk⟩ := fw_some r (i + 1) ((decide (op ≠ 4), [i]) :: (f, ins) :: T) ((e, dd) :: t) o (max d (T.length + 2)) hr
                    (by simp only [cmp, hc, Bool.and_true, Bool.not_eq_true', Bool.and_eq_false_iff, decide_eq_false_iff_not]
                        by_cases hdd : dd = true
                        · right; intro h4; exact hcond (Or.inr ⟨hdd, h4⟩)
                        · left; simpa using hdd) hl' (by simp only [List.length_cons]; omega)
                  refine ⟨o', ?_, fun k => ?_⟩
                  · simp only [fw, ho, if_true]
                    rw [hf, hD']
                    congr 2; omega
                  · rw [hk k]
                    refine stepT _ _ o hl' ?_ (fun j hj => ?_) (fun j hj => rfl) k
                    · show app ((f, ins) :: T) t _ i = _
                      rw [app_low ((f, ins) :: T) t _ i i hl (Nat.le_refl _), hT]; simp
                    · show app ((f, ins) :: T) t _ j = app ((f, ins) :: T) t o j
                      apply app_cong
                      have : ¬ j = i := by omega
                      simp [this]
              · rw [if_neg ho] at hb
                simp only [Option.some.injEq] at hb
                subst hb
                have hc' := hc
                simp only [cmp, Bool.and_eq_true] at hc
                have hl' : low ((f || decide (op = 5), ins ++ [i]) :: T) (i + 1) := fun z hz k hk => by
                  rcases List.mem_cons.1 hz with rfl | hz
                  · rcases List.mem_append.1 hk with hk | hk
                    · have := hlI k hk; omega
                    · simp at hk; omega
                  · exact hlT1 z hz k hk
                obtain ⟨o', hf, hk⟩ := fw_some r (i + 1) ((f || decide (op = 5), ins ++ [i]) :: T) ((e, dd) :: t) o d hr (by simp only [cmp, h5, decide_false, Bool.or_false, hc.2, Bool.and_true]; exact hc.1) hl' (by simp only [List.length_cons]; omega)
                refine ⟨o', ?_, fun k => ?_⟩
                · have ho' : opens op = false := by simpa using ho
                  simp only [fw, ho', Bool.false_eq_true, if_false, h5, false_and, h11, decide_false]
                  simp only [h5, decide_false] at hf
                  rw [hf, hD']
                · rw [hk k]
                  refine stepT _ _ o hl' ?_ (fun j hj => ?_) (fun j hj => rfl) k
                  · show app T t _ i = _
                    rw [app_low T t _ i i hlT (Nat.le_refl _), hT]; simp
                  · show app T t _ j = app T t _ j
                    apply app_cong
                    have : ¬ j = i := by omega
                    simp [this]

theorem bk_ne : ∀ (op : Int) (r : List Int) (i : Nat) (st : List (Nat × Bool)), bk i (op :: r) = some st → st ≠ []
  | op, r, i, st, h => by
    simp only [bk] at h
    rcases hr : bk (i + 1) r with _ | s0
    · rw [hr] at h; simp at h
    · rw [hr] at h
      simp only [Option.bind_some] at h
      unfold bkStep at h
      split at h
      · simp only [Option.some.injEq] at h; subst h; simp
      · cases s0 with
        | nil => simp at h
        | cons y t =>
          simp only at h
          repeat' split at h
          all_goals simp only [Option.some.injEq, reduceCtorEq] at h
          all_goals subst h
          all_goals first | simp | skip
          rename_i hc
          intro h0
          exact hc (Or.inl h0)

set_option maxHeartbeats 1000000 in
theorem fw_none : ∀ (l : List Int) (i : Nat) (S : List (Bool × List Nat)) (o : Nat → Nat) (d : Nat), (∀ st, bk i l = some st → cmp st S = false) → fw i l S o d = none
  | [], i, S, o, d, h => by
    have h0 := h [] rfl
    cases S with
    | nil => simp [cmp] at h0
    | cons x T => simp [fw]
  | op :: r, i, [], o, d, h => by simp [fw]
  | op :: r, i, (f, ins) :: T, o, d, h => by
    have hb : ∀ st, (bk (i + 1) r).bind (bkStep i op) = some st → cmp st ((f, ins) :: T) = false := h
    by_cases ho : opens op = true
    · obtain ⟨h5, h11⟩ := opens_not op ho
      simp only [fw, ho, if_true]
      refine fw_none r (i + 1) _ _ _ fun s0 hs0 => ?_
      rw [hs0] at hb
      simp only [Option.bind_some] at hb
      cases s0 with
      | nil => simp [cmp]
      | cons y t =>
        obtain ⟨e, dd⟩ := y
        by_cases hc : t = [] ∨ (dd = true ∧ op ≠ 4)
        · rcases hc with rfl | ⟨rfl, h4⟩
          · simp [cmp]
          · simp [cmp, h4]
        · have := hb t (by simp [bkStep, h11, h5, ho, hc])
          simp [cmp, this]
    · have ho' : opens op = false := by simpa using ho
      by_cases h5 : op = 5
      · subst h5
        cases f with
        | true => simp [fw, ho']
        | false =>
          simp only [fw, ho', Bool.false_eq_true, if_false, and_false, Bool.false_or, decide_true]
          rw [if_neg (by omega)]
          refine fw_none r (i + 1) _ _ _ fun s0 hs0 => ?_
          rw [hs0] at hb
          simp only [Option.bind_some] at hb
          cases s0 with
          | nil => simp [cmp]
          | cons y t =>
            obtain ⟨e, dd⟩ := y
            cases dd with
            | true => simp [cmp]
            | false =>
              have := hb ((e, true) :: t) (by simp [bkStep])
              simp only [cmp, Bool.and_false, Bool.not_false, Bool.true_and] at this
              simp [cmp, this]
      · by_cases h11 : op = 11
        · subst h11
          simp only [fw, ho', Bool.false_eq_true, if_false, if_true]
          rw [if_neg (by omega)]
          refine fw_none r (i + 1) _ _ _ fun s0 hs0 => ?_
          rw [hs0] at hb
          simp only [Option.bind_some] at hb
          have := hb ((i, false) :: s0) (by simp [bkStep])
          simpa [cmp] using this
        · simp only [fw, ho', Bool.false_eq_true, if_false, h5, false_and, h11, decide_false, Bool.or_false]
          refine fw_none r (i + 1) _ _ _ fun s0 hs0 => ?_
          rw [hs0] at hb
          simp only [Option.bind_some] at hb
          cases s0 with
          | nil => simp [cmp]
          | cons y t =>
            obtain ⟨e, dd⟩ := y
            have := hb ((e, dd) :: t) (by simp [bkStep, h11, h5, ho'])
            simpa [cmp] using this

/-- A body: where each instruction's block ends, and how deep it goes; none where it is no body. -/
def bodyOf (l : List Int) : Option (List Nat × Nat) := match bk 0 l with
  | some [(_, false)] => some (bkE 0 l, bkD 0 l)
  | _ => none
theorem body_fw (l : List Int) : (bodyOf l = none ∧ fw 0 l [(true, [])] (fun _ => 0) 1 = none) ∨ ∃ o', bodyOf l = some (bkE 0 l, bkD 0 l) ∧ fw 0 l [(true, [])] (fun _ => 0) 1 = some (o', bkD 0 l) ∧ ∀ k, k < l.length → some (o' k) = (bkE 0 l)[k]? := by
  by_cases h : ∃ e, bk 0 l = some [(e, false)]
  · obtain ⟨e, he⟩ := h
    have hle := bk_len_le l 0 _ he
    obtain ⟨o', hf, hk⟩ := fw_some l 0 [(true, [])] [(e, false)] (fun _ => 0) 1 he (by simp [cmp]) (fun x hx k hk => by simp at hx; subst hx; simp at hk) (by simp)
    refine Or.inr ⟨o', by unfold bodyOf; rw [he], ?_, fun k hk2 => ?_⟩
    · rw [hf]; congr 2; simp only [List.length_cons, List.length_nil] at hle; omega
    · rw [hk k]
      have : k < (bkE 0 l).length := by rw [bkE_len]; exact hk2
      simp [told, List.getD, this]
  · refine Or.inl ⟨?_, ?_⟩
    · unfold bodyOf
      split
      · rename_i e he; exact absurd ⟨e, he⟩ h
      · rfl
    · refine fw_none l 0 _ _ _ fun st hst => ?_
      cases st with
      | nil => rfl
      | cons y t =>
        obtain ⟨e, dd⟩ := y
        cases t with
        | nil =>
          cases dd with
          | true => rfl
          | false => exact absurd ⟨e, hst⟩ h
        | cons z u => simp [cmp]

end Go.Proofs.YtdcfflmfimepfaaGreat

namespace Go.Proofs.YtdcfflmfimepfaaGreat
open Go.RowKit

def nv (l : List Nat) : List Value := l.map fun (k : Nat) => Value.int .i64 (k : Int)
theorem nv_app (l m : List Nat) : nv l ++ nv m = nv (l ++ m) := by simp [nv]
theorem nv_len (l : List Nat) : (nv l).length = l.length := by simp [nv]
def outRow (o : Nat → Nat) (n : Nat) : Array Value := ((List.range n).map fun (k : Nat) => Value.int .i64 ((o k : Nat) : Int)).toArray
theorem outRow_set (o : Nat → Nat) (n k e : Nat) : (outRow o n).setIfInBounds k (.int .i64 (e : Int)) = outRow (fun j => if j = k then e else o j) n := by
  apply Array.ext
  · simp [outRow]
  · intro i h1 h2
    simp only [outRow, List.setIfInBounds_toArray, List.getElem_toArray, List.getElem_set, List.getElem_map, List.getElem_range]
    by_cases h : k = i
    · subst h; simp
    · have : ¬ i = k := fun e => h e.symm
      simp [h, this]

theorem made_i64 (n : Nat) : madeCells (Value.int .i64 0).cells n = outRow (fun _ => 0) n := by
  apply Array.ext
  · simp [madeCells, outRow]
  · intro i h1 h2
    have hn : i < n := by simpa [outRow] using h2
    have e1 : (madeCells (Value.int .i64 0).cells n)[i]? = some (.int .i64 0) := by simp [madeCells, Value.cells, hn, Nat.mod_one]
    have e2 : (outRow (fun _ => 0) n)[i]? = some (.int .i64 0) := by simp [outRow, hn]
    rw [Array.getElem?_eq_getElem h1] at e1
    rw [Array.getElem?_eq_getElem h2] at e2
    simp only [Option.some.injEq] at e1 e2
    rw [e1, e2]
/-- A row of one cell that is new. -/
theorem own_new (w : World) (B : Nat) (e : TypeId) (u : Value) (hB : B ≤ w.heap.size) : (w.alloc (.cells #[u] e)).ownsRow B e 1 (.slice (some ⟨w.heap.size, 0, none⟩) 1 1) 1 [u] :=
  ⟨rfl, Or.inr ⟨w.heap.size, 1, #[u], rfl, hB, heap_alloc_new _ _, by omega, by unfold maxLen; omega, rfl, rfl⟩⟩
theorem one_new (w : World) (x : Value) (t : TypeId) (g : Nat) (hg : g = w.heap.size) : ∀ j u, [x][j]? = some u → (w.alloc (.cells #[x] t)).cell? ((⟨g, 0, none⟩ : Addr).add j) = some u := by subst hg; exact cell_one_new w x t
theorem own_alloc {w : World} {B : Nat} {e : TypeId} {s n : Nat} {v : Value} {xs : List Value} (h : w.ownsRow B e s v n xs) (o : Obj) : (w.alloc o).ownsRow B e s v n xs := h.alloc o

/-- A block of an owned row. -/
theorem own_at {w : World} {B : Nat} {e : TypeId} {s n : Nat} {v : Value} {xs : List Value} (h : w.ownsRow B e s v n xs) {g : Nat} (hg : v.ownBlock = some g) : ∃ cur, w.heap[g]? = some (.cells cur e (0, 0)) ∧ B ≤ g := by
  rcases h.2 with ⟨rfl, _⟩ | ⟨g', cap, cur, rfl, hB, hh, _⟩
  · simp [Value.ownBlock] at hg
  · simp [Value.ownBlock] at hg; subst hg; exact ⟨cur, hh, hB⟩
theorem own_keep {w w' : World} {B : Nat} {e : TypeId} {s n : Nat} {v : Value} {xs : List Value} (h : w.ownsRow B e s v n xs) (hk : ∀ g, v.ownBlock = some g → w'.heap[g]? = w.heap[g]?) : w'.ownsRow B e s v n xs := by
  refine ⟨h.1, ?_⟩
  rcases h.2 with h0 | ⟨g, cap, cur, h1, h2, h3, h4⟩
  · exact Or.inl h0
  · exact Or.inr ⟨g, cap, cur, h1, h2, (hk g (by rw [h1]; rfl)).trans h3, h4⟩
theorem own_pos {w : World} {B : Nat} {e : TypeId} {s n : Nat} {v : Value} {xs : List Value} (h : w.ownsRow B e s v n xs) (hn : 0 < n) : ∃ g cap, v = .slice (some ⟨g, 0, none⟩) n cap ∧ n ≤ cap := by
  rcases h.2 with ⟨_, h0⟩ | ⟨g, cap, cur, rfl, _, _, hc, _⟩
  · omega
  · exact ⟨g, cap, rfl, hc⟩
theorem own_take {w : World} {B : Nat} {e : TypeId} {s n g cap : Nat} {xs : List Value} (h : w.ownsRow B e s (.slice (some ⟨g, 0, none⟩) (n + 1) cap) (n + 1) xs) : w.ownsRow B e s (.slice (some ⟨g, 0, none⟩) n cap) n (xs.take (n * s)) := by
  have hl := h.1
  have e1 : (n + 1) * s = n * s + s := Nat.succ_mul n s
  refine ⟨by rw [List.length_take, hl]; omega, Or.inr ?_⟩
  rcases h.2 with ⟨h0, _⟩ | ⟨g', cap', cur, h1, h2, h3, h4, h5, h6, h7⟩
  · simp at h0
  · simp only [Value.slice.injEq, Option.some.injEq, Addr.mk.injEq] at h1
    obtain ⟨⟨rfl, _⟩, _, rfl⟩ := h1
    refine ⟨g, cap, cur, rfl, h2, h3, by omega, h5, h6, ?_⟩
    rw [← h7, List.take_take]
    congr 1; omega
theorem own_set {w : World} {B : Nat} {e : TypeId} {s n g cap : Nat} {xs : List Value} (h : w.ownsRow B e s (.slice (some ⟨g, 0, none⟩) n cap) n xs) (j : Nat) (u : Value) : (w.setCell ⟨g, j, none⟩ u).ownsRow B e s (.slice (some ⟨g, 0, none⟩) n cap) n (xs.set j u) := by
  refine ⟨by rw [List.length_set]; exact h.1, Or.inr ?_⟩
  rcases h.2 with ⟨h0, _⟩ | ⟨g', cap', cur, h1, h2, h3, h4, h5, h6, h7⟩
  · simp at h0
  · simp only [Value.slice.injEq, Option.some.injEq, Addr.mk.injEq] at h1
    obtain ⟨⟨rfl, _⟩, _, rfl⟩ := h1
    refine ⟨g, cap, _, rfl, h2, heap_setCell_same _ _ _ _ _ _ h3, h4, h5, by simpa using h6, ?_⟩
    rw [← h7]
    simp only [Array.toList_setIfInBounds, List.take_set]
theorem apart_types {w : World} {g h : Nat} {a b : Array Value} {t u : TypeId} (hg : w.heap[g]? = some (.cells a t (0, 0))) (hh : w.heap[h]? = some (.cells b u (0, 0))) (hne : t ≠ u) : g ≠ h := by
  intro e; subst e; rw [hg] at hh; simp at hh; exact hne hh.2

/-- The rows of the way from the front: what is told, the open blocks, which have no else any more, what lies in each. -/
structure SI (w : World) (B gout n : Nat) (o : Nat → Nat) (lo : Nat) (E : List Bool) (X : List (List Nat)) (vo ve vi : Value) (vs : List Value) : Prop where
  out : w.heap[gout]? = some (.cells (outRow o n) 3 (0, 0))
  outB : B ≤ gout
  op : ∃ xs, w.ownsRow B 3 1 vo lo xs
  el : w.ownsRow B 4 1 ve E.length (E.map Value.bool)
  ins : w.ownsRow B 92 1 vi X.length vs
  each : ∀ (j : Nat) (v : Value) (x : List Nat), vs[j]? = some v → X[j]? = some x → w.ownsRow B 3 1 v x.length (nv x)
  apart : List.Pairwise (fun a b => a = none ∨ a ≠ b) (some gout :: vo.ownBlock :: vs.map Value.ownBlock)

theorem SI.vsLen {w : World} {B gout n : Nat} {o : Nat → Nat} {lo : Nat} {E : List Bool} {X : List (List Nat)} {vo ve vi : Value} {vs : List Value} (h : SI w B gout n o lo E X vo ve vi vs) : vs.length = X.length := by
  have := h.ins.1; omega

theorem SI.keep {w w' : World} {B gout n : Nat} {o : Nat → Nat} {lo : Nat} {E : List Bool} {X : List (List Nat)} {vo ve vi : Value} {vs : List Value} (h : SI w B gout n o lo E X vo ve vi vs) (hb : Below w.heap.size w w') : SI w' B gout n o lo E X vo ve vi vs := by
  obtain ⟨xs, hx⟩ := h.op
  have K : ∀ {e : TypeId} {s k : Nat} {v : Value} {ys : List Value}, w.ownsRow B e s v k ys → w'.ownsRow B e s v k ys := fun h2 => own_keep h2 fun g hg => by
    obtain ⟨cur, hc, _⟩ := own_at h2 hg
    exact hb.block g (lt_of_block hc)
  exact ⟨(hb.block gout (lt_of_block h.out)).trans h.out, h.outB, ⟨xs, K hx⟩, K h.el, K h.ins, fun j v x hv hx => K (h.each j v x hv hx), h.apart⟩

theorem vs_mem {vs : List Value} {X : List (List Nat)} (hl : vs.length = X.length) {j : Nat} {v : Value} (hv : vs[j]? = some v) : ∃ x, X[j]? = some x := by
  have : j < vs.length := by
    rcases Nat.lt_or_ge j vs.length with h | h
    · exact h
    · rw [List.getElem?_eq_none h] at hv; simp at hv
  exact ⟨X[j]'(by omega), List.getElem?_eq_getElem (by omega)⟩

/-- One more number behind the open blocks. -/
theorem SI.appOpen {w w' : World} {B gout n : Nat} {o : Nat → Nat} {lo : Nat} {E : List Bool} {X : List (List Nat)} {vo ve vi : Value} {vs : List Value} (h : SI w B gout n o lo E X vo ve vi vs)
    {g cap : Nat} {ys : List Value} (hown : w'.ownsRow B 3 1 (.slice (some ⟨g, 0, none⟩) (lo + 1) cap) (lo + 1) ys) (hg : w.grownBy w' vo.ownBlock) (hl : vo.ownBlock = some g ∨ g = w.heap.size) :
    SI w' B gout n o (lo + 1) E X (.slice (some ⟨g, 0, none⟩) (lo + 1) cap) ve vi vs := by
  obtain ⟨xs, hx⟩ := h.op
  have hp := h.apart
  simp only [List.pairwise_cons, List.mem_cons, forall_eq_or_imp] at hp
  obtain ⟨⟨p1, p2⟩, p3, p4⟩ := hp
  have K : ∀ k, k < w.heap.size → some k ≠ vo.ownBlock → w'.heap[k]? = w.heap[k]? := hg.block
  have kout : w'.heap[gout]? = w.heap[gout]? := K gout (lt_of_block h.out) (by simpa using p1)
  have KT : ∀ {e : TypeId} {s k : Nat} {v : Value} {ys : List Value}, 3 ≠ e → w.ownsRow B e s v k ys → w'.ownsRow B e s v k ys := fun hne h2 => own_keep h2 fun b hb => by
    obtain ⟨cur, hc, _⟩ := own_at h2 hb
    refine K b (lt_of_block hc) fun e => ?_
    obtain ⟨cur', hc', _⟩ := own_at hx e.symm
    exact apart_types hc' hc hne rfl
  have hfresh : ∀ b, b < w.heap.size → some b ≠ vo.ownBlock → b ≠ g := fun b hb hne e => by
    subst e
    rcases hl with h1 | h1
    · exact hne h1.symm
    · omega
  refine ⟨kout.trans h.out, h.outB, ⟨ys, hown⟩, KT (by decide) h.el, KT (by decide) h.ins, fun j v x hv hX => own_keep (h.each j v x hv hX) fun b hb => ?_, ?_⟩
  · obtain ⟨cur, hc, _⟩ := own_at (h.each j v x hv hX) hb
    refine K b (lt_of_block hc) fun e => ?_
    have hm : v.ownBlock ∈ vs.map Value.ownBlock := List.mem_map.2 ⟨v, List.mem_of_getElem? hv, rfl⟩
    rcases p3 _ hm with h1 | h1
    · rw [h1] at e; simp at e
    · exact h1 (by rw [hb, e])
  · simp only [List.pairwise_cons, List.mem_cons, forall_eq_or_imp]
    refine ⟨⟨Or.inr ?_, p2⟩, fun a ha => ?_, p4⟩
    · simp only [Value.ownBlock, ne_eq, Option.some.injEq]
      exact hfresh gout (lt_of_block h.out) (by simpa using p1)
    · right
      intro e
      obtain ⟨v, hv, rfl⟩ := List.mem_map.1 ha
      obtain ⟨j, hj⟩ := List.getElem?_of_mem hv
      obtain ⟨x, hX⟩ := vs_mem h.vsLen hj
      have hb : v.ownBlock = some g := by rw [← e]; rfl
      obtain ⟨cur, hc, _⟩ := own_at (h.each j v x hj hX) hb
      have hlt := lt_of_block hc
      refine hfresh g hlt (fun e2 => ?_) rfl
      rcases p3 _ ha with h1 | h1
      · rw [h1] at e2; simp at e2
      · exact h1 (by rw [hb, e2])

/-- All its blocks lie in the world. -/
theorem SI.lt {w : World} {B gout n : Nat} {o : Nat → Nat} {lo : Nat} {E : List Bool} {X : List (List Nat)} {vo ve vi : Value} {vs : List Value} (h : SI w B gout n o lo E X vo ve vi vs) : ∀ a ∈ some gout :: vo.ownBlock :: vs.map Value.ownBlock, a ≠ some w.heap.size := by
  intro a ha e
  obtain ⟨xs, hx⟩ := h.op
  simp only [List.mem_cons] at ha
  rcases ha with rfl | rfl | ha
  · simp only [Option.some.injEq] at e; have := lt_of_block h.out; omega
  · obtain ⟨cur, hc, _⟩ := own_at hx e; have := lt_of_block hc; omega
  · obtain ⟨v, hv, rfl⟩ := List.mem_map.1 ha
    obtain ⟨j, hj⟩ := List.getElem?_of_mem hv
    obtain ⟨x, hX⟩ := vs_mem h.vsLen hj
    obtain ⟨cur, hc, _⟩ := own_at (h.each j v x hj hX) e; have := lt_of_block hc; omega

theorem SI.appElse {w w' : World} {B gout n : Nat} {o : Nat → Nat} {lo : Nat} {E : List Bool} {X : List (List Nat)} {vo ve vi : Value} {vs : List Value} (h : SI w B gout n o lo E X vo ve vi vs)
    {g cap : Nat} {b : Bool} (hown : w'.ownsRow B 4 1 (.slice (some ⟨g, 0, none⟩) (E.length + 1) cap) (E.length + 1) (E.map Value.bool ++ [.bool b])) (hg : w.grownBy w' ve.ownBlock) :
    SI w' B gout n o lo (E ++ [b]) X vo (.slice (some ⟨g, 0, none⟩) (E.length + 1) cap) vi vs := by
  obtain ⟨xs, hx⟩ := h.op
  have KT : ∀ {e : TypeId} {s k : Nat} {v : Value} {ys : List Value}, 4 ≠ e → w.ownsRow B e s v k ys → w'.ownsRow B e s v k ys := fun hne h2 => own_keep h2 fun b hb => by
    obtain ⟨cur, hc, _⟩ := own_at h2 hb
    refine hg.block b (lt_of_block hc) fun e => ?_
    obtain ⟨cur', hc', _⟩ := own_at h.el e.symm
    exact apart_types hc' hc hne rfl
  have kout : w'.heap[gout]? = w.heap[gout]? := hg.block gout (lt_of_block h.out) fun e => by
    obtain ⟨cur', hc', _⟩ := own_at h.el e.symm
    exact apart_types hc' h.out (by decide) rfl
  exact ⟨kout.trans h.out, h.outB, ⟨xs, KT (by decide) hx⟩, by simpa using hown, KT (by decide) h.ins, fun j v x hv hX => KT (by decide) (h.each j v x hv hX), h.apart⟩

theorem SI.appIns {w w' : World} {B gout n : Nat} {o : Nat → Nat} {lo : Nat} {E : List Bool} {X : List (List Nat)} {vo ve vi : Value} {vs : List Value} (h : SI w B gout n o lo E X vo ve vi vs)
    {g cap : Nat} {v : Value} {x : List Nat} (hown : w'.ownsRow B 92 1 (.slice (some ⟨g, 0, none⟩) (X.length + 1) cap) (X.length + 1) (vs ++ [v])) (hg : w.grownBy w' vi.ownBlock)
    (hv : w.ownsRow B 3 1 v x.length (nv x)) (hap : ∀ a ∈ some gout :: vo.ownBlock :: vs.map Value.ownBlock, a = none ∨ a ≠ v.ownBlock) :
    SI w' B gout n o lo E (X ++ [x]) vo ve (.slice (some ⟨g, 0, none⟩) (X.length + 1) cap) (vs ++ [v]) := by
  obtain ⟨xs, hx⟩ := h.op
  have KT : ∀ {e : TypeId} {s k : Nat} {v : Value} {ys : List Value}, 92 ≠ e → w.ownsRow B e s v k ys → w'.ownsRow B e s v k ys := fun hne h2 => own_keep h2 fun b hb => by
    obtain ⟨cur, hc, _⟩ := own_at h2 hb
    refine hg.block b (lt_of_block hc) fun e => ?_
    obtain ⟨cur', hc', _⟩ := own_at h.ins e.symm
    exact apart_types hc' hc hne rfl
  have kout : w'.heap[gout]? = w.heap[gout]? := hg.block gout (lt_of_block h.out) fun e => by
    obtain ⟨cur', hc', _⟩ := own_at h.ins e.symm
    exact apart_types hc' h.out (by decide) rfl
  have hl := h.vsLen
  refine ⟨kout.trans h.out, h.outB, ⟨xs, KT (by decide) hx⟩, KT (by decide) h.el, by simpa using hown, fun j u y hu hy => ?_, ?_⟩
  · rcases Nat.lt_or_ge j vs.length with hj | hj
    · rw [List.getElem?_append_left hj] at hu
      rw [List.getElem?_append_left (by omega)] at hy
      exact KT (by decide) (h.each j u y hu hy)
    · have hj0 : j = vs.length := by
        have : j < (vs ++ [v]).length := by
          rcases Nat.lt_or_ge j (vs ++ [v]).length with h1 | h1
          · exact h1
          · rw [List.getElem?_eq_none h1] at hu; simp at hu
        simp at this; omega
      subst hj0
      rw [List.getElem?_append_right (by omega)] at hu
      rw [List.getElem?_append_right (by omega)] at hy
      simp [hl] at hu hy
      subst hu hy
      exact KT (by decide) hv
  · have hp := h.apart
    rw [List.map_append]
    show List.Pairwise _ ((some gout :: vo.ownBlock :: vs.map Value.ownBlock) ++ [v.ownBlock])
    rw [List.pairwise_append]
    refine ⟨hp, by simp, fun a ha c hc => ?_⟩
    simp only [List.mem_singleton] at hc
    subst hc
    exact hap a ha

theorem SI.setElse {w : World} {B gout n : Nat} {o : Nat → Nat} {lo : Nat} {E : List Bool} {b b' : Bool} {X : List (List Nat)} {vo vi : Value} {g k cap : Nat} {vs : List Value} (h : SI w B gout n o lo (E ++ [b]) X vo (.slice (some ⟨g, 0, none⟩) k cap) vi vs) (hk : k = E.length + 1) :
    SI (w.setCell ⟨g, E.length, none⟩ (.bool b')) B gout n o lo (E ++ [b']) X vo (.slice (some ⟨g, 0, none⟩) k cap) vi vs := by
  obtain ⟨xs, hx⟩ := h.op
  obtain ⟨cg, hcg, _⟩ := own_at h.el (g := g) rfl
  have K : ∀ j, j ≠ g → (w.setCell ⟨g, E.length, none⟩ (.bool b')).heap[j]? = w.heap[j]? := fun j hj => heap_setCell_other _ _ _ _ hj
  have KT : ∀ {e : TypeId} {s k : Nat} {v : Value} {ys : List Value}, 4 ≠ e → w.ownsRow B e s v k ys → (w.setCell ⟨g, E.length, none⟩ (.bool b')).ownsRow B e s v k ys := fun hne h2 => own_keep h2 fun b hb => by
    obtain ⟨cur, hc, _⟩ := own_at h2 hb
    exact K b fun e => apart_types hcg hc hne e.symm
  have hel := h.el
  simp only [List.length_append, List.length_cons, List.length_nil, Nat.zero_add] at hel
  subst hk
  have h2 := own_set hel E.length (.bool b')
  have e2 : ((E ++ [b]).map Value.bool).set E.length (.bool b') = (E ++ [b']).map Value.bool := by
    simp
  rw [e2] at h2
  exact ⟨(K gout fun e => apart_types hcg h.out (by decide) e.symm).trans h.out, h.outB, ⟨xs, KT (by decide) hx⟩, by simpa using h2, KT (by decide) h.ins, fun j v x hv hX => KT (by decide) (h.each j v x hv hX), h.apart⟩

/-- One more number in the innermost block. -/
theorem SI.setIns {w w' : World} {B gout n : Nat} {o : Nat → Nat} {lo : Nat} {E : List Bool} {Y : List (List Nat)} {x : List Nat} {vo ve : Value} {gi k cap : Nat} {us : List Value} {v : Value} (h : SI w B gout n o lo E (Y ++ [x]) vo ve (.slice (some ⟨gi, 0, none⟩) k cap) (us ++ [v])) (hk : k = Y.length + 1)
    {g c i : Nat} (hown : w'.ownsRow B 3 1 (.slice (some ⟨g, 0, none⟩) (x.length + 1) c) (x.length + 1) (nv x ++ [.int .i64 (i : Int)])) (hg : w.grownBy w' v.ownBlock) (hl : v.ownBlock = some g ∨ g = w.heap.size) :
    SI (w'.setCell ⟨gi, Y.length, none⟩ (.slice (some ⟨g, 0, none⟩) (x.length + 1) c)) B gout n o lo E (Y ++ [x ++ [i]]) vo ve (.slice (some ⟨gi, 0, none⟩) k cap) (us ++ [.slice (some ⟨g, 0, none⟩) (x.length + 1) c]) := by
  obtain ⟨xs, hx⟩ := h.op
  have hvl := h.vsLen
  simp only [List.length_append, List.length_cons, List.length_nil, Nat.zero_add] at hvl
  have hul : us.length = Y.length := by omega
  have hrow : w.ownsRow B 3 1 v x.length (nv x) := h.each us.length v x (by simp) (by rw [hul]; simp)
  have hins := h.ins
  simp only [List.length_append, List.length_cons, List.length_nil, Nat.zero_add] at hins
  subst hk
  obtain ⟨cg, hcg, _⟩ := own_at hins (g := gi) rfl
  have hp := h.apart
  rw [List.map_append] at hp
  have hp' : List.Pairwise (fun a b => a = none ∨ a ≠ b) ((some gout :: vo.ownBlock :: us.map Value.ownBlock) ++ [v.ownBlock]) := hp
  rw [List.pairwise_append] at hp'
  obtain ⟨q1, _, q2⟩ := hp'
  have hfar : ∀ a ∈ some gout :: vo.ownBlock :: us.map Value.ownBlock, ∀ b, a = some b → some b ≠ v.ownBlock := fun a ha b hb e => by
    rcases q2 a ha v.ownBlock (by simp) with h1 | h1
    · rw [h1] at hb; simp at hb
    · exact h1 (by rw [hb, e])
  -- what an append to v keeps
  have KI : ∀ b, b < w.heap.size → some b ≠ v.ownBlock → w'.heap[b]? = w.heap[b]? := hg.block
  have keepT : ∀ {e : TypeId} {s k : Nat} {u : Value} {ys : List Value}, 3 ≠ e → w.ownsRow B e s u k ys → w'.ownsRow B e s u k ys := fun hne h2 => own_keep h2 fun b hb => by
    obtain ⟨cur, hc, _⟩ := own_at h2 hb
    refine KI b (lt_of_block hc) fun e => ?_
    obtain ⟨cur', hc', _⟩ := own_at hrow e.symm
    exact apart_types hc' hc hne rfl
  have keepF : ∀ {s k : Nat} {u : Value} {ys : List Value}, u.ownBlock ∈ some gout :: vo.ownBlock :: us.map Value.ownBlock → w.ownsRow B 3 s u k ys → w'.ownsRow B 3 s u k ys := fun hm h2 => own_keep h2 fun b hb => by
    obtain ⟨cur, hc, _⟩ := own_at h2 hb
    exact KI b (lt_of_block hc) (hfar _ hm b hb)
  have hout' : w'.heap[gout]? = some (.cells (outRow o n) 3 (0, 0)) := (KI gout (lt_of_block h.out) (hfar _ (List.mem_cons_self ..) gout rfl)).trans h.out
  have hins' := keepT (by decide) hins
  obtain ⟨cg', hcg', _⟩ := own_at hins' (g := gi) rfl
  -- what the store keeps
  have K2 : ∀ j, j ≠ gi → (w'.setCell ⟨gi, Y.length, none⟩ (.slice (some ⟨g, 0, none⟩) (x.length + 1) c)).heap[j]? = w'.heap[j]? := fun j hj => heap_setCell_other _ _ _ _ hj
  have keep2 : ∀ {e : TypeId} {s k : Nat} {u : Value} {ys : List Value}, 92 ≠ e → w'.ownsRow B e s u k ys → (w'.setCell ⟨gi, Y.length, none⟩ (.slice (some ⟨g, 0, none⟩) (x.length + 1) c)).ownsRow B e s u k ys := fun hne h2 => own_keep h2 fun b hb => by
    obtain ⟨cur, hc, _⟩ := own_at h2 hb
    exact K2 b fun e => apart_types hcg' hc hne e.symm
  have hset := own_set hins' Y.length (.slice (some ⟨g, 0, none⟩) (x.length + 1) c)
  have e2 : (us ++ [v]).set Y.length (.slice (some ⟨g, 0, none⟩) (x.length + 1) c) = us ++ [.slice (some ⟨g, 0, none⟩) (x.length + 1) c] := by
    rw [← hul]; simp
  rw [e2] at hset
  refine ⟨(K2 gout fun e => apart_types hcg' hout' (by decide) e.symm).trans hout', h.outB, ⟨xs, keep2 (by decide) (keepF (by simp) hx)⟩, keep2 (by decide) (keepT (by decide) h.el), by simpa using hset, fun j u y hu hy => ?_, ?_⟩
  · rcases Nat.lt_or_ge j us.length with hj | hj
    · rw [List.getElem?_append_left hj] at hu
      rw [List.getElem?_append_left (by omega)] at hy
      refine keep2 (by decide) (keepF ?_ (h.each j u y (by rw [List.getElem?_append_left hj]; exact hu) (by rw [List.getElem?_append_left (by omega)]; exact hy)))
      exact List.mem_cons_of_mem _ (List.mem_cons_of_mem _ (List.mem_map.2 ⟨u, List.mem_of_getElem? hu, rfl⟩))
    · have hj0 : j = us.length := by
        rcases Nat.lt_or_ge j (us.length + 1) with h1 | h1
        · omega
        · rw [List.getElem?_eq_none (by simp; omega)] at hu; simp at hu
      subst hj0
      rw [List.getElem?_append_right (by omega)] at hu
      rw [List.getElem?_append_right (by omega)] at hy
      simp [hul] at hu hy
      subst hu hy
      refine keep2 (by decide) ?_
      have e3 : nv (x ++ [i]) = nv x ++ [.int .i64 (i : Int)] := by simp [nv]
      rw [e3, List.length_append]; exact hown
  · rw [List.map_append]
    show List.Pairwise _ ((some gout :: vo.ownBlock :: us.map Value.ownBlock) ++ [some g])
    rw [List.pairwise_append]
    refine ⟨q1, by simp, fun a ha c hc => ?_⟩
    simp only [List.mem_singleton] at hc
    subst hc
    by_cases hn : a = none
    · exact Or.inl hn
    · right
      intro e
      rcases hl with h1 | h1
      · exact hfar a ha g e h1.symm
      · refine h.lt a ?_ (by rw [e, h1])
        rw [List.map_append]
        show a ∈ (some gout :: vo.ownBlock :: us.map Value.ownBlock) ++ [v.ownBlock]
        exact List.mem_append_left _ ha

theorem SI.setOut {w : World} {B gout n : Nat} {o : Nat → Nat} {lo : Nat} {E : List Bool} {X : List (List Nat)} {vo ve vi : Value} {vs : List Value} (h : SI w B gout n o lo E X vo ve vi vs) (k e : Nat) :
    SI (w.setCell ⟨gout, k, none⟩ (.int .i64 (e : Int))) B gout n (fun j => if j = k then e else o j) lo E X vo ve vi vs := by
  obtain ⟨xs, hx⟩ := h.op
  have hp := h.apart
  simp only [List.pairwise_cons] at hp
  have K : ∀ j, j ≠ gout → (w.setCell ⟨gout, k, none⟩ (.int .i64 (e : Int))).heap[j]? = w.heap[j]? := fun j hj => heap_setCell_other _ _ _ _ hj
  have keepT : ∀ {t : TypeId} {s k' : Nat} {u : Value} {ys : List Value}, 3 ≠ t → w.ownsRow B t s u k' ys → (w.setCell ⟨gout, k, none⟩ (.int .i64 (e : Int))).ownsRow B t s u k' ys := fun hne h2 => own_keep h2 fun b hb => by
    obtain ⟨cur, hc, _⟩ := own_at h2 hb
    exact K b fun e => apart_types h.out hc hne e.symm
  have keepF : ∀ {s k' : Nat} {u : Value} {ys : List Value}, u.ownBlock ∈ vo.ownBlock :: vs.map Value.ownBlock → w.ownsRow B 3 s u k' ys → (w.setCell ⟨gout, k, none⟩ (.int .i64 (e : Int))).ownsRow B 3 s u k' ys := fun hm h2 => own_keep h2 fun b hb => by
    refine K b fun eb => ?_
    rcases hp.1 _ hm with h1 | h1
    · simp at h1
    · exact h1 (by rw [hb, eb])
  refine ⟨?_, h.outB, ⟨xs, keepF (List.mem_cons_self ..) hx⟩, keepT (by decide) h.el, keepT (by decide) h.ins, fun j v x hv hX => keepF (List.mem_cons_of_mem _ (List.mem_map.2 ⟨v, List.mem_of_getElem? hv, rfl⟩)) (h.each j v x hv hX), h.apart⟩
  rw [← outRow_set]
  exact heap_setCell_same _ _ _ _ _ _ h.out

/-- A cell of another kind of block, behind an append. -/
theorem grown_other {w w' : World} {B : Nat} {e t : TypeId} {s n : Nat} {v : Value} {xs : List Value} {g : Nat} {A : Array Value} (hown : w.ownsRow B e s v n xs) (hg : w.grownBy w' v.ownBlock) (hb : w.heap[g]? = some (.cells A t (0, 0))) (hne : e ≠ t) : w'.heap[g]? = some (.cells A t (0, 0)) := by
  rw [hg.block g (lt_of_block hb) fun e2 => ?_]
  · exact hb
  · obtain ⟨cur, hc, _⟩ := own_at hown e2.symm
    exact apart_types hc hb hne rfl
theorem own_cell {w : World} {B : Nat} {e : TypeId} {s n g cap : Nat} {xs : List Value} (h : w.ownsRow B e s (.slice (some ⟨g, 0, none⟩) n cap) n xs) {j : Nat} {u : Value} (hu : xs[j]? = some u) : w.cell? ⟨g, j, none⟩ = some u ∧ w.frozen? ⟨g, j, none⟩ = false := by
  rcases h.2 with ⟨h0, _⟩ | ⟨g', cap', cur, h1, h2, h3, h4, h5, h6, h7⟩
  · simp at h0
  · simp only [Value.slice.injEq, Option.some.injEq, Addr.mk.injEq] at h1
    obtain ⟨⟨rfl, _⟩, _, rfl⟩ := h1
    refine ⟨?_, by simp [World.frozen?, h3]⟩
    rw [← h7, List.getElem?_take] at hu
    have hj : j < n * s := by
      rcases Nat.lt_or_ge j (n * s) with h8 | h8
      · exact h8
      · rw [if_neg (by omega)] at hu; simp at hu
    rw [if_pos hj, Array.getElem?_toList] at hu
    simp [World.cell?, h3, hu]

/-- The innermost block is over. -/
theorem SI.pop {w : World} {B gout n : Nat} {o : Nat → Nat} {lo : Nat} {E : List Bool} {b : Bool} {Y : List (List Nat)} {x : List Nat} {go_ ge gi k2 k3 co ce ci : Nat} {vs : List Value}
    (h : SI w B gout n o (lo + 1) (E ++ [b]) (Y ++ [x]) (.slice (some ⟨go_, 0, none⟩) (lo + 1) co) (.slice (some ⟨ge, 0, none⟩) k2 ce) (.slice (some ⟨gi, 0, none⟩) k3 ci) vs) (hk2 : k2 = E.length + 1) (hk3 : k3 = Y.length + 1) :
    SI w B gout n o lo E Y (.slice (some ⟨go_, 0, none⟩) lo co) (.slice (some ⟨ge, 0, none⟩) E.length ce) (.slice (some ⟨gi, 0, none⟩) Y.length ci) (vs.take Y.length) := by
  obtain ⟨xs, hx⟩ := h.op
  have hel := h.el
  have hins := h.ins
  simp only [List.length_append, List.length_cons, List.length_nil, Nat.zero_add] at hel hins
  subst hk2 hk3
  have h1 := own_take hx
  have h2 := own_take hel
  have h3 := own_take hins
  rw [Nat.mul_one] at h2 h3
  have e2 : ((E ++ [b]).map Value.bool).take E.length = E.map Value.bool := by
    rw [← List.map_take]; simp
  rw [e2] at h2
  refine ⟨h.out, h.outB, ⟨_, h1⟩, h2, h3, fun j v y hv hy => ?_, ?_⟩
  · have hj : j < Y.length := by
      rcases Nat.lt_or_ge j Y.length with h4 | h4
      · exact h4
      · rw [List.getElem?_eq_none h4] at hy; simp at hy
    refine h.each j v y ?_ (by rw [List.getElem?_append_left hj]; exact hy)
    rw [List.getElem?_take] at hv; simpa [hj] using hv
  · refine h.apart.sublist ?_
    refine List.Sublist.cons_cons _ (List.Sublist.cons_cons _ ?_)
    rw [List.map_take]; exact List.take_sublist _ _

end Go.Proofs.YtdcfflmfimepfaaGreat

namespace Go.Proofs.YtdcfflmfimepfaaGreat
open Go.ChangeShapes Go.WideShapes Go.ChangeAt Go.RowKit

theorem owns_below {w w' : World} {B : Nat} {e : TypeId} {size n : Nat} {v : Value} {xs : List Value} (h : w.ownsRow B e size v n xs) (hb : Below w.heap.size w w') : w'.ownsRow B e size v n xs := by
  refine ⟨h.1, ?_⟩
  rcases h.2 with h0 | ⟨g, cap, cur, h1, h2, h3, h4⟩
  · exact Or.inl h0
  · exact Or.inr ⟨g, cap, cur, h1, h2, (hb.block g (lt_of_block h3)).trans h3, h4⟩
theorem kinds_of {op y : Int} (h : gi op y = true) : shp op = 0 ∨ shp op = 1 ∨ shp op = 2 ∨ shp op = 3 ∨ shp op = 4 ∨ shp op = 5 ∨ shp op = 6 := by
  rcases shp_one op with k | k | k | k | k | k | k | k
  all_goals first | omega | skip
  unfold gi at h; rw [k] at h; simp [mayK] at h

end Go.Proofs.YtdcfflmfimepfaaGreat

namespace Go.Proofs.YtdcfflmfimepfaaGreat
open Go.ChangeShapes Go.WideShapes Go.ChangeAt Go.RowKit

def ops (L : List (Int × Int)) : List Int := L.map (·.1)
/-- Whether code is a body, its ends and how deep it goes. -/
def eo (L : List (Int × Int)) : Option (List Nat × Nat) := if (allG L && decide (L.length ≤ 200)) = true then bodyOf (ops L) else none
/-- Frames as the rows hold them. -/
def fE (S : List (Bool × List Nat)) : List Bool := (S.map (·.1)).reverse
def fX (S : List (Bool × List Nat)) : List (List Nat) := (S.map (·.2)).reverse
theorem fE_cons (f : Bool) (x : List Nat) (T : List (Bool × List Nat)) : fE ((f, x) :: T) = fE T ++ [f] := by simp [fE]
theorem fX_cons (f : Bool) (x : List Nat) (T : List (Bool × List Nat)) : fX ((f, x) :: T) = fX T ++ [x] := by simp [fX]
theorem fE_len (S : List (Bool × List Nat)) : (fE S).length = S.length := by simp [fE]
theorem fX_len (S : List (Bool × List Nat)) : (fX S).length = S.length := by simp [fX]
/-- Few frames, short ones, of places that were met. -/
def met (S : List (Bool × List Nat)) (k : Nat) : Prop := S.length ≤ k + 1 ∧ ∀ x ∈ S, x.2.length ≤ k ∧ ∀ j ∈ x.2, j < k
theorem met_up {S : List (Bool × List Nat)} {k : Nat} (h : met S k) : met S (k + 1) := ⟨by have := h.1; omega, fun x hx => ⟨by have := (h.2 x hx).1; omega, fun j hj => by have := (h.2 x hx).2 j hj; omega⟩⟩
theorem met_more {f g : Bool} {x : List Nat} {T : List (Bool × List Nat)} {k : Nat} (h : met ((f, x) :: T) k) : met ((g, x ++ [k]) :: T) (k + 1) := by
  refine ⟨by have := h.1; simp only [List.length_cons] at this ⊢; omega, fun y hy => ?_⟩
  rcases List.mem_cons.1 hy with rfl | hy
  · have h1 := h.2 (f, x) (List.mem_cons_self ..)
    refine ⟨by simp; exact h1.1, fun j hj => ?_⟩
    rcases List.mem_append.1 hj with hj | hj
    · have := h1.2 j hj; omega
    · simp at hj; omega
  · have h1 := h.2 y (List.mem_cons_of_mem _ hy)
    exact ⟨by have := h1.1; omega, fun j hj => by have := h1.2 j hj; omega⟩
theorem met_pop {x : Bool × List Nat} {T : List (Bool × List Nat)} {k : Nat} (h : met (x :: T) k) : met T (k + 1) := by
  have h1 := met_up h
  exact ⟨by have := h.1; simp only [List.length_cons] at this; omega, fun y hy => h1.2 y (List.mem_cons_of_mem _ hy)⟩
theorem met_push {b : Bool} {S : List (Bool × List Nat)} {k : Nat} (h : met S k) : met ((b, [k]) :: S) (k + 1) := by
  refine ⟨by have := h.1; simp only [List.length_cons]; omega, fun y hy => ?_⟩
  rcases List.mem_cons.1 hy with rfl | hy
  · exact ⟨by simp, fun j hj => by simp at hj; omega⟩
  · exact (met_up h).2 y hy
theorem fw_op (L : List (Int × Int)) (k : Nat) (h : k < L.length) : (ops L).drop k = L[k].1 :: (ops L).drop (k + 1) := by
  have h2 : k < (ops L).length := by simpa [ops] using h
  rw [List.drop_eq_getElem_cons h2]; simp [ops]

theorem Tryz.infoI : (Tryz.prog.info? 3).map (fun i => (i.zero, i.size, i.bytes)) = some (some (.int .i64 0), 1, 8) := by kernel_rfl
theorem Tryz.infoB : (Tryz.prog.info? 4).map (fun i => (i.zero, i.size, i.bytes)) = some (some (.bool false), 1, 1) := by kernel_rfl
theorem Tryz.infoSI : (Tryz.prog.info? 92).map (fun i => (i.zero, i.size, i.bytes)) = some (some (.slice none 0 0), 1, 24) := by kernel_rfl

/-- What is told of a body, and what is not. -/
def Told (w : World) (L : List (Int × Int)) (e : Ending) (w' : World) : Prop := ∃ v d, e = .returned (.tuple #[v, .int .i64 d, .bool (eo L).isSome]) ∧ (∀ E D, eo L = some (E, D) → d = ((D : Nat) : Int) ∧ w'.ownsRow w.heap.size 3 1 v E.length (nv E)) ∧ Below w.heap.size w w'
theorem told_no {w w' : World} {L : List (Int × Int)} {v : Value} {d : Int} (h : eo L = none) (hb : Below w.heap.size w w') : Told w L (.returned (.tuple #[v, .int .i64 d, .bool false])) w' :=
  ⟨v, d, by rw [h]; rfl, fun E D he => by rw [h] at he; simp at he, hb⟩

set_option maxRecDepth 100000 in
set_option maxHeartbeats 3200000 in
theorem specEnds_bad (a : Option Addr) (b off cap : Nat) (L : List (Int × Int)) (w : World) (ha : Hid (L ≠ [] → a = some ⟨b, off, none⟩ ∧ b < w.heap.size)) (hL : insAt w b off L) (hlen : L.length ≤ 1048576) (hg : (allG L && decide (L.length ≤ 200)) = false ∨ L = []) :
    Calls Tryz.prog 95 #[.slice a L.length cap] w fun e w' => Told w L e w' := by
  have HG := specAll a b off cap L w ha hL hlen
  have he : Hid (eo L = none) := by
    unfold Hid eo
    rcases hg with h | rfl
    · rw [h]; rfl
    · rfl
  by_cases h0 : (allG L && decide (L.length ≤ 200)) = false
  · rw [h0] at HG
    clear hg h0 hlen
    go_enter Tryz.func95, Tryz.ntmps95
    go_wp2_with (go_at_call 119; refine HG.mono ?_; rintro e w0 ⟨rfl, hb0⟩; clear HG)
    refine bodyPost_ret (v := .tuple #[.slice none 0 0, .int .i64 0, .bool false]) (by simp [results, Tryz.results95, go_sem]) rfl (told_no he.out (by assumption))
  · have h1 : (allG L && decide (L.length ≤ 200)) = true := by simpa using h0
    rw [h1] at HG
    have hL0 : L.length = 0 := by
      rcases hg with h | rfl
      · exact absurd h h0
      · rfl
    have hL1 : (L.length : Int) = 0 := by omega
    clear hg h0 h1 hlen hL0
    go_enter Tryz.func95, Tryz.ntmps95
    go_wp2_with (go_at_call 119; refine HG.mono ?_; rintro e w0 ⟨rfl, hb0⟩; clear HG)
    refine bodyPost_ret (v := .tuple #[.slice none 0 0, .int .i64 0, .bool false]) (by simp [results, Tryz.results95, go_sem]) rfl (told_no he.out (by assumption))

end Go.Proofs.YtdcfflmfimepfaaGreat
