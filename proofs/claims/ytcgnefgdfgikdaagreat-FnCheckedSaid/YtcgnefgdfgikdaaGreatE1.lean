/-
  Bodies from the front and from the back: both ways tell the same. Nothing of the program stands here.
-/
import Derived.Below
import Derived.Test.YtcgnefgdfgikdaaGreatA4
import Derived.Test.YtcgnefgdfgikdaaGreatA3
namespace Go.Proofs.YtcgnefgdfgikdaaGreat

def opens (op : Int) : Bool := op == 2 || op == 3 || op == 4
theorem opens_not (op : Int) (h : opens op = true) : op ≠ 5 ∧ op ≠ 11 := by
  simp only [opens, Bool.or_eq_true, beq_iff_eq] at h; omega

/-- From the back: one instruction met, on the blocks around it (the innermost first): where each ends, and whether an else was met in it. -/
def bkStep (i : Nat) (op : Int) (st : List (Nat × Bool)) : Option (List (Nat × Bool)) :=
  if op = 11 then some ((i, false) :: st)
  else match st with
    | [] => none
    | (e, d) :: t => if op = 5 then (if d = true then none else some ((e, true) :: t))
      else if opens op = true then (if t = [] ∨ (d = true ∧ op ≠ 4) then none else some t)
      else some ((e, d) :: t)
def bk : Nat → List Int → Option (List (Nat × Bool))
  | _, [] => some []
  | i, op :: r => (bk (i + 1) r).bind (bkStep i op)
/-- Where the block of an instruction ends. -/
def bkTop (i : Nat) (op : Int) (st : List (Nat × Bool)) : Nat := if op = 11 then i else (st.headD (0, false)).1
def bkE : Nat → List Int → List Nat
  | _, [] => []
  | i, op :: r => bkTop i op ((bk (i + 1) r).getD []) :: bkE (i + 1) r
def bkD : Nat → List Int → Nat
  | _, [] => 0
  | i, op :: r => if op = 11 then max (bkD (i + 1) r) (((bk (i + 1) r).getD []).length + 1) else bkD (i + 1) r

/-- From the front: blocks that are open (the innermost first), whether one may have no else any more, and what lies in it. -/
def fw : Nat → List Int → List (Bool × List Nat) → (Nat → Nat) → Nat → Option ((Nat → Nat) × Nat)
  | _, [], S, o, d => if S = [] then some (o, d) else none
  | _, _ :: _, [], _, _ => none
  | i, op :: r, (f, ins) :: T, o, d =>
    if opens op = true then fw (i + 1) r ((decide (op ≠ 4), [i]) :: (f, ins) :: T) o (max d (T.length + 2))
    else if op = 5 ∧ f = true then none
    else if op = 11 then fw (i + 1) r T (fun k => if k ∈ ins ++ [i] then i else o k) d
    else fw (i + 1) r ((f || decide (op = 5), ins ++ [i]) :: T) o d

/-- Blocks from the front and from the back fit. -/
def cmp : List (Nat × Bool) → List (Bool × List Nat) → Bool
  | [], [] => true
  | (_, d) :: t, (f, _) :: T => !(d && f) && cmp t T
  | _, _ => false
theorem cmp_len : ∀ {st S}, cmp st S = true → st.length = S.length
  | [], [], _ => rfl
  | (_, _) :: t, (_, _) :: T, h => by
    simp only [cmp, Bool.and_eq_true] at h
    simp [cmp_len h.2]
  | [], _ :: _, h => by simp [cmp] at h
  | _ :: _, [], h => by simp [cmp] at h
def app : List (Bool × List Nat) → List (Nat × Bool) → (Nat → Nat) → Nat → Nat
  | (_, ins) :: T, (e, _) :: t, o => app T t (fun k => if k ∈ ins then e else o k)
  | _, _, o => o
def low (S : List (Bool × List Nat)) (i : Nat) : Prop := ∀ x ∈ S, ∀ k ∈ x.2, k < i
theorem app_cong (S : List (Bool × List Nat)) : ∀ (st : List (Nat × Bool)) (o o' : Nat → Nat) (k : Nat), o k = o' k → app S st o k = app S st o' k := by
  induction S with
  | nil => intro st o o' k h; cases st <;> exact h
  | cons x T ih =>
    intro st o o' k h
    cases st with
    | nil => exact h
    | cons y t => exact ih t _ _ k (by show (if k ∈ x.2 then y.1 else o k) = (if k ∈ x.2 then y.1 else o' k); rw [h])
theorem app_low (S : List (Bool × List Nat)) : ∀ (st : List (Nat × Bool)) (o : Nat → Nat) (i k : Nat), low S i → i ≤ k → app S st o k = o k := by
  induction S with
  | nil => intro st o i k _ _; cases st <;> rfl
  | cons x T ih =>
    intro st o i k h hk
    cases st with
    | nil => rfl
    | cons y t =>
      have h1 : ¬ k ∈ x.2 := fun hm => by have := h x (List.mem_cons_self ..) k hm; omega
      have h2 := ih t (fun k => if k ∈ x.2 then y.1 else o k) i k (fun z hz => h z (List.mem_cons_of_mem _ hz)) hk
      show app T t _ k = _
      rw [h2]; simp [h1]

theorem bkE_len : ∀ (l : List Int) (i : Nat), (bkE i l).length = l.length
  | [], _ => rfl
  | _ :: r, i => by simp [bkE, bkE_len r (i + 1)]

/-- What the front's way tells, at each place. -/
def told (i : Nat) (l : List Int) (S : List (Bool × List Nat)) (st : List (Nat × Bool)) (o : Nat → Nat) (k : Nat) : Nat :=
  if i ≤ k then (bkE i l).getD (k - i) (o k) else app S st o k

theorem bk_len_le : ∀ (l : List Int) (i : Nat) (st : List (Nat × Bool)), bk i l = some st → st.length ≤ bkD i l
  | [], _, st, h => by simp [bk] at h; subst h; simp
  | op :: r, i, st, h => by
    simp only [bk] at h
    rcases hb : bk (i + 1) r with _ | s0
    · rw [hb] at h; simp at h
    · have ih := bk_len_le r (i + 1) s0 hb
      rw [hb] at h
      simp only [Option.bind_some] at h
      simp only [bkD, hb, Option.getD_some]
      unfold bkStep at h
      by_cases h11 : op = 11
      · rw [if_pos h11] at h ⊢
        simp only [Option.some.injEq] at h
        subst h; simp only [List.length_cons]; omega
      · rw [if_neg h11] at h ⊢
        cases s0 with
        | nil => simp at h
        | cons y t =>
          obtain ⟨e, d⟩ := y
          simp only at h
          simp only [List.length_cons] at ih
          repeat' split at h
          all_goals simp only [Option.some.injEq, reduceCtorEq] at h
          all_goals subst h
          all_goals first | omega | (simp only [List.length_cons]; omega)

set_option maxHeartbeats 1000000 in
theorem fw_some : ∀ (l : List Int) (i : Nat) (S : List (Bool × List Nat)) (st : List (Nat × Bool)) (o : Nat → Nat) (d : Nat), bk i l = some st → cmp st S = true → low S i → S.length ≤ d →
    ∃ o', fw i l S o d = some (o', max d (bkD i l)) ∧ ∀ k, o' k = told i l S st o k
  | [], i, S, st, o, d, hb, hc, _, _ => by
    simp [bk] at hb; subst hb
    cases S with
    | nil =>
      refine ⟨o, by simp [fw, bkD], fun k => ?_⟩
      unfold told; split <;> simp [bkE, app]
    | cons x T => simp [cmp] at hc
  | op :: r, i, S, st, o, d, hb, hc, hl, hd => by
    simp only [bk] at hb
    rcases hr : bk (i + 1) r with _ | s0
    · rw [hr] at hb; simp at hb
    · rw [hr] at hb
      simp only [Option.bind_some] at hb
      have hle := bk_len_le r (i + 1) s0 hr
      have hE : bkE i (op :: r) = bkTop i op s0 :: bkE (i + 1) r := by simp [bkE, hr]
      have hD : bkD i (op :: r) = if op = 11 then max (bkD (i + 1) r) (s0.length + 1) else bkD (i + 1) r := by simp [bkD, hr]
      have stepT : ∀ (S' : List (Bool × List Nat)) (st' : List (Nat × Bool)) (o1 : Nat → Nat), low S' (i + 1) → (app S' st' o1 i = bkTop i op s0) → (∀ k, k < i → app S' st' o1 k = app S st o k) → (∀ k, i < k → o1 k = o k) → ∀ k, told (i + 1) r S' st' o1 k = told i (op :: r) S st o k := by
        intro S' st' o1 hl' h1 h2 h3 k
        unfold told
        rw [hE]
        by_cases hk : i + 1 ≤ k
        · rw [if_pos hk, if_pos (by omega), h3 k (by omega)]
          obtain ⟨m, rfl⟩ : ∃ m, k = i + 1 + m := ⟨k - (i + 1), by omega⟩
          rw [show i + 1 + m - (i + 1) = m by omega, show i + 1 + m - i = m + 1 by omega, List.getD_cons_succ]
        · rw [if_neg hk]
          by_cases hki : i ≤ k
          · obtain rfl : k = i := by omega
            rw [if_pos hki, h1]; simp
          · rw [if_neg hki, h2 k (by omega)]
      cases S with
      | nil =>
        exfalso
        have h0 := cmp_len hc
        simp at h0; subst h0
        unfold bkStep at hb
        split at hb
        · simp at hb
        · cases s0 with
          | nil => simp at hb
          | cons y t =>
            simp only at hb
            repeat' split at hb
            all_goals simp only [Option.some.injEq, reduceCtorEq] at hb
            all_goals first | (simp at hb; done) | skip
            simp_all
      | cons x T =>
        obtain ⟨f, ins⟩ := x
        have hlI : ∀ k ∈ ins, k < i := fun k hk => hl (f, ins) (List.mem_cons_self ..) k hk
        have hlT : low T i := fun z hz => hl z (List.mem_cons_of_mem _ hz)
        have hlT1 : low T (i + 1) := fun z hz k hk => by have := hlT z hz k hk; omega
        simp only [List.length_cons] at hd
        by_cases h11 : op = 11
        · subst h11
          simp only [bkStep, if_true, Option.some.injEq] at hb
          subst hb
          simp only [cmp, Bool.false_and, Bool.not_false, Bool.true_and] at hc
          obtain ⟨o', ho, hk⟩ := fw_some r (i + 1) T s0 (fun k => if k ∈ ins ++ [i] then i else o k) d hr hc hlT1 (by omega)
          refine ⟨o', ?_, fun k => ?_⟩
          · have hno : opens 11 = false := rfl
            simp only [fw, hno, Bool.false_eq_true, if_false, if_true]
            rw [if_neg (by omega), ho, hD, if_pos rfl]
            have := cmp_len hc
            congr 2; omega
          · rw [hk k]
            refine stepT T s0 _ hlT1 ?_ (fun j hj => ?_) (fun j hj => ?_) k
            · rw [app_low T s0 _ i i hlT (Nat.le_refl _)]; simp [bkTop]
            · show _ = app T s0 _ j
              apply app_cong
              have : ¬ j = i := by omega
              simp [this]
            · have h1 : ¬ j ∈ ins := fun h => by have := hlI j h; omega
              have h2 : ¬ j = i := by omega
              simp [h1, h2]
        · have hD' : bkD i (op :: r) = bkD (i + 1) r := by rw [hD, if_neg h11]
          unfold bkStep at hb
          rw [if_neg h11] at hb
          cases s0 with
          | nil => simp at hb
          | cons y t =>
            obtain ⟨e, dd⟩ := y
            simp only at hb
            have hT : bkTop i op ((e, dd) :: t) = e := by simp [bkTop, h11]
            by_cases h5 : op = 5
            · subst h5
              simp only [if_true] at hb
              cases dd with
              | true => simp at hb
              | false =>
                simp only [Bool.false_eq_true, if_false, Option.some.injEq] at hb
                subst hb
                simp only [cmp, Bool.true_and, Bool.and_eq_true, Bool.not_eq_true'] at hc
                obtain ⟨rfl, hc⟩ := hc
                have hl' : low ((true, ins ++ [i]) :: T) (i + 1) := fun z hz k hk => by
                  rcases List.mem_cons.1 hz with rfl | hz
                  · rcases List.mem_append.1 hk with hk | hk
                    · have := hlI k hk; omega
                    · simp at hk; omega
                  · exact hlT1 z hz k hk
                obtain ⟨o', ho, hk⟩ := fw_some r (i + 1) ((true, ins ++ [i]) :: T) ((e, false) :: t) o d hr (by simp [cmp, hc]) hl' (by simp; omega)
                refine ⟨o', ?_, fun k => ?_⟩
                · have hno : opens 5 = false := rfl
                  simp only [fw, hno, Bool.false_eq_true, if_false, and_false, Bool.false_or, decide_true, h11]
                  rw [ho, hD']
                · rw [hk k]
                  refine stepT _ _ o hl' ?_ (fun j hj => ?_) (fun j hj => rfl) k
                  · show app T t _ i = _
                    rw [app_low T t _ i i hlT (Nat.le_refl _), hT]; simp
                  · show app T t _ j = app T t _ j
                    apply app_cong
                    have : ¬ j = i := by omega
                    simp [this]
            · rw [if_neg h5] at hb
              by_cases ho : opens op = true
              · rw [if_pos ho] at hb
                split at hb
                · simp at hb
                · rename_i hcond
                  simp only [Option.some.injEq] at hb
                  subst hb
                  have hl' : low ((decide (op ≠ 4), [i]) :: (f, ins) :: T) (i + 1) := fun z hz k hk => by
                    rcases List.mem_cons.1 hz with rfl | hz
                    · simp at hk; omega
                    · have := hl z hz k hk; omega
                  have hlen := cmp_len hc
                  simp only [List.length_cons] at hlen hle
                  obtain ⟨o', hf, hk⟩ := fw_some r (i + 1) ((decide (op ≠ 4), [i]) :: (f, ins) :: T) ((e, dd) :: t) o (max d (T.length + 2)) hr
                    (by simp only [cmp, hc, Bool.and_true, Bool.not_eq_true', Bool.and_eq_false_iff, decide_eq_false_iff_not]
                        by_cases hdd : dd = true
                        · right; intro h4; exact hcond (Or.inr ⟨hdd, h4⟩)
                        · left; simpa using hdd) hl' (by simp only [List.length_cons]; omega)
                  refine ⟨o', ?_, fun k => ?_⟩
                  · simp only [fw, ho, if_true]
                    rw [hf, hD']
                    congr 2; omega
                  · rw [hk k]
                    refine stepT _ _ o hl' ?_ (fun j hj => ?_) (fun j hj => rfl) k
                    · show app ((f, ins) :: T) t _ i = _
                      rw [app_low ((f, ins) :: T) t _ i i hl (Nat.le_refl _), hT]; simp
                    · show app ((f, ins) :: T) t _ j = app ((f, ins) :: T) t o j
                      apply app_cong
                      have : ¬ j = i := by omega
                      simp [this]
              · rw [if_neg ho] at hb
                simp only [Option.some.injEq] at hb
                subst hb
                have hc' := hc
                simp only [cmp, Bool.and_eq_true] at hc
                have hl' : low ((f || decide (op = 5), ins ++ [i]) :: T) (i + 1) := fun z hz k hk => by
                  rcases List.mem_cons.1 hz with rfl | hz
                  · rcases List.mem_append.1 hk with hk | hk
                    · have := hlI k hk; omega
                    · simp at hk; omega
                  · exact hlT1 z hz k hk
                obtain ⟨o', hf, hk⟩ := fw_some r (i + 1) ((f || decide (op = 5), ins ++ [i]) :: T) ((e, dd) :: t) o d hr (by simp only [cmp, h5, decide_false, Bool.or_false, hc.2, Bool.and_true]; exact hc.1) hl' (by simp only [List.length_cons]; omega)
                refine ⟨o', ?_, fun k => ?_⟩
                · have ho' : opens op = false := by simpa using ho
                  simp only [fw, ho', Bool.false_eq_true, if_false, h5, false_and, h11, decide_false]
                  simp only [h5, decide_false] at hf
                  rw [hf, hD']
                · rw [hk k]
                  refine stepT _ _ o hl' ?_ (fun j hj => ?_) (fun j hj => rfl) k
                  · show app T t _ i = _
                    rw [app_low T t _ i i hlT (Nat.le_refl _), hT]; simp
                  · show app T t _ j = app T t _ j
                    apply app_cong
                    have : ¬ j = i := by omega
                    simp [this]

theorem bk_ne : ∀ (op : Int) (r : List Int) (i : Nat) (st : List (Nat × Bool)), bk i (op :: r) = some st → st ≠ []
  | op, r, i, st, h => by
    simp only [bk] at h
    rcases hr : bk (i + 1) r with _ | s0
    · rw [hr] at h; simp at h
    · rw [hr] at h
      simp only [Option.bind_some] at h
      unfold bkStep at h
      split at h
      · simp only [Option.some.injEq] at h; subst h; simp
      · cases s0 with
        | nil => simp at h
        | cons y t =>
          simp only at h
          repeat' split at h
          all_goals simp only [Option.some.injEq, reduceCtorEq] at h
          all_goals subst h
          all_goals first | simp | skip
          rename_i hc
          intro h0
          exact hc (Or.inl h0)

set_option maxHeartbeats 1000000 in
theorem fw_none : ∀ (l : List Int) (i : Nat) (S : List (Bool × List Nat)) (o : Nat → Nat) (d : Nat), (∀ st, bk i l = some st → cmp st S = false) → fw i l S o d = none
  | [], i, S, o, d, h => by
    have h0 := h [] rfl
    cases S with
    | nil => simp [cmp] at h0
    | cons x T => simp [fw]
  | op :: r, i, [], o, d, h => by simp [fw]
  | op :: r, i, (f, ins) :: T, o, d, h => by
    have hb : ∀ st, (bk (i + 1) r).bind (bkStep i op) = some st → cmp st ((f, ins) :: T) = false := h
    by_cases ho : opens op = true
    · obtain ⟨h5, h11⟩ := opens_not op ho
      simp only [fw, ho, if_true]
      refine fw_none r (i + 1) _ _ _ fun s0 hs0 => ?_
      rw [hs0] at hb
      simp only [Option.bind_some] at hb
      cases s0 with
      | nil => simp [cmp]
      | cons y t =>
        obtain ⟨e, dd⟩ := y
        by_cases hc : t = [] ∨ (dd = true ∧ op ≠ 4)
        · rcases hc with rfl | ⟨rfl, h4⟩
          · simp [cmp]
          · simp [cmp, h4]
        · have := hb t (by simp [bkStep, h11, h5, ho, hc])
          simp [cmp, this]
    · have ho' : opens op = false := by simpa using ho
      by_cases h5 : op = 5
      · subst h5
        cases f with
        | true => simp [fw, ho']
        | false =>
          simp only [fw, ho', Bool.false_eq_true, if_false, and_false, Bool.false_or, decide_true]
          rw [if_neg (by omega)]
          refine fw_none r (i + 1) _ _ _ fun s0 hs0 => ?_
          rw [hs0] at hb
          simp only [Option.bind_some] at hb
          cases s0 with
          | nil => simp [cmp]
          | cons y t =>
            obtain ⟨e, dd⟩ := y
            cases dd with
            | true => simp [cmp]
            | false =>
              have := hb ((e, true) :: t) (by simp [bkStep])
              simp only [cmp, Bool.and_false, Bool.not_false, Bool.true_and] at this
              simp [cmp, this]
      · by_cases h11 : op = 11
        · subst h11
          simp only [fw, ho', Bool.false_eq_true, if_false, if_true]
          rw [if_neg (by omega)]
          refine fw_none r (i + 1) _ _ _ fun s0 hs0 => ?_
          rw [hs0] at hb
          simp only [Option.bind_some] at hb
          have := hb ((i, false) :: s0) (by simp [bkStep])
          simpa [cmp] using this
        · simp only [fw, ho', Bool.false_eq_true, if_false, h5, false_and, h11, decide_false, Bool.or_false]
          refine fw_none r (i + 1) _ _ _ fun s0 hs0 => ?_
          rw [hs0] at hb
          simp only [Option.bind_some] at hb
          cases s0 with
          | nil => simp [cmp]
          | cons y t =>
            obtain ⟨e, dd⟩ := y
            have := hb ((e, dd) :: t) (by simp [bkStep, h11, h5, ho'])
            simpa [cmp] using this

/-- A body: where each instruction's block ends, and how deep it goes; none where it is no body. -/
def bodyOf (l : List Int) : Option (List Nat × Nat) := match bk 0 l with
  | some [(_, false)] => some (bkE 0 l, bkD 0 l)
  | _ => none
theorem body_fw (l : List Int) : (bodyOf l = none ∧ fw 0 l [(true, [])] (fun _ => 0) 1 = none) ∨ ∃ o', bodyOf l = some (bkE 0 l, bkD 0 l) ∧ fw 0 l [(true, [])] (fun _ => 0) 1 = some (o', bkD 0 l) ∧ ∀ k, k < l.length → some (o' k) = (bkE 0 l)[k]? := by
  by_cases h : ∃ e, bk 0 l = some [(e, false)]
  · obtain ⟨e, he⟩ := h
    have hle := bk_len_le l 0 _ he
    obtain ⟨o', hf, hk⟩ := fw_some l 0 [(true, [])] [(e, false)] (fun _ => 0) 1 he (by simp [cmp]) (fun x hx k hk => by simp at hx; subst hx; simp at hk) (by simp)
    refine Or.inr ⟨o', by unfold bodyOf; rw [he], ?_, fun k hk2 => ?_⟩
    · rw [hf]; congr 2; simp only [List.length_cons, List.length_nil] at hle; omega
    · rw [hk k]
      have : k < (bkE 0 l).length := by rw [bkE_len]; exact hk2
      simp [told, List.getD, this]
  · refine Or.inl ⟨?_, ?_⟩
    · unfold bodyOf
      split
      · rename_i e he; exact absurd ⟨e, he⟩ h
      · rfl
    · refine fw_none l 0 _ _ _ fun st hst => ?_
      cases st with
      | nil => rfl
      | cons y t =>
        obtain ⟨e, dd⟩ := y
        cases t with
        | nil =>
          cases dd with
          | true => rfl
          | false => exact absurd ⟨e, hst⟩ h
        | cons z u => simp [cmp]

end Go.Proofs.YtcgnefgdfgikdaaGreat

namespace Go.Proofs.YtcgnefgdfgikdaaGreat
open Go.ChangeShapes Go.WideShapes Go.ChangeAt Go.RowKit

def ops (L : List (Int × Int)) : List Int := L.map (·.1)
/-- Whether code is a body, its ends and how deep it goes. -/
def eo (L : List (Int × Int)) : Option (List Nat × Nat) := if (allG L && decide (L.length ≤ 200)) = true then bodyOf (ops L) else none
/-- Frames as the rows hold them. -/
def fE (S : List (Bool × List Nat)) : List Bool := (S.map (·.1)).reverse
def fX (S : List (Bool × List Nat)) : List (List Nat) := (S.map (·.2)).reverse
theorem fE_cons (f : Bool) (x : List Nat) (T : List (Bool × List Nat)) : fE ((f, x) :: T) = fE T ++ [f] := by simp [fE]
theorem fX_cons (f : Bool) (x : List Nat) (T : List (Bool × List Nat)) : fX ((f, x) :: T) = fX T ++ [x] := by simp [fX]
theorem fE_len (S : List (Bool × List Nat)) : (fE S).length = S.length := by simp [fE]
theorem fX_len (S : List (Bool × List Nat)) : (fX S).length = S.length := by simp [fX]
/-- Few frames, short ones, of places that were met. -/
def met (S : List (Bool × List Nat)) (k : Nat) : Prop := S.length ≤ k + 1 ∧ ∀ x ∈ S, x.2.length ≤ k ∧ ∀ j ∈ x.2, j < k
theorem met_up {S : List (Bool × List Nat)} {k : Nat} (h : met S k) : met S (k + 1) := ⟨by have := h.1; omega, fun x hx => ⟨by have := (h.2 x hx).1; omega, fun j hj => by have := (h.2 x hx).2 j hj; omega⟩⟩
theorem met_more {f g : Bool} {x : List Nat} {T : List (Bool × List Nat)} {k : Nat} (h : met ((f, x) :: T) k) : met ((g, x ++ [k]) :: T) (k + 1) := by
  refine ⟨by have := h.1; simp only [List.length_cons] at this ⊢; omega, fun y hy => ?_⟩
  rcases List.mem_cons.1 hy with rfl | hy
  · have h1 := h.2 (f, x) (List.mem_cons_self ..)
    refine ⟨by simp; exact h1.1, fun j hj => ?_⟩
    rcases List.mem_append.1 hj with hj | hj
    · have := h1.2 j hj; omega
    · simp at hj; omega
  · have h1 := h.2 y (List.mem_cons_of_mem _ hy)
    exact ⟨by have := h1.1; omega, fun j hj => by have := h1.2 j hj; omega⟩
theorem met_pop {x : Bool × List Nat} {T : List (Bool × List Nat)} {k : Nat} (h : met (x :: T) k) : met T (k + 1) := by
  have h1 := met_up h
  exact ⟨by have := h.1; simp only [List.length_cons] at this; omega, fun y hy => h1.2 y (List.mem_cons_of_mem _ hy)⟩
theorem met_push {b : Bool} {S : List (Bool × List Nat)} {k : Nat} (h : met S k) : met ((b, [k]) :: S) (k + 1) := by
  refine ⟨by have := h.1; simp only [List.length_cons]; omega, fun y hy => ?_⟩
  rcases List.mem_cons.1 hy with rfl | hy
  · exact ⟨by simp, fun j hj => by simp at hj; omega⟩
  · exact (met_up h).2 y hy
theorem fw_op (L : List (Int × Int)) (k : Nat) (h : k < L.length) : (ops L).drop k = L[k].1 :: (ops L).drop (k + 1) := by
  have h2 : k < (ops L).length := by simpa [ops] using h
  rw [List.drop_eq_getElem_cons h2]; simp [ops]

theorem Tryz.infoI : (Tryz.prog.info? 3).map (fun i => (i.zero, i.size, i.bytes)) = some (some (.int .i64 0), 1, 8) := by kernel_rfl
theorem Tryz.infoB : (Tryz.prog.info? 4).map (fun i => (i.zero, i.size, i.bytes)) = some (some (.bool false), 1, 1) := by kernel_rfl
theorem Tryz.infoSI : (Tryz.prog.info? 36).map (fun i => (i.zero, i.size, i.bytes)) = some (some (.slice none 0 0), 1, 24) := by kernel_rfl

/-- What is told of a body, and what is not. -/
def Told (w : World) (L : List (Int × Int)) (e : Ending) (w' : World) : Prop := ∃ v d, e = .returned (.tuple #[v, .int .i64 d, .bool (eo L).isSome]) ∧ (∀ E D, eo L = some (E, D) → d = ((D : Nat) : Int) ∧ w'.ownsRow w.heap.size 3 1 v E.length (nv E)) ∧ Below w.heap.size w w'
theorem told_no {w w' : World} {L : List (Int × Int)} {v : Value} {d : Int} (h : eo L = none) (hb : Below w.heap.size w w') : Told w L (.returned (.tuple #[v, .int .i64 d, .bool false])) w' :=
  ⟨v, d, by rw [h]; rfl, fun E D he => by rw [h] at he; simp at he, hb⟩

set_option maxRecDepth 100000 in
set_option maxHeartbeats 3200000 in
theorem specEnds_bad (a : Option Addr) (b off cap : Nat) (L : List (Int × Int)) (w : World) (ha : Hid (L ≠ [] → a = some ⟨b, off, none⟩ ∧ b < w.heap.size)) (hL : insAt w b off L) (hlen : L.length ≤ 1048576) (hg : (allG L && decide (L.length ≤ 200)) = false ∨ L = []) :
    Calls Tryz.prog 36 #[.slice a L.length cap] w fun e w' => Told w L e w' := by
  have HG := specAll a b off cap L w ha hL hlen
  have he : Hid (eo L = none) := by
    unfold Hid eo
    rcases hg with h | rfl
    · rw [h]; rfl
    · rfl
  by_cases h0 : (allG L && decide (L.length ≤ 200)) = false
  · rw [h0] at HG
    clear hg h0 hlen
    go_enter Tryz.func36, Tryz.ntmps36
    go_wp2_with (go_at_call 62; refine HG.mono ?_; rintro e w0 ⟨rfl, hb0⟩; clear HG)
    refine bodyPost_ret (v := .tuple #[.slice none 0 0, .int .i64 0, .bool false]) (by simp [results, Tryz.results36, go_sem]) rfl (told_no he.out (by assumption))
  · have h1 : (allG L && decide (L.length ≤ 200)) = true := by simpa using h0
    rw [h1] at HG
    have hL0 : L.length = 0 := by
      rcases hg with h | rfl
      · exact absurd h h0
      · rfl
    have hL1 : (L.length : Int) = 0 := by omega
    clear hg h0 h1 hlen hL0
    go_enter Tryz.func36, Tryz.ntmps36
    go_wp2_with (go_at_call 62; refine HG.mono ?_; rintro e w0 ⟨rfl, hb0⟩; clear HG)
    refine bodyPost_ret (v := .tuple #[.slice none 0 0, .int .i64 0, .bool false]) (by simp [results, Tryz.results36, go_sem]) rfl (told_no he.out (by assumption))

end Go.Proofs.YtcgnefgdfgikdaaGreat
