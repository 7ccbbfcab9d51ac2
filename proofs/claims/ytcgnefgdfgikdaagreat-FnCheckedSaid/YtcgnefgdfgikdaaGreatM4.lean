/-
  A region that draws its order, in which blocks are made too (their numbers hang on the order): quiet operations first, then those that make, in whatever order they come; then the last ones one behind the other. One walk, for whatever numbers the new blocks have, serves every order.
-/
import Derived.Test.YtcgnefgdfgikdaaGreatU4
namespace Go.Proofs.YtcgnefgdfgikdaaGreat
open Go.RowKit

section
variable {P : Program} {ops : Array Oper} {md : Region.Mode} {C : (Nat → Option Nat) → World → Prop} {q : Nat}

def updM (M : Nat → Option Nat) (i b : Nat) : Nat → Option Nat := fun j => if j = i then some b else M j
theorem updM_comm {M : Nat → Option Nat} {i j b c : Nat} (h : i ≠ j) : updM (updM M i b) j c = updM (updM M j c) i b := by
  funext k
  unfold updM
  by_cases h1 : k = j
  · subst h1
    rw [if_pos rfl, if_neg (fun e => h e.symm), if_pos rfl]
  · rw [if_neg h1]
    by_cases h2 : k = i
    · rw [if_pos h2, if_pos h2]
    · rw [if_neg h2, if_neg h2, if_neg h1]

def ptrTo (b : Nat) : Value := .pointer (some ⟨b, 0, none⟩)

/-- One value in every world of the class, the blocks made being what they are. -/
def SteadyM (P : Program) (C : (Nat → Option Nat) → World → Prop) (o : Oper) (a : Act) (v : Value) : Prop := ∀ M w, C M w → uponF P (C M) v ((execOp a.eval o).run P w)
/-- A new block. -/
def MakesM (P : Program) (C : (Nat → Option Nat) → World → Prop) (i : Nat) (o : Oper) (a : Act) : Prop := ∀ M w, C M w → ∃ b, uponF P (C (updM M i b)) (ptrTo b) ((execOp a.eval o).run P w)

/-- Operation i, those from q on make blocks. -/
def mOp (P : Program) (ops : Array Oper) (C : (Nat → Option Nat) → World → Prop) (q i : Nat) (K : Act → (Nat → Option Nat) → Prop) (a : Act) (M : Nat → Option Nat) : Prop :=
  ∃ o, ops[i]? = some o ∧ Region.wanted o (yielded ops a.tmps) = true ∧ (i < q → ∃ v, SteadyM P C o a v ∧ K (a.put o.dst v) M) ∧ (q ≤ i → MakesM P C i o a ∧ ∀ b, K (a.put o.dst (ptrTo b)) (updM M i b))

theorem mOp_mono {i : Nat} {a : Act} {M : Nat → Option Nat} {K K' : Act → (Nat → Option Nat) → Prop} (h : ∀ a M, K a M → K' a M) (hh : mOp P ops C q i K a M) : mOp P ops C q i K' a M := by
  obtain ⟨o, h1, h2, h3, h4⟩ := hh
  exact ⟨o, h1, h2, fun hi => let ⟨v, x, y⟩ := h3 hi; ⟨v, x, h _ _ y⟩, fun hi => ⟨(h4 hi).1, fun b => h _ _ ((h4 hi).2 b)⟩⟩

theorem wpOp_of_mOp {i : Nat} {a : Act} {M : Nat → Option Nat} {K : Act → (Nat → Option Nat) → Prop} {K' : Act → World → Prop} {Q : Exit → Act → World → Prop} {w : World} (hC : C M w) (h : ∀ a M w', C M w' → K a M → K' a w') (hh : mOp P ops C q i K a M) : wpOp P ops Q i K' a w := by
  obtain ⟨o, h1, h2, h3, h4⟩ := hh
  unfold wpOp
  rw [h1]
  simp only
  rw [if_pos h2]
  left
  by_cases hi : i < q
  · obtain ⟨v, x, y⟩ := h3 hi
    exact wp_of_steady (x M w hC) fun w' hw' => h _ _ _ hw' y
  · obtain ⟨x, y⟩ := h4 (by omega)
    obtain ⟨b, hb⟩ := x M w hC
    exact wp_of_steady hb fun w' hw' => h _ _ _ hw' (y b)

def HeadM (P : Program) (md : Region.Mode) (ops : Array Oper) (C : (Nat → Option Nat) → World → Prop) (q n : Nat) (L : Array Bool → Act → (Nat → Option Nat) → Prop) : Nat → Array Bool → Act → (Nat → Option Nat) → Prop
  | 0, seen, a, M => L seen a M
  | f + 1, seen, a, M => Region.ready md ops seen ≠ [] ∧ ∀ i ∈ Region.ready md ops seen, i < n ∧ mOp P ops C q i (HeadM P md ops C q n L f (seen.setIfInBounds i true)) a M

theorem any_of_headM {n g : Nat} {L : Array Bool → Act → (Nat → Option Nat) → Prop} {Q : Exit → Act → World → Prop} (hL : ∀ seen a M w, C M w → L seen a M → wpAny P md ops Q g seen a w) :
    ∀ (f : Nat) (seen : Array Bool) (a : Act) (M : Nat → Option Nat) (w : World), C M w → HeadM P md ops C q n L f seen a M → wpAny P md ops Q (f + g) seen a w
  | 0, seen, a, M, w, hw, h => by rw [Nat.zero_add]; exact hL _ _ _ _ hw h
  | f + 1, seen, a, M, w, hw, h => by
    rw [show f + 1 + g = f + g + 1 by omega]
    exact ⟨fun h0 => absurd h0 h.1, fun i hi => wpOp_of_mOp hw (fun a' M' w' hw' h' => any_of_headM hL f _ a' M' w' hw' h') (h.2 i hi).2⟩

/-- What is known of a quiet operation in a frame. -/
def QuietAt (P : Program) (ops : Array Oper) (C : (Nat → Option Nat) → World → Prop) (o : Oper) (v : Value) (a : Act) : Prop := Region.wanted o (yielded ops a.tmps) = true ∧ SteadyM P C o a v
def MakesAt (P : Program) (ops : Array Oper) (C : (Nat → Option Nat) → World → Prop) (i : Nat) (o : Oper) (a : Act) : Prop := Region.wanted o (yielded ops a.tmps) = true ∧ MakesM P C i o a

theorem QuietAt.put {oi oj : Oper} {v u : Value} {a : Act} (hap : oi.apart ops oj = true) (hsi : ∀ cs b, oi.op ≠ .select cs b) (h : QuietAt P ops C oi v a) : QuietAt P ops C oi v (a.put oj.dst u) := by
  obtain ⟨h1, h2, h3⟩ := Oper.apart_spec hap
  unfold QuietAt SteadyM at *
  rw [execOp_put oi hsi a oj.dst u h3, wanted_put oi a oj.dst u h3]
  exact h
theorem MakesAt.put {i : Nat} {oi oj : Oper} {u : Value} {a : Act} (hap : oi.apart ops oj = true) (hsi : ∀ cs b, oi.op ≠ .select cs b) (h : MakesAt P ops C i oi a) : MakesAt P ops C i oi (a.put oj.dst u) := by
  obtain ⟨h1, h2, h3⟩ := Oper.apart_spec hap
  unfold MakesAt MakesM at *
  rw [execOp_put oi hsi a oj.dst u h3, wanted_put oi a oj.dst u h3]
  exact h

theorem mOp_put {j : Nat} {oi oj : Oper} {v : Value} {M : Nat → Option Nat} (hj : ops[j]? = some oj) (hap : oi.apart ops oj = true) (hsi : ∀ cs b, oi.op ≠ .select cs b) (hsj : ∀ cs b, oj.op ≠ .select cs b)
    {K : Act → (Nat → Option Nat) → Prop} {a : Act} (hy : QuietAt P ops C oi v a) (h : mOp P ops C q j K (a.put oi.dst v) M) :
    mOp P ops C q j (fun a' M' => QuietAt P ops C oi v a' ∧ K (a'.put oi.dst v) M') a M := by
  obtain ⟨h1, h2, h3⟩ := Oper.apart_spec hap
  obtain ⟨o, e1, e2, e3, e4⟩ := h
  obtain rfl : oj = o := Option.some.inj (hj.symm.trans e1)
  rw [wanted_put oj a oi.dst v h1] at e2
  refine ⟨oj, hj, e2, fun hi => ?_, fun hi => ?_⟩
  · obtain ⟨u, hu, hn⟩ := e3 hi
    refine ⟨u, ?_, hy.put hap hsi, by rw [← Act.put_comm a v u h2]; exact hn⟩
    unfold SteadyM at *
    rw [execOp_put oj hsj a oi.dst v h1] at hu
    exact hu
  · obtain ⟨hm, hn⟩ := e4 hi
    refine ⟨?_, fun b => ⟨hy.put hap hsi, by rw [← Act.put_comm a v _ h2]; exact hn b⟩⟩
    unfold MakesM at *
    rw [execOp_put oj hsj a oi.dst v h1] at hm
    exact hm

theorem headM_quiet {n i : Nat} {oi : Oper} {v : Value} {L : Array Bool → Act → (Nat → Option Nat) → Prop} (hi : ops[i]? = some oi) (hsel : ∀ (j : Nat) (o : Oper) cs b, ops[j]? = some o → o.op ≠ .select cs b)
    (hs : Region.sinkB md ops n = true) (hc : Region.chainB md ops n = true) (hn : n < ops.size) (hin : i < n) (hiq : i < q)
    (hdone : ∀ seen a M, L seen a M → ∀ j ∈ Region.ready md ops seen, n ≤ j) :
    ∀ (f : Nat) (seen : Array Bool) (a : Act) (M : Nat → Option Nat), HeadInv md ops n seen →
      (∀ j oj, ops[j]? = some oj → j ≠ i → seen.getD j true = false → (∀ e ∈ oj.after, Region.binds md e = true → e.on ≠ i) → oi.apart ops oj = true) →
      i ∈ Region.ready md ops seen → QuietAt P ops C oi v a →
      HeadM P md ops C q n L f (seen.setIfInBounds i true) (a.put oi.dst v) M → HeadM P md ops C q n L (f + 1) seen a M := by
  intro f
  induction f with
  | zero =>
    intro seen a M inv _ hr hy H
    refine ⟨fun h => (by rw [h] at hr; cases hr), fun j hj => ?_⟩
    have hjn : j < n := Nat.lt_of_not_le fun h => tail_waits hs hc hn inv _ i rfl hin (mem_ready.1 hr).1 j h hj
    refine ⟨hjn, ?_⟩
    by_cases hji : j = i
    · subst hji; exact ⟨oi, hi, hy.1, fun _ => ⟨v, hy.2, H⟩, fun h => absurd hiq (by omega)⟩
    · have := hdone _ _ _ H j (ready_mono hj hji)
      omega
  | succ f ih =>
    intro seen a M inv hfree hr hy H
    have hun := (mem_ready.1 hr).1
    refine ⟨fun h => (by rw [h] at hr; cases hr), fun j hj => ?_⟩
    have hjn : j < n := Nat.lt_of_not_le fun h => tail_waits hs hc hn inv _ i rfl hin hun j h hj
    refine ⟨hjn, ?_⟩
    by_cases hji : j = i
    · subst hji; exact ⟨oi, hi, hy.1, fun _ => ⟨v, hy.2, H⟩, fun h => absurd hiq (by omega)⟩
    · obtain ⟨hjun, oj, hoj, hall⟩ := mem_ready.1 hj
      have hno : ∀ e ∈ oj.after, Region.binds md e = true → e.on ≠ i := fun e he hb heq => by
        have h1 := hall e he hb
        rw [heq, getD_both hun] at h1
        cases h1
      have h2 := mOp_put hoj (hfree j oj hoj hji hjun hno) (fun cs b => hsel i oi cs b hi) (fun cs b => hsel j oj cs b hoj) hy (H.2 j (ready_mono hj hji)).2
      refine mOp_mono (fun a' M' h3 => ih (seen.setIfInBounds j true) a' M' (inv.set hj hjn) (fun k ok hk hki hku hkn => hfree k ok hk hki ?_ hkn) (ready_mono hr (Ne.symm hji)) h3.1 ?_) h2
      · by_cases hjk : j = k
        · subst hjk; exact hjun
        · rw [getD_set_ne true hjk] at hku; exact hku
      · rw [Array.setIfInBounds_comm _ _ hji]
        exact h3.2

/-- Where those that are left all make blocks, one of them may be taken first. -/
theorem headM_make {n i : Nat} {oi : Oper} {L : Array Bool → Act → (Nat → Option Nat) → Prop} (hi : ops[i]? = some oi) (hsel : ∀ (j : Nat) (o : Oper) cs b, ops[j]? = some o → o.op ≠ .select cs b)
    (hs : Region.sinkB md ops n = true) (hc : Region.chainB md ops n = true) (hn : n < ops.size) (hin : i < n) (hiq : q ≤ i)
    (hdone : ∀ seen a M, L seen a M → ∀ j ∈ Region.ready md ops seen, n ≤ j) :
    ∀ (f : Nat) (seen : Array Bool) (a : Act) (M : Nat → Option Nat), HeadInv md ops n seen → (∀ j, j < n → seen.getD j true = false → q ≤ j) →
      (∀ j oj, ops[j]? = some oj → j ≠ i → seen.getD j true = false → (∀ e ∈ oj.after, Region.binds md e = true → e.on ≠ i) → oi.apart ops oj = true) →
      i ∈ Region.ready md ops seen → MakesAt P ops C i oi a →
      (∀ b, HeadM P md ops C q n L f (seen.setIfInBounds i true) (a.put oi.dst (ptrTo b)) (updM M i b)) → HeadM P md ops C q n L (f + 1) seen a M := by
  intro f
  induction f with
  | zero =>
    intro seen a M inv hq _ hr hy H
    refine ⟨fun h => (by rw [h] at hr; cases hr), fun j hj => ?_⟩
    have hjn : j < n := Nat.lt_of_not_le fun h => tail_waits hs hc hn inv _ i rfl hin (mem_ready.1 hr).1 j h hj
    refine ⟨hjn, ?_⟩
    by_cases hji : j = i
    · subst hji; exact ⟨oi, hi, hy.1, fun h => absurd hiq (by omega), fun _ => ⟨hy.2, H⟩⟩
    · have := hdone _ _ _ (H 0) j (ready_mono hj hji)
      omega
  | succ f ih =>
    intro seen a M inv hq hfree hr hy H
    have hun := (mem_ready.1 hr).1
    refine ⟨fun h => (by rw [h] at hr; cases hr), fun j hj => ?_⟩
    have hjn : j < n := Nat.lt_of_not_le fun h => tail_waits hs hc hn inv _ i rfl hin hun j h hj
    refine ⟨hjn, ?_⟩
    by_cases hji : j = i
    · subst hji; exact ⟨oi, hi, hy.1, fun h => absurd hiq (by omega), fun _ => ⟨hy.2, H⟩⟩
    · obtain ⟨hjun, oj, hoj, hall⟩ := mem_ready.1 hj
      have hjq : q ≤ j := hq j hjn hjun
      have hno : ∀ e ∈ oj.after, Region.binds md e = true → e.on ≠ i := fun e he hb heq => by
        have h1 := hall e he hb
        rw [heq, getD_both hun] at h1
        cases h1
      have hap := hfree j oj hoj hji hjun hno
      obtain ⟨p1, p2, p3⟩ := Oper.apart_spec hap
      have hsj : ∀ cs b, oj.op ≠ .select cs b := fun cs b => hsel j oj cs b hoj
      have hsi : ∀ cs b, oi.op ≠ .select cs b := fun cs b => hsel i oi cs b hi
      have K0 : ∀ b, (Region.wanted oj (yielded ops a.tmps) = true ∧ MakesM P C j oj a) ∧ ∀ c, HeadM P md ops C q n L f ((seen.setIfInBounds i true).setIfInBounds j true) ((a.put oi.dst (ptrTo b)).put oj.dst (ptrTo c)) (updM (updM M i b) j c) := fun b => by
        obtain ⟨o, e1, e2, _, e4⟩ := ((H b).2 j (ready_mono hj hji)).2
        obtain rfl : oj = o := Option.some.inj (hoj.symm.trans e1)
        obtain ⟨hm, hk⟩ := e4 hjq
        rw [wanted_put oj a oi.dst _ p1] at e2
        unfold MakesM at hm
        rw [execOp_put oj hsj a oi.dst _ p1] at hm
        exact ⟨⟨e2, hm⟩, hk⟩
      refine ⟨oj, hoj, (K0 0).1.1, fun h => absurd hjq (by omega), fun _ => ⟨(K0 0).1.2, fun c => ?_⟩⟩
      refine ih (seen.setIfInBounds j true) (a.put oj.dst (ptrTo c)) (updM M j c) (inv.set hj hjn) (fun k hk hku => hq k hk ?_) (fun k ok hk hki hku hkn => hfree k ok hk hki ?_ hkn) (ready_mono hr (Ne.symm hji)) (hy.put hap hsi) (fun b => ?_)
      · by_cases hjk : j = k
        · subst hjk; exact hjun
        · rw [getD_set_ne true hjk] at hku; exact hku
      · by_cases hjk : j = k
        · subst hjk; exact hjun
        · rw [getD_set_ne true hjk] at hku; exact hku
      · have := (K0 b).2 c
        rw [Array.setIfInBounds_comm _ _ (Ne.symm hji), updM_comm (Ne.symm hji) (M := M), Act.put_comm a _ _ p2] at this
        exact this

/-- The walk in the order of the text. -/
def wpMake (P : Program) (ops : Array Oper) (C : (Nat → Option Nat) → World → Prop) (q : Nat) (L : Act → (Nat → Option Nat) → Prop) : Nat → List Oper → Act → (Nat → Option Nat) → Prop
  | _, [], a, M => L a M
  | k, o :: rest, a, M => Region.wanted o (yielded ops a.tmps) = true ∧ (k < q → ∃ v, SteadyM P C o a v ∧ wpMake P ops C q L (k + 1) rest (a.put o.dst v) M) ∧ (q ≤ k → MakesM P C k o a ∧ ∀ b, wpMake P ops C q L (k + 1) rest (a.put o.dst (ptrTo b)) (updM M k b))

theorem headM_lex {n g : Nat} {Lq : Act → (Nat → Option Nat) → Prop} (hsel : Region.noSelect ops = true) (hs : Region.sinkB md ops n = true) (hc : Region.chainB md ops n = true) (hn : n < ops.size) :
    ∀ (l : List Oper) (k : Nat) (seen : Array Bool) (a : Act) (M : Nat → Option Nat), (∀ j, j < l.length → l[j]? = ops[k + j]?) → k + l.length = n → HeadInv md ops n seen → (∀ j, j < k → seen.getD j false = true) →
    Region.lexHead md ops g l.length k seen = true → wpMake P ops C q Lq k l a M →
    HeadM P md ops C q n (fun seen' a' M' => Region.seqB md ops g n seen' = true ∧ Lq a' M') l.length seen a M
  | [], k, seen, a, M, _, hk, _, hd, hB, h => by
    obtain rfl : k = n := by simpa using hk
    exact ⟨by simpa [Region.lexHead] using hB, h⟩
  | o :: l, k, seen, a, M, hl, hk, inv, hd, hB, h => by
    have h0 : ops[k]? = some o := by simpa using (hl 0 (by simp)).symm
    simp only [List.length_cons, Region.lexHead, Bool.and_eq_true] at hB
    obtain ⟨⟨hr, hf⟩, hB'⟩ := hB
    simp only [List.length_cons] at hk
    have hr' : k ∈ Region.ready md ops seen := by simpa using hr
    obtain ⟨hw, hqk, hmk⟩ := h
    have next : ∀ a' M', wpMake P ops C q Lq (k + 1) l a' M' → HeadM P md ops C q n (fun seen' a' M' => Region.seqB md ops g n seen' = true ∧ Lq a' M') l.length (seen.setIfInBounds k true) a' M' := fun a' M' h' => by
      refine headM_lex hsel hs hc hn l (k + 1) _ a' M' (fun j hj => by have := hl (j + 1) (by simp; omega); simpa [Nat.add_assoc, Nat.add_comm 1 j] using this) (by omega) (inv.set hr' (by omega)) (fun j hj => ?_) hB' h'
      rw [seen_set (by rw [inv.size]; omega)]
      by_cases hjk : j = k
      · subst hjk; simp
      · rw [hd j (by omega)]; rfl
    by_cases hq : k < q
    · obtain ⟨v, hv, hK⟩ := hqk hq
      exact headM_quiet h0 (Region.noSelect_spec hsel) hs hc hn (by omega) hq (fun _ _ _ hL => seqB_ready hL.1) l.length seen a M inv (Region.free_spec h0 hf) hr' ⟨hw, hv⟩ (next _ _ hK)
    · obtain ⟨hm, hK⟩ := hmk (by omega)
      refine headM_make h0 (Region.noSelect_spec hsel) hs hc hn (by omega) (by omega) (fun _ _ _ hL => seqB_ready hL.1) l.length seen a M inv (fun j hj hju => ?_) (Region.free_spec h0 hf) hr' ⟨hw, hm⟩ (fun b => next _ _ (hK b))
      rcases Nat.lt_or_ge j k with h | h
      · have := hd j h
        rw [getD_both hju] at this
        cases this
      · omega

theorem region_make {id : Nat} {Q : Exit → Act → World → Prop} {a : Act} {w : World} {l : List Oper} (n q : Nat) (hm : P.follows .mixedOrders = true) (hB : Region.lexTailB .any l.toArray n = true) (hC : C (fun _ => none) w.drew)
    (h : wpMake P l.toArray C q (fun a' M => ∀ w', C M w' → wpList P l.toArray Q (l.drop n) a' w') 0 (l.take n) a (fun _ => none)) : (Code.region id l.toArray true).wp P Q a w := by
  simp only [Region.lexTailB, Bool.and_eq_true, decide_eq_true_eq] at hB
  obtain ⟨⟨⟨⟨hsel, hn⟩, hsk⟩, hc⟩, hlex⟩ := hB
  have hn' : n < l.length := by simpa using hn
  have htl : (l.take n).length = n := by simp; omega
  have hdl : (l.drop n).length = l.toArray.size - n := by simp
  have inv0 : HeadInv .any l.toArray n (Array.replicate l.toArray.size false) :=
    ⟨by simp, fun j oj _ hl => (by rw [getD_replicate_false] at hl; cases hl), fun t _ ht => getD_in (by simpa using ht) (getD_replicate_false _ _)⟩
  have H := headM_lex (md := .any) (g := l.toArray.size - n) hsel hsk hc hn (l.take n) 0 _ a (fun _ => none) (fun j hj => by
    have hj' : j < n := by rw [htl] at hj; exact hj
    simp [hj']) (by simpa using htl) inv0 (fun j hj => by omega) (by rw [htl]; exact hlex) h
  refine wp_region_any hm ?_
  have := any_of_headM (Q := Q) (g := l.toArray.size - n) (fun seen a' M w' hw' hL => by
    have := wpAny_of_seq (md := .any) (Q' := Q) (l.drop n) n seen a' w' (fun j => by simp [List.getElem?_drop]) (by rw [hdl]; exact hL.1) (hL.2 w' hw')
    rwa [hdl] at this) _ _ _ _ _ hC H
  rw [htl, show n + (l.toArray.size - n) = l.toArray.size by omega] at this
  exact this

/-- The walk behind a name that Lean does not open. -/
structure WM (P : Program) (ops : Array Oper) (C : (Nat → Option Nat) → World → Prop) (q : Nat) (L : Act → (Nat → Option Nat) → Prop) (k : Nat) (l : List Oper) (a : Act) (M : Nat → Option Nat) : Prop where
  out : wpMake P ops C q L k l a M
theorem wm_go {L : Act → (Nat → Option Nat) → Prop} {a : Act} {M : Nat → Option Nat} {o : Oper} {rest : List Oper} {k : Nat} (v : Value) (hk : k < q) (hw : Region.wanted o (yielded ops a.tmps) = true)
    (h1 : ∀ M w, C M w → uponF P (C M) v ((execOp a.eval o).run P w)) (h2 : WM P ops C q L (k + 1) rest (a.put o.dst v) M) : WM P ops C q L k (o :: rest) a M :=
  ⟨⟨hw, fun _ => ⟨v, h1, h2.out⟩, fun h => absurd hk (by omega)⟩⟩
theorem wm_make {L : Act → (Nat → Option Nat) → Prop} {a : Act} {M : Nat → Option Nat} {o : Oper} {rest : List Oper} {k : Nat} (hk : q ≤ k) (hw : Region.wanted o (yielded ops a.tmps) = true)
    (h1 : ∀ M w, C M w → ∃ b, uponF P (C (updM M k b)) (ptrTo b) ((execOp a.eval o).run P w)) (h2 : ∀ b, WM P ops C q L (k + 1) rest (a.put o.dst (ptrTo b)) (updM M k b)) : WM P ops C q L k (o :: rest) a M :=
  ⟨⟨hw, fun h => absurd hk (by omega), fun _ => ⟨h1, fun b => (h2 b).out⟩⟩⟩
theorem wm_nil {L : Act → (Nat → Option Nat) → Prop} {a : Act} {M : Nat → Option Nat} {k : Nat} (h : L a M) : WM P ops C q L k [] a M := ⟨h⟩
theorem region_m {id : Nat} {Q : Exit → Act → World → Prop} {a : Act} {w : World} {l : List Oper} (n q : Nat) (hm : P.follows .mixedOrders = true) (hB : Region.lexTailB .any l.toArray n = true) (hC : C (fun _ => none) w.drew)
    (h : WM P l.toArray C q (fun a' M => ∀ w', C M w' → wpList P l.toArray Q (l.drop n) a' w') 0 (l.take n) a (fun _ => none)) : (Code.region id l.toArray true).wp P Q a w := region_make n q hm hB hC h.out
end

/-- Worlds that keep W, and in which each block that was made holds what it was made with, each another one. -/
structure KeepsM (W : World) (z : Obj) (M : Nat → Option Nat) (w : World) : Prop where
  keeps : Keeps W w
  made : ∀ i b, M i = some b → W.heap.size ≤ b ∧ b < w.heap.size ∧ w.heap[b]? = some z
  apart : ∀ i j b, M i = some b → M j = some b → i = j
theorem KeepsM.start (W : World) (z : Obj) : KeepsM W z (fun _ => none) W.drew := ⟨Keeps.drew W, fun _ _ h => absurd h (by simp), fun _ _ _ h _ => absurd h (by simp)⟩
theorem KeepsM.step {W w w' : World} {z : Obj} {M : Nat → Option Nat} (h : KeepsM W z M w) (k : Below w.heap.size w w') : KeepsM W z M w' :=
  ⟨h.keeps.step k, fun i b hb => by obtain ⟨h1, h2, h3⟩ := h.made i b hb; exact ⟨h1, Nat.lt_of_lt_of_le h2 k.size, (k.block b h2).trans h3⟩, h.apart⟩
theorem KeepsM.make {W w : World} {z : Obj} {M : Nat → Option Nat} (h : KeepsM W z M w) (i : Nat) : KeepsM W z (updM M i w.heap.size) (w.alloc z) := by
  have hz := h.keeps.below.size
  refine ⟨h.keeps.step ((Below.refl _ _).alloc (Nat.le_refl _) _), fun j b hb => ?_, fun j k b hj hk => ?_⟩
  · unfold updM at hb
    by_cases hji : j = i
    · rw [if_pos hji] at hb
      obtain rfl := Option.some.inj hb
      refine ⟨hz, by simp, ?_⟩
      show (w.heap.push z)[w.heap.size]? = _
      simp
    · rw [if_neg hji] at hb
      obtain ⟨h1, h2, h3⟩ := h.made j b hb
      exact ⟨h1, by simp; omega, (Below.heap_alloc w z b h2).trans h3⟩
  · unfold updM at hj hk
    by_cases h1 : j = i
    · by_cases h2 : k = i
      · rw [h1, h2]
      · rw [if_pos h1] at hj
        rw [if_neg h2] at hk
        have := (h.made k b hk).2.1
        have e := Option.some.inj hj
        omega
    · by_cases h2 : k = i
      · rw [if_neg h1] at hj
        rw [if_pos h2] at hk
        have := (h.made j b hj).2.1
        have e := Option.some.inj hk
        omega
      · rw [if_neg h1] at hj
        rw [if_neg h2] at hk
        exact h.apart j k b hj hk
theorem KeepsM.cell {W w : World} {z : Obj} {M : Nat → Option Nat} (h : KeepsM W z M w) {b o : Nat} {v : Value} (hb : b < W.heap.size) (hc : W.cell? ⟨b, o, none⟩ = some v) : w.cell? ⟨b, o, none⟩ = some v := h.keeps.cell hb hc
theorem mcall {W w : World} {z : Obj} {M : Nat → Option Nat} (hq : KeepsM W z M w) {P : Program} {f : FuncId} {args : Array Value} {v : Value} (h : Calls P f args w fun e w' => e = .returned v ∧ Below w.heap.size w w') :
    Calls P f args w fun e w' => e = .returned v ∧ KeepsM W z M w' := h.mono fun _ _ ⟨he, hb⟩ => ⟨he, hq.step hb⟩

end Go.Proofs.YtcgnefgdfgikdaaGreat
