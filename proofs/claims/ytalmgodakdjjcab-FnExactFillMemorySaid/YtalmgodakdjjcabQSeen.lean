/-
  A region that draws its order, among whose operations one leads from a class of worlds to another one (it makes a block, say); operations that wait for it, by others too, are run in the second class alone, all others in both. One walk serves every order.
-/
import Derived.Test.YtalmgodakdjjcabQTail
namespace Go.Proofs.Ytalmgodakdjjcab
open Go.RowKit

section
variable {P : Program} {ops : Array Oper} {md : Region.Mode} {C : Bool → World → Prop} {s : Nat} {N : Nat → Bool}

/-- What an operation has come to is the value v, in a world of the class D. -/
def uponS (P : Program) (D : World → Prop) (v : Value) : Result Next → Prop
  | .ok (.value u) w' => D w' ∧ u = v
  | .ok .skip w' => D w' ∧ v = undef
  | .ok (.enter f args) w' => Calls P f args w' (fun e w'' => e = .returned v ∧ D w'')
  | _ => False

/-- One value in every world of either class; the world's class is kept, or the store's behind it. -/
def SteadyS (P : Program) (C : Bool → World → Prop) (o : Oper) (st nd : Bool) (a : Act) (v : Value) : Prop := ∀ b w, (st = true → b = false) → (nd = true → b = true) → C b w → uponS P (C (b || st)) v ((execOp a.eval o).run P w)

def sOp (P : Program) (ops : Array Oper) (C : Bool → World → Prop) (N : Nat → Bool) (s i : Nat) (K : Act → Prop) (a : Act) : Prop :=
  match ops[i]? with
  | none => i ≠ s ∧ K a
  | some o => if Region.wanted o (yielded ops a.tmps) then ∃ v, SteadyS P C o (i == s) (N i) a v ∧ K (a.put o.dst v) else i ≠ s ∧ K (a.put o.dst undef)

def YieldsS (P : Program) (ops : Array Oper) (C : Bool → World → Prop) (st nd : Bool) (o : Oper) (v : Value) (a : Act) : Prop :=
  (Region.wanted o (yielded ops a.tmps) = true ∧ SteadyS P C o st nd a v) ∨ (Region.wanted o (yielded ops a.tmps) = false ∧ v = undef ∧ st = false)

theorem sOp_mono {i : Nat} {a : Act} {K K' : Act → Prop} (h : ∀ a, K a → K' a) (hh : sOp P ops C N s i K a) : sOp P ops C N s i K' a := by
  unfold sOp at *
  split
  · rename_i ho; rw [ho] at hh; exact ⟨hh.1, h _ hh.2⟩
  · rename_i o ho
    rw [ho] at hh
    simp only at hh
    split
    · rename_i hw; rw [if_pos hw] at hh; obtain ⟨v, h1, h2⟩ := hh; exact ⟨v, h1, h _ h2⟩
    · rename_i hw; rw [if_neg hw] at hh; exact ⟨hh.1, h _ hh.2⟩

theorem wp_of_steadyS {o : Oper} {a : Act} {K : Act → World → Prop} {Q : Exit → Act → World → Prop} {D : World → Prop} {w : World} {v : Value} (h : uponS P D v ((execOp a.eval o).run P w)) (hK : ∀ w', D w' → K (a.put o.dst v) w') : o.wp P a w K Q := by
  unfold Oper.wp
  generalize (execOp a.eval o).run P w = r at *
  cases r with
  | ok n w' =>
    cases n <;> simp only [uponS] at h <;> simp only [Oper.upon]
    case value u => rw [h.2]; exact hK _ h.1
    case skip => rw [← h.2]; exact hK _ h.1
    case enter f args => exact h.mono fun e w'' ⟨he, hw''⟩ => by subst he; exact hK _ hw''
  | halt x w' => simp only [uponS] at h

theorem wpOp_of_sOp {i : Nat} {a : Act} {K : Act → Prop} {K' : Act → World → Prop} {Q : Exit → Act → World → Prop} {b : Bool} {w : World} (hb : (i == s) = true → b = false) (hnd : N i = true → b = true) (hC : C b w) (h : ∀ a w', C (b || i == s) w' → K a → K' a w') (hh : sOp P ops C N s i K a) : wpOp P ops Q i K' a w := by
  have hsame : i ≠ s → C (b || i == s) w := fun hi => by
    have : (i == s) = false := by simpa using hi
    rw [this, Bool.or_false]; exact hC
  unfold sOp at hh
  unfold wpOp
  split
  · rename_i ho; rw [ho] at hh; exact h _ _ (hsame hh.1) hh.2
  · rename_i o ho
    rw [ho] at hh
    simp only at hh
    split
    · rename_i hw
      rw [if_pos hw] at hh
      obtain ⟨v, h1, h2⟩ := hh
      exact .inl (wp_of_steadyS (h1 b w hb hnd hC) fun w' hw' => h _ _ hw' h2)
    · rename_i hw; rw [if_neg hw] at hh; exact h _ _ (hsame hh.1) hh.2

theorem YieldsS.sOp {i : Nat} {o : Oper} {v : Value} {a : Act} (hi : ops[i]? = some o) (hy : YieldsS P ops C (i == s) (N i) o v a) {K : Act → Prop} (h : K (a.put o.dst v)) : sOp P ops C N s i K a := by
  unfold Proofs.Ytalmgodakdjjcab.sOp
  rw [hi]
  simp only
  rcases hy with ⟨hw, hv⟩ | ⟨hw, rfl, hs⟩
  · rw [if_pos hw]; exact ⟨v, hv, h⟩
  · rw [if_neg (by rw [hw]; exact Bool.false_ne_true)]; exact ⟨by simpa using hs, h⟩

theorem yieldsS_of_sOp {i : Nat} {o : Oper} {a : Act} {K : Act → Prop} (hi : ops[i]? = some o) (h : sOp P ops C N s i K a) : ∃ v, YieldsS P ops C (i == s) (N i) o v a ∧ K (a.put o.dst v) := by
  unfold sOp at h
  rw [hi] at h
  simp only at h
  by_cases hw : Region.wanted o (yielded ops a.tmps) = true
  · rw [if_pos hw] at h
    obtain ⟨v, h1, h2⟩ := h
    exact ⟨v, .inl ⟨hw, h1⟩, h2⟩
  · rw [if_neg hw] at h
    exact ⟨undef, .inr ⟨by simpa using hw, rfl, by simpa using h.1⟩, h.2⟩

theorem sOp_put {j : Nat} {oi oj : Oper} {v : Value} {st nd : Bool} (hj : ops[j]? = some oj) (hap : oi.apart ops oj = true)
    (hsi : ∀ cs b, oi.op ≠ .select cs b) (hsj : ∀ cs b, oj.op ≠ .select cs b) {K : Act → Prop} {a : Act}
    (hy : YieldsS P ops C st nd oi v a) (h : sOp P ops C N s j K (a.put oi.dst v)) :
    sOp P ops C N s j (fun a' => YieldsS P ops C st nd oi v a' ∧ K (a'.put oi.dst v)) a := by
  obtain ⟨h1, h2, h3⟩ := Oper.apart_spec hap
  have keep : ∀ u, YieldsS P ops C st nd oi v (a.put oj.dst u) := fun u => by
    unfold YieldsS SteadyS at *
    rw [execOp_put oi hsi a oj.dst u h3, wanted_put oi a oj.dst u h3]
    exact hy
  unfold sOp at *
  rw [hj] at *
  simp only at *
  rw [wanted_put oj a oi.dst v h1] at h
  split
  · rename_i hw
    rw [if_pos hw] at h
    obtain ⟨u, hu, hn⟩ := h
    refine ⟨u, ?_, keep u, by rw [← Act.put_comm a v u h2]; exact hn⟩
    unfold SteadyS at *
    rw [execOp_put oj hsj a oi.dst v h1] at hu
    exact hu
  · rename_i hw
    rw [if_neg hw] at h
    exact ⟨h.1, keep _, by rw [← Act.put_comm a v undef h2]; exact h.2⟩

def HeadS (P : Program) (md : Region.Mode) (ops : Array Oper) (C : Bool → World → Prop) (N : Nat → Bool) (s n : Nat) (L : Array Bool → Act → Prop) : Nat → Array Bool → Act → Prop
  | 0, seen, a => L seen a
  | f + 1, seen, a => Region.ready md ops seen ≠ [] ∧ ∀ i ∈ Region.ready md ops seen, i < n ∧ sOp P ops C N s i (HeadS P md ops C N s n L f (seen.setIfInBounds i true)) a

theorem seen_setS {seen : Array Bool} {i s : Nat} (hi : i < seen.size) : (seen.setIfInBounds i true).getD s false = (seen.getD s false || i == s) := by
  by_cases h : i = s
  · subst h; simp [hi]
  · have hb : (i == s) = false := by simpa using h
    rw [getD_set_ne false h, hb, Bool.or_false]

/-- What is listed has all listed that it waits for. -/
def ClosedS (md : Region.Mode) (ops : Array Oper) (seen : Array Bool) : Prop := ∀ j oj, ops[j]? = some oj → seen.getD j false = true → ∀ e ∈ oj.after, Region.binds md e = true → seen.getD e.on false = true
theorem ClosedS.set {seen : Array Bool} {i : Nat} (h : ClosedS md ops seen) (hi : i ∈ Region.ready md ops seen) (hz : i < seen.size) : ClosedS md ops (seen.setIfInBounds i true) := by
  intro j oj hoj hl e he hb
  rw [seen_setS hz] at hl ⊢
  obtain ⟨_, oi, hoi, hall⟩ := mem_ready.1 hi
  by_cases hj : i = j
  · subst hj
    rw [hoi] at hoj
    cases hoj
    rw [hall e he hb]; rfl
  · have hb' : (i == j) = false := by simpa using hj
    rw [hb', Bool.or_false] at hl
    rw [h j oj hoj hl e he hb]; rfl
/-- It waits for s, by others too. -/
def Region.reachB (md : Region.Mode) (ops : Array Oper) (s : Nat) : Nat → Nat → Bool
  | 0, _ => false
  | f + 1, i => match ops[i]? with
    | none => false
    | some o => o.after.any fun e => Region.binds md e && (e.on == s || Region.reachB md ops s f e.on)
theorem reach_seen {seen : Array Bool} (h : ClosedS md ops seen) : ∀ (f i : Nat) (o : Oper), ops[i]? = some o → (∀ e ∈ o.after, Region.binds md e = true → seen.getD e.on false = true) → Region.reachB md ops s f i = true → seen.getD s false = true
  | 0, i, o, _, _, hr => by simp [Region.reachB] at hr
  | f + 1, i, o, ho, hall, hr => by
    unfold Region.reachB at hr
    rw [ho] at hr
    simp only [Array.any_eq_true', Bool.and_eq_true, Bool.or_eq_true] at hr
    obtain ⟨e, he, hb, h1⟩ := hr
    have h2 := hall e he hb
    rcases h1 with h1 | h1
    · rw [← eq_of_beq h1]; exact h2
    · cases hq : ops[e.on]? with
      | none =>
        cases f with
        | zero => simp [Region.reachB] at h1
        | succ f => unfold Region.reachB at h1; rw [hq] at h1; simp at h1
      | some o2 => exact reach_seen h f e.on o2 hq (fun e2 he2 hb2 => h e.on o2 hq h2 e2 he2 hb2) h1

theorem any_of_headS {n g : Nat} {L : Array Bool → Act → Prop} {Q : Exit → Act → World → Prop} (hn : n ≤ ops.size) (hN : ∀ seen i, ClosedS md ops seen → i ∈ Region.ready md ops seen → N i = true → seen.getD s false = true)
    (hL : ∀ seen a w, C (seen.getD s false) w → L seen a → wpAny P md ops Q g seen a w) :
    ∀ (f : Nat) (seen : Array Bool) (a : Act) (w : World), seen.size = ops.size → ClosedS md ops seen → C (seen.getD s false) w → HeadS P md ops C N s n L f seen a → wpAny P md ops Q (f + g) seen a w
  | 0, seen, a, w, _, _, hw, h => by rw [Nat.zero_add]; exact hL _ _ _ hw h
  | f + 1, seen, a, w, hz, hcl, hw, h => by
    rw [show f + 1 + g = f + g + 1 by omega]
    refine ⟨fun h0 => absurd h0 h.1, fun i hi => wpOp_of_sOp (fun e => by obtain rfl := eq_of_beq e; exact getD_both (mem_ready.1 hi).1) (fun e => hN seen i hcl hi e) hw (fun a' w' hw' h' => any_of_headS hn hN hL f _ a' w' (by simpa using hz) (hcl.set hi (by have := (h.2 i hi).1; omega)) ?_ h') (h.2 i hi).2⟩
    rw [seen_setS (by have := (h.2 i hi).1; omega)]
    exact hw'

theorem headS_first {n i : Nat} {oi : Oper} {v : Value} {L : Array Bool → Act → Prop} (hi : ops[i]? = some oi) (hsel : ∀ (j : Nat) (o : Oper) cs b, ops[j]? = some o → o.op ≠ .select cs b)
    (hs : Region.sinkB md ops n = true) (hc : Region.chainB md ops n = true) (hn : n < ops.size) (hin : i < n)
    (hdone : ∀ seen a, L seen a → ∀ j ∈ Region.ready md ops seen, n ≤ j) :
    ∀ (f : Nat) (seen : Array Bool) (a : Act), HeadInv md ops n seen →
      (∀ j oj, ops[j]? = some oj → j ≠ i → seen.getD j true = false → (∀ e ∈ oj.after, Region.binds md e = true → e.on ≠ i) → oi.apart ops oj = true) →
      i ∈ Region.ready md ops seen → YieldsS P ops C (i == s) (N i) oi v a →
      HeadS P md ops C N s n L f (seen.setIfInBounds i true) (a.put oi.dst v) → HeadS P md ops C N s n L (f + 1) seen a := by
  intro f
  induction f with
  | zero =>
    intro seen a inv _ hr hy H
    refine ⟨fun h => (by rw [h] at hr; cases hr), fun j hj => ?_⟩
    have hjn : j < n := Nat.lt_of_not_le fun h => tail_waits hs hc hn inv _ i rfl hin (mem_ready.1 hr).1 j h hj
    refine ⟨hjn, ?_⟩
    by_cases hji : j = i
    · subst hji; exact hy.sOp hi H
    · have := hdone _ _ H j (ready_mono hj hji)
      omega
  | succ f ih =>
    intro seen a inv hfree hr hy H
    have hun := (mem_ready.1 hr).1
    refine ⟨fun h => (by rw [h] at hr; cases hr), fun j hj => ?_⟩
    have hjn : j < n := Nat.lt_of_not_le fun h => tail_waits hs hc hn inv _ i rfl hin hun j h hj
    refine ⟨hjn, ?_⟩
    by_cases hji : j = i
    · subst hji; exact hy.sOp hi H
    · obtain ⟨hjun, oj, hoj, hall⟩ := mem_ready.1 hj
      have hno : ∀ e ∈ oj.after, Region.binds md e = true → e.on ≠ i := fun e he hb heq => by
        have h1 := hall e he hb
        rw [heq, getD_both hun] at h1
        cases h1
      have h2 := sOp_put hoj (hfree j oj hoj hji hjun hno) (fun cs b => hsel i oi cs b hi) (fun cs b => hsel j oj cs b hoj) hy (H.2 j (ready_mono hj hji)).2
      refine sOp_mono (fun a' h3 => ih (seen.setIfInBounds j true) a' (inv.set hj hjn) (fun k ok hk hki hku hkn => hfree k ok hk hki ?_ hkn) (ready_mono hr (Ne.symm hji)) h3.1 ?_) h2
      · by_cases hjk : j = k
        · subst hjk; exact hjun
        · rw [getD_set_ne true hjk] at hku; exact hku
      · rw [Array.setIfInBounds_comm _ _ hji]
        exact h3.2

/-- The walk in the order of the text, from operation k on. -/
def wpSeen (P : Program) (ops : Array Oper) (C : Bool → World → Prop) (N : Nat → Bool) (s : Nat) (L : Act → Prop) : Nat → List Oper → Act → Prop
  | _, [], a => L a
  | k, o :: rest, a => if Region.wanted o (yielded ops a.tmps) then ∃ v, SteadyS P C o (k == s) (N k) a v ∧ wpSeen P ops C N s L (k + 1) rest (a.put o.dst v) else k ≠ s ∧ wpSeen P ops C N s L (k + 1) rest (a.put o.dst undef)

theorem headS_lex {n g : Nat} {Lq : Act → Prop} (hsel : Region.noSelect ops = true) (hs : Region.sinkB md ops n = true) (hc : Region.chainB md ops n = true) (hn : n < ops.size) :
    ∀ (l : List Oper) (k : Nat) (seen : Array Bool) (a : Act), (∀ j, j < l.length → l[j]? = ops[k + j]?) → k + l.length = n → HeadInv md ops n seen → (∀ j, j < k → seen.getD j false = true) →
    Region.lexHead md ops g l.length k seen = true → wpSeen P ops C N s Lq k l a →
    HeadS P md ops C N s n (fun seen' a' => Region.seqB md ops g n seen' = true ∧ Lq a' ∧ ∀ j, j < n → seen'.getD j false = true) l.length seen a
  | [], k, seen, a, _, hk, _, hd, hB, h => by
    obtain rfl : k = n := by simpa using hk
    exact ⟨by simpa [Region.lexHead] using hB, h, hd⟩
  | o :: l, k, seen, a, hl, hk, inv, hd, hB, h => by
    have h0 : ops[k]? = some o := by simpa using (hl 0 (by simp)).symm
    simp only [List.length_cons, Region.lexHead, Bool.and_eq_true] at hB
    obtain ⟨⟨hr, hf⟩, hB'⟩ := hB
    simp only [List.length_cons] at hk
    have hr' : k ∈ Region.ready md ops seen := by simpa using hr
    have hst : sOp P ops C N s k (wpSeen P ops C N s Lq (k + 1) l) a := by unfold sOp; rw [h0]; exact h
    obtain ⟨v, hy, hK⟩ := yieldsS_of_sOp h0 hst
    refine headS_first h0 (Region.noSelect_spec hsel) hs hc hn (by omega) (fun _ _ hL => seqB_ready hL.1) l.length seen a inv (Region.free_spec h0 hf) hr' hy
      (headS_lex hsel hs hc hn l (k + 1) _ _ (fun j hj => by have := hl (j + 1) (by simp; omega); simpa [Nat.add_assoc, Nat.add_comm 1 j] using this) (by omega) (inv.set hr' (by omega)) (fun j hj => ?_) hB' hK)
    rw [seen_setS (by rw [inv.size]; omega)]
    by_cases hjk : j = k
    · subst hjk; simp
    · rw [hd j (by omega)]; rfl

theorem region_seen {id : Nat} {Q : Exit → Act → World → Prop} {a : Act} {w : World} {l : List Oper} (n s : Nat) (hm : P.follows .mixedOrders = true) (hB : Region.lexTailB .any l.toArray n = true) (hs : s < n) (hC : C false w.drew)
    (h : wpSeen P l.toArray C (Region.reachB .any l.toArray s l.length) s (fun a' => ∀ w', C true w' → wpList P l.toArray Q (l.drop n) a' w') 0 (l.take n) a) : (Code.region id l.toArray true).wp P Q a w := by
  simp only [Region.lexTailB, Bool.and_eq_true, decide_eq_true_eq] at hB
  obtain ⟨⟨⟨⟨hsel, hn⟩, hsk⟩, hc⟩, hlex⟩ := hB
  have hn' : n < l.length := by simpa using hn
  have htl : (l.take n).length = n := by simp; omega
  have hdl : (l.drop n).length = l.toArray.size - n := by simp
  have inv0 : HeadInv .any l.toArray n (Array.replicate l.toArray.size false) :=
    ⟨by simp, fun j oj _ hl => (by rw [getD_replicate_false] at hl; cases hl), fun t _ ht => getD_in (by simpa using ht) (getD_replicate_false _ _)⟩
  have H := headS_lex (md := .any) (g := l.toArray.size - n) hsel hsk hc hn (l.take n) 0 _ a (fun j hj => by
    have hj' : j < n := by rw [htl] at hj; exact hj
    simp [hj']) (by simpa using htl) inv0 (fun j hj => by omega) (by rw [htl]; exact hlex) h
  refine wp_region_any hm ?_
  have := any_of_headS (Q := Q) (N := Region.reachB .any l.toArray s l.length) (g := l.toArray.size - n) (Nat.le_of_lt hn) (fun seen i hcl hi hr => by
    obtain ⟨_, oi, hoi, hall⟩ := mem_ready.1 hi
    exact reach_seen hcl _ i oi hoi (fun e he hb => hall e he hb) hr) (fun seen a' w' hw' hL => by
    rw [hL.2.2 s hs] at hw'
    have := wpAny_of_seq (md := .any) (Q' := Q) (l.drop n) n seen a' w' (fun j => by simp [List.getElem?_drop]) (by rw [hdl]; exact hL.1) (hL.2.1 w' hw')
    rwa [hdl] at this) _ _ _ _ (by simp) (fun j oj _ hl => by rw [getD_replicate_false] at hl; cases hl) (by rw [getD_replicate_false]; exact hC) H
  rw [htl, show n + (l.toArray.size - n) = l.toArray.size by omega] at this
  exact this

theorem wpSeen_go {L : Act → Prop} {a : Act} {o : Oper} {rest : List Oper} {k : Nat} (v : Value) (hw : Region.wanted o (yielded ops a.tmps) = true) (st nd : Bool) (hst : (k == s) = st) (hnd : N k = nd)
    (h1 : ∀ b w, (st = true → b = false) → (nd = true → b = true) → C b w → uponS P (C (b || st)) v ((execOp a.eval o).run P w)) (h2 : wpSeen P ops C N s L (k + 1) rest (a.put o.dst v)) : wpSeen P ops C N s L k (o :: rest) a := by
  unfold wpSeen
  rw [if_pos hw, hst, hnd]
  exact ⟨v, h1, h2⟩

theorem uponS_value {D : World → Prop} {u v : Value} {w : World} (h : D w) (e : u = v) : uponS P D v (.ok (.value u) w) := ⟨h, e⟩
theorem uponS_skip {D : World → Prop} {v : Value} {w : World} (h : D w) (e : v = undef) : uponS P D v (.ok .skip w) := ⟨h, e⟩
theorem uponS_call {D : World → Prop} {v : Value} {f : FuncId} {args : Array Value} {w : World} (h : Calls P f args w (fun e w'' => e = .returned v ∧ D w'')) : uponS P D v (.ok (.enter f args) w) := h
end


end Go.Proofs.Ytalmgodakdjjcab
