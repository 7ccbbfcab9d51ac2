/-
  A region that draws its order, among whose operations one store may come early or late: a class of worlds ahead of it, one behind it; each operation keeps the class that it finds, the store leads from the one to the other. One walk serves every order.
-/
import Derived.Test.YtljnciclbjcinaaGreatDoorQTail
namespace Go.Proofs.YtljnciclbjcinaaGreatDoor
open Go.RowKit

section
variable {P : Program} {ops : Array Oper} {md : Region.Mode} {C : Bool → World → Prop} {s : Nat}

/-- What an operation has come to is the value v, in a world of the class D. -/
def uponF (P : Program) (D : World → Prop) (v : Value) : Result Next → Prop
  | .ok (.value u) w' => D w' ∧ u = v
  | .ok .skip w' => D w' ∧ v = undef
  | .ok (.enter f args) w' => Calls P f args w' (fun e w'' => e = .returned v ∧ D w'')
  | _ => False

/-- One value in every world of either class; the world's class is kept, or the store's behind it. -/
def Steady (P : Program) (C : Bool → World → Prop) (o : Oper) (st : Bool) (a : Act) (v : Value) : Prop := ∀ b w, (st = true → b = false) → C b w → uponF P (C (b || st)) v ((execOp a.eval o).run P w)

def fOp (P : Program) (ops : Array Oper) (C : Bool → World → Prop) (s i : Nat) (K : Act → Prop) (a : Act) : Prop :=
  match ops[i]? with
  | none => i ≠ s ∧ K a
  | some o => if Region.wanted o (yielded ops a.tmps) then ∃ v, Steady P C o (i == s) a v ∧ K (a.put o.dst v) else i ≠ s ∧ K (a.put o.dst undef)

def YieldsF (P : Program) (ops : Array Oper) (C : Bool → World → Prop) (st : Bool) (o : Oper) (v : Value) (a : Act) : Prop :=
  (Region.wanted o (yielded ops a.tmps) = true ∧ Steady P C o st a v) ∨ (Region.wanted o (yielded ops a.tmps) = false ∧ v = undef ∧ st = false)

theorem fOp_mono {i : Nat} {a : Act} {K K' : Act → Prop} (h : ∀ a, K a → K' a) (hh : fOp P ops C s i K a) : fOp P ops C s i K' a := by
  unfold fOp at *
  split
  · rename_i ho; rw [ho] at hh; exact ⟨hh.1, h _ hh.2⟩
  · rename_i o ho
    rw [ho] at hh
    simp only at hh
    split
    · rename_i hw; rw [if_pos hw] at hh; obtain ⟨v, h1, h2⟩ := hh; exact ⟨v, h1, h _ h2⟩
    · rename_i hw; rw [if_neg hw] at hh; exact ⟨hh.1, h _ hh.2⟩

theorem wp_of_steady {o : Oper} {a : Act} {K : Act → World → Prop} {Q : Exit → Act → World → Prop} {D : World → Prop} {w : World} {v : Value} (h : uponF P D v ((execOp a.eval o).run P w)) (hK : ∀ w', D w' → K (a.put o.dst v) w') : o.wp P a w K Q := by
  unfold Oper.wp
  generalize (execOp a.eval o).run P w = r at *
  cases r with
  | ok n w' =>
    cases n <;> simp only [uponF] at h <;> simp only [Oper.upon]
    case value u => rw [h.2]; exact hK _ h.1
    case skip => rw [← h.2]; exact hK _ h.1
    case enter f args => exact h.mono fun e w'' ⟨he, hw''⟩ => by subst he; exact hK _ hw''
  | halt x w' => simp only [uponF] at h

theorem wpOp_of_fOp {i : Nat} {a : Act} {K : Act → Prop} {K' : Act → World → Prop} {Q : Exit → Act → World → Prop} {b : Bool} {w : World} (hb : (i == s) = true → b = false) (hC : C b w) (h : ∀ a w', C (b || i == s) w' → K a → K' a w') (hh : fOp P ops C s i K a) : wpOp P ops Q i K' a w := by
  have hsame : i ≠ s → C (b || i == s) w := fun hi => by
    have : (i == s) = false := by simpa using hi
    rw [this, Bool.or_false]; exact hC
  unfold fOp at hh
  unfold wpOp
  split
  · rename_i ho; rw [ho] at hh; exact h _ _ (hsame hh.1) hh.2
  · rename_i o ho
    rw [ho] at hh
    simp only at hh
    split
    · rename_i hw
      rw [if_pos hw] at hh
      obtain ⟨v, h1, h2⟩ := hh
      exact .inl (wp_of_steady (h1 b w hb hC) fun w' hw' => h _ _ hw' h2)
    · rename_i hw; rw [if_neg hw] at hh; exact h _ _ (hsame hh.1) hh.2

theorem YieldsF.fOp {i : Nat} {o : Oper} {v : Value} {a : Act} (hi : ops[i]? = some o) (hy : YieldsF P ops C (i == s) o v a) {K : Act → Prop} (h : K (a.put o.dst v)) : fOp P ops C s i K a := by
  unfold Proofs.YtljnciclbjcinaaGreatDoor.fOp
  rw [hi]
  simp only
  rcases hy with ⟨hw, hv⟩ | ⟨hw, rfl, hs⟩
  · rw [if_pos hw]; exact ⟨v, hv, h⟩
  · rw [if_neg (by rw [hw]; exact Bool.false_ne_true)]; exact ⟨by simpa using hs, h⟩

theorem yieldsF_of_fOp {i : Nat} {o : Oper} {a : Act} {K : Act → Prop} (hi : ops[i]? = some o) (h : fOp P ops C s i K a) : ∃ v, YieldsF P ops C (i == s) o v a ∧ K (a.put o.dst v) := by
  unfold fOp at h
  rw [hi] at h
  simp only at h
  by_cases hw : Region.wanted o (yielded ops a.tmps) = true
  · rw [if_pos hw] at h
    obtain ⟨v, h1, h2⟩ := h
    exact ⟨v, .inl ⟨hw, h1⟩, h2⟩
  · rw [if_neg hw] at h
    exact ⟨undef, .inr ⟨by simpa using hw, rfl, by simpa using h.1⟩, h.2⟩

theorem fOp_put {j : Nat} {oi oj : Oper} {v : Value} {st : Bool} (hj : ops[j]? = some oj) (hap : oi.apart ops oj = true)
    (hsi : ∀ cs b, oi.op ≠ .select cs b) (hsj : ∀ cs b, oj.op ≠ .select cs b) {K : Act → Prop} {a : Act}
    (hy : YieldsF P ops C st oi v a) (h : fOp P ops C s j K (a.put oi.dst v)) :
    fOp P ops C s j (fun a' => YieldsF P ops C st oi v a' ∧ K (a'.put oi.dst v)) a := by
  obtain ⟨h1, h2, h3⟩ := Oper.apart_spec hap
  have keep : ∀ u, YieldsF P ops C st oi v (a.put oj.dst u) := fun u => by
    unfold YieldsF Steady at *
    rw [execOp_put oi hsi a oj.dst u h3, wanted_put oi a oj.dst u h3]
    exact hy
  unfold fOp at *
  rw [hj] at *
  simp only at *
  rw [wanted_put oj a oi.dst v h1] at h
  split
  · rename_i hw
    rw [if_pos hw] at h
    obtain ⟨u, hu, hn⟩ := h
    refine ⟨u, ?_, keep u, by rw [← Act.put_comm a v u h2]; exact hn⟩
    unfold Steady at *
    rw [execOp_put oj hsj a oi.dst v h1] at hu
    exact hu
  · rename_i hw
    rw [if_neg hw] at h
    exact ⟨h.1, keep _, by rw [← Act.put_comm a v undef h2]; exact h.2⟩

def HeadF (P : Program) (md : Region.Mode) (ops : Array Oper) (C : Bool → World → Prop) (s n : Nat) (L : Array Bool → Act → Prop) : Nat → Array Bool → Act → Prop
  | 0, seen, a => L seen a
  | f + 1, seen, a => Region.ready md ops seen ≠ [] ∧ ∀ i ∈ Region.ready md ops seen, i < n ∧ fOp P ops C s i (HeadF P md ops C s n L f (seen.setIfInBounds i true)) a

theorem seen_set {seen : Array Bool} {i s : Nat} (hi : i < seen.size) : (seen.setIfInBounds i true).getD s false = (seen.getD s false || i == s) := by
  by_cases h : i = s
  · subst h; simp [hi]
  · have hb : (i == s) = false := by simpa using h
    rw [getD_set_ne false h, hb, Bool.or_false]

theorem any_of_headF {n g : Nat} {L : Array Bool → Act → Prop} {Q : Exit → Act → World → Prop} (hn : n ≤ ops.size) (hL : ∀ seen a w, C (seen.getD s false) w → L seen a → wpAny P md ops Q g seen a w) :
    ∀ (f : Nat) (seen : Array Bool) (a : Act) (w : World), seen.size = ops.size → C (seen.getD s false) w → HeadF P md ops C s n L f seen a → wpAny P md ops Q (f + g) seen a w
  | 0, seen, a, w, _, hw, h => by rw [Nat.zero_add]; exact hL _ _ _ hw h
  | f + 1, seen, a, w, hz, hw, h => by
    rw [show f + 1 + g = f + g + 1 by omega]
    refine ⟨fun h0 => absurd h0 h.1, fun i hi => wpOp_of_fOp (fun e => by obtain rfl := eq_of_beq e; exact getD_both (mem_ready.1 hi).1) hw (fun a' w' hw' h' => any_of_headF hn hL f _ a' w' (by simpa using hz) ?_ h') (h.2 i hi).2⟩
    rw [seen_set (by have := (h.2 i hi).1; omega)]
    exact hw'

theorem headF_first {n i : Nat} {oi : Oper} {v : Value} {L : Array Bool → Act → Prop} (hi : ops[i]? = some oi) (hsel : ∀ (j : Nat) (o : Oper) cs b, ops[j]? = some o → o.op ≠ .select cs b)
    (hs : Region.sinkB md ops n = true) (hc : Region.chainB md ops n = true) (hn : n < ops.size) (hin : i < n)
    (hdone : ∀ seen a, L seen a → ∀ j ∈ Region.ready md ops seen, n ≤ j) :
    ∀ (f : Nat) (seen : Array Bool) (a : Act), HeadInv md ops n seen →
      (∀ j oj, ops[j]? = some oj → j ≠ i → seen.getD j true = false → (∀ e ∈ oj.after, Region.binds md e = true → e.on ≠ i) → oi.apart ops oj = true) →
      i ∈ Region.ready md ops seen → YieldsF P ops C (i == s) oi v a →
      HeadF P md ops C s n L f (seen.setIfInBounds i true) (a.put oi.dst v) → HeadF P md ops C s n L (f + 1) seen a := by
  intro f
  induction f with
  | zero =>
    intro seen a inv _ hr hy H
    refine ⟨fun h => (by rw [h] at hr; cases hr), fun j hj => ?_⟩
    have hjn : j < n := Nat.lt_of_not_le fun h => tail_waits hs hc hn inv _ i rfl hin (mem_ready.1 hr).1 j h hj
    refine ⟨hjn, ?_⟩
    by_cases hji : j = i
    · subst hji; exact hy.fOp hi H
    · have := hdone _ _ H j (ready_mono hj hji)
      omega
  | succ f ih =>
    intro seen a inv hfree hr hy H
    have hun := (mem_ready.1 hr).1
    refine ⟨fun h => (by rw [h] at hr; cases hr), fun j hj => ?_⟩
    have hjn : j < n := Nat.lt_of_not_le fun h => tail_waits hs hc hn inv _ i rfl hin hun j h hj
    refine ⟨hjn, ?_⟩
    by_cases hji : j = i
    · subst hji; exact hy.fOp hi H
    · obtain ⟨hjun, oj, hoj, hall⟩ := mem_ready.1 hj
      have hno : ∀ e ∈ oj.after, Region.binds md e = true → e.on ≠ i := fun e he hb heq => by
        have h1 := hall e he hb
        rw [heq, getD_both hun] at h1
        cases h1
      have h2 := fOp_put hoj (hfree j oj hoj hji hjun hno) (fun cs b => hsel i oi cs b hi) (fun cs b => hsel j oj cs b hoj) hy (H.2 j (ready_mono hj hji)).2
      refine fOp_mono (fun a' h3 => ih (seen.setIfInBounds j true) a' (inv.set hj hjn) (fun k ok hk hki hku hkn => hfree k ok hk hki ?_ hkn) (ready_mono hr (Ne.symm hji)) h3.1 ?_) h2
      · by_cases hjk : j = k
        · subst hjk; exact hjun
        · rw [getD_set_ne true hjk] at hku; exact hku
      · rw [Array.setIfInBounds_comm _ _ hji]
        exact h3.2

/-- The walk in the order of the text, from operation k on. -/
def wpFlag (P : Program) (ops : Array Oper) (C : Bool → World → Prop) (s : Nat) (L : Act → Prop) : Nat → List Oper → Act → Prop
  | _, [], a => L a
  | k, o :: rest, a => if Region.wanted o (yielded ops a.tmps) then ∃ v, Steady P C o (k == s) a v ∧ wpFlag P ops C s L (k + 1) rest (a.put o.dst v) else k ≠ s ∧ wpFlag P ops C s L (k + 1) rest (a.put o.dst undef)

theorem headF_lex {n g : Nat} {Lq : Act → Prop} (hsel : Region.noSelect ops = true) (hs : Region.sinkB md ops n = true) (hc : Region.chainB md ops n = true) (hn : n < ops.size) :
    ∀ (l : List Oper) (k : Nat) (seen : Array Bool) (a : Act), (∀ j, j < l.length → l[j]? = ops[k + j]?) → k + l.length = n → HeadInv md ops n seen → (∀ j, j < k → seen.getD j false = true) →
    Region.lexHead md ops g l.length k seen = true → wpFlag P ops C s Lq k l a →
    HeadF P md ops C s n (fun seen' a' => Region.seqB md ops g n seen' = true ∧ Lq a' ∧ ∀ j, j < n → seen'.getD j false = true) l.length seen a
  | [], k, seen, a, _, hk, _, hd, hB, h => by
    obtain rfl : k = n := by simpa using hk
    exact ⟨by simpa [Region.lexHead] using hB, h, hd⟩
  | o :: l, k, seen, a, hl, hk, inv, hd, hB, h => by
    have h0 : ops[k]? = some o := by simpa using (hl 0 (by simp)).symm
    simp only [List.length_cons, Region.lexHead, Bool.and_eq_true] at hB
    obtain ⟨⟨hr, hf⟩, hB'⟩ := hB
    simp only [List.length_cons] at hk
    have hr' : k ∈ Region.ready md ops seen := by simpa using hr
    have hst : fOp P ops C s k (wpFlag P ops C s Lq (k + 1) l) a := by unfold fOp; rw [h0]; exact h
    obtain ⟨v, hy, hK⟩ := yieldsF_of_fOp h0 hst
    refine headF_first h0 (Region.noSelect_spec hsel) hs hc hn (by omega) (fun _ _ hL => seqB_ready hL.1) l.length seen a inv (Region.free_spec h0 hf) hr' hy
      (headF_lex hsel hs hc hn l (k + 1) _ _ (fun j hj => by have := hl (j + 1) (by simp; omega); simpa [Nat.add_assoc, Nat.add_comm 1 j] using this) (by omega) (inv.set hr' (by omega)) (fun j hj => ?_) hB' hK)
    rw [seen_set (by rw [inv.size]; omega)]
    by_cases hjk : j = k
    · subst hjk; simp
    · rw [hd j (by omega)]; rfl

theorem region_flag {id : Nat} {Q : Exit → Act → World → Prop} {a : Act} {w : World} {l : List Oper} (n s : Nat) (hm : P.follows .mixedOrders = true) (hB : Region.lexTailB .any l.toArray n = true) (hs : s < n) (hC : C false w.drew)
    (h : wpFlag P l.toArray C s (fun a' => ∀ w', C true w' → wpList P l.toArray Q (l.drop n) a' w') 0 (l.take n) a) : (Code.region id l.toArray true).wp P Q a w := by
  simp only [Region.lexTailB, Bool.and_eq_true, decide_eq_true_eq] at hB
  obtain ⟨⟨⟨⟨hsel, hn⟩, hsk⟩, hc⟩, hlex⟩ := hB
  have hn' : n < l.length := by simpa using hn
  have htl : (l.take n).length = n := by simp; omega
  have hdl : (l.drop n).length = l.toArray.size - n := by simp
  have inv0 : HeadInv .any l.toArray n (Array.replicate l.toArray.size false) :=
    ⟨by simp, fun j oj _ hl => (by rw [getD_replicate_false] at hl; cases hl), fun t _ ht => getD_in (by simpa using ht) (getD_replicate_false _ _)⟩
  have H := headF_lex (md := .any) (g := l.toArray.size - n) hsel hsk hc hn (l.take n) 0 _ a (fun j hj => by
    have hj' : j < n := by rw [htl] at hj; exact hj
    simp [hj']) (by simpa using htl) inv0 (fun j hj => by omega) (by rw [htl]; exact hlex) h
  refine wp_region_any hm ?_
  have := any_of_headF (Q := Q) (g := l.toArray.size - n) (Nat.le_of_lt hn) (fun seen a' w' hw' hL => by
    rw [hL.2.2 s hs] at hw'
    have := wpAny_of_seq (md := .any) (Q' := Q) (l.drop n) n seen a' w' (fun j => by simp [List.getElem?_drop]) (by rw [hdl]; exact hL.1) (hL.2.1 w' hw')
    rwa [hdl] at this) _ _ _ _ (by simp) (by rw [getD_replicate_false]; exact hC) H
  rw [htl, show n + (l.toArray.size - n) = l.toArray.size by omega] at this
  exact this

theorem wpFlag_go {L : Act → Prop} {a : Act} {o : Oper} {rest : List Oper} {k : Nat} (v : Value) (hw : Region.wanted o (yielded ops a.tmps) = true) (st : Bool) (hst : (k == s) = st)
    (h1 : ∀ b w, (st = true → b = false) → C b w → uponF P (C (b || st)) v ((execOp a.eval o).run P w)) (h2 : wpFlag P ops C s L (k + 1) rest (a.put o.dst v)) : wpFlag P ops C s L k (o :: rest) a := by
  unfold wpFlag
  rw [if_pos hw, hst]
  exact ⟨v, h1, h2⟩

theorem uponF_value {D : World → Prop} {u v : Value} {w : World} (h : D w) (e : u = v) : uponF P D v (.ok (.value u) w) := ⟨h, e⟩
theorem uponF_skip {D : World → Prop} {v : Value} {w : World} (h : D w) (e : v = undef) : uponF P D v (.ok .skip w) := ⟨h, e⟩
theorem uponF_call {D : World → Prop} {v : Value} {f : FuncId} {args : Array Value} {w : World} (h : Calls P f args w (fun e w'' => e = .returned v ∧ D w'')) : uponF P D v (.ok (.enter f args) w) := h
end

/-- Worlds that keep W; behind the store: that keep W with what is stored. -/
def KeepsB (W : World) (c : Addr) (y : Value) (b : Bool) (w : World) : Prop := Keeps (if b then W.setCell c y else W) w
theorem KeepsB.cell {W w : World} {c : Addr} {y v : Value} {b : Bool} {g o : Nat} (h : KeepsB W c y b w) (hg : g < W.heap.size) (hc : W.cell? ⟨g, o, none⟩ = some v) (hne : c ≠ ⟨g, o, none⟩) : w.cell? ⟨g, o, none⟩ = some v := by
  unfold KeepsB at h
  cases b
  · exact Keeps.cell (W := W) (by simpa using h) hg hc
  · exact Keeps.cell (W := W.setCell c y) (by simpa using h) (by simpa using hg) (by rw [World.cell?_setCell_other _ _ _ _ hne]; exact hc)
/-- Of the one class or the other. -/
structure KeepsAny (W : World) (c : Addr) (y : Value) (w : World) : Prop where
  ex : ∃ b, KeepsB W c y b w
theorem KeepsB.any {W w : World} {c : Addr} {y : Value} {b : Bool} (h : KeepsB W c y b w) : KeepsAny W c y w := ⟨b, h⟩
theorem KeepsAny.cell {W w : World} {c : Addr} {y v : Value} {g o : Nat} (h : KeepsAny W c y w) (hg : g < W.heap.size) (hc : W.cell? ⟨g, o, none⟩ = some v) (hne : c ≠ ⟨g, o, none⟩) : w.cell? ⟨g, o, none⟩ = some v := by
  obtain ⟨b, hb⟩ := h
  exact hb.cell hg hc hne
theorem keepsB_here {W w : World} {g o : Nat} {x y : Value} (h : KeepsB W ⟨g, o, none⟩ y true w) (hg : g < W.heap.size) (hc : W.cell? ⟨g, o, none⟩ = some x) : w.cell? ⟨g, o, none⟩ = some y :=
  Keeps.cell (W := W.setCell ⟨g, o, none⟩ y) h (by simpa using hg) (World.cell?_setCell_same _ _ _ hc)
theorem keepsB_frozen {W w : World} {c : Addr} {y : Value} {b v : Bool} {g o : Nat} (h : KeepsB W c y b w) (hg : g < W.heap.size) (hc : W.frozen? ⟨g, o, none⟩ = v) : w.frozen? ⟨g, o, none⟩ = v := by
  unfold KeepsB at h
  cases b
  · exact Keeps.frozen (W := W) h hg hc
  · exact Keeps.frozen (W := W.setCell c y) h (by simpa using hg) (by simpa using hc)
theorem keepsB_below {B : Nat} {V W w : World} {c : Addr} {y : Value} {b : Bool} (h : KeepsB W c y b w) (k : Below B V W) (hB : B ≤ W.heap.size) (hc : B ≤ c.block) : Below B V w := by
  unfold KeepsB at h
  cases b
  · exact k.trans (Below.mono (Keeps.below h) hB)
  · exact (k.setCell hc y).trans (Below.mono (Keeps.below (W := W.setCell c y) h) (by simpa using hB))
theorem KeepsB.step {W w w' : World} {c : Addr} {y : Value} {b : Bool} (h : KeepsB W c y b w) (k : Below w.heap.size w w') : KeepsB W c y b w' := Keeps.step h k
theorem fcall {W w : World} {c : Addr} {y v : Value} {b : Bool} (hq : KeepsB W c y b w) {P : Program} {f : FuncId} {args : Array Value} (h : Calls P f args w fun e w' => e = .returned v ∧ Below w.heap.size w w') :
    Calls P f args w fun e w' => e = .returned v ∧ KeepsB W c y b w' := h.mono fun _ _ ⟨he, hb⟩ => ⟨he, hq.step hb⟩
theorem fsame {W w : World} {c : Addr} {y v : Value} {b : Bool} (hq : KeepsB W c y b w) {P : Program} {f : FuncId} {args : Array Value} (h : Calls P f args w fun e w' => e = .returned v ∧ w' = w) :
    Calls P f args w fun e w' => e = .returned v ∧ KeepsB W c y b w' := h.mono fun _ _ ⟨he, hb⟩ => ⟨he, by rw [hb]; exact hq⟩
theorem keepsB_store {W w : World} {c : Addr} {y : Value} (h : KeepsB W c y false w) : KeepsB W c y true (w.setCell c y) := by
  unfold KeepsB at *
  simp only [Bool.false_eq_true, if_false, if_true] at *
  obtain ⟨h⟩ := h
  refine ⟨⟨h.os, h.tape, h.output, ?_, fun k hk => ?_⟩⟩
  · simp only [World.setCell, Array.size_modify]; exact h.size
  · have hk' : k < W.heap.size := by simpa [World.setCell] using hk
    simp only [World.setCell, Array.getElem?_modify]
    rw [h.block k hk']

end Go.Proofs.YtljnciclbjcinaaGreatDoor
