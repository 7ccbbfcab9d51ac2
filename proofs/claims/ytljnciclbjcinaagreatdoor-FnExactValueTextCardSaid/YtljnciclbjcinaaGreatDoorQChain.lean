/-
  A region that draws its order, whose calls move the world one behind the other, beside a load that floats: the load may be taken first, if every operation that may come ahead of it keeps what it reads.
-/
import Derived.OrdersHeld
import Derived.WalkKit
namespace Go.Proofs.YtljnciclbjcinaaGreatDoor
open Go.RowKit

section
variable {P : Program} {ops : Array Oper} {md : Region.Mode} {Q : Exit → Act → World → Prop} {S : World → Prop}

/-- Number i has been taken first (L: what else has come): behind all that may come ahead of i the class S holds; behind the first one that waits for i it is a plain walk. -/
def aft (P : Program) (md : Region.Mode) (ops : Array Oper) (Q : Exit → Act → World → Prop) (S : World → Prop) (i : Nat) : Nat → Array Bool → Act → World → Prop
  | 0, L, a, w => Region.ready md ops (L.setIfInBounds i true) = [] ∧ Q .normal a w
  | f + 1, L, a, w => (Region.ready md ops (L.setIfInBounds i true) = [] → Q .normal a w) ∧
    ∀ j ∈ Region.ready md ops (L.setIfInBounds i true), ((Region.ready md ops L).contains j = true → wpOp P ops Q j (fun a' w' => S w' ∧ aft P md ops Q S i f (L.setIfInBounds j true) a' w') a w) ∧
      ((Region.ready md ops L).contains j = false → wpOp P ops Q j (wpAny P md ops Q f ((L.setIfInBounds i true).setIfInBounds j true)) a w)

theorem any_of_aft {i : Nat} : ∀ (f : Nat) (L : Array Bool) (a : Act) (w : World), i ∈ Region.ready md ops L → aft P md ops Q S i f L a w → wpAny P md ops Q f (L.setIfInBounds i true) a w
  | 0, _, _, _, _, h => h
  | f + 1, L, a, w, hr, h => ⟨h.1, fun j hj => by
    cases hc : (Region.ready md ops L).contains j
    · exact (h.2 j hj).2 hc
    · have hji : j ≠ i := fun e => by
        subst e
        have h1 := (mem_ready.1 hj).1
        have h0 := (mem_ready.1 hr).1
        rw [Array.getD_eq_getD_getElem?] at h0 h1
        rcases Nat.lt_or_ge j L.size with h' | h'
        · rw [Array.getElem?_setIfInBounds_self_of_lt h'] at h1; cases h1
        · rw [Array.getElem?_eq_none h'] at h0; cases h0
      refine wpOp_mono (fun a' w' h' => ?_) ((h.2 j hj).1 hc)
      rw [Array.setIfInBounds_comm _ _ (Ne.symm hji)]
      exact any_of_aft f _ a' w' (ready_mono hr (Ne.symm hji)) h'.2⟩

theorem any_first {i : Nat} {oi : Oper} {v : Value} (hi : ops[i]? = some oi) (hsel : ∀ (j : Nat) (o : Oper) cs b, ops[j]? = some o → o.op ≠ .select cs b)
    (hQ : ∀ c a w, Q (.panic c) (a.put oi.dst v) w → Q (.panic c) a w) :
    ∀ (fuel : Nat) (listed : Array Bool) (a : Act) (w : World),
      (∀ j oj, ops[j]? = some oj → j ≠ i → listed.getD j true = false → (∀ e ∈ oj.after, Region.binds md e = true → e.on ≠ i) → oi.apart ops oj = true) →
      i ∈ Region.ready md ops listed → YieldsIf P ops S oi v a → S w →
      aft P md ops Q S i fuel listed (a.put oi.dst v) w → wpAny P md ops Q (fuel + 1) listed a w := by
  intro fuel
  induction fuel with
  | zero =>
    intro listed a w _ hr hy hS H
    refine ⟨fun h => (by rw [h] at hr; cases hr), fun j hj => ?_⟩
    by_cases hji : j = i
    · subst hji; exact hy.wpOp hi hS (any_of_aft 0 _ _ _ hr H)
    · have := ready_mono hj hji
      rw [H.1] at this
      cases this
  | succ fuel ih =>
    intro listed a w hfree hr hy hS H
    refine ⟨fun h => (by rw [h] at hr; cases hr), fun j hj => ?_⟩
    by_cases hji : j = i
    · subst hji; exact hy.wpOp hi hS (any_of_aft _ _ _ _ hr H)
    · have h1 := (H.2 j (ready_mono hj hji)).1 (by simpa using hj)
      obtain ⟨hjun, oj, hoj, hall⟩ := mem_ready.1 hj
      have hnot : ∀ e ∈ oj.after, Region.binds md e = true → e.on ≠ i := fun e he hb heq => by
        have h1 := hall e he hb
        have h0 := (mem_ready.1 hr).1
        rw [heq] at h1
        rcases Nat.lt_or_ge i listed.size with h' | h'
        · simp [h'] at h0 h1; rw [h0] at h1; cases h1
        · simp [Array.getElem?_eq_none h'] at h1
      have h2 := wpOp_putIf hoj (hfree j oj hoj hji hjun hnot) (fun cs b => hsel i oi cs b hi) (fun cs b => hsel j oj cs b hoj) hQ hy h1
      have hfree' : ∀ k ok, ops[k]? = some ok → k ≠ i → (listed.setIfInBounds j true).getD k true = false →
          (∀ e ∈ ok.after, Region.binds md e = true → e.on ≠ i) → oi.apart ops ok = true := fun k ok hk hki hun hno => by
        refine hfree k ok hk hki ?_ hno
        by_cases hjk : j = k
        · subst hjk; exact hjun
        · rw [getD_set_ne true hjk] at hun; exact hun
      exact wpOp_mono (fun a' w' h3 => ih (listed.setIfInBounds j true) a' w' hfree' (ready_mono hr (Ne.symm hji)) h3.1 h3.2.1 h3.2.2) h2

theorem wpOp_call {i : Nat} {o : Oper} {F : FuncId} {args : Array Value} {K : Act → World → Prop} {a : Act} {w : World} (ho : ops[i]? = some o) (hw : Region.wanted o (yielded ops a.tmps) = true)
    (hrun : (execOp a.eval o).run P w = .ok (.enter F args) w) (h : Calls P F args w fun e w' => ∃ v, e = .returned v ∧ K (a.put o.dst v) w') : wpOp P ops Q i K a w := by
  unfold wpOp
  simp only [ho, hw, if_true]
  refine .inl ?_
  unfold Oper.wp
  rw [hrun]
  simp only [Oper.upon]
  refine h.mono ?_
  rintro e w' ⟨v, rfl, hk⟩
  exact hk
theorem wpOp_skip {i : Nat} {o : Oper} {K : Act → World → Prop} {a : Act} {w w' : World} (ho : ops[i]? = some o) (hw : Region.wanted o (yielded ops a.tmps) = true)
    (hrun : (execOp a.eval o).run P w = .ok .skip w') (h : K (a.put o.dst undef) w') : wpOp P ops Q i K a w := by
  unfold wpOp
  simp only [ho, hw, if_true]
  refine .inl ?_
  unfold Oper.wp
  rw [hrun]
  exact h
end

/-- A plain walk, hidden. -/
structure WA (P : Program) (ops : Array Oper) (Q : Exit → Act → World → Prop) (f : Nat) (L : Array Bool) (a : Act) (w : World) : Prop where
  out : wpAny P .any ops Q f L a w
/-- A walk in which number i has been taken first, hidden. -/
structure WB (P : Program) (ops : Array Oper) (Q : Exit → Act → World → Prop) (S : World → Prop) (i f : Nat) (L : Array Bool) (a : Act) (w : World) : Prop where
  out : aft P .any ops Q S i f L a w

section
variable {P : Program} {ops : Array Oper} {Q : Exit → Act → World → Prop} {S : World → Prop} {f : Nat} {L : Array Bool} {a : Act} {w : World}

theorem wa_begin {id : Nat} (hm : P.follows .mixedOrders = true) (h : WA P ops Q ops.size (Array.replicate ops.size false) a w.drew) : (Code.region id ops true).wp P Q a w := wp_region_any hm h.out
theorem wa_take (i : Nat) (d : Option Tmp) {oi : Oper} (v : Value) (hi : ops[i]? = some oi) (hd : oi.dst = d) (hs : Region.noSelect ops = true) (hf : Region.free .any ops L i = true) (hr : (Region.ready .any ops L).contains i = true)
    (hQ : ∀ c a w, Q (.panic c) (a.put d v) w → Q (.panic c) a w) (hw : Region.wanted oi (yielded ops a.tmps) = true) (hy : ∀ w, (execOp a.eval oi).run P w = .ok (.value v) w)
    (h : WA P ops Q f (L.setIfInBounds i true) (a.put d v) w) : WA P ops Q (f + 1) L a w := by
  subst hd
  exact ⟨wpAny_take hi hs hf hr hQ (.inl ⟨hw, hy⟩) h.out⟩
theorem wa_first (i : Nat) (d : Option Tmp) {oi : Oper} (v : Value) (S : World → Prop) (hi : ops[i]? = some oi) (hd : oi.dst = d) (hs : Region.noSelect ops = true) (hf : Region.free .any ops L i = true) (hr : (Region.ready .any ops L).contains i = true)
    (hQ : ∀ c a w, Q (.panic c) (a.put d v) w → Q (.panic c) a w) (hw : Region.wanted oi (yielded ops a.tmps) = true) (hy : ∀ w, S w → (execOp a.eval oi).run P w = .ok (.value v) w) (hS : S w)
    (h : WB P ops Q S i f L (a.put d v) w) : WA P ops Q (f + 1) L a w := by
  subst hd
  exact ⟨any_first hi (Region.noSelect_spec hs) hQ f L a w (Region.free_spec hi hf) (by simpa using hr) (.inl ⟨hw, hy⟩) hS h.out⟩
theorem wb_call {i : Nat} (j : Nat) (d : Option Tmp) {o : Oper} (F : FuncId) (args : Array Value) (h1 : Region.ready .any ops (L.setIfInBounds i true) = [j]) (h0 : (Region.ready .any ops L).contains j = true) (ho : ops[j]? = some o) (hd : o.dst = d) (hw : Region.wanted o (yielded ops a.tmps) = true)
    (hrun : (execOp a.eval o).run P w = .ok (.enter F args) w) (h : Calls P F args w fun e w' => ∃ v, e = .returned v ∧ S w' ∧ WB P ops Q S i f (L.setIfInBounds j true) (a.put d v) w') : WB P ops Q S i (f + 1) L a w := by
  subst hd
  refine ⟨fun h => (by rw [h1] at h; cases h), fun k hk => ?_⟩
  rw [h1] at hk
  obtain rfl : k = j := by simpa using hk
  refine ⟨fun _ => wpOp_call ho hw hrun (h.mono ?_), fun h => (by rw [h0] at h; cases h)⟩
  rintro e w' ⟨v, rfl, hS, hk⟩
  exact ⟨v, rfl, hS, hk.out⟩
theorem wb_leave {i : Nat} (j : Nat) (d : Option Tmp) {o : Oper} (F : FuncId) (args : Array Value) (h1 : Region.ready .any ops (L.setIfInBounds i true) = [j]) (h0 : (Region.ready .any ops L).contains j = false) (ho : ops[j]? = some o) (hd : o.dst = d) (hw : Region.wanted o (yielded ops a.tmps) = true)
    (hrun : (execOp a.eval o).run P w = .ok (.enter F args) w) (h : Calls P F args w fun e w' => ∃ v, e = .returned v ∧ WA P ops Q f ((L.setIfInBounds i true).setIfInBounds j true) (a.put d v) w') : WB P ops Q S i (f + 1) L a w := by
  subst hd
  refine ⟨fun h => (by rw [h1] at h; cases h), fun k hk => ?_⟩
  rw [h1] at hk
  obtain rfl : k = j := by simpa using hk
  refine ⟨fun h => (by rw [h0] at h; cases h), fun _ => wpOp_call ho hw hrun (h.mono ?_)⟩
  rintro e w' ⟨v, rfl, hk⟩
  exact ⟨v, rfl, hk.out⟩
theorem wa_call (j : Nat) (d : Option Tmp) {o : Oper} (F : FuncId) (args : Array Value) (h1 : Region.ready .any ops L = [j]) (ho : ops[j]? = some o) (hd : o.dst = d) (hw : Region.wanted o (yielded ops a.tmps) = true)
    (hrun : (execOp a.eval o).run P w = .ok (.enter F args) w) (h : Calls P F args w fun e w' => ∃ v, e = .returned v ∧ WA P ops Q f (L.setIfInBounds j true) (a.put d v) w') : WA P ops Q (f + 1) L a w := by
  subst hd
  refine ⟨wpAny_all h1 (by simp) fun k hk => ?_⟩
  obtain rfl : k = j := by simpa using hk
  refine wpOp_call ho hw hrun (h.mono ?_)
  rintro e w' ⟨v, rfl, hk⟩
  exact ⟨v, rfl, hk.out⟩
theorem wa_store (j : Nat) (d : Option Tmp) {o : Oper} (w' : World) (h1 : Region.ready .any ops L = [j]) (ho : ops[j]? = some o) (hd : o.dst = d) (hw : Region.wanted o (yielded ops a.tmps) = true)
    (hrun : (execOp a.eval o).run P w = .ok .skip w') (h : WA P ops Q f (L.setIfInBounds j true) (a.put d undef) w') : WA P ops Q (f + 1) L a w := by
  subst hd
  refine ⟨wpAny_all h1 (by simp) fun k hk => ?_⟩
  obtain rfl : k = j := by simpa using hk
  exact wpOp_skip ho hw hrun h.out
theorem wa_done (h1 : Region.ready .any ops L = []) (h : Q .normal a w) : WA P ops Q f L a w := ⟨wpAny_done h1 h f⟩
end

end Go.Proofs.YtljnciclbjcinaaGreatDoor
