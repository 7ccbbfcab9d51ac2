/-
  A region that draws its order, whose calls move the world one behind the other, beside a load that floats: the load may be taken first, if every operation that may come ahead of it keeps what it reads.
-/
import Derived.OrdersHeld
import Derived.WalkKit
import Derived.Test.YtdcfflmfimepfaaGreatKA1
namespace Go.Proofs.YtdcfflmfimepfaaGreat
open Go.RowKit

section
variable {P : Program} {ops : Array Oper} {md : Region.Mode} {Q : Exit → Act → World → Prop} {S : World → Prop}

/-- Number i has been taken first (L: what else has come): behind all that may come ahead of i the class S holds; behind the first one that waits for i it is a plain walk. -/
def aft (P : Program) (md : Region.Mode) (ops : Array Oper) (Q : Exit → Act → World → Prop) (S : World → Prop) (i : Nat) : Nat → Array Bool → Act → World → Prop
  | 0, L, a, w => Region.ready md ops (L.setIfInBounds i true) = [] ∧ Q .normal a w
  | f + 1, L, a, w => (Region.ready md ops (L.setIfInBounds i true) = [] → Q .normal a w) ∧
    ∀ j ∈ Region.ready md ops (L.setIfInBounds i true), ((Region.ready md ops L).contains j = true → wpOp P ops Q j (fun a' w' => S w' ∧ aft P md ops Q S i f (L.setIfInBounds j true) a' w') a w) ∧
      ((Region.ready md ops L).contains j = false → wpOp P ops Q j (wpAny P md ops Q f ((L.setIfInBounds i true).setIfInBounds j true)) a w)

theorem any_of_aft {i : Nat} : ∀ (f : Nat) (L : Array Bool) (a : Act) (w : World), i ∈ Region.ready md ops L → aft P md ops Q S i f L a w → wpAny P md ops Q f (L.setIfInBounds i true) a w
  | 0, _, _, _, _, h => h
  | f + 1, L, a, w, hr, h => ⟨h.1, fun j hj => by
    cases hc : (Region.ready md ops L).contains j
    · exact (h.2 j hj).2 hc
    · have hji : j ≠ i := fun e => by
        subst e
        have h1 := (mem_ready.1 hj).1
        have h0 := (mem_ready.1 hr).1
        rw [Array.getD_eq_getD_getElem?] at h0 h1
        rcases Nat.lt_or_ge j L.size with h' | h'
        · rw [Array.getElem?_setIfInBounds_self_of_lt h'] at h1; cases h1
        · rw [Array.getElem?_eq_none h'] at h0; cases h0
      refine wpOp_mono (fun a' w' h' => ?_) ((h.2 j hj).1 hc)
      rw [Array.setIfInBounds_comm _ _ (Ne.symm hji)]
      exact any_of_aft f _ a' w' (ready_mono hr (Ne.symm hji)) h'.2⟩

theorem any_first {i : Nat} {oi : Oper} {v : Value} (hi : ops[i]? = some oi) (hsel : ∀ (j : Nat) (o : Oper) cs b, ops[j]? = some o → o.op ≠ .select cs b)
    (hQ : ∀ c a w, Q (.panic c) (a.put oi.dst v) w → Q (.panic c) a w) :
    ∀ (fuel : Nat) (listed : Array Bool) (a : Act) (w : World),
      (∀ j oj, ops[j]? = some oj → j ≠ i → listed.getD j true = false → (∀ e ∈ oj.after, Region.binds md e = true → e.on ≠ i) → oi.apart ops oj = true) →
      i ∈ Region.ready md ops listed → YieldsIf P ops S oi v a → S w →
      aft P md ops Q S i fuel listed (a.put oi.dst v) w → wpAny P md ops Q (fuel + 1) listed a w := by
  intro fuel
  induction fuel with
  | zero =>
    intro listed a w _ hr hy hS H
    refine ⟨fun h => (by rw [h] at hr; cases hr), fun j hj => ?_⟩
    by_cases hji : j = i
    · subst hji; exact hy.wpOp hi hS (any_of_aft 0 _ _ _ hr H)
    · have := ready_mono hj hji
      rw [H.1] at this
      cases this
  | succ fuel ih =>
    intro listed a w hfree hr hy hS H
    refine ⟨fun h => (by rw [h] at hr; cases hr), fun j hj => ?_⟩
    by_cases hji : j = i
    · subst hji; exact hy.wpOp hi hS (any_of_aft _ _ _ _ hr H)
    · have h1 := (H.2 j (ready_mono hj hji)).1 (by simpa using hj)
      obtain ⟨hjun, oj, hoj, hall⟩ := mem_ready.1 hj
      have hnot : ∀ e ∈ oj.after, Region.binds md e = true → e.on ≠ i := fun e he hb heq => by
        have h1 := hall e he hb
        have h0 := (mem_ready.1 hr).1
        rw [heq] at h1
        rcases Nat.lt_or_ge i listed.size with h' | h'
        · simp [h'] at h0 h1; rw [h0] at h1; cases h1
        · simp [Array.getElem?_eq_none h'] at h1
      have h2 := wpOp_putIf hoj (hfree j oj hoj hji hjun hnot) (fun cs b => hsel i oi cs b hi) (fun cs b => hsel j oj cs b hoj) hQ hy h1
      have hfree' : ∀ k ok, ops[k]? = some ok → k ≠ i → (listed.setIfInBounds j true).getD k true = false →
          (∀ e ∈ ok.after, Region.binds md e = true → e.on ≠ i) → oi.apart ops ok = true := fun k ok hk hki hun hno => by
        refine hfree k ok hk hki ?_ hno
        by_cases hjk : j = k
        · subst hjk; exact hjun
        · rw [getD_set_ne true hjk] at hun; exact hun
      exact wpOp_mono (fun a' w' h3 => ih (listed.setIfInBounds j true) a' w' hfree' (ready_mono hr (Ne.symm hji)) h3.1 h3.2.1 h3.2.2) h2

theorem wpOp_call {i : Nat} {o : Oper} {F : FuncId} {args : Array Value} {K : Act → World → Prop} {a : Act} {w : World} (ho : ops[i]? = some o) (hw : Region.wanted o (yielded ops a.tmps) = true)
    (hrun : (execOp a.eval o).run P w = .ok (.enter F args) w) (h : Calls P F args w fun e w' => ∃ v, e = .returned v ∧ K (a.put o.dst v) w') : wpOp P ops Q i K a w := by
  unfold wpOp
  simp only [ho, hw, if_true]
  refine .inl ?_
  unfold Oper.wp
  rw [hrun]
  simp only [Oper.upon]
  refine h.mono ?_
  rintro e w' ⟨v, rfl, hk⟩
  exact hk
theorem wpOp_skip {i : Nat} {o : Oper} {K : Act → World → Prop} {a : Act} {w w' : World} (ho : ops[i]? = some o) (hw : Region.wanted o (yielded ops a.tmps) = true)
    (hrun : (execOp a.eval o).run P w = .ok .skip w') (h : K (a.put o.dst undef) w') : wpOp P ops Q i K a w := by
  unfold wpOp
  simp only [ho, hw, if_true]
  refine .inl ?_
  unfold Oper.wp
  rw [hrun]
  exact h
end

/-- A plain walk, hidden. -/
structure WA (P : Program) (ops : Array Oper) (Q : Exit → Act → World → Prop) (f : Nat) (L : Array Bool) (a : Act) (w : World) : Prop where
  out : wpAny P .any ops Q f L a w
/-- A walk in which number i has been taken first, hidden. -/
structure WB (P : Program) (ops : Array Oper) (Q : Exit → Act → World → Prop) (S : World → Prop) (i f : Nat) (L : Array Bool) (a : Act) (w : World) : Prop where
  out : aft P .any ops Q S i f L a w

section
variable {P : Program} {ops : Array Oper} {Q : Exit → Act → World → Prop} {S : World → Prop} {f : Nat} {L : Array Bool} {a : Act} {w : World}

theorem wa_begin {id : Nat} (hm : P.follows .mixedOrders = true) (h : WA P ops Q ops.size (Array.replicate ops.size false) a w.drew) : (Code.region id ops true).wp P Q a w := wp_region_any hm h.out
theorem wa_take (i : Nat) (d : Option Tmp) {oi : Oper} (v : Value) (hi : ops[i]? = some oi) (hd : oi.dst = d) (hs : Region.noSelect ops = true) (hf : Region.free .any ops L i = true) (hr : (Region.ready .any ops L).contains i = true)
    (hQ : ∀ c a w, Q (.panic c) (a.put d v) w → Q (.panic c) a w) (hw : Region.wanted oi (yielded ops a.tmps) = true) (hy : ∀ w, (execOp a.eval oi).run P w = .ok (.value v) w)
    (h : WA P ops Q f (L.setIfInBounds i true) (a.put d v) w) : WA P ops Q (f + 1) L a w := by
  subst hd
  exact ⟨wpAny_take hi hs hf hr hQ (.inl ⟨hw, hy⟩) h.out⟩
theorem wa_first (i : Nat) (d : Option Tmp) {oi : Oper} (v : Value) (S : World → Prop) (hi : ops[i]? = some oi) (hd : oi.dst = d) (hs : Region.noSelect ops = true) (hf : Region.free .any ops L i = true) (hr : (Region.ready .any ops L).contains i = true)
    (hQ : ∀ c a w, Q (.panic c) (a.put d v) w → Q (.panic c) a w) (hw : Region.wanted oi (yielded ops a.tmps) = true) (hy : ∀ w, S w → (execOp a.eval oi).run P w = .ok (.value v) w) (hS : S w)
    (h : WB P ops Q S i f L (a.put d v) w) : WA P ops Q (f + 1) L a w := by
  subst hd
  exact ⟨any_first hi (Region.noSelect_spec hs) hQ f L a w (Region.free_spec hi hf) (by simpa using hr) (.inl ⟨hw, hy⟩) hS h.out⟩
theorem wb_call {i : Nat} (j : Nat) (d : Option Tmp) {o : Oper} (F : FuncId) (args : Array Value) (h1 : Region.ready .any ops (L.setIfInBounds i true) = [j]) (h0 : (Region.ready .any ops L).contains j = true) (ho : ops[j]? = some o) (hd : o.dst = d) (hw : Region.wanted o (yielded ops a.tmps) = true)
    (hrun : (execOp a.eval o).run P w = .ok (.enter F args) w) (h : Calls P F args w fun e w' => ∃ v, e = .returned v ∧ S w' ∧ WB P ops Q S i f (L.setIfInBounds j true) (a.put d v) w') : WB P ops Q S i (f + 1) L a w := by
  subst hd
  refine ⟨fun h => (by rw [h1] at h; cases h), fun k hk => ?_⟩
  rw [h1] at hk
  obtain rfl : k = j := by simpa using hk
  refine ⟨fun _ => wpOp_call ho hw hrun (h.mono ?_), fun h => (by rw [h0] at h; cases h)⟩
  rintro e w' ⟨v, rfl, hS, hk⟩
  exact ⟨v, rfl, hS, hk.out⟩
theorem wb_leave {i : Nat} (j : Nat) (d : Option Tmp) {o : Oper} (F : FuncId) (args : Array Value) (h1 : Region.ready .any ops (L.setIfInBounds i true) = [j]) (h0 : (Region.ready .any ops L).contains j = false) (ho : ops[j]? = some o) (hd : o.dst = d) (hw : Region.wanted o (yielded ops a.tmps) = true)
    (hrun : (execOp a.eval o).run P w = .ok (.enter F args) w) (h : Calls P F args w fun e w' => ∃ v, e = .returned v ∧ WA P ops Q f ((L.setIfInBounds i true).setIfInBounds j true) (a.put d v) w') : WB P ops Q S i (f + 1) L a w := by
  subst hd
  refine ⟨fun h => (by rw [h1] at h; cases h), fun k hk => ?_⟩
  rw [h1] at hk
  obtain rfl : k = j := by simpa using hk
  refine ⟨fun h => (by rw [h0] at h; cases h), fun _ => wpOp_call ho hw hrun (h.mono ?_)⟩
  rintro e w' ⟨v, rfl, hk⟩
  exact ⟨v, rfl, hk.out⟩
theorem wa_call (j : Nat) (d : Option Tmp) {o : Oper} (F : FuncId) (args : Array Value) (h1 : Region.ready .any ops L = [j]) (ho : ops[j]? = some o) (hd : o.dst = d) (hw : Region.wanted o (yielded ops a.tmps) = true)
    (hrun : (execOp a.eval o).run P w = .ok (.enter F args) w) (h : Calls P F args w fun e w' => ∃ v, e = .returned v ∧ WA P ops Q f (L.setIfInBounds j true) (a.put d v) w') : WA P ops Q (f + 1) L a w := by
  subst hd
  refine ⟨wpAny_all h1 (by simp) fun k hk => ?_⟩
  obtain rfl : k = j := by simpa using hk
  refine wpOp_call ho hw hrun (h.mono ?_)
  rintro e w' ⟨v, rfl, hk⟩
  exact ⟨v, rfl, hk.out⟩
theorem wa_store (j : Nat) (d : Option Tmp) {o : Oper} (w' : World) (h1 : Region.ready .any ops L = [j]) (ho : ops[j]? = some o) (hd : o.dst = d) (hw : Region.wanted o (yielded ops a.tmps) = true)
    (hrun : (execOp a.eval o).run P w = .ok .skip w') (h : WA P ops Q f (L.setIfInBounds j true) (a.put d undef) w') : WA P ops Q (f + 1) L a w := by
  subst hd
  refine ⟨wpAny_all h1 (by simp) fun k hk => ?_⟩
  obtain rfl : k = j := by simpa using hk
  exact wpOp_skip ho hw hrun h.out
theorem wa_done (h1 : Region.ready .any ops L = []) (h : Q .normal a w) : WA P ops Q f L a w := ⟨wpAny_done h1 h f⟩
end

end Go.Proofs.YtdcfflmfimepfaaGreat

namespace Go.Proofs.YtdcfflmfimepfaaGreat
open Go.RowKit

section
variable {P : Program} {ops : Array Oper} {Q : Exit → Act → World → Prop} {S : World → Prop} {f : Nat} {L : Array Bool} {a : Act} {w : World}

theorem wpOp_wp {i : Nat} {o : Oper} {K : Act → World → Prop} (ho : ops[i]? = some o) (hw : Region.wanted o (yielded ops a.tmps) = true) (h : o.wp P a w K Q) : wpOp P ops Q i K a w := by
  unfold wpOp
  simp only [ho, hw, if_true]
  exact .inl h
theorem wp_val {o : Oper} {K : Act → World → Prop} {v : Value} {w' : World} (hrun : (execOp a.eval o).run P w = .ok (.value v) w') (h : K (a.put o.dst v) w') : o.wp P a w K Q := by
  unfold Oper.wp
  rw [hrun]
  exact h
theorem wa_wp (j : Nat) {o : Oper} (h1 : Region.ready .any ops L = [j]) (ho : ops[j]? = some o) (hw : Region.wanted o (yielded ops a.tmps) = true)
    (h : o.wp P a w (fun a' w' => WA P ops Q f (L.setIfInBounds j true) a' w') Q) : WA P ops Q (f + 1) L a w := by
  refine ⟨wpAny_all h1 (by simp) fun k hk => ?_⟩
  obtain rfl : k = j := by simpa using hk
  exact wpOp_wp ho hw (Oper.wp_mono (fun _ _ h => h.out) h)
theorem wb_val {i : Nat} (j : Nat) (d : Option Tmp) {o : Oper} (v : Value) (w' : World) (h1 : Region.ready .any ops (L.setIfInBounds i true) = [j]) (h0 : (Region.ready .any ops L).contains j = true) (ho : ops[j]? = some o) (hd : o.dst = d) (hw : Region.wanted o (yielded ops a.tmps) = true)
    (hrun : (execOp a.eval o).run P w = .ok (.value v) w') (hS : S w') (h : WB P ops Q S i f (L.setIfInBounds j true) (a.put d v) w') : WB P ops Q S i (f + 1) L a w := by
  subst hd
  refine ⟨fun h => (by rw [h1] at h; cases h), fun k hk => ?_⟩
  rw [h1] at hk
  obtain rfl : k = j := by simpa using hk
  exact ⟨fun _ => wpOp_wp ho hw (wp_val hrun ⟨hS, h.out⟩), fun h => (by rw [h0] at h; cases h)⟩
theorem wb_wp {i : Nat} (j : Nat) {o : Oper} (h1 : Region.ready .any ops (L.setIfInBounds i true) = [j]) (h0 : (Region.ready .any ops L).contains j = false) (ho : ops[j]? = some o) (hw : Region.wanted o (yielded ops a.tmps) = true)
    (h : o.wp P a w (fun a' w' => WA P ops Q f ((L.setIfInBounds i true).setIfInBounds j true) a' w') Q) : WB P ops Q S i (f + 1) L a w := by
  refine ⟨fun h => (by rw [h1] at h; cases h), fun k hk => ?_⟩
  rw [h1] at hk
  obtain rfl : k = j := by simpa using hk
  exact ⟨fun h => (by rw [h0] at h; cases h), fun _ => wpOp_wp ho hw (Oper.wp_mono (fun _ _ h => h.out) h)⟩
end

end Go.Proofs.YtdcfflmfimepfaaGreat

namespace Go.Proofs.YtdcfflmfimepfaaGreat
open Go.ChangeShapes Go.WideShapes Go.ChangeAt Go.RowKit

theorem Tryz.infoFr : (Tryz.prog.info? 177).map (fun i => (i.zero, i.size, i.bytes)) = some (some (.agg #[.int .i64 0, .int .i64 0, .int .i64 0, .bool false]), 4, 32) := by kernel_rfl

set_option maxRecDepth 100000 in
set_option maxHeartbeats 3200000 in
theorem openI (g : Nat) (E : EnvI) (at_ : Int) (s : St) (op kd : Int) (vf : Value) (w : World) (h : CI w g E at_ s vf) (hl : Lim s) :
    Calls Tryz.prog 106 #[.pointer (some ⟨g, 0, none⟩), .int .i64 op, .int .i64 kd] w fun e w' => e = .returned (.tuple #[]) ∧ (∃ vf', CI w' g E at_ (beginS op kd s) vf') ∧ Below g w w' := by
  obtain ⟨i0, i0i, i00, i01, i02⟩ := info_parts Tryz.infoFr
  obtain ⟨⟨vs, h0, h1, h2⟩, hv⟩ := h
  rw [ivs_len] at h1
  obtain ⟨a, cs, rfl, _⟩ := own_shape h1
  obtain ⟨n, hn⟩ : ∃ n, s.opn.length = n := ⟨_, rfl⟩
  obtain ⟨k, hk⟩ : ∃ k, s.vals.length = k := ⟨_, rfl⟩
  rw [hn] at h2
  rw [hk] at h0 h1
  have hn2 : n ≤ 300 := by have := hl.2; omega
  have hlt := lt_of_block h0
  have H0 : Hid (w.heap[g]? = some (.cells (mkI E at_ s.most vf (.slice a k cs)) 138 (0, 0))) := h0
  have H1 : Hid (w.ownsRow (g + 1) 3 1 (.slice a k cs) k (ivs 0 s.vals)) := h1
  have H2 : Hid (w.ownsRow (g + 1) 177 4 vf n (fvI s.opn)) := h2
  have HK : Hid (s.vals.length = k ∧ s.opn.length = n ∧ n ≤ 300 ∧ g < w.heap.size) := ⟨hk, hn, hn2, hlt⟩
  have HV : Hid (VarB w E) := hv
  clear h0 h1 h2 hl hn hk hn2 hlt hv
  go_enter Tryz.func106, Tryz.ntmps106
  go_wp2_with fail
  refine wa_begin (by kernel_rfl) ?_
  refine wa_take 0 (some 6) (.pointer (some ⟨g, 0, none⟩)) rfl rfl (by kernel_rfl) (by kernel_rfl) (by kernel_rfl) (fun _ _ _ h => h) (by rfl) (fun _ => by rfl) ?_
  simp only [Act.put, List.setIfInBounds_toArray, List.set_cons_zero, List.set_cons_succ]
  refine wa_take 1 (some 7) (.pointer (some ⟨g, 0, none⟩)) rfl rfl (by kernel_rfl) (by kernel_rfl) (by kernel_rfl) (fun _ _ _ h => h) (by rfl) (fun _ => by rfl) ?_
  simp only [Act.put, List.setIfInBounds_toArray, List.set_cons_zero, List.set_cons_succ]
  refine wa_take 2 (some 8) (.pointer (some ⟨g, 0, none⟩)) rfl rfl (by kernel_rfl) (by kernel_rfl) (by kernel_rfl) (fun _ _ _ h => h) (by rfl) (fun _ => by rfl) ?_
  simp only [Act.put, List.setIfInBounds_toArray, List.set_cons_zero, List.set_cons_succ]
  refine wa_take 3 (some 9) (.pointer (some ⟨g, 9, none⟩)) rfl rfl (by kernel_rfl) (by kernel_rfl) (by kernel_rfl) (fun _ _ _ h => h) (by rfl) (fun _ => by kernel_rfl) ?_
  simp only [Act.put, List.setIfInBounds_toArray, List.set_cons_zero, List.set_cons_succ]
  refine wa_take 5 (some 11) (.int .i64 op) rfl rfl (by kernel_rfl) (by kernel_rfl) (by kernel_rfl) (fun _ _ _ h => h) (by rfl) (fun _ => by rfl) ?_
  simp only [Act.put, List.setIfInBounds_toArray, List.set_cons_zero, List.set_cons_succ]
  refine wa_take 6 (some 12) (.int .i64 kd) rfl rfl (by kernel_rfl) (by kernel_rfl) (by kernel_rfl) (fun _ _ _ h => h) (by rfl) (fun _ => by rfl) ?_
  simp only [Act.put, List.setIfInBounds_toArray, List.set_cons_zero, List.set_cons_succ]
  refine wa_take 7 (some 13) (.pointer (some ⟨g, 0, none⟩)) rfl rfl (by kernel_rfl) (by kernel_rfl) (by kernel_rfl) (fun _ _ _ h => h) (by rfl) (fun _ => by rfl) ?_
  simp only [Act.put, List.setIfInBounds_toArray, List.set_cons_zero, List.set_cons_succ]
  refine wa_take 8 (some 14) (.pointer (some ⟨g, 0, none⟩)) rfl rfl (by kernel_rfl) (by kernel_rfl) (by kernel_rfl) (fun _ _ _ h => h) (by rfl) (fun _ => by rfl) ?_
  simp only [Act.put, List.setIfInBounds_toArray, List.set_cons_zero, List.set_cons_succ]
  refine wa_take 9 (some 15) (.pointer (some ⟨g, 10, none⟩)) rfl rfl (by kernel_rfl) (by kernel_rfl) (by kernel_rfl) (fun _ _ _ h => h) (by rfl) (fun _ => by kernel_rfl) ?_
  simp only [Act.put, List.setIfInBounds_toArray, List.set_cons_zero, List.set_cons_succ]
  have c9 : w.drew.cell? ⟨g, 9, none⟩ = some vf := (cell_of_block H0.out 9).trans rfl
  have c10 : w.drew.cell? ⟨g, 10, none⟩ = some (.slice a k cs) := (cell_of_block H0.out 10).trans rfl
  obtain ⟨av, cv, hvf, _⟩ := own_shape H2.out
  subst hvf
  refine wa_first 4 (some 10) (.slice av n cv) (fun w' => w'.cell? ⟨g, 9, none⟩ = some (.slice av n cv)) rfl rfl (by kernel_rfl) (by kernel_rfl) (by kernel_rfl) (fun _ _ _ h => h) (by rfl) (fun w' hS => ?_) c9 ?_
  · go_simp
  simp only [Act.put, List.setIfInBounds_toArray, List.set_cons_zero, List.set_cons_succ]
  refine wb_val 10 (some 16) (.slice a k cs) w.drew (by kernel_rfl) (by kernel_rfl) rfl rfl (by rfl) (by go_simp) c9 ?_
  simp only [Act.put, List.setIfInBounds_toArray, List.set_cons_zero, List.set_cons_succ]
  refine wb_val 11 (some 17) (.int .i64 (k : Int)) w.drew (by kernel_rfl) (by kernel_rfl) rfl rfl (by rfl) (by go_simp) c9 ?_
  simp only [Act.put, List.setIfInBounds_toArray, List.set_cons_zero, List.set_cons_succ]
  refine wb_val 12 (some 18) (.agg #[.int .i64 op, .int .i64 kd, .int .i64 (k : Int), .bool false]) w.drew (by kernel_rfl) (by kernel_rfl) rfl rfl (by rfl) (by go_simp) c9 ?_
  simp only [Act.put, List.setIfInBounds_toArray, List.set_cons_zero, List.set_cons_succ]
  refine wb_val 13 (some 19) (.slice (some ⟨w.heap.size, 0, none⟩) 1 1) (w.drew.alloc (.cells #[.int .i64 op, .int .i64 kd, .int .i64 (k : Int), .bool false] 177)) (by kernel_rfl) (by kernel_rfl) rfl rfl (by rfl) (by go_simp) ?_ ?_
  · exact pastCell (w := w.drew) (show g < w.drew.heap.size from HK.out.2.2.2) c9
  simp only [Act.put, List.setIfInBounds_toArray, List.set_cons_zero, List.set_cons_succ]
  refine wb_wp 14 (by kernel_rfl) (by kernel_rfl) rfl (by rfl) ?_
  have hb0 : Below w.heap.size w w.drew := (Below.refl _ _).drew
  have hown0 : (w.drew.alloc (.cells #[.int .i64 op, .int .i64 kd, .int .i64 (k : Int), .bool false] 177)).ownsRow (g + 1) 177 4 (.slice av n cv) n (fvI s.opn) := (own_kept H2.out hb0).alloc _
  refine wp_append_lies _ (.tmp 10) (.tmp 19) 136 rfl (g + 1) 177 i0 (.agg #[.int .i64 0, .int .i64 0, .int .i64 0, .bool false]) 4 32 Tryz.underlying136 i0i i00 i01 i02 rfl (by decide) (.slice av n cv) n (fvI s.opn) rfl hown0 ⟨w.heap.size, 0, none⟩ 1 1 [.int .i64 op, .int .i64 kd, .int .i64 (k : Int), .bool false] rfl rfl (row_new' w.drew #[.int .i64 op, .int .i64 kd, .int .i64 (k : Int), .bool false] 177 w.heap.size rfl) (by intro u hu; simp at hu; rcases hu with rfl | rfl | rfl | rfl <;> rfl) (by decide) (by have := HK.out.2.2.1; unfold maxLen; omega) (by have := HK.out.2.2.1; omega) (by have := HK.out.2.2.2; simp; omega) (w.heap.size + 1) (by simp) ?_
  intro gf cf w1 hown hgrow hlie hlt1
  simp only [Act.put, List.setIfInBounds_toArray]
  have hA0 : (w.drew.alloc (.cells #[.int .i64 op, .int .i64 kd, .int .i64 (k : Int), .bool false] 177)).heap[g]? = some (.cells (mkI E at_ s.most (.slice av n cv) (.slice a k cs)) 138 (0, 0)) := (Below.heap_alloc w.drew _ g HK.out.2.2.2).trans H0.out
  have hg1 := grow_block hown0 hgrow hA0
  have hs1 := grow_keeps hown0 hgrow ((own_kept H1.out hb0).alloc _) (by decide)
  have hv1 : VarB w1 E := (HV.out.keep (hb0.alloc (Nat.le_refl _) _)).grow hown0 hgrow (by decide)
  have hb1 : Below g w w1 := grow_below hown0 hgrow ((Below.refl _ _).drew.alloc (Nat.le_of_lt HK.out.2.2.2) _) (Nat.le_refl _) (by simp; have := HK.out.2.2.2; omega)
  refine wa_take 15 (some 21) (.pointer (some ⟨g, 0, none⟩)) rfl rfl (by kernel_rfl) (by kernel_rfl) (by kernel_rfl) (fun _ _ _ h => h) (by rfl) (fun _ => by rfl) ?_
  simp only [Act.put]
  refine wa_take 16 (some 22) (.pointer (some ⟨g, 9, none⟩)) rfl rfl (by kernel_rfl) (by kernel_rfl) (by kernel_rfl) (fun _ _ _ h => h) (by rfl) (fun _ => by kernel_rfl) ?_
  simp only [Act.put]
  have e9 : w1.cell? ⟨g, 9, none⟩ = some (.slice av n cv) := (cell_of_block hg1 9).trans rfl
  have f9 : w1.frozen? ⟨g, 9, none⟩ = false := free_of_block hg1 9
  refine wa_store 17 none (w1.setCell ⟨g, 9, none⟩ (.slice (some ⟨gf, 0, none⟩) (n + 1) cf)) (by kernel_rfl) rfl rfl (by rfl) (by go_simp) ?_
  refine wa_done (by kernel_rfl) ?_
  simp only [Act.put]
  have HE : CI (w1.setCell ⟨g, 9, none⟩ (.slice (some ⟨gf, 0, none⟩) (n + 1) cf)) g E at_ (beginS op kd s) (.slice (some ⟨gf, 0, none⟩) (n + 1) cf) := by
    unfold CI beginS
    simp only
    refine ⟨ck_set hg1 (mk' := mkI E at_ s.most) (vf' := .slice (some ⟨gf, 0, none⟩) (n + 1) cf) (vs' := .slice a k cs) 9 _ rfl ?_ ?_, hv1.set hg1 (by decide) _ _⟩
    · rw [ivs_len, HK.out.1]; exact hs1
    · rw [List.length_cons, HK.out.2.1, fvI_cons]
      have e : fv1 ⟨op, kd, s.vals.length, false, false⟩ = [.int .i64 op, .int .i64 kd, .int .i64 (k : Int), .bool false] := by unfold fv1; simp [HK.out.1]
      rw [e]
      exact hown
  have HB : Below g w (w1.setCell ⟨g, 9, none⟩ (.slice (some ⟨gf, 0, none⟩) (n + 1) cf)) := hb1.setCell (Nat.le_refl _) _
  go_end0
  exact ⟨rfl, ⟨_, HE⟩, HB⟩

end Go.Proofs.YtdcfflmfimepfaaGreat

namespace Go.Proofs.YtdcfflmfimepfaaGreat
open Go.RowKit

structure WH (P : Program) (ops : Array Oper) (Q : Exit → Act → World → Prop) (S : World → Prop) (f : Nat) (L : Array Bool) (a : Act) (w : World) : Prop where
  out : wpAnyH P .any ops Q S f L a w
section
variable {P : Program} {ops : Array Oper} {Q : Exit → Act → World → Prop} {S : World → Prop} {f : Nat} {L : Array Bool} {a : Act} {w : World}
theorem wh_begin {id : Nat} (S : World → Prop) (hm : P.follows .mixedOrders = true) (h : WH P ops Q S ops.size (Array.replicate ops.size false) a w.drew) : (Code.region id ops true).wp P Q a w := wp_region_held hm h.out
theorem wh_take (i : Nat) (d : Option Tmp) {oi : Oper} (v : Value) (hi : ops[i]? = some oi) (hd : oi.dst = d) (hs : Region.noSelect ops = true) (hf : Region.free .any ops L i = true) (hr : (Region.ready .any ops L).contains i = true)
    (hQ : ∀ c a w, Q (.panic c) (a.put d v) w → Q (.panic c) a w) (hS : S w) (hw : Region.wanted oi (yielded ops a.tmps) = true) (hy : ∀ w, S w → (execOp a.eval oi).run P w = .ok (.value v) w)
    (h : WH P ops Q S f (L.setIfInBounds i true) (a.put d v) w) : WH P ops Q S (f + 1) L a w := by
  subst hd
  exact ⟨wpAnyH_take hi hs hf hr hQ (.inl ⟨hw, hy⟩) hS h.out⟩
theorem wh_wp (j : Nat) {o : Oper} (h1 : Region.ready .any ops L = [j]) (ho : ops[j]? = some o) (hw : Region.wanted o (yielded ops a.tmps) = true)
    (h : o.wp P a w (fun a' w' => S w' ∧ WH P ops Q S f (L.setIfInBounds j true) a' w') Q) : WH P ops Q S (f + 1) L a w := by
  refine ⟨wpAnyH_all h1 (by simp) fun k hk => ?_⟩
  obtain rfl : k = j := by simpa using hk
  exact wpOp_wp ho hw (Oper.wp_mono (fun _ _ h => ⟨h.1, h.2.out⟩) h)
theorem wh_val (j : Nat) (d : Option Tmp) {o : Oper} (v : Value) (w' : World) (h1 : Region.ready .any ops L = [j]) (ho : ops[j]? = some o) (hd : o.dst = d) (hw : Region.wanted o (yielded ops a.tmps) = true)
    (hrun : (execOp a.eval o).run P w = .ok (.value v) w') (hS : S w') (h : WH P ops Q S f (L.setIfInBounds j true) (a.put d v) w') : WH P ops Q S (f + 1) L a w := by
  subst hd
  exact wh_wp j h1 ho hw (wp_val hrun ⟨hS, h⟩)
theorem wh_call (j : Nat) (d : Option Tmp) {o : Oper} (F : FuncId) (args : Array Value) (h1 : Region.ready .any ops L = [j]) (ho : ops[j]? = some o) (hd : o.dst = d) (hw : Region.wanted o (yielded ops a.tmps) = true)
    (hrun : (execOp a.eval o).run P w = .ok (.enter F args) w) (h : Calls P F args w fun e w' => ∃ v, e = .returned v ∧ S w' ∧ WH P ops Q S f (L.setIfInBounds j true) (a.put d v) w') : WH P ops Q S (f + 1) L a w := by
  subst hd
  refine ⟨wpAnyH_all h1 (by simp) fun k hk => ?_⟩
  obtain rfl : k = j := by simpa using hk
  refine wpOp_call ho hw hrun (h.mono ?_)
  rintro e w' ⟨v, rfl, hS, hk⟩
  exact ⟨v, rfl, hS, hk.out⟩
theorem wh_skip (j : Nat) (d : Option Tmp) {o : Oper} (w' : World) (h1 : Region.ready .any ops L = [j]) (ho : ops[j]? = some o) (hd : o.dst = d) (hw : Region.wanted o (yielded ops a.tmps) = true)
    (hrun : (execOp a.eval o).run P w = .ok .skip w') (hS : S w') (h : WH P ops Q S f (L.setIfInBounds j true) (a.put d undef) w') : WH P ops Q S (f + 1) L a w := by
  subst hd
  refine ⟨wpAnyH_all h1 (by simp) fun k hk => ?_⟩
  obtain rfl : k = j := by simpa using hk
  exact wpOp_skip ho hw hrun ⟨hS, h.out⟩
theorem wh_done (h1 : Region.ready .any ops L = []) (h : Q .normal a w) : WH P ops Q S f L a w := ⟨wpAnyH_done h1 h f⟩
end

end Go.Proofs.YtdcfflmfimepfaaGreat
