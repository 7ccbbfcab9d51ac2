/-
  The program's check: what a check that gives up is told as.
-/
import Derived.Test.YtcgnefgdfgikdaaGreatKA1
import Derived.Defers
import Derived.Recover
import Derived.Test.YtcgnefgdfgikdaaGreatKA6
namespace Go.Proofs.YtcgnefgdfgikdaaGreat
open Go.ChangeShapes Go.WideShapes Go.ChangeAt Go.RowKit

section
variable {P : Program} {ops : Array Oper} {Q : Exit → Act → List Frame → World → Prop} {i : Nat} {rest : List Nat} {a : Act} {cs : List Frame} {w : World}
theorem ops_val {o : Oper} (d : Option Tmp) (v : Value) (ho : ops[i]? = some o) (hd : o.dst = d) (hw : Region.wanted o (yielded ops a.tmps) = true) (hr : (execOp a.eval o).run P w = .ok (.value v) w) (h : wpOpsS P ops Q rest (a.put d v) cs w) : wpOpsS P ops Q (i :: rest) a cs w := by
  subst hd
  simp only [wpOpsS, ho, hw, if_true, hr, Oper.upon]
  exact h
theorem ops_rec {o : Oper} (d : Option Tmp) (v : Value) (cs' : List Frame) (ho : ops[i]? = some o) (hd : o.dst = d) (hw : Region.wanted o (yielded ops a.tmps) = true) (hr : (execOp a.eval o).run P w = .ok .recover w) (hc : recoverD cs = some (v, cs')) (h : wpOpsS P ops Q rest (a.put d v) cs' w) : wpOpsS P ops Q (i :: rest) a cs w := by
  subst hd
  simp only [wpOpsS, ho, hw, if_true, hr, hc]
  exact h
theorem ops_none {o : Oper} (d : Option Tmp) (ho : ops[i]? = some o) (hd : o.dst = d) (hw : Region.wanted o (yielded ops a.tmps) = true) (hr : (execOp a.eval o).run P w = .ok .recover w) (hc : recoverD cs = none) (h : wpOpsS P ops Q rest (a.put d .nilIface) cs w) : wpOpsS P ops Q (i :: rest) a cs w := by
  subst hd
  simp only [wpOpsS, ho, hw, if_true, hr, hc]
  exact h
end

/-- What is told. -/
def verdV (c k m : Int) : Array Value := #[.int .i64 c, .int .i64 k, .int .i64 m]
set_option maxRecDepth 100000 in
set_option maxHeartbeats 800000 in
theorem catchF (cb tb g : Nat) (c at_ x0 x1 x2 : Int) (w : World) (hc : w.cell? ⟨cb, 0, none⟩ = some (.pointer (some ⟨g, 0, none⟩))) (h8 : w.cell? ⟨g, 8, none⟩ = some (.int .i64 at_)) (ht : w.heap[tb]? = some (.cells (verdV x0 x1 x2) 51 (0, 0))) :
    CallsD Tryz.prog 32 #[.pointer (some ⟨cb, 0, none⟩), .pointer (some ⟨tb, 0, none⟩)] (.panicking (faultV c)) w fun e u' w' =>
      e = .returned (.tuple #[]) ∧ u' = .panicking [{ v := .iface 68 (.int .i64 c), recovered := true }] ∧ w' = (((w.setCell ⟨tb, 0, none⟩ (.int .i64 c)).setCell ⟨tb, 1, none⟩ (.int .i64 at_)).setCell ⟨tb, 2, none⟩ (.int .i64 0)) := by
  have e0 : w.cell? ⟨tb, 0, none⟩ = some (.int .i64 x0) := (cell_of_block ht 0).trans rfl
  have e1 : w.cell? ⟨tb, 1, none⟩ = some (.int .i64 x1) := (cell_of_block ht 1).trans rfl
  have e2 : w.cell? ⟨tb, 2, none⟩ = some (.int .i64 x2) := (cell_of_block ht 2).trans rfl
  have f0 : w.frozen? ⟨tb, 0, none⟩ = false := free_of_block ht 0
  have f1 : w.frozen? ⟨tb, 1, none⟩ = false := free_of_block ht 1
  have f2 : w.frozen? ⟨tb, 2, none⟩ = false := free_of_block ht 2
  clear ht
  refine callsD_of_wpS Tryz.func32 rfl fun c₀ cs hu => ?_
  rw [show (#[Value.pointer (some ⟨cb, 0, none⟩), Value.pointer (some ⟨tb, 0, none⟩)] ++ Array.replicate (Tryz.f32.ntmps - (#[Value.pointer (some ⟨cb, 0, none⟩), Value.pointer (some ⟨tb, 0, none⟩)] : Array Value).size) undef) = #[Value.pointer (some ⟨cb, 0, none⟩), Value.pointer (some ⟨tb, 0, none⟩), undef, undef, undef, undef, undef, undef, undef, undef, undef, undef, undef, undef, undef, undef] from rfl]
  apply wpS_seq
  apply wpS_region
  refine ops_rec (some 5) (.iface 68 (.int .i64 c)) ({ c₀ with mode := .panicking [{ v := .iface 68 (.int .i64 c), recovered := true }] } :: cs) rfl rfl (by rfl) (by kernel_rfl) (by simp [recoverD, hu, faultV]) ?_
  refine ops_val (some 6) (.tuple #[.int .i64 c, .bool true]) rfl rfl (by rfl) (by kernel_rfl) ?_
  refine ops_val (some 4) (.tuple #[.int .i64 c, .bool true]) rfl rfl (by rfl) (by rfl) ?_
  refine ops_val (some 7) (.int .i64 c) rfl rfl (by rfl) (by rfl) ?_
  refine ops_val (some 8) (.bool true) rfl rfl (by rfl) (by rfl) ?_
  refine ops_val (some 2) (.int .i64 c) rfl rfl (by rfl) (by rfl) ?_
  refine ops_val (some 3) (.bool true) rfl rfl (by rfl) (by rfl) ?_
  refine wpS_of_wp ?_
  simp only [Act.put, List.setIfInBounds_toArray, List.set_cons_zero, List.set_cons_succ]
  go_wp2
  exact ⟨rfl, _, rfl, .tuple #[], by first | exact results_none rfl _ _ _ | rfl | (simp [results]; rfl), rfl, rfl, rfl⟩

set_option maxRecDepth 100000 in
set_option maxHeartbeats 800000 in
theorem catchN (cb tb : Nat) (w : World) :
    CallsD Tryz.prog 32 #[.pointer (some ⟨cb, 0, none⟩), .pointer (some ⟨tb, 0, none⟩)] .returning w fun e u' w' =>
      e = .returned (.tuple #[]) ∧ u' = .returning ∧ w' = w := by
  refine callsD_of_wpS Tryz.func32 rfl fun c₀ cs hu => ?_
  rw [show (#[Value.pointer (some ⟨cb, 0, none⟩), Value.pointer (some ⟨tb, 0, none⟩)] ++ Array.replicate (Tryz.f32.ntmps - (#[Value.pointer (some ⟨cb, 0, none⟩), Value.pointer (some ⟨tb, 0, none⟩)] : Array Value).size) undef) = #[Value.pointer (some ⟨cb, 0, none⟩), Value.pointer (some ⟨tb, 0, none⟩), undef, undef, undef, undef, undef, undef, undef, undef, undef, undef, undef, undef, undef, undef] from rfl]
  apply wpS_seq
  apply wpS_region
  refine ops_none (some 5) rfl rfl (by rfl) (by kernel_rfl) (by simp [recoverD, hu]) ?_
  refine ops_val (some 6) (.tuple #[.int .i64 0, .bool false]) rfl rfl (by rfl) (by kernel_rfl) ?_
  refine ops_val (some 4) (.tuple #[.int .i64 0, .bool false]) rfl rfl (by rfl) (by rfl) ?_
  refine ops_val (some 7) (.int .i64 0) rfl rfl (by rfl) (by rfl) ?_
  refine ops_val (some 8) (.bool false) rfl rfl (by rfl) (by rfl) ?_
  refine ops_val (some 2) (.int .i64 0) rfl rfl (by rfl) (by rfl) ?_
  refine ops_val (some 3) (.bool false) rfl rfl (by rfl) (by rfl) ?_
  refine wpS_of_wp ?_
  simp only [Act.put, List.setIfInBounds_toArray, List.set_cons_zero, List.set_cons_succ]
  go_wp2
  exact ⟨rfl, .returning, by rw [← hu], .tuple #[], by first | exact results_none rfl _ _ _ | rfl | (simp [results]; rfl), rfl, rfl, rfl⟩

end Go.Proofs.YtcgnefgdfgikdaaGreat

namespace Go.Proofs.YtcgnefgdfgikdaaGreat
open Go.ChangeShapes Go.WideShapes Go.ChangeAt Go.RowKit

section
variable {P : Program} {ops : Array Oper} {Q : Exit → Act → World → Prop} {S : World → Prop} {f : Nat} {L : Array Bool} {a : Act} {w : World}
/-- A call and a new block, in either order. -/
theorem wh_callOrMake (jc jm : Nat) (dc dm : Option Tmp) {oc om : Oper} (F : FuncId) (args : Array Value) (v : Value) (w1 : World) (h1 : Region.ready .any ops L = [jc, jm]) (hoc : ops[jc]? = some oc) (hom : ops[jm]? = some om) (hdc : oc.dst = dc) (hdm : om.dst = dm) (hwc : Region.wanted oc (yielded ops a.tmps) = true) (hwm : Region.wanted om (yielded ops a.tmps) = true)
    (hrc : (execOp a.eval oc).run P w = .ok (.enter F args) w) (hrm : (execOp a.eval om).run P w = .ok (.value v) w1) (hS : S w1)
    (hC : Calls P F args w fun e w' => ∃ v, e = .returned v ∧ S w' ∧ WH P ops Q S f (L.setIfInBounds jc true) (a.put dc v) w')
    (hN : WH P ops Q S f (L.setIfInBounds jm true) (a.put dm v) w1) : WH P ops Q S (f + 1) L a w := by
  subst hdc hdm
  refine ⟨wpAnyH_all h1 (by simp) fun k hk => ?_⟩
  simp only [List.mem_cons, List.not_mem_nil, or_false] at hk
  rcases hk with rfl | rfl
  · refine wpOp_call hoc hwc hrc (hC.mono ?_)
    rintro e w' ⟨v, rfl, hS, hk⟩
    exact ⟨v, rfl, hS, hk.out⟩
  · exact wpOp_wp hom hwm (wp_val hrm ⟨hS, hN.out⟩)
theorem region_only {id : Nat} (h : (Code.region id ops true).wp P (fun e a w => e = .normal ∧ Q .normal a w) a w) : (Code.region id ops true).wp P Q a w :=
  fun b k cs => let ⟨e, a', w', q, r⟩ := h b k cs; ⟨e, a', w', by obtain ⟨rfl, q⟩ := q; exact q, r⟩
theorem wh_rest {α : Type} (F : α → Act) (G : α → World → Prop) (hrest : ∀ x w', G x w' → Q .normal (F x) w') (hgo : (∀ x w', G x w' → Q .normal (F x) w') → WH P ops Q S f L a w) : WH P ops Q S f L a w := hgo hrest
end

structure Shaped (M : Mod7) : Prop where
  ns : M.fs.length ≤ 20 ∧ M.gs.length ≤ 20
  fs : ∀ f ∈ M.fs, f.ps.length ≤ 20 ∧ f.ls.length ≤ 20 ∧ (eo f.body).isSome = true ∧ TyOk M (f.ps ++ f.ls) f.res

structure Stood (W w' V : World) (cb g : Nat) (E : EnvI) (own : List Int) (s : St) (vf : Value) : Prop where
  ci : CI w' g E 0 s vf
  env : EnvOk V g E own
  bv : Below V.heap.size V w'
  bw : Below W.heap.size W w'
  ge : W.heap.size ≤ g
  ne : cb ≠ g
  vb : E.vb = some (cb, #[.pointer (some ⟨g, 0, none⟩)])
theorem both_set {V w : World} {cb : Nat} {A : Array Value} {T : TypeId} (hb : Below V.heap.size V w) (hc : V.heap[cb]? = some (.cells A T (0, 0))) (p : Value) : Below (V.setCell ⟨cb, 0, none⟩ p).heap.size (V.setCell ⟨cb, 0, none⟩ p) (w.setCell ⟨cb, 0, none⟩ p) := by
  have hsz : (V.setCell ⟨cb, 0, none⟩ p).heap.size = V.heap.size := by simp [World.setCell]
  refine ⟨hb.os, hb.tape, hb.output, by simpa [World.setCell] using hb.size, fun k hk => ?_⟩
  rw [hsz] at hk
  by_cases e : k = cb
  · subst e
    rw [heap_setCell_same _ _ _ _ _ _ hc, heap_setCell_same _ _ _ _ _ _ ((hb.block k hk).trans hc)]
  · rw [heap_setCell_other _ ⟨cb, 0, none⟩ k _ e, heap_setCell_other _ ⟨cb, 0, none⟩ k _ e]
    exact hb.block k hk
theorem EnvOk.var {V : World} {g : Nat} {l : Loc7} {M : Mod7} {o : Value} {res : Int} {own : List Int} {v : Option (Nat × Array Value)} (h : EnvOk V g ⟨l, M, o, res, none⟩ own) : EnvOk V g ⟨l, M, o, res, v⟩ own := ⟨h.hm, h.ho, h.hg, h.ps, h.ns⟩
theorem stoodA {W w w1 V : World} {g : Nat} {l : Loc7} {M : Mod7} {o : Value} {res : Int} {own : List Int} {s : St} {vf : Value} (h : Begun w w1 V g ⟨l, M, o, res, none⟩ own s vf) (hW : Below W.heap.size W w) :
    Stood W ((w1.alloc (.cells #[.pointer none] 66)).setCell ⟨w1.heap.size, 0, none⟩ (.pointer (some ⟨g, 0, none⟩))) V w1.heap.size g ⟨l, M, o, res, some (w1.heap.size, #[.pointer (some ⟨g, 0, none⟩)])⟩ own s vf := by
  have hb : Below w1.heap.size w1 ((w1.alloc (.cells #[.pointer none] 66)).setCell ⟨w1.heap.size, 0, none⟩ (.pointer (some ⟨g, 0, none⟩))) := ((Below.refl _ _).alloc (Nat.le_refl _) _).setCell (Nat.le_refl _) _
  have hg := h.ci.lt
  refine ⟨⟨(h.ci.keep hb).1, fun b A e => ?_⟩, h.env.var, bel_step h.bv hb, bel_step (bel_step hW h.bw) hb, Nat.le_trans hW.size h.ge, by omega, rfl⟩
  simp only [Option.some.injEq, Prod.mk.injEq] at e
  obtain ⟨rfl, rfl⟩ := e
  exact heap_setCell_same _ _ _ _ _ _ (heap_alloc_new _ _)
theorem ck_other {w : World} {g c : Nat} {T fT : TypeId} {fs : Nat} {mk : Value → Value → Array Value} {R : List Value} {n : Nat} {Q : List Value} {vf : Value} (h : Ck w g T fT fs mk R n Q vf) (hc : c < g) (j : Nat) (u : Value) : Ck (w.setCell ⟨c, j, none⟩ u) g T fT fs mk R n Q vf := by
  obtain ⟨vs, h0, h1, h2⟩ := h
  refine ⟨vs, (heap_setCell_other _ ⟨c, j, none⟩ g _ (show g ≠ c by omega)).trans h0, own_keep h1 fun b hb => ?_, own_keep h2 fun b hb => ?_⟩
  · obtain ⟨_, _, hB⟩ := own_at h1 hb
    exact heap_setCell_other _ ⟨c, j, none⟩ b _ (show b ≠ c by omega)
  · obtain ⟨_, _, hB⟩ := own_at h2 hb
    exact heap_setCell_other _ ⟨c, j, none⟩ b _ (show b ≠ c by omega)
theorem stoodB {W w w1 V : World} {g : Nat} {l : Loc7} {M : Mod7} {o : Value} {res : Int} {own : List Int} {s : St} {vf : Value} (h : Begun (w.alloc (.cells #[.pointer none] 66)) w1 V g ⟨l, M, o, res, none⟩ own s vf) (hW : Below W.heap.size W w) (hM : ModAt W l M) :
    Stood W (w1.setCell ⟨w.heap.size, 0, none⟩ (.pointer (some ⟨g, 0, none⟩))) (V.setCell ⟨w.heap.size, 0, none⟩ (.pointer (some ⟨g, 0, none⟩))) w.heap.size g ⟨l, M, o, res, some (w.heap.size, #[.pointer (some ⟨g, 0, none⟩)])⟩ own s vf := by
  have hg : w.heap.size < g := by have := h.ge; simp at this; omega
  have hws : w.heap.size < (w.alloc (.cells #[.pointer none] 66)).heap.size := by simp
  have hV : V.heap[w.heap.size]? = some (.cells #[.pointer none] 66 (0, 0)) := (h.bV.block _ hws).trans (heap_alloc_new _ _)
  have hw1 : w1.heap[w.heap.size]? = some (.cells #[.pointer none] 66 (0, 0)) := (h.bw.block _ hws).trans (heap_alloc_new _ _)
  have hWa : Below W.heap.size W (w.alloc (.cells #[.pointer none] 66)) := hW.alloc hW.size _
  have hWV : Below W.heap.size W (V.setCell ⟨w.heap.size, 0, none⟩ (.pointer (some ⟨g, 0, none⟩))) := (bel_step hWa h.bV).setCell hW.size _
  refine ⟨⟨ck_other h.ci.1 hg _ _, fun b A e => ?_⟩, ⟨hM.below hWV, ?_, ?_, h.env.ps, h.env.ns⟩, both_set h.bv hV _, (bel_step hWa h.bw).setCell hW.size _, by have := hW.size; omega, by omega, rfl⟩
  · simp only [Option.some.injEq, Prod.mk.injEq] at e
    obtain ⟨rfl, rfl⟩ := e
    exact heap_setCell_same _ _ _ _ _ _ hw1
  · obtain ⟨oa, oc, e1, e2, e3⟩ := h.ow
    exact ⟨oa, oc, e1, e2.set (fun b off he => by have := e3 b off he; omega) _ _⟩
  · have := h.env.hg; simpa [World.setCell] using this

theorem inv_first {res : Int} (h : res = 64 ∨ (125 ≤ res ∧ res ≤ 127)) : Inv [true] (firstS res) 0 := by
  refine ⟨?_, ⟨?_, ?_, ?_, ?_⟩, by simp [firstS, beginS], by simp [firstS, beginS]⟩
  · simp [Par, firstS, beginS]
  · intro t ht; simp [firstS, beginS] at ht
  · intro b hb; simp [firstS, beginS] at hb; subst hb; exact h
  · simp [downs, firstS, beginS]
  · intro b hb hs; simp [firstS, beginS] at hb; subst hb; simp at hs
/-- A check of f that is under way: ahead of instruction j. -/
def Going (M : Mod7) (f : Fun7) (g : Nat) (E : EnvI) (j : Nat) (w : World) : Prop :=
  ∃ s F vf at_, runS M (f.ps ++ f.ls) f.res 0 f.body (firstS f.res) = runS M (f.ps ++ f.ls) f.res j (f.body.drop j) s ∧ Inv F s j ∧ goodW F (ops (f.body.drop j)) ∧ CI w g E at_ s vf
theorem CI.at {w : World} {g : Nat} {E : EnvI} {at_ : Int} {s : St} {vf : Value} (h : CI w g E at_ s vf) (k : Int) : CI (w.setCell ⟨g, 8, none⟩ (.int .i64 k)) g E k s vf := by
  obtain ⟨⟨vs, h0, h1, h2⟩, hv⟩ := h
  exact ⟨ck_set h0 (mk' := mkI E k s.most) (vf' := vf) (vs' := vs) 8 _ rfl h1 h2, hv.set h0 (by decide) _ _⟩

theorem verd_set {w : World} {tb : Nat} {x0 x1 x2 : Int} (h : w.heap[tb]? = some (.cells (verdV x0 x1 x2) 51 (0, 0))) (c k m : Int) : (((w.setCell ⟨tb, 0, none⟩ (.int .i64 c)).setCell ⟨tb, 1, none⟩ (.int .i64 k)).setCell ⟨tb, 2, none⟩ (.int .i64 m)).heap[tb]? = some (.cells (verdV c k m) 51 (0, 0)) := by
  have h1 := heap_setCell_same _ _ 0 _ _ (.int .i64 c) h
  have h2 := heap_setCell_same _ _ 1 _ _ (.int .i64 k) h1
  exact heap_setCell_same _ _ 2 _ _ (.int .i64 m) h2
theorem verd_read {w : World} {tb : Nat} {c k m : Int} {tmps : Array Value} (ht : tmps[4]? = some (.pointer (some ⟨tb, 0, none⟩))) (h : w.heap[tb]? = some (.cells (verdV c k m) 51 (0, 0))) : (results Tryz.f15 tmps).run Tryz.prog w = .ok (.agg (verdV c k m)) w := by
  have q0 : w.cell? ⟨tb, 0, none⟩ = some (.int .i64 c) := (cell_of_block h 0).trans rfl
  have q1 : w.cell? ⟨tb, 1, none⟩ = some (.int .i64 k) := (cell_of_block h 1).trans rfl
  have q2 : w.cell? ⟨tb, 2, none⟩ = some (.int .i64 m) := (cell_of_block h 2).trans rfl
  simp [results, Tryz.results15, go_sem, ht, q0, q1, q2, verdV]

set_option maxRecDepth 100000 in
set_option maxHeartbeats 3200000 in
theorem verdictI (l : Loc7) (M : Mod7) (k : Nat) (f : Fun7) (w : World) (hM : ModAt w l M) (hk : k < M.fs.length) (hf : M.fs[k] = f) (hS : Hid (Shaped M)) :
    Calls Tryz.prog 15 #[.agg #[.slice l.fa M.fs.length l.fc, .slice l.ga M.gs.length l.gc, .bool M.mem, .int .i64 M.pages, .int .i64 M.most, .int .i64 M.start], .int .i64 (k : Int)] w fun e w' =>
      e = .returned (.agg (verdV (checkS M f).1 (checkS M f).2.1 (checkS M f).2.2)) ∧ Below w.heap.size w w' := by
  have hmf : ∀ (fn : Fn) (first cap : Array Value) (w : World), (Instr.makeFunc fn first cap).run Tryz.prog w = .ok (.func fn first cap) w := fun _ _ _ _ => rfl
  obtain ⟨z, hz⟩ : ∃ z, w.heap.size = z := ⟨_, rfl⟩
  obtain ⟨b, off, hfa, hb, pa, pc, la, lc, ba, bc, c0, c1, c2, c3, hrow⟩ := hM.1.at k hk
  rw [hf] at c0 c1 c2 c3 hrow
  have hfm : f ∈ M.fs := by rw [← hf]; exact List.getElem_mem _
  obtain ⟨q1, q2, q3, q4⟩ := hS.out.fs f hfm
  have hn2 := hS.out.ns
  have hp2 : ∀ f ∈ M.fs, f.ps.length ≤ 20 := fun f hf => (hS.out.fs f hf).1
  obtain ⟨ln, hln⟩ : ∃ n, M.fs.length = n := ⟨_, rfl⟩
  have hkl : (k : Int) < (ln : Int) := by omega
  obtain ⟨nb, hnb⟩ : ∃ n, f.body.length = n := ⟨_, rfl⟩
  obtain ⟨W, hW⟩ : ∃ W, (w.alloc (.cells #[.slice l.fa M.fs.length l.fc, .slice l.ga M.gs.length l.gc, .bool M.mem, .int .i64 M.pages, .int .i64 M.most, .int .i64 M.start] 26)).alloc (.cells #[.int .i64 1, .int .i64 0, .int .i64 0] 51) = W := ⟨_, rfl⟩
  have hb0 : Below w.heap.size w W := by rw [← hW]; exact bel_new _ _ _
  have hx : W.heap[z]? = some (.cells #[.slice l.fa M.fs.length l.fc, .slice l.ga M.gs.length l.gc, .bool M.mem, .int .i64 M.pages, .int .i64 M.most, .int .i64 M.start] 26 (0, 0)) := by rw [← hW, ← hz]; exact (Below.heap_alloc _ _ _ (by simp)).trans (heap_alloc_new _ _)
  have hy : W.heap[z + 1]? = some (.cells (verdV 1 0 0) 51 (0, 0)) := by
    rw [← hW, ← hz]
    show _ = some (Obj.cells #[.int .i64 1, .int .i64 0, .int .i64 0] 51 (0, 0))
    have h := heap_alloc_new (w.alloc (.cells #[.slice l.fa M.fs.length l.fc, .slice l.ga M.gs.length l.gc, .bool M.mem, .int .i64 M.pages, .int .i64 M.most, .int .i64 M.start] 26)) (.cells #[.int .i64 1, .int .i64 0, .int .i64 0] 51)
    simpa using h
  have hltx := lt_of_block hx
  have hbW : b < W.heap.size := Nat.lt_of_lt_of_le hb hb0.size
  have kx0 : ∀ w', Keeps W w' → w'.cell? ⟨z, 0, none⟩ = some (.slice l.fa M.fs.length l.fc) := fun w' h => h.cell hltx ((cell_of_block hx 0).trans rfl)
  have kx1 : ∀ w', Keeps W w' → w'.cell? ⟨z, 1, none⟩ = some (.slice l.ga M.gs.length l.gc) := fun w' h => h.cell hltx ((cell_of_block hx 1).trans rfl)
  have kx2 : ∀ w', Keeps W w' → w'.cell? ⟨z, 2, none⟩ = some (.bool M.mem) := fun w' h => h.cell hltx ((cell_of_block hx 2).trans rfl)
  have kx3 : ∀ w', Keeps W w' → w'.cell? ⟨z, 3, none⟩ = some (.int .i64 M.pages) := fun w' h => h.cell hltx ((cell_of_block hx 3).trans rfl)
  have kx4 : ∀ w', Keeps W w' → w'.cell? ⟨z, 4, none⟩ = some (.int .i64 M.most) := fun w' h => h.cell hltx ((cell_of_block hx 4).trans rfl)
  have kx5 : ∀ w', Keeps W w' → w'.cell? ⟨z, 5, none⟩ = some (.int .i64 M.start) := fun w' h => h.cell hltx ((cell_of_block hx 5).trans rfl)
  have kc0 : ∀ w', Keeps W w' → w'.cell? ⟨b, off + k * 4, none⟩ = some (.slice pa f.ps.length pc) := fun w' h => h.cell hbW ((hb0.cell (p := ⟨b, off + k * 4, none⟩) hb).trans c0)
  have kc1 : ∀ w', Keeps W w' → w'.cell? ⟨b, off + k * 4 + 1, none⟩ = some (.int .i64 f.res) := fun w' h => h.cell hbW ((hb0.cell (p := ⟨b, off + k * 4 + 1, none⟩) hb).trans c1)
  have kc2 : ∀ w', Keeps W w' → w'.cell? ⟨b, off + k * 4 + 2, none⟩ = some (.slice la f.ls.length lc) := fun w' h => h.cell hbW ((hb0.cell (p := ⟨b, off + k * 4 + 2, none⟩) hb).trans c2)
  have kc3 : ∀ w', Keeps W w' → w'.cell? ⟨b, off + k * 4 + 3, none⟩ = some (.slice ba f.body.length bc) := fun w' h => h.cell hbW ((hb0.cell (p := ⟨b, off + k * 4 + 3, none⟩) hb).trans c3)
  have HR : Hid (FunRows W pa la ba f) := hrow.out.below hb0
  have HM : Hid (ModAt W l M) := hM.below hb0
  have HY : Hid (W.heap[z + 1]? = some (.cells (verdV 1 0 0) 51 (0, 0))) := hy
  have HB0 : Hid (Below w.heap.size w W ∧ w.heap.size = z) := ⟨hb0, hz⟩
  have HW : Hid ((w.alloc (.cells #[.slice l.fa M.fs.length l.fc, .slice l.ga M.gs.length l.gc, .bool M.mem, .int .i64 M.pages, .int .i64 M.most, .int .i64 M.start] 26)).alloc (.cells #[.int .i64 1, .int .i64 0, .int .i64 0] 51) = W) := hW
  have HFA : Hid (l.fa = some ⟨b, off, none⟩ ∧ M.fs.length = ln ∧ k < ln ∧ b < w.heap.size) := ⟨hfa, hln, by omega, hb⟩
  have HN : Hid (f.body.length = nb) := hnb
  have HQ : Hid (f.ps.length ≤ 20 ∧ f.ls.length ≤ 20 ∧ (eo f.body).isSome = true ∧ TyOk M (f.ps ++ f.ls) f.res) := ⟨q1, q2, q3, q4⟩
  clear hM hk hf hz hrow hfm q1 q2 q3 q4 hW hb0 hx hy hltx hbW c0 c1 c2 c3 hfa hln hb hnb
  go_enter_defers Tryz.func15, Tryz.ntmps15
  go_wp2_with fail
  rw [HB0.out.2, HW.out]
  refine region_only ?_
  refine wh_begin (Keeps W) (by kernel_rfl) ?_
  have hS0 : Keeps W W.drew := Keeps.drew W
  refine wh_take 0 (some 9) (.agg #[.slice l.fa M.fs.length l.fc, .slice l.ga M.gs.length l.gc, .bool M.mem, .int .i64 M.pages, .int .i64 M.most, .int .i64 M.start]) rfl rfl (by kernel_rfl) (by kernel_rfl) (by kernel_rfl) (fun _ _ _ h => nomatch h.1) hS0 (by rfl) (fun w' hS => by have q0 := kx0 _ hS; have q1 := kx1 _ hS; have q2 := kx2 _ hS; have q3 := kx3 _ hS; have q4 := kx4 _ hS; have q5 := kx5 _ hS; go_simp) ?_
  simp only [Act.put, List.setIfInBounds_toArray, List.set_cons_zero, List.set_cons_succ]
  refine wh_take 1 (some 10) (.pointer (some ⟨z, 0, none⟩)) rfl rfl (by kernel_rfl) (by kernel_rfl) (by kernel_rfl) (fun _ _ _ h => nomatch h.1) hS0 (by rfl) (fun _ _ => by kernel_rfl) ?_
  simp only [Act.put, List.setIfInBounds_toArray, List.set_cons_zero, List.set_cons_succ]
  refine wh_take 2 (some 11) (.slice l.fa M.fs.length l.fc) rfl rfl (by kernel_rfl) (by kernel_rfl) (by kernel_rfl) (fun _ _ _ h => nomatch h.1) hS0 (by rfl) (fun w' hS => by have q0 := kx0 _ hS; go_simp) ?_
  simp only [Act.put, List.setIfInBounds_toArray, List.set_cons_zero, List.set_cons_succ]
  refine wh_take 3 (some 12) (.int .i64 (k : Int)) rfl rfl (by kernel_rfl) (by kernel_rfl) (by kernel_rfl) (fun _ _ _ h => nomatch h.1) hS0 (by rfl) (fun _ _ => by rfl) ?_
  simp only [Act.put, List.setIfInBounds_toArray, List.set_cons_zero, List.set_cons_succ]
  refine wh_take 4 (some 13) (.pointer (some ⟨b, off + k * 4, none⟩)) rfl rfl (by kernel_rfl) (by kernel_rfl) (by kernel_rfl) (fun _ _ _ h => nomatch h.1) hS0 (by rfl) (fun w' _ => by rw [HFA.out.1, HFA.out.2.1]; go_simp) ?_
  simp only [Act.put, List.setIfInBounds_toArray, List.set_cons_zero, List.set_cons_succ]
  refine wh_take 5 (some 14) (.agg #[.slice pa f.ps.length pc, .int .i64 f.res, .slice la f.ls.length lc, .slice ba f.body.length bc]) rfl rfl (by kernel_rfl) (by kernel_rfl) (by kernel_rfl) (fun _ _ _ h => nomatch h.1) hS0 (by rfl) (fun w' hS => by have q0 := kc0 _ hS; have q1 := kc1 _ hS; have q2 := kc2 _ hS; have q3 := kc3 _ hS; go_simp) ?_
  simp only [Act.put, List.setIfInBounds_toArray, List.set_cons_zero, List.set_cons_succ]
  refine wh_rest (α := Nat × Nat) (fun x => ⟨#[.agg #[.slice l.fa M.fs.length l.fc, .slice l.ga M.gs.length l.gc, .bool M.mem, .int .i64 M.pages, .int .i64 M.most, .int .i64 M.start], .int .i64 (k : Int), .pointer (some ⟨z, 0, none⟩), undef, .pointer (some ⟨z + 1, 0, none⟩), .pointer (some ⟨x.1, 0, none⟩), undef, undef, .pointer (some ⟨z + 1, 0, none⟩), .agg #[.slice l.fa M.fs.length l.fc, .slice l.ga M.gs.length l.gc, .bool M.mem, .int .i64 M.pages, .int .i64 M.most, .int .i64 M.start], .pointer (some ⟨z, 0, none⟩), .slice l.fa M.fs.length l.fc, .int .i64 (k : Int), .pointer (some ⟨b, off + k * 4, none⟩), .agg #[.slice pa f.ps.length pc, .int .i64 f.res, .slice la f.ls.length lc, .slice ba f.body.length bc], .pointer (some ⟨x.2, 0, none⟩), undef, undef, undef, undef, undef, undef, undef, undef, undef, undef, undef, undef, undef, undef, undef, undef, undef, undef, undef, undef, undef, undef, undef, undef, undef, undef], []⟩) (fun x w' => ∃ own V vf, Stood W w' V x.1 x.2 ⟨l, M, own, f.res, some (x.1, #[.pointer (some ⟨x.2, 0, none⟩)])⟩ (f.ps ++ f.ls) (firstS f.res) vf) ?_ ?_
  · rintro ⟨cb, g⟩ w2 ⟨own, V, vf, hst⟩
    refine ⟨rfl, ?_⟩
    simp only at hst ⊢
    have hkk : Keeps W w2 := ⟨hst.bw⟩
    have x0 : w2.cell? ⟨z, 0, none⟩ = some (.slice (some ⟨b, off, none⟩) ln l.fc) := by have h := kx0 _ hkk; rw [HFA.out.1, HFA.out.2.1] at h; exact h
    have x3 : w2.cell? ⟨b, off + k * 4 + 3, none⟩ = some (.slice ba nb bc) := by have h := kc3 _ hkk; rw [HN.out] at h; exact h
    have HST : Hid (Stood W w2 V cb g ⟨l, M, own, f.res, some (cb, #[.pointer (some ⟨g, 0, none⟩)])⟩ (f.ps ++ f.ls) (firstS f.res) vf) := hst
    obtain ⟨gw, gg, gl⟩ := goodW_body HQ.out.2.2.1
    have hnb : nb ≤ 200 := by have := HN.out; omega
    have G0 : Hid (Going M f g ⟨l, M, own, f.res, some (cb, #[.pointer (some ⟨g, 0, none⟩)])⟩ 0 w2) := ⟨firstS f.res, [true], vf, 0, rfl, inv_first HQ.out.2.2.2.res, gw, hst.ci⟩
    have GG : Hid (∀ k (hk : k < f.body.length), gi f.body[k].1 f.body[k].2 = true) := gg
    clear kx0 kx1 kx2 kx3 kx4 kx5 kc0 kc1 kc2 kc3 hkk hst gw gg gl hS0 hn2 hp2
    go_wp2
    clear x0 x3
    go_loopw [24] (fun i wr => ∃ j : Nat, j ≤ nb ∧ i = .int .i64 (j : Int) ∧ Hid (Going M f g ⟨l, M, own, f.res, some (cb, #[.pointer (some ⟨g, 0, none⟩)])⟩ j wr) ∧ Hid (Below g w2 wr)) (fun i _ => nb - (intOf i).toNat)
    case atStart => exact ⟨0, by omega, rfl, G0, Below.refl _ _⟩
    case round =>
      obtain ⟨j, hj, rfl, hG, hB⟩ := hrel
      by_cases hlt : j < nb
      · have hjL : j < f.body.length := by have := HN.out; omega
        obtain ⟨s, F, vf', at_, hrun, hinv, hgw, hci⟩ := hG.out
        obtain ⟨bb, bo, hba, hbb, hat⟩ := HR.out.2.2 (fun e => by rw [e] at hjL; simp at hjL)
        have hdr : f.body.drop j = f.body[j] :: f.body.drop (j + 1) := List.drop_eq_getElem_cons hjL
        have hgi := GG.out j hjL
        obtain ⟨h1, h2⟩ := hat j hjL
        obtain ⟨x, hx⟩ : ∃ x, x = f.body[j] := ⟨_, rfl⟩
        rw [hdr, ← hx] at hrun hgw
        rw [← hx] at hgi h1 h2
        obtain ⟨op, a⟩ := x
        simp only at hgi h1 h2
        have hgw2 : ∃ F', fl F op = some F' ∧ goodW F' (ops (f.body.drop (j + 1))) := hgw
        obtain ⟨F', hfl, hgw'⟩ := hgw2
        obtain ⟨b1, r1, f1, T1, hs, hF, _, _⟩ := par_top hinv.par hfl
        have hgW := HST.out.ge
        have hlow := hinv.fine.low
        rw [hs] at hlow
        have HMT : Hid (Meet V g ⟨l, M, own, f.res, some (cb, #[.pointer (some ⟨g, 0, none⟩)])⟩ (f.ps ++ f.ls) s b1 r1 op a) := ⟨HST.out.env, hs, ⟨by have := hinv.nv; omega, by have := hinv.no; omega⟩, hinv.fine.vals, hlow.1, fun j b hb => hinv.fine.sp b (List.mem_of_getElem? hb)⟩
        have d0 : wr.cell? ⟨bb, bo + j * 2, none⟩ = some (.int .i64 op) := ((hB.out.cell (p := ⟨bb, bo + j * 2, none⟩) (show bb < g by omega)).trans (HST.out.bw.cell (p := ⟨bb, bo + j * 2, none⟩) hbb)).trans h1
        have d1 : wr.cell? ⟨bb, bo + j * 2 + 1, none⟩ = some (.int .i64 a) := ((hB.out.cell (p := ⟨bb, bo + j * 2 + 1, none⟩) (show bb < g by omega)).trans (HST.out.bw.cell (p := ⟨bb, bo + j * 2 + 1, none⟩) hbb)).trans h2
        have hbA : Below wr.heap.size wr (wr.alloc (.cells #[.int .i64 op, .int .i64 a] 41)) := (Below.refl _ _).alloc (Nat.le_refl _) _
        have hciA := hci.keep hbA
        have hvA := hciA.2 cb _ rfl
        have hglt := hci.lt
        have hcb := lt_of_block (hci.2 cb _ rfl)
        have hne := HST.out.ne
        have v1 : (wr.alloc (.cells #[.int .i64 op, .int .i64 a] 41)).cell? ⟨cb, 0, none⟩ = some (.pointer (some ⟨g, 0, none⟩)) := (cell_of_block hvA 0).trans rfl
        have hszY : (wr.setCell ⟨g, 8, none⟩ (.int .i64 (j : Int))).heap.size = wr.heap.size := by simp [World.setCell]
        have hbZ : Below (wr.setCell ⟨g, 8, none⟩ (.int .i64 (j : Int))).heap.size (wr.setCell ⟨g, 8, none⟩ (.int .i64 (j : Int))) ((wr.setCell ⟨g, 8, none⟩ (.int .i64 (j : Int))).alloc (.cells #[.int .i64 op, .int .i64 a] 41)) := (Below.refl _ _).alloc (Nat.le_refl _) _
        have hciZ := (hci.at (j : Int)).keep hbZ
        have v2 : ((wr.setCell ⟨g, 8, none⟩ (.int .i64 (j : Int))).alloc (.cells #[.int .i64 op, .int .i64 a] 41)).cell? ⟨cb, 0, none⟩ = some (.pointer (some ⟨g, 0, none⟩)) := (cell_of_block (hciZ.2 cb _ rfl) 0).trans rfl
        have hnz := heap_alloc_new (wr.setCell ⟨g, 8, none⟩ (.int .i64 (j : Int))) (.cells #[.int .i64 op, .int .i64 a] 41)
        rw [hszY] at hnz
        have v3 : ((wr.setCell ⟨g, 8, none⟩ (.int .i64 (j : Int))).alloc (.cells #[.int .i64 op, .int .i64 a] 41)).cell? ⟨wr.heap.size, 0, none⟩ = some (.int .i64 op) := (cell_of_block hnz 0).trans rfl
        have v4 : ((wr.setCell ⟨g, 8, none⟩ (.int .i64 (j : Int))).alloc (.cells #[.int .i64 op, .int .i64 a] 41)).cell? ⟨wr.heap.size, 1, none⟩ = some (.int .i64 a) := (cell_of_block hnz 1).trans rfl
        obtain ⟨⟨vs, g0, _, _⟩, _⟩ := hciA
        have v5 : (wr.alloc (.cells #[.int .i64 op, .int .i64 a] 41)).cell? ⟨g, 8, none⟩ = some (.int .i64 at_) := (cell_of_block g0 8).trans rfl
        have v6 : (wr.alloc (.cells #[.int .i64 op, .int .i64 a] 41)).frozen? ⟨g, 8, none⟩ = false := free_of_block g0 8
        have hbB : Below g w2 ((wr.setCell ⟨g, 8, none⟩ (.int .i64 (j : Int))).alloc (.cells #[.int .i64 op, .int .i64 a] 41)) := (hB.out.setCell (Nat.le_refl _) _).trans (hbZ.mono (by rw [hszY]; exact Nat.le_of_lt hglt))
        have hVB : Below V.heap.size V ((wr.setCell ⟨g, 8, none⟩ (.int .i64 (j : Int))).alloc (.cells #[.int .i64 op, .int .i64 a] 41)) := HST.out.bv.trans (hbB.mono HST.out.env.hg)
        have T := stepI V g ⟨l, M, own, f.res, some (cb, #[.pointer (some ⟨g, 0, none⟩)])⟩ (j : Int) s (f.ps ++ f.ls) b1 r1 op a vf' _ hciZ hVB HMT hgi
        have HBB : Hid (Below g w2 ((wr.setCell ⟨g, 8, none⟩ (.int .i64 (j : Int))).alloc (.cells #[.int .i64 op, .int .i64 a] 41))) := hbB
        have HI : Hid (runS M (f.ps ++ f.ls) f.res 0 f.body (firstS f.res) = runS M (f.ps ++ f.ls) f.res j ((op, a) :: f.body.drop (j + 1)) s ∧ Inv F s j ∧ fl F op = some F' ∧ goodW F' (ops (f.body.drop (j + 1))) ∧ gi op a = true) := ⟨hrun, hinv, hfl, hgw', hgi⟩
        subst hba
        clear hszY hbZ hciZ hnz hrun hinv hgw hci hbb hat hdr hgi h1 h2 hx hgw' hfl hs hF hgW hlow hbA hvA g0 hbB hVB HMT hG hjL
        go_wp2_with fail
        refine T.mono ?_
        rintro e w3 ⟨hb3, ho⟩
        have HB3 : Hid (Below g w2 w3) := HBB.out.trans hb3
        clear T hb3 d0 d1 v1 v2 v3 v4 v5 v6 hB
        rcases hr : stepS M (f.ps ++ f.ls) f.res op a s with c | s1
        · simp only [hr] at ho
          obtain ⟨rfl, s', vf2, hci'⟩ := ho
          have HCK : Hid (checkS M f = (c, (j : Int), 0)) := by unfold Hid checkS; rw [HI.out.1]; simp only [runS, hr]
          have hv3 : w3.cell? ⟨cb, 0, none⟩ = some (.pointer (some ⟨g, 0, none⟩)) := (cell_of_block (hci'.2 cb _ rfl) 0).trans rfl
          obtain ⟨⟨vs3, g3, _, _⟩, _⟩ := hci'
          have h83 : w3.cell? ⟨g, 8, none⟩ = some (.int .i64 (j : Int)) := (cell_of_block g3 8).trans rfl
          have hzl := lt_of_block HY.out
          have hgW := HST.out.ge
          have HYR : Hid (w3.heap[z + 1]? = some (.cells (verdV 1 0 0) 51 (0, 0))) := ((HB3.out.block _ (by omega)).trans (HST.out.bw.block _ hzl)).trans HY.out
          have HZ : Hid (z + 1 < W.heap.size ∧ W.heap.size ≤ g) := ⟨hzl, hgW⟩
          have T3 := catchF cb (z + 1) g c (j : Int) 1 0 0 w3 hv3 h83 HYR.out
          clear hr g3 hzl hgW hv3 h83
          go_wp2
          refine leaves_cons (f := 32) (args := #[.pointer (some ⟨cb, 0, none⟩), .pointer (some ⟨z + 1, 0, none⟩)]) (by simp) (by simp [go_sem]) ?_
          refine T3.mono ?_
          rintro e u' w'' ⟨rfl, rfl, rfl⟩
          refine ⟨_, verd_read (by rfl) (verd_set HYR.out c (j : Int) 0), by rw [HCK.out], ?_⟩
          have hbz := HB0.out.1.trans ((HST.out.bw.mono HB0.out.1.size).trans (HB3.out.mono (by have := HZ.out; have := HB0.out; omega)))
          exact ((hbz.setCell (show w.heap.size ≤ z + 1 by have := HB0.out.2; omega) _).setCell (show w.heap.size ≤ z + 1 by have := HB0.out.2; omega) _).setCell (show w.heap.size ≤ z + 1 by have := HB0.out.2; omega) _
        · simp only [hr] at ho
          obtain ⟨rfl, vf2, hci'⟩ := ho
          have HG : Hid (Going M f g ⟨l, M, own, f.res, some (cb, #[.pointer (some ⟨g, 0, none⟩)])⟩ (j + 1) w3) := ⟨s1, F', vf2, _, by rw [HI.out.1]; simp only [runS, hr], inv_step hr HI.out.2.1 HI.out.2.2.1 HI.out.2.2.2.2 HQ.out.2.2.2, HI.out.2.2.2.1, hci'⟩
          clear hr hci'
          go_wp2
          go_roundw
          case rel => exact ⟨j + 1, by omega, by go_num, HG, HB3⟩
          case measure => simp [intOf]; omega
      · obtain ⟨s, F, vf', at_, hrun, hinv, hgw, hci⟩ := hG.out
        have hjn : j = nb := by omega
        have hdr : f.body.drop j = [] := List.drop_of_length_le (by have := HN.out; omega)
        rw [hdr] at hrun
        have HCK : Hid (checkS M f = (0, 0, (s.most : Int))) := by unfold Hid checkS; rw [hrun]; rfl
        have hvA := hci.2 cb _ rfl
        have v1 : wr.cell? ⟨cb, 0, none⟩ = some (.pointer (some ⟨g, 0, none⟩)) := (cell_of_block hvA 0).trans rfl
        obtain ⟨⟨vs, g0, _, _⟩, _⟩ := hci
        have v2 : wr.cell? ⟨g, 11, none⟩ = some (.int .i64 (s.most : Int)) := (cell_of_block g0 11).trans rfl
        have hzl := lt_of_block HY.out
        have hgW := HST.out.ge
        have hyr : wr.heap[z + 1]? = some (.cells (verdV 1 0 0) 51 (0, 0)) := ((hB.out.block _ (by omega)).trans (HST.out.bw.block _ hzl)).trans HY.out
        have y0 : wr.cell? ⟨z + 1, 0, none⟩ = some (.int .i64 1) := (cell_of_block hyr 0).trans rfl
        have y1 : wr.cell? ⟨z + 1, 1, none⟩ = some (.int .i64 0) := (cell_of_block hyr 1).trans rfl
        have y2 : wr.cell? ⟨z + 1, 2, none⟩ = some (.int .i64 0) := (cell_of_block hyr 2).trans rfl
        have y3 : wr.frozen? ⟨z + 1, 0, none⟩ = false := free_of_block hyr 0
        have y4 : wr.frozen? ⟨z + 1, 1, none⟩ = false := free_of_block hyr 1
        have y5 : wr.frozen? ⟨z + 1, 2, none⟩ = false := free_of_block hyr 2
        have HZ : Hid (z + 1 < W.heap.size ∧ W.heap.size ≤ g) := ⟨hzl, hgW⟩
        have HYR : Hid (wr.heap[z + 1]? = some (.cells (verdV 1 0 0) 51 (0, 0))) := hyr
        clear hrun hinv hgw hdr hvA g0 hzl hgW hyr hG
        go_wp2
        refine leaves_cons (f := 32) (args := #[.pointer (some ⟨cb, 0, none⟩), .pointer (some ⟨z + 1, 0, none⟩)]) (by simp) (by simp [go_sem]) ?_
        refine (catchN cb (z + 1) _).mono ?_
        rintro e u' w'' ⟨rfl, rfl, rfl⟩
        refine ⟨_, verd_read (by rfl) (verd_set HYR.out 0 0 (s.most : Int)), by rw [HCK.out], ?_⟩
        have hbz := HB0.out.1.trans ((HST.out.bw.mono HB0.out.1.size).trans (hB.out.mono (by have := HZ.out; have := HB0.out; omega)))
        exact ((hbz.setCell (show w.heap.size ≤ z + 1 by have := HB0.out.2; omega) _).setCell (show w.heap.size ≤ z + 1 by have := HB0.out.2; omega) _).setCell (show w.heap.size ≤ z + 1 by have := HB0.out.2; omega) _
  · intro REST
    have HRS := REST
    clear REST
    have hS1 : Keeps W (W.drew.alloc (.cells #[.pointer none] 66)) := hS0.step ((Below.refl _ _).alloc (Nat.le_refl _) _)
    refine wh_callOrMake 6 7 (some 15) (some 5) 31 #[.agg #[.slice l.fa M.fs.length l.fc, .slice l.ga M.gs.length l.gc, .bool M.mem, .int .i64 M.pages, .int .i64 M.most, .int .i64 M.start], .agg #[.slice pa f.ps.length pc, .int .i64 f.res, .slice la f.ls.length lc, .slice ba f.body.length bc]] (.pointer (some ⟨W.drew.heap.size, 0, none⟩)) (W.drew.alloc (.cells #[.pointer none] 66)) (by kernel_rfl) rfl rfl rfl rfl (by rfl) (by rfl) (by kernel_rfl) (by kernel_rfl) hS1 ?_ ?_
    · refine (newI l M f pa la ba pc lc bc W.drew (HM.out.below hS0.below) (HR.out.below hS0.below) HQ.out.1 HQ.out.2.1 hp2 hn2).mono ?_
      rintro e w1 ⟨g, own, V, vf, rfl, hbg⟩
      have hSa : Keeps W w1 := hS0.step hbg.bw
      refine ⟨_, rfl, hSa, ?_⟩
      simp only [Act.put, List.setIfInBounds_toArray, List.set_cons_zero, List.set_cons_succ]
      have hSb : Keeps W (w1.alloc (.cells #[.pointer none] 66)) := hSa.step ((Below.refl _ _).alloc (Nat.le_refl _) _)
      refine wh_val 7 (some 5) (.pointer (some ⟨w1.heap.size, 0, none⟩)) (w1.alloc (.cells #[.pointer none] 66)) (by kernel_rfl) rfl rfl (by rfl) (by kernel_rfl) hSb ?_
      simp only [Act.put, List.setIfInBounds_toArray, List.set_cons_zero, List.set_cons_succ]
      have d0 : (w1.alloc (.cells #[.pointer none] 66)).cell? ⟨w1.heap.size, 0, none⟩ = some (.pointer none) := newCell rfl rfl
      have d1 : (w1.alloc (.cells #[.pointer none] 66)).frozen? ⟨w1.heap.size, 0, none⟩ = false := free_of_block (heap_alloc_new _ _) 0
      refine wh_skip 8 none ((w1.alloc (.cells #[.pointer none] 66)).setCell ⟨w1.heap.size, 0, none⟩ (.pointer (some ⟨g, 0, none⟩))) (by kernel_rfl) rfl rfl (by rfl) (by go_simp) (hSa.step (((Below.refl _ _).alloc (Nat.le_refl _) _).setCell (Nat.le_refl _) _)) ?_
      refine wh_done (by kernel_rfl) (HRS (w1.heap.size, g) _ ⟨own, V, vf, stoodA hbg hS0.below⟩)
    · simp only [Act.put, List.setIfInBounds_toArray, List.set_cons_zero, List.set_cons_succ]
      refine wh_call 6 (some 15) 31 #[.agg #[.slice l.fa M.fs.length l.fc, .slice l.ga M.gs.length l.gc, .bool M.mem, .int .i64 M.pages, .int .i64 M.most, .int .i64 M.start], .agg #[.slice pa f.ps.length pc, .int .i64 f.res, .slice la f.ls.length lc, .slice ba f.body.length bc]] (by kernel_rfl) rfl rfl (by rfl) (by kernel_rfl) ?_
      refine (newI l M f pa la ba pc lc bc _ (HM.out.below hS1.below) (HR.out.below hS1.below) HQ.out.1 HQ.out.2.1 hp2 hn2).mono ?_
      rintro e w1 ⟨g, own, V, vf, rfl, hbg⟩
      have hSa : Keeps W w1 := hS1.step hbg.bw
      refine ⟨_, rfl, hSa, ?_⟩
      simp only [Act.put, List.setIfInBounds_toArray, List.set_cons_zero, List.set_cons_succ]
      have hw1 : w1.heap[W.drew.heap.size]? = some (.cells #[.pointer none] 66 (0, 0)) := (hbg.bw.block _ (by simp)).trans (heap_alloc_new _ _)
      have d0 : w1.cell? ⟨W.heap.size, 0, none⟩ = some (.pointer none) := (cell_of_block hw1 0).trans rfl
      have d1 : w1.frozen? ⟨W.heap.size, 0, none⟩ = false := free_of_block hw1 0
      refine wh_skip 8 none (w1.setCell ⟨W.drew.heap.size, 0, none⟩ (.pointer (some ⟨g, 0, none⟩))) (by kernel_rfl) rfl rfl (by rfl) (by go_simp) ⟨(stoodB hbg hS0.below HM.out).bw⟩ ?_
      refine wh_done (by kernel_rfl) (HRS (W.drew.heap.size, g) _ ⟨own, _, vf, stoodB hbg hS0.below HM.out⟩)
end Go.Proofs.YtcgnefgdfgikdaaGreat
