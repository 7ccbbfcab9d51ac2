/-
  The law on checked code. (Made by a generator.)
-/
import Derived.Test.YtcgnefgdfgikdaaGreatJ2
import Derived.Test.YtcgnefgdfgikdaaGreatJ3
import Derived.Test.YtcgnefgdfgikdaaGreatKA14
namespace Go.Proofs.YtcgnefgdfgikdaaGreat
open Go.ChangeShapes Go.WideShapes Go.ChangeAt Go.RowKit

theorem told_bad {M : Mod7} {k : Int} (h : ¬ ((0 ≤ k ∧ k < (M.fs.length : Int)) ∧ shape M = true)) : told7 M k = (1, 0, 0) := if_neg h
theorem told_good {M : Mod7} {k : Nat} {f : Fun7} (hk : M.fs[k]? = some f) (h : shape M = true) : told7 M (k : Int) = checkS M f := by
  have hl : k < M.fs.length := by
    rcases Nat.lt_or_ge k M.fs.length with h' | h'
    · exact h'
    · rw [List.getElem?_eq_none h'] at hk; cases hk
  unfold told7
  rw [if_pos ⟨⟨by omega, by omega⟩, h⟩, Int.toNat_natCast, hk]
theorem toldM_ok {M : Mod7} {f : Fun7} (h : (toldM M).1 = 0) (hf : f ∈ M.fs) : (checkS M f).1 = 0 := by
  unfold toldM at h
  split at h
  · exact firstBad_ok M M.fs 0 h f hf
  · simp at h
theorem body_pos {L : List (Int × Int)} (h : (eo L).isSome = true) : 0 < L.length := by
  rcases Nat.eq_zero_or_pos L.length with h0 | h0
  · rw [List.length_eq_zero_iff.1 h0] at h
    exact absurd h (by decide)
  · exact h0
theorem shape_pos {M : Mod7} {f : Fun7} (h : shape M = true) (hf : f ∈ M.fs) : 0 < f.body.length := by
  unfold shape at h
  simp only [Bool.and_eq_true, List.all_eq_true] at h
  have h1 := h.1.1.1.2 f hf
  unfold goodF at h1
  simp only [Bool.and_eq_true] at h1
  exact body_pos h1.1.1.1
theorem nop_list {L : List Fd} {q : Nat} {Fk : Fd} (h : L[q]? = some Fk) (u : Value) : (L.set q { Fk with vb := u, f := { Fk.f with body := (1, 0) :: Fk.f.body } }).map (·.f) = (L.map (·.f)).modify q nopF := by
  apply List.ext_getElem?
  intro j
  simp only [List.getElem?_map, List.getElem?_set, List.getElem?_modify]
  have hl : q < L.length := by
    rcases Nat.lt_or_ge q L.length with h' | h'
    · exact h'
    · rw [List.getElem?_eq_none h'] at h; cases h
  by_cases e : q = j
  · subst e
    have h2 : L[q] = Fk := by rw [List.getElem?_eq_getElem hl] at h; exact Option.some.inj h
    simp [hl, h2, nopF]
  · simp [e]
theorem shape_len {M : Mod7} {f : Fun7} (h : shape M = true) (hf : f ∈ M.fs) : f.body.length ≤ 200 := by
  unfold shape at h
  simp only [Bool.and_eq_true, List.all_eq_true] at h
  have h1 := h.1.1.1.2 f hf
  unfold goodF at h1
  simp only [Bool.and_eq_true] at h1
  have h2 := h1.1.1.1
  unfold eo at h2
  split at h2
  · rename_i hg
    simp only [Bool.and_eq_true, decide_eq_true_eq] at hg
    exact hg.2
  · cases h2
theorem run_place (M : Mod7) (own : List Int) (res : Int) : ∀ (L : List (Int × Int)) (j : Nat) (s : St) (c : Int) (q : Nat), runS M own res j L s = .error (c, q) → q ≤ j + L.length
  | [], j, s, c, q, h => by cases h
  | x :: L, j, s, c, q, h => by
    unfold runS at h
    cases e : stepS M own res x.1 x.2 s with
    | error c' => rw [e] at h; simp only [Except.error.injEq, Prod.mk.injEq] at h; simp only [List.length_cons]; omega
    | ok s' => rw [e] at h; have := run_place M own res L (j + 1) s' c q h; simp only [List.length_cons]; omega
theorem check_place (M : Mod7) (f : Fun7) : 0 ≤ (checkS M f).2.1 ∧ (checkS M f).2.1 ≤ (f.body.length : Int) := by
  unfold checkS
  cases h : runS M (f.ps ++ f.ls) f.res 0 f.body (firstS f.res) with
  | error x => obtain ⟨c, q⟩ := x; have := run_place M _ _ _ _ _ _ _ h; simp only; omega
  | ok s => simp only; omega
theorem nop_mod {L : List Fd} {G : List Glo7} {mem : Bool} {pg mo so : Int} {q : Nat} {Fk : Fd} (h : L[q]? = some Fk) (u : Value) : mdOf (L.set q { Fk with vb := u, f := { Fk.f with body := (1, 0) :: Fk.f.body } }) G mem pg mo so = nopM (mdOf L G mem pg mo so) q := by
  unfold mdOf nopM
  rw [nop_list h u]
theorem nop_smF {f : Fun7} (h : smF f) (hl : f.body.length ≤ 200) : smF (nopF f) := by
  obtain ⟨h1, h2, h3, h4⟩ := h
  refine ⟨h1, h2, by simp [nopF]; omega, fun i hi => ?_⟩
  cases i with
  | zero => simp [nopF]
  | succ j =>
    have := h4 j (by simpa [nopF] using hi)
    simpa [nopF] using this
theorem nop_small {M : Mod7} {q : Nat} (h : smM M) (hl : ∀ f ∈ M.fs, f.body.length ≤ 200) : smM (nopM M q) := by
  obtain ⟨h1, h2, h3, h4⟩ := h
  refine ⟨by simpa [nopM] using h1, h2, fun f hf => ?_, h4⟩
  obtain ⟨j, hj⟩ := List.mem_iff_getElem?.1 hf
  rw [nopM_at] at hj
  cases e : M.fs[j]? with
  | none => rw [e] at hj; cases hj
  | some x =>
    rw [e] at hj
    have hx := List.mem_iff_getElem?.2 ⟨j, e⟩
    have h5 := h3 x hx
    have h6 := hl x hx
    simp only [Option.map_some, Option.some.injEq] at hj
    subst hj
    split
    · exact nop_smF h5 h6
    · exact h5
/-- A row of funcs is copied: the new row lies behind Y. -/
theorem wpl_copyFun (W : World) {ops : Array Oper} {rest : List Oper} {o : Oper} {a : Act} {Q : Exit → Act → World → Prop} (hgd : o.guard = none) (s x : Operand)
    (ho : o.op = .call { callee := .builtin .append, args := #[s, x], argTypes := #[23, 23] })
    (B Y : Nat) (v : Value) (hs : a.eval s = v) (h : W.ownsRow Y 39 4 v 0 []) (gs lo c : Nat) (X : List Fd) (hx : a.eval x = .slice (some ⟨gs, lo, none⟩) X.length c) (hX : ∀ x ∈ X, FdO B W x) (hc : ∀ (j : Nat) (u : Value), (fcv X)[j]? = some u → W.cell? ⟨gs, lo + j, none⟩ = some u) (hl : X.length ≤ 100000) (hBY : B ≤ Y) (hY : Y ≤ W.heap.size)
    (hk : ∀ v' w', FRow B w' v' X → w'.ownsRow Y 39 4 v' X.length (fcv X) → W.grownBy w' v.ownBlock → wpList Tryz.prog ops Q rest (a.put o.dst v') w') : wpList Tryz.prog ops Q (o :: rest) a W := by
  obtain ⟨i0, i0i, i00, i01, i02⟩ := info_parts Tryz.infoFnc
  refine wpList_append_own W hgd s x 23 ho Y 39 i0 (.agg #[.slice none 0 0, .int .i64 0, .slice none 0 0, .slice none 0 0]) 4 80 Tryz.underlying23 i0i i00 i01 i02 rfl (by decide) v 0 [] hs h ⟨gs, lo, none⟩ X.length c (fcv X) hx (fcv_len X) (fun j u hu => by rw [Addr.add_lit]; exact hc j u hu) (fcv_one hX) (by unfold maxLen; omega) (by omega) hY fun v' w' h2 h3 _ => ?_
  rw [List.nil_append, Nat.zero_add] at h2
  have k : ∀ {e : TypeId} {s n : Nat} {u : Value} {ys : List Value}, W.ownsRow B e s u n ys → e ≠ 39 → w'.ownsRow B e s u n ys := fun {e s n u ys} ho hne => own_keep ho (fun q hq => by
    obtain ⟨cur, hcq, _⟩ := own_at ho hq
    refine h3.block q (lt_of_block hcq) (fun e0 => ?_)
    obtain ⟨cur2, hc2, _⟩ := own_at h e0.symm
    rw [hcq] at hc2
    simp only [Option.some.injEq, Obj.cells.injEq] at hc2
    exact hne hc2.2.1)
  exact hk v' w' ⟨own_baseI h2 hBY, fun x hx => ⟨k (hX x hx).ps (by decide), k (hX x hx).ls (by decide), k (hX x hx).bd (by decide)⟩⟩ h2 h3
theorem FRow.below {B : Nat} {w w' : World} {v : Value} {L : List Fd} (h : FRow B w v L) (hb : Below w.heap.size w w') : FRow B w' v L := h.keep (fun b _ h2 => hb.block b h2)

set_option maxRecDepth 1000000 in
set_option maxHeartbeats 6400000 in
theorem checkedB (a1 : Option Addr) (n1 c1 : Nat) (w : World) (h1 : Bys w a1 n1 w.heap.size) :
    Calls Tryz.prog 3 #[.slice a1 n1 c1] w fun e w' => e = .returned (.bool true) ∧ Below w.heap.size w w' := by
  obtain ⟨nn, hN⟩ : ∃ n : Int, (n1 : Int) = n := ⟨_, rfl⟩
  by_cases hlen : 1048576 < nn
  · go_enter Tryz.func3, Tryz.ntmps3
    go_wp2
    go_ret
    exact ⟨rfl, Below.refl _ _⟩
  have DN := drawCheck a1 n1 c1 w h1
  clear h1
  go_enter Tryz.func3, Tryz.ntmps3
  go_wp2_with fail
  refine DN.mono ?_
  rintro e w1 ⟨fa, fc, ga, gc, L, G, mem, pg, mo, so, k, rfl, HR, HS, HKK, HB0⟩
  clear DN hN hlen
  obtain ⟨n, hn⟩ : ∃ n, L.length = n := ⟨_, rfl⟩
  obtain ⟨ng, hng⟩ : ∃ n, G.length = n := ⟨_, rfl⟩
  obtain ⟨M, hM⟩ : ∃ M, mdOf L G mem pg mo so = M := ⟨_, rfl⟩
  have HME : Hid (mdOf L G mem pg mo so = M) := hM
  have HMF : Hid (M.fs = L.map (·.f) ∧ M.fs.length = n ∧ L.length = n) := by unfold Hid; rw [← hM, ← hn]; simp [mdOf]
  have HV : Hid (∀ fa', (.agg #[.slice fa' M.fs.length fc, .slice ga M.gs.length gc, .bool M.mem, .int .i64 M.pages, .int .i64 M.most, .int .i64 M.start] : Value) = .agg #[.slice fa' n fc, .slice ga ng gc, .bool mem, .int .i64 pg, .int .i64 mo, .int .i64 so]) := fun fa' => by rw [← hM, ← hn, ← hng]; simp [mdOf]
  have HV2 : Hid (∀ (fa' : Option Addr) (cn' q' : Nat), (.agg #[.slice fa' (nopM M q').fs.length cn', .slice ga (nopM M q').gs.length gc, .bool (nopM M q').mem, .int .i64 (nopM M q').pages, .int .i64 (nopM M q').most, .int .i64 (nopM M q').start] : Value) = .agg #[.slice fa' n cn', .slice ga ng gc, .bool mem, .int .i64 pg, .int .i64 mo, .int .i64 so]) := fun fa' cn' q' => by rw [← hM, ← hn, ← hng]; simp [mdOf, nopM]
  have HSM : Hid (smM M ∧ 1 ≤ n ∧ n ≤ 3) := by unfold Hid; rw [← hM, ← hn]; exact HS.out
  have HA : Hid (∀ w', Below w1.heap.size w1 w' → ModAt w' ⟨fa, fc, ga, gc⟩ M) := fun w' hb => by rw [← hM]; exact frow_mod (HR.out.1.below hb) (HR.out.2.below hb) gc mem pg mo so
  obtain ⟨⟨c, at_, hg⟩, hT⟩ : ∃ R, told7 M k = R := ⟨_, rfl⟩
  obtain ⟨⟨x1, x2, x3⟩, hTM⟩ : ∃ R, toldM M = R := ⟨_, rfl⟩
  have HT : Hid (told7 M k = (c, at_, hg) ∧ toldM M = (x1, x2, x3)) := ⟨hT, hTM⟩
  have IC : Hid (∀ w', Below w1.heap.size w1 w' → Calls Tryz.prog 5 #[.agg #[.slice fa n fc, .slice ga ng gc, .bool mem, .int .i64 pg, .int .i64 mo, .int .i64 so], .int .i64 k] w' fun e w'' => e = .returned (.tuple #[.int .i64 c, .int .i64 at_]) ∧ Below w'.heap.size w' w'') := fun w' hb => by
    have t := implCheckFunc ⟨fa, fc, ga, gc⟩ M k w' (HA.out w' hb) HSM.out.1
    rw [HV.out fa, hT] at t
    exact t
  have SC : Hid (∀ w', Below w1.heap.size w1 w' → Calls Tryz.prog 6 #[.agg #[.slice fa n fc, .slice ga ng gc, .bool mem, .int .i64 pg, .int .i64 mo, .int .i64 so], .int .i64 k] w' fun e w'' => e = .returned (.tuple #[.int .i64 c, .int .i64 at_]) ∧ Below w'.heap.size w' w'') := fun w' hb => by
    have t := specCheckFunc ⟨fa, fc, ga, gc⟩ M k w' (HA.out w' hb) HSM.out.1 (checks7 ⟨fa, fc, ga, gc⟩ M w' (HA.out w' hb))
    rw [HV.out fa, hT] at t
    exact t
  have IM : Hid (∀ w', Below w1.heap.size w1 w' → Calls Tryz.prog 7 #[.agg #[.slice fa n fc, .slice ga ng gc, .bool mem, .int .i64 pg, .int .i64 mo, .int .i64 so]] w' fun e w'' => e = .returned (.tuple #[.int .i64 x1, .int .i64 x2, .int .i64 x3]) ∧ Below w'.heap.size w' w'') := fun w' hb => by
    have t := implCheckModule ⟨fa, fc, ga, gc⟩ M w' (HA.out w' hb) HSM.out.1
    rw [HV.out fa, hTM] at t
    exact t
  have SMM : Hid (∀ w', Below w1.heap.size w1 w' → Calls Tryz.prog 8 #[.agg #[.slice fa n fc, .slice ga ng gc, .bool mem, .int .i64 pg, .int .i64 mo, .int .i64 so]] w' fun e w'' => e = .returned (.tuple #[.int .i64 x1, .int .i64 x2, .int .i64 x3]) ∧ Below w'.heap.size w' w'') := fun w' hb => by
    have t := specCheckModule ⟨fa, fc, ga, gc⟩ M w' (HA.out w' hb) HSM.out.1 (checks7 ⟨fa, fc, ga, gc⟩ M w' (HA.out w' hb))
    rw [HV.out fa, hTM] at t
    exact t
  obtain ⟨sh, hsh⟩ : ∃ b, shape M = b := ⟨_, rfl⟩
  have IS : Hid (∀ w', Below w1.heap.size w1 w' → Calls Tryz.prog 10 #[.agg #[.slice fa n fc, .slice ga ng gc, .bool mem, .int .i64 pg, .int .i64 mo, .int .i64 so]] w' fun e w'' => e = .returned (.bool sh) ∧ Below w'.heap.size w' w'') := fun w' hb => by
    have t := implShape ⟨fa, fc, ga, gc⟩ M w' (HA.out w' hb) HSM.out.1
    rw [show modV ⟨fa, fc, ga, gc⟩ M = _ from HV.out fa, hsh] at t
    exact t
  have SS : Hid (∀ w', Below w1.heap.size w1 w' → Calls Tryz.prog 9 #[.agg #[.slice fa n fc, .slice ga ng gc, .bool mem, .int .i64 pg, .int .i64 mo, .int .i64 so]] w' fun e w'' => e = .returned (.bool sh) ∧ Below w'.heap.size w' w'') := fun w' hb => by
    have t := specShapeM ⟨fa, fc, ga, gc⟩ M w' (HA.out w' hb) HSM.out.1
    rw [show modV ⟨fa, fc, ga, gc⟩ M = _ from HV.out fa, hsh] at t
    exact t
  have IH : Hid (∀ w', Below w1.heap.size w1 w' → Calls Tryz.prog 11 #[.agg #[.slice fa n fc, .slice ga ng gc, .bool mem, .int .i64 pg, .int .i64 mo, .int .i64 so], .int .i64 k] w' fun e w'' => e = .returned (.tuple #[.int .i64 hg, .bool (c == 0)]) ∧ Below w'.heap.size w' w'') := fun w' hb => by
    have t := implHighest ⟨fa, fc, ga, gc⟩ M k w' (HA.out w' hb) HSM.out.1
    rw [HV.out fa, hT] at t
    exact t
  have HSH : Hid (shape M = sh) := hsh
  clear hM hT hTM hsh
  rw [hn, hng]
  clear hn hng
  have HK : Hid (Below w1.heap.size w1 w1) := Below.refl _ _
  obtain ⟨y, hy⟩ : ∃ z, w1.heap.size = z := ⟨_, rfl⟩
  obtain ⟨Z1, hZ1⟩ : ∃ W, w1.alloc (.cells #[.slice none 0 0, .slice none 0 0, .bool false, .int .i64 0, .int .i64 0, .int .i64 0] 26) = W := ⟨_, rfl⟩
  have hb1 : Below w1.heap.size w1 Z1 := by rw [← hZ1]; exact bel_alloc (Below.refl _ _) _
  have hny : Z1.heap[y]? = some (.cells #[.slice none 0 0, .slice none 0 0, .bool false, .int .i64 0, .int .i64 0, .int .i64 0] 26 (0, 0)) := by rw [← hZ1, ← hy]; exact heap_alloc_new _ _
  obtain ⟨V1, hV1⟩ : ∃ G, ((((((Z1.setCell ⟨y, 0, none⟩ (.slice fa n fc)).setCell ⟨y, 1, none⟩ (.slice ga ng gc)).setCell ⟨y, 2, none⟩ (.bool mem)).setCell ⟨y, 3, none⟩ (.int .i64 pg)).setCell ⟨y, 4, none⟩ (.int .i64 mo)).setCell ⟨y, 5, none⟩ (.int .i64 so)) = G := ⟨_, rfl⟩
  obtain ⟨byy, s2, s3, s4⟩ := set6T hny _ _ _ _ _ _ hV1
  have hb : Below w1.heap.size w1 V1 := s4 _ _ (Nat.le_of_eq hy) hb1
  have ey0 : Z1.cell? ⟨y, 0, none⟩ = some (.slice none 0 0) := (cell_of_block hny 0).trans rfl
  have fy0 := free_of_block hny 0
  have ey1 : Z1.cell? ⟨y, 1, none⟩ = some (.slice none 0 0) := (cell_of_block hny 1).trans rfl
  have fy1 := free_of_block hny 1
  have ey2 : Z1.cell? ⟨y, 2, none⟩ = some (.bool false) := (cell_of_block hny 2).trans rfl
  have fy2 := free_of_block hny 2
  have ey3 : Z1.cell? ⟨y, 3, none⟩ = some (.int .i64 0) := (cell_of_block hny 3).trans rfl
  have fy3 := free_of_block hny 3
  have ey4 : Z1.cell? ⟨y, 4, none⟩ = some (.int .i64 0) := (cell_of_block hny 4).trans rfl
  have fy4 := free_of_block hny 4
  have ey5 : Z1.cell? ⟨y, 5, none⟩ = some (.int .i64 0) := (cell_of_block hny 5).trans rfl
  have fy5 := free_of_block hny 5
  replace HK : Hid (Below w1.heap.size w1 V1) := below2 HK.out hb
  clear hb hb1 s2 s3 s4 hny
  have qy0 : V1.cell? ⟨y, 0, none⟩ = some (.slice fa n fc) := (cell_of_block byy 0).trans rfl
  have qy1 : V1.cell? ⟨y, 1, none⟩ = some (.slice ga ng gc) := (cell_of_block byy 1).trans rfl
  have qy2 : V1.cell? ⟨y, 2, none⟩ = some (.bool mem) := (cell_of_block byy 2).trans rfl
  have qy3 : V1.cell? ⟨y, 3, none⟩ = some (.int .i64 pg) := (cell_of_block byy 3).trans rfl
  have qy4 : V1.cell? ⟨y, 4, none⟩ = some (.int .i64 mo) := (cell_of_block byy 4).trans rfl
  have qy5 : V1.cell? ⟨y, 5, none⟩ = some (.int .i64 so) := (cell_of_block byy 5).trans rfl
  go_wp2_with fail
  clear hy hZ1 hV1 ey0 fy0 ey1 fy1 ey2 fy2 ey3 fy3 ey4 fy4 ey5 fy5 qy0 qy1 qy2 qy3 qy4 qy5
  refine (IC.out _ HK.out).mono ?_
  rintro e w2 ⟨rfl, hb⟩
  replace byy := (hb.block y (lt_of_block byy)).trans byy
  replace HK : Hid (Below w1.heap.size w1 w2) := below2 HK.out hb
  clear hb
  have qy0 : w2.cell? ⟨y, 0, none⟩ = some (.slice fa n fc) := (cell_of_block byy 0).trans rfl
  have qy1 : w2.cell? ⟨y, 1, none⟩ = some (.slice ga ng gc) := (cell_of_block byy 1).trans rfl
  have qy2 : w2.cell? ⟨y, 2, none⟩ = some (.bool mem) := (cell_of_block byy 2).trans rfl
  have qy3 : w2.cell? ⟨y, 3, none⟩ = some (.int .i64 pg) := (cell_of_block byy 3).trans rfl
  have qy4 : w2.cell? ⟨y, 4, none⟩ = some (.int .i64 mo) := (cell_of_block byy 4).trans rfl
  have qy5 : w2.cell? ⟨y, 5, none⟩ = some (.int .i64 so) := (cell_of_block byy 5).trans rfl
  go_wp2_with fail
  clear qy0 qy1 qy2 qy3 qy4 qy5
  refine (SC.out _ HK.out).mono ?_
  rintro e w3 ⟨rfl, hb⟩
  replace byy := (hb.block y (lt_of_block byy)).trans byy
  replace HK : Hid (Below w1.heap.size w1 w3) := below2 HK.out hb
  clear hb
  have qy0 : w3.cell? ⟨y, 0, none⟩ = some (.slice fa n fc) := (cell_of_block byy 0).trans rfl
  have qy1 : w3.cell? ⟨y, 1, none⟩ = some (.slice ga ng gc) := (cell_of_block byy 1).trans rfl
  have qy2 : w3.cell? ⟨y, 2, none⟩ = some (.bool mem) := (cell_of_block byy 2).trans rfl
  have qy3 : w3.cell? ⟨y, 3, none⟩ = some (.int .i64 pg) := (cell_of_block byy 3).trans rfl
  have qy4 : w3.cell? ⟨y, 4, none⟩ = some (.int .i64 mo) := (cell_of_block byy 4).trans rfl
  have qy5 : w3.cell? ⟨y, 5, none⟩ = some (.int .i64 so) := (cell_of_block byy 5).trans rfl
  go_wp2_with fail
  clear qy0 qy1 qy2 qy3 qy4 qy5
  refine (IM.out _ HK.out).mono ?_
  rintro e w4 ⟨rfl, hb⟩
  replace byy := (hb.block y (lt_of_block byy)).trans byy
  replace HK : Hid (Below w1.heap.size w1 w4) := below2 HK.out hb
  clear hb
  have qy0 : w4.cell? ⟨y, 0, none⟩ = some (.slice fa n fc) := (cell_of_block byy 0).trans rfl
  have qy1 : w4.cell? ⟨y, 1, none⟩ = some (.slice ga ng gc) := (cell_of_block byy 1).trans rfl
  have qy2 : w4.cell? ⟨y, 2, none⟩ = some (.bool mem) := (cell_of_block byy 2).trans rfl
  have qy3 : w4.cell? ⟨y, 3, none⟩ = some (.int .i64 pg) := (cell_of_block byy 3).trans rfl
  have qy4 : w4.cell? ⟨y, 4, none⟩ = some (.int .i64 mo) := (cell_of_block byy 4).trans rfl
  have qy5 : w4.cell? ⟨y, 5, none⟩ = some (.int .i64 so) := (cell_of_block byy 5).trans rfl
  go_wp2_with fail
  clear qy0 qy1 qy2 qy3 qy4 qy5
  refine (SMM.out _ HK.out).mono ?_
  rintro e w5 ⟨rfl, hb⟩
  replace byy := (hb.block y (lt_of_block byy)).trans byy
  replace HK : Hid (Below w1.heap.size w1 w5) := below2 HK.out hb
  clear hb
  have qy0 : w5.cell? ⟨y, 0, none⟩ = some (.slice fa n fc) := (cell_of_block byy 0).trans rfl
  have qy1 : w5.cell? ⟨y, 1, none⟩ = some (.slice ga ng gc) := (cell_of_block byy 1).trans rfl
  have qy2 : w5.cell? ⟨y, 2, none⟩ = some (.bool mem) := (cell_of_block byy 2).trans rfl
  have qy3 : w5.cell? ⟨y, 3, none⟩ = some (.int .i64 pg) := (cell_of_block byy 3).trans rfl
  have qy4 : w5.cell? ⟨y, 4, none⟩ = some (.int .i64 mo) := (cell_of_block byy 4).trans rfl
  have qy5 : w5.cell? ⟨y, 5, none⟩ = some (.int .i64 so) := (cell_of_block byy 5).trans rfl
  go_wp2_with fail
  clear qy0 qy1 qy2 qy3 qy4 qy5
  refine (SS.out _ HK.out).mono ?_
  rintro e w6 ⟨rfl, hb⟩
  replace byy := (hb.block y (lt_of_block byy)).trans byy
  replace HK : Hid (Below w1.heap.size w1 w6) := below2 HK.out hb
  clear hb
  have SS2 := SS
  clear SC IM SMM SS
  by_cases hbad : (0 ≤ k ∧ k < (n : Int)) ∧ sh = true
  · obtain ⟨⟨hk0, hk1⟩, hsh⟩ := hbad
    subst hsh
    obtain ⟨q, rfl⟩ := Int.eq_ofNat_of_zero_le hk0
    have hqL : q < L.length := by rw [HMF.out.2.2]; omega
    obtain ⟨Fk, hFk⟩ : ∃ x, L[q]'hqL = x := ⟨_, rfl⟩
    have hMq : M.fs[q]? = some Fk.f := by rw [HMF.out.1, List.getElem?_map, List.getElem?_eq_getElem hqL, hFk]; rfl
    have HFk : Hid (Fk ∈ L ∧ L[q]? = some Fk ∧ M.fs[q]? = some Fk.f ∧ q < n) := ⟨by rw [← hFk]; exact List.getElem_mem hqL, by rw [List.getElem?_eq_getElem hqL, hFk], hMq, by omega⟩
    have hck := told_good hMq HSH.out
    rw [HT.out.1] at hck
    have HCK : Hid (checkS M Fk.f = (c, at_, hg)) := hck.symm
    have hhi : hg ≤ (Fk.f.body.length : Int) := by have h := check_high M Fk.f; rw [HCK.out] at h; exact h
    have hall : x1 = 0 → c = 0 := fun h0 => by
      have h := toldM_ok (M := M) (f := Fk.f) (by rw [HT.out.2]; exact h0) (List.mem_iff_getElem?.2 ⟨q, hMq⟩)
      rw [HCK.out] at h; exact h
    have HALL : Hid (x1 = 0 → c = 0) := hall
    obtain ⟨gf, cf, hfa, _⟩ := own_pos HR.out.1.row (by omega)
    simp only [Value.slice.injEq, true_and] at hfa
    obtain ⟨rfl, rfl⟩ := hfa
    obtain ⟨ab, cb, hvb⟩ := slice_ins (HR.out.1.ok Fk HFk.out.1).bd
    obtain ⟨nb, hnb⟩ : ∃ b, Fk.f.body.length = b := ⟨_, rfl⟩
    rw [hnb] at hvb hhi
    have HNB : Hid (Fk.f.body.length = nb ∧ Fk.vb = .slice ab nb cb ∧ hg ≤ (nb : Int)) := ⟨hnb, hvb, hhi⟩
    have HC3 : Hid (∀ w', Below w1.heap.size w1 w' → w'.cell? ⟨gf, q * 4 + 3, none⟩ = some (.slice ab nb cb)) := fun w' hb => by
      have h := ((HR.out.1.below hb).cells q hqL).2.2.2
      rw [hFk, hvb] at h
      exact h
    have k1 : ¬ (q : Int) < 0 := by omega
    have k2 : (q : Int) < (n : Int) := hk1
    clear hqL hFk hMq hck hall hvb hnb hhi hk0 hk1
    have qy0 : w6.cell? ⟨y, 0, none⟩ = some (.slice (some ⟨gf, 0, none⟩) n fc) := (cell_of_block byy 0).trans rfl
    go_upto_region 12 with fail
    go_cut [103] (fun s wx => s = .bool false ∧ wx = w6)
    case first =>
      by_cases hx : x1 = 0
      · have hc0 := HALL.out hx
        subst hx
        subst hc0
        go_wp2
        go_meet
        exact ⟨rfl, rfl⟩
      · by_cases hc0 : c = 0
        · subst hc0
          go_wp2
          go_meet
          exact ⟨rfl, rfl⟩
        · go_wp2
          go_meet
          exact ⟨rfl, rfl⟩
    case rest =>
    obtain ⟨rfl, hwc⟩ := hcut
    obtain rfl := hwc.symm
    clear hwc qy0
    obtain ⟨okb, hok⟩ : ∃ b, (c == 0) = b := ⟨_, rfl⟩
    rw [hok] at IH
    have HOK : Hid ((c == 0) = okb) := hok
    clear hok
    have qy0 : w6.cell? ⟨y, 0, none⟩ = some (.slice (some ⟨gf, 0, none⟩) n fc) := (cell_of_block byy 0).trans rfl
    have qy1 : w6.cell? ⟨y, 1, none⟩ = some (.slice ga ng gc) := (cell_of_block byy 1).trans rfl
    have qy2 : w6.cell? ⟨y, 2, none⟩ = some (.bool mem) := (cell_of_block byy 2).trans rfl
    have qy3 : w6.cell? ⟨y, 3, none⟩ = some (.int .i64 pg) := (cell_of_block byy 3).trans rfl
    have qy4 : w6.cell? ⟨y, 4, none⟩ = some (.int .i64 mo) := (cell_of_block byy 4).trans rfl
    have qy5 : w6.cell? ⟨y, 5, none⟩ = some (.int .i64 so) := (cell_of_block byy 5).trans rfl
    go_wp2_with fail
    clear qy0 qy1 qy2 qy3 qy4 qy5
    refine (IH.out _ HK.out).mono ?_
    rintro e w7 ⟨rfl, hb⟩
    replace byy := (hb.block y (lt_of_block byy)).trans byy
    replace HK : Hid (Below w1.heap.size w1 w7) := below2 HK.out hb
    clear hb IH
    have hcc := HOK.out
    have c3 := HC3.out _ HK.out
    have h5 : ¬ (nb : Int) < hg := by have := HNB.out.2.2; omega
    by_cases h200 : (nb : Int) = 200
    · cases okb
      · skip
        have qy0 : w7.cell? ⟨y, 0, none⟩ = some (.slice (some ⟨gf, 0, none⟩) n fc) := (cell_of_block byy 0).trans rfl
        have hc0 : ¬ c = 0 := by simpa using hcc
        go_wp2
        go_ret
        exact ⟨rfl, HB0.out.trans (HK.out.mono HB0.out.size)⟩
      · skip
        have qy0 : w7.cell? ⟨y, 0, none⟩ = some (.slice (some ⟨gf, 0, none⟩) n fc) := (cell_of_block byy 0).trans rfl
        have hc0 : c = 0 := by simpa using hcc
        subst hc0
        clear hcc
        go_wp2
        go_ret
        exact ⟨rfl, HB0.out.trans (HK.out.mono HB0.out.size)⟩
    · cases okb
      · skip
        have hc0 : ¬ c = 0 := by simpa using hcc
        have hd1 : decide ((nb : Int) < hg) = false := by simp only [decide_eq_false_iff_not]; exact h5
        have hd2 : ((nb : Int) == 200) = false := by simpa using h200
        have hd3 : ¬ ((nb : Int) < hg ∨ ((nb : Int) == 200) = true) := by rintro (h | h); exact h5 h; exact h200 (by simpa using h)
        have qy0 : w7.cell? ⟨y, 0, none⟩ = some (.slice (some ⟨gf, 0, none⟩) n fc) := (cell_of_block byy 0).trans rfl
        have qy1 : w7.cell? ⟨y, 1, none⟩ = some (.slice ga ng gc) := (cell_of_block byy 1).trans rfl
        have qy2 : w7.cell? ⟨y, 2, none⟩ = some (.bool mem) := (cell_of_block byy 2).trans rfl
        have qy3 : w7.cell? ⟨y, 3, none⟩ = some (.int .i64 pg) := (cell_of_block byy 3).trans rfl
        have qy4 : w7.cell? ⟨y, 4, none⟩ = some (.int .i64 mo) := (cell_of_block byy 4).trans rfl
        have qy5 : w7.cell? ⟨y, 5, none⟩ = some (.int .i64 so) := (cell_of_block byy 5).trans rfl
        have HKp := HK
        obtain ⟨y2, hy2⟩ : ∃ z, w7.heap.size = z := ⟨_, rfl⟩
        obtain ⟨Z2, hZ2⟩ : ∃ W, w7.alloc (.cells #[.slice none 0 0, .slice none 0 0, .bool false, .int .i64 0, .int .i64 0, .int .i64 0] 26) = W := ⟨_, rfl⟩
        have hb1 : Below w7.heap.size w7 Z2 := by rw [← hZ2]; exact bel_alloc (Below.refl _ _) _
        have hny2 : Z2.heap[y2]? = some (.cells #[.slice none 0 0, .slice none 0 0, .bool false, .int .i64 0, .int .i64 0, .int .i64 0] 26 (0, 0)) := by rw [← hZ2, ← hy2]; exact heap_alloc_new _ _
        obtain ⟨V2, hV2⟩ : ∃ G, ((((((Z2.setCell ⟨y2, 0, none⟩ (.slice (some ⟨gf, 0, none⟩) n fc)).setCell ⟨y2, 1, none⟩ (.slice ga ng gc)).setCell ⟨y2, 2, none⟩ (.bool mem)).setCell ⟨y2, 3, none⟩ (.int .i64 pg)).setCell ⟨y2, 4, none⟩ (.int .i64 mo)).setCell ⟨y2, 5, none⟩ (.int .i64 so)) = G := ⟨_, rfl⟩
        obtain ⟨byy2, s2, s3, s4⟩ := set6T hny2 _ _ _ _ _ _ hV2
        have hb : Below w7.heap.size w7 V2 := s4 _ _ (Nat.le_of_eq hy2) hb1
        have ey20 : Z2.cell? ⟨y2, 0, none⟩ = some (.slice none 0 0) := (cell_of_block hny2 0).trans rfl
        have fy20 := free_of_block hny2 0
        have ey21 : Z2.cell? ⟨y2, 1, none⟩ = some (.slice none 0 0) := (cell_of_block hny2 1).trans rfl
        have fy21 := free_of_block hny2 1
        have ey22 : Z2.cell? ⟨y2, 2, none⟩ = some (.bool false) := (cell_of_block hny2 2).trans rfl
        have fy22 := free_of_block hny2 2
        have ey23 : Z2.cell? ⟨y2, 3, none⟩ = some (.int .i64 0) := (cell_of_block hny2 3).trans rfl
        have fy23 := free_of_block hny2 3
        have ey24 : Z2.cell? ⟨y2, 4, none⟩ = some (.int .i64 0) := (cell_of_block hny2 4).trans rfl
        have fy24 := free_of_block hny2 4
        have ey25 : Z2.cell? ⟨y2, 5, none⟩ = some (.int .i64 0) := (cell_of_block hny2 5).trans rfl
        have fy25 := free_of_block hny2 5
        replace HK : Hid (Below w1.heap.size w1 V2) := below2 HK.out hb
        have HYY : Hid (y < y2 ∧ w1.heap.size ≤ y2) := ⟨by rw [← hy2]; exact lt_of_block byy, by rw [← hy2]; exact HKp.out.size⟩
        replace byy := (hb.block y (lt_of_block byy)).trans byy
        clear hb hb1 s2 s3 s4 hny2
        obtain ⟨y3, hy3⟩ : ∃ z, V2.heap.size = z := ⟨_, rfl⟩
        obtain ⟨X3, hX3⟩ : ∃ W, V2.alloc (.cells #[] 39) = W := ⟨_, rfl⟩
        have hb0 : Below V2.heap.size V2 X3 := by rw [← hX3]; exact bel_alloc (Below.refl _ _) _
        have HWB : Hid (w.heap.size ≤ V2.heap.size) := Nat.le_trans HB0.out.size HK.out.size
        have H0 : Hid (X3.ownsRow y3 39 4 (.slice (some ⟨y3, 0, none⟩) 0 0) 0 []) := by unfold Hid; rw [← hX3, ← hy3]; exact World.ownsRow_made V2 #[] 0 (Nat.le_refl _) (by simp [maxLen]) (by simp)
        have HKX : Hid (Below w1.heap.size w1 X3) := below2 HK.out hb0
        have FRX : Hid (FRow w.heap.size X3 (.slice (some ⟨gf, 0, none⟩) L.length fc) L) := HR.out.1.below HKX.out
        have HX3 : Hid (V2.heap.size = y3 ∧ Below V2.heap.size V2 X3 ∧ y3 ≤ X3.heap.size) := ⟨hy3, hb0, by rw [← hX3, ← hy3]; simp⟩
        have p0x : X3.cell? ⟨y, 0, none⟩ = some (.slice (some ⟨gf, 0, none⟩) n fc) := (cell_of_block ((hb0.block y (lt_of_block byy)).trans byy) 0).trans rfl
        clear hb0
        go_wp2_with (at_builtin; refine wpl_copyFun _ rfl _ _ rfl w.heap.size y3 _ rfl H0.out gf 0 fc L (by rw [HMF.out.2.2]; rfl) ?qc1 ?qc2 ?qc3 ?qc4 ?qc5 ?_)
        case qc1 => exact FRX.out.ok
        case qc2 => intro j u hu; rw [Nat.zero_add]; have h := FRX.out.row.cells (g := gf) rfl j u hu; rw [Addr.add_lit, Nat.zero_add] at h; exact h
        case qc3 => have := HSM.out; have := HMF.out.2.2; omega
        case qc4 => have := HWB.out; have := HX3.out; omega
        case qc5 => have := HX3.out; omega
        intro vN w8 hF hoF hgF
        clear qy0 qy1 qy2 qy3 qy4 qy5 hy2 hZ2 hV2 ey20 fy20 ey21 fy21 ey22 fy22 ey23 fy23 ey24 fy24 ey25 fy25 p0x hX3 hy3
        have hb : Below V2.heap.size V2 w8 := by
          have h1 : Below y3 X3 w8 := (Below.refl _ _).grown hgF HX3.out.2.2 (fun q hq => by have h : y3 = q := Option.some.inj hq; omega)
          have h2 := HX3.out.2.1
          rw [HX3.out.1] at h2 ⊢
          exact h2.trans h1
        obtain ⟨gn, cn, e5, _⟩ := own_pos hF.row (by have := HSM.out; have := HMF.out.2.2; omega)
        subst e5
        have HGN : Hid (y3 ≤ gn ∧ w1.heap.size ≤ gn) := by have h1 := (hoF.lt gn rfl).1; have h2 := HX3.out; have h3 := HK.out.size; exact ⟨h1, by omega⟩
        clear hoF
        replace byy := (hb.block y (lt_of_block byy)).trans byy
        replace byy2 := (hb.block y2 (lt_of_block byy2)).trans byy2
        replace HK : Hid (Below w1.heap.size w1 w8) := below2 HK.out hb
        have FRN : Hid (FRow w.heap.size w8 (.slice (some ⟨gn, 0, none⟩) n cn) L) := by have h := hF; rw [HMF.out.2.2] at h; exact h
        rw [HMF.out.2.2]
        clear hb hF hgF H0 FRX HX3 HKX HWB
        have hyy : y ≠ y2 := fun e => by have := HYY.out; omega
        obtain ⟨w9, hN9⟩ : ∃ G, w8.setCell ⟨y2, 0, none⟩ (.slice (some ⟨gn, 0, none⟩) n cn) = G := ⟨_, rfl⟩
        obtain ⟨s1, s2, s3, s4⟩ := set1T byy2 0 (.slice (some ⟨gn, 0, none⟩) n cn) hN9
        replace s1 : w9.heap[y2]? = some (.cells #[.slice (some ⟨gn, 0, none⟩) n cn, .slice ga ng gc, .bool mem, .int .i64 pg, .int .i64 mo, .int .i64 so] 26 (0, 0)) := s1
        have t0 : w8.cell? ⟨y2, 0, none⟩ = some (.slice (some ⟨gf, 0, none⟩) n fc) := (cell_of_block byy2 0).trans rfl
        have t1 := free_of_block byy2 0
        replace FRN : Hid (FRow w.heap.size w9 (.slice (some ⟨gn, 0, none⟩) n cn) L) := FRow.farM FRN.out byy2 (by decide) (by decide) (by decide) s2
        replace byy := (s2 y hyy).trans byy
        replace byy2 := s1
        replace HK : Hid (Below w1.heap.size w1 w9) := s4 _ _ HYY.out.2 HK.out
        clear s1 s2 s3 s4 hyy
        have FRO : Hid (FRow w.heap.size w9 (.slice (some ⟨gf, 0, none⟩) L.length fc) L) := HR.out.1.below HK.out
        have c3 := HC3.out _ HK.out
        obtain ⟨gb, cbb, hvb2, _⟩ := own_pos (HR.out.1.ok Fk HFk.out.1).bd (shape_pos HSH.out (List.mem_iff_getElem?.2 ⟨q, HFk.out.2.2.1⟩))
        have hvv := HNB.out.2.1
        rw [hvb2, HNB.out.1] at hvv
        simp only [Value.slice.injEq, true_and] at hvv
        obtain ⟨rfl, rfl⟩ := hvv
        have HVB : Hid (Fk.vb = .slice (some ⟨gb, 0, none⟩) Fk.f.body.length cbb) := hvb2
        clear hvb2
        obtain ⟨D, hD⟩ : ∃ W, w9.drew = W := ⟨_, rfl⟩
        have hbd : Below w9.heap.size w9 D := by rw [← hD]; exact (Below.refl _ _).drew
        go_wp2
        clear hN9 t0 t1 c3
        refine wh_begin (fun w' : World => w'.heap[y]? = some (.cells #[.slice (some ⟨gf, 0, none⟩) n fc, .slice ga ng gc, .bool mem, .int .i64 pg, .int .i64 mo, .int .i64 so] 26 (0, 0)) ∧ w'.heap[y2]? = some (.cells #[.slice (some ⟨gn, 0, none⟩) n cn, .slice ga ng gc, .bool mem, .int .i64 pg, .int .i64 mo, .int .i64 so] 26 (0, 0))) (by kernel_rfl) ?_
        rw [hD]
        replace byy := (hbd.block y (lt_of_block byy)).trans byy
        replace byy2 := (hbd.block y2 (lt_of_block byy2)).trans byy2
        replace HK : Hid (Below w1.heap.size w1 D) := below2 HK.out hbd
        replace FRN : Hid (FRow w.heap.size D (.slice (some ⟨gn, 0, none⟩) n cn) L) := FRN.out.below hbd
        have hSS := And.intro byy byy2
        have k3 : 0 ≤ (q : Int) ∧ (q : Int) < (n : Int) := ⟨by omega, k2⟩
        clear hbd hD FRO
        refine wh_take 0 (some 163) (.pointer (some ⟨y2, 0, none⟩)) rfl rfl (by kernel_rfl) (by kernel_rfl) (by kernel_rfl) (fun _ _ _ h => h) hSS (by rfl) (fun w' hS => by kernel_rfl) ?_
        simp only [Act.put, List.setIfInBounds_toArray, List.set_cons_zero, List.set_cons_succ]
        refine wh_take 2 (some 165) (.int .i64 (q : Int)) rfl rfl (by kernel_rfl) (by kernel_rfl) (by kernel_rfl) (fun _ _ _ h => h) hSS (by rfl) (fun w' hS => by kernel_rfl) ?_
        simp only [Act.put, List.setIfInBounds_toArray, List.set_cons_zero, List.set_cons_succ]
        refine wh_take 3 (some 166) (.agg #[.int .i64 1, .int .i64 0]) rfl rfl (by kernel_rfl) (by kernel_rfl) (by kernel_rfl) (fun _ _ _ h => h) hSS (by rfl) (fun w' hS => by clear hS; go_simp) ?_
        simp only [Act.put, List.setIfInBounds_toArray, List.set_cons_zero, List.set_cons_succ]
        refine wh_take 5 (some 168) (.pointer (some ⟨y, 0, none⟩)) rfl rfl (by kernel_rfl) (by kernel_rfl) (by kernel_rfl) (fun _ _ _ h => h) hSS (by rfl) (fun w' hS => by kernel_rfl) ?_
        simp only [Act.put, List.setIfInBounds_toArray, List.set_cons_zero, List.set_cons_succ]
        refine wh_take 7 (some 170) (.int .i64 (q : Int)) rfl rfl (by kernel_rfl) (by kernel_rfl) (by kernel_rfl) (fun _ _ _ h => h) hSS (by rfl) (fun w' hS => by kernel_rfl) ?_
        simp only [Act.put, List.setIfInBounds_toArray, List.set_cons_zero, List.set_cons_succ]
        refine wh_take 1 (some 164) (.slice (some ⟨gn, 0, none⟩) n cn) rfl rfl (by kernel_rfl) (by kernel_rfl) (by kernel_rfl) (fun _ _ _ h => h) hSS (by rfl) (fun w' hS => by have q0 : w'.cell? ⟨y2, 0, none⟩ = some (.slice (some ⟨gn, 0, none⟩) n cn) := (cell_of_block hS.2 0).trans rfl; clear hS; go_simp) ?_
        simp only [Act.put, List.setIfInBounds_toArray, List.set_cons_zero, List.set_cons_succ]
        refine wh_take 6 (some 169) (.slice (some ⟨gf, 0, none⟩) n fc) rfl rfl (by kernel_rfl) (by kernel_rfl) (by kernel_rfl) (fun _ _ _ h => h) hSS (by rfl) (fun w' hS => by have q0 : w'.cell? ⟨y, 0, none⟩ = some (.slice (some ⟨gf, 0, none⟩) n fc) := (cell_of_block hS.1 0).trans rfl; clear hS; go_simp) ?_
        simp only [Act.put, List.setIfInBounds_toArray, List.set_cons_zero, List.set_cons_succ]
        refine wh_take 8 (some 171) (.pointer (some ⟨gf, q * 4, none⟩)) rfl rfl (by kernel_rfl) (by kernel_rfl) (by kernel_rfl) (fun _ _ _ h => h) hSS (by rfl) (fun w' hS => by clear hS; go_simp) ?_
        simp only [Act.put, List.setIfInBounds_toArray, List.set_cons_zero, List.set_cons_succ]
        refine wh_take 9 (some 172) (.pointer (some ⟨gf, q * 4 + 3, none⟩)) rfl rfl (by kernel_rfl) (by kernel_rfl) (by kernel_rfl) (fun _ _ _ h => h) hSS (by rfl) (fun w' hS => by clear hS; go_simp) ?_
        simp only [Act.put, List.setIfInBounds_toArray, List.set_cons_zero, List.set_cons_succ]
        obtain ⟨bd, hbd⟩ : ∃ l, Fk.f.body = l := ⟨_, rfl⟩
        have HBD : Hid (Fk.f.body = bd ∧ bd.length = nb ∧ nb < 200) := ⟨hbd, by rw [← hbd]; exact HNB.out.1, by have h1 := shape_len HSH.out (List.mem_iff_getElem?.2 ⟨q, HFk.out.2.2.1⟩); rw [HNB.out.1] at h1; omega⟩
        have HBX0 : Hid (D.ownsRow w.heap.size 41 2 (.slice (some ⟨gb, 0, none⟩) nb cbb) nb (pv bd)) := by
          have h1 := ((HR.out.1.below HK.out).ok Fk HFk.out.1).bd
          rw [HVB.out, HNB.out.1, hbd] at h1
          exact h1
        obtain ⟨y5, hy5⟩ : ∃ z, D.heap.size = z := ⟨_, rfl⟩
        obtain ⟨X, hNX⟩ : ∃ W, D.alloc (.cells #[.int .i64 1, .int .i64 0] 41) = W := ⟨_, rfl⟩
        have hb0 : Below D.heap.size D X := by rw [← hNX]; exact bel_alloc (Below.refl _ _) _
        have bc : X.heap[y5]? = some (.cells #[.int .i64 1, .int .i64 0] 41 (0, 0)) := by rw [← hNX, ← hy5]; exact heap_alloc_new _ _
        have RC : Hid (X.ownsRow y5 41 2 (.slice (some ⟨y5, 0, none⟩) 1 1) ([((1 : Int), (0 : Int))] : List (Int × Int)).length (pv [((1 : Int), (0 : Int))])) := ⟨rfl, .inr ⟨y5, 1, _, rfl, Nat.le_refl _, bc, Nat.le_refl _, by unfold maxLen; omega, rfl, rfl⟩⟩
        have LY : Hid (y5 ≤ X.heap.size) := Nat.le_of_lt (lt_of_block bc)
        have HY5 : Hid (D.heap.size = y5 ∧ Below D.heap.size D X ∧ w.heap.size ≤ y5) := ⟨hy5, hb0, by rw [← hy5]; exact Nat.le_trans HB0.out.size HK.out.size⟩
        have hSX := And.intro ((hb0.block y (lt_of_block byy)).trans byy) ((hb0.block y2 (lt_of_block byy2)).trans byy2)
        have c3 := HC3.out _ HK.out
        have c3X := HC3.out _ (below2 HK.out hb0)
        have HBX : Hid (X.ownsRow w.heap.size 41 2 (.slice (some ⟨gb, 0, none⟩) nb cbb) nb (pv bd)) := own_keep HBX0.out (fun q' hq => hb0.block q' (HBX0.out.lt q' hq).2)
        clear hbd hb0 bc HBX0
        refine wh_two 4 10 (by kernel_rfl) ?_ ?_
        · refine wo_val (some 167) (.slice (some ⟨y5, 0, none⟩) 1 1) X rfl rfl (by rfl) (by rw [← hNX, ← hy5]; go_simp) hSX ?_
          simp only [Act.put, List.setIfInBounds_toArray, List.set_cons_zero, List.set_cons_succ]
          refine wh_val 10 (some 173) (.slice (some ⟨gb, 0, none⟩) nb cbb) X (by kernel_rfl) rfl rfl (by rfl) (by go_simp) hSX ?_
          simp only [Act.put, List.setIfInBounds_toArray, List.set_cons_zero, List.set_cons_succ]
          clear hNX hy5 c3 c3X hSX hSS
          obtain ⟨vA, w10, hrun, hoA, hgA⟩ := appIns X y5 (.slice (some ⟨y5, 0, none⟩) 1 1) [((1 : Int), (0 : Int))] RC.out gb 0 cbb bd (fun j u hu => by rw [Nat.zero_add]; exact row_cells HBX.out j u hu) (by have := HBD.out.2; simp; omega) LY.out 37
          obtain ⟨aA, cA, e7⟩ := slice_ins hoA
          subst e7
          have hb : Below D.heap.size D w10 := by
            have h1 : Below y5 X w10 := (Below.refl _ _).grown hgA LY.out (fun q hq => (RC.out.lt q hq).1)
            have h2 := HY5.out.2.1
            rw [HY5.out.1] at h2 ⊢
            exact h2.trans h1
          replace byy := (hb.block y (lt_of_block byy)).trans byy
          replace byy2 := (hb.block y2 (lt_of_block byy2)).trans byy2
          replace HK : Hid (Below w1.heap.size w1 w10) := below2 HK.out hb
          replace FRN : Hid (FRow w.heap.size w10 (.slice (some ⟨gn, 0, none⟩) n cn) L) := FRN.out.below hb
          have HOA : Hid (w10.ownsRow w.heap.size 41 2 (.slice aA ([((1 : Int), (0 : Int))] ++ bd).length cA) ([((1 : Int), (0 : Int))] ++ bd).length (pv ([((1 : Int), (0 : Int))] ++ bd))) := own_baseI hoA HY5.out.2.2
          clear hb hgA RC LY HY5 HBX hoA
          obtain ⟨bd6, hbd6⟩ : ∃ l, [((1 : Int), (0 : Int))] ++ bd = l := ⟨_, rfl⟩
          have HBD6 : Hid (bd6 = (1, 0) :: Fk.f.body) := by unfold Hid; rw [← hbd6, HBD.out.1]; rfl
          rw [hbd6] at HOA
          rw [HBD.out.2.1] at hrun
          rw [hbd6] at hrun
          clear hbd6
          have hSY := And.intro byy byy2
          refine wh_val 11 (some 174) (.slice aA bd6.length cA) w10 (by kernel_rfl) rfl rfl (by rfl) (by simp [execOp, resolve, invoke, builtin, Act.eval, hrun, Result.andThen]) hSY ?_
          simp only [Act.put, List.setIfInBounds_toArray, List.set_cons_zero, List.set_cons_succ]
          clear hrun
          refine wh_val 12 (some 175) (.pointer (some ⟨gn, q * 4, none⟩)) w10 (by kernel_rfl) rfl rfl (by rfl) (by go_simp) hSY ?_
          simp only [Act.put, List.setIfInBounds_toArray, List.set_cons_zero, List.set_cons_succ]
          refine wh_val 13 (some 176) (.pointer (some ⟨gn, q * 4 + 3, none⟩)) w10 (by kernel_rfl) rfl rfl (by rfl) (by go_simp) hSY ?_
          simp only [Act.put, List.setIfInBounds_toArray, List.set_cons_zero, List.set_cons_succ]
          have hqL : q < L.length := by have := HFk.out.2.2.2; have := HMF.out.2.2; omega
          have c3 := (FRN.out.cells q hqL).2.2.2
          have f3 := (show w10.ownsRow w.heap.size 39 4 (.slice (some ⟨gn, 0, none⟩) n cn) n (fcv L) from by have h := FRN.out.row; rw [HMF.out.2.2] at h; exact h).frozenAt (q * 4 + 3)
          obtain ⟨w12, hNb⟩ : ∃ G, w10.setCell ⟨gn, q * 4 + 3, none⟩ (.slice aA bd6.length cA) = G := ⟨_, rfl⟩
          have hoth : ∀ b, b ≠ gn → w12.heap[b]? = w10.heap[b]? := fun b hb => by rw [← hNb]; exact heap_setCell_other _ ⟨gn, q * 4 + 3, none⟩ b _ hb
          have hyg : y ≠ gn := fun e => by obtain ⟨cur, hc, _⟩ := own_at FRN.out.row (g := gn) rfl; rw [← e, byy] at hc; simp at hc
          have hyg2 : y2 ≠ gn := fun e => by obtain ⟨cur, hc, _⟩ := own_at FRN.out.row (g := gn) rfl; rw [← e, byy2] at hc; simp at hc
          have byN := (hoth y hyg).trans byy
          have byN2 := (hoth y2 hyg2).trans byy2
          have HKN : Hid (Below w1.heap.size w1 w12) := by unfold Hid; rw [← hNb]; exact HK.out.setCell HGN.out.2 _
          have hLq : L[q] = Fk := by have h := HFk.out.2.1; rw [List.getElem?_eq_getElem hqL] at h; exact Option.some.inj h
          have FR2 : Hid (FRow w.heap.size w12 (.slice (some ⟨gn, 0, none⟩) n cn) (L.set q { Fk with vb := .slice aA bd6.length cA, f := { Fk.f with body := bd6 } })) := by unfold Hid; rw [← hNb]; have h := FRN.out.setB HMF.out.2.2.symm q hqL HOA.out; rw [hLq] at h; exact h
          refine wh_skip 14 none w12 (by kernel_rfl) rfl rfl (by rfl) (by rw [← hNb]; go_simp) ⟨byN, byN2⟩ ?_
          simp only [Act.put]
          clear c3 f3 hNb hoth hyg hyg2 hSY byy byy2 HK FRN HOA hLq
          have byy := byN
          have byy2 := byN2
          clear byN byN2
          rw [HBD6.out] at FR2
          obtain ⟨u, hu⟩ : ∃ u : Value, u = .slice aA ((1, 0) :: Fk.f.body).length cA := ⟨_, rfl⟩
          rw [← hu] at FR2
          clear hu
          have HMN : Hid (ModAt w12 ⟨some ⟨gn, 0, none⟩, cn, ga, gc⟩ (nopM M q)) := by
            unfold Hid
            rw [← HME.out, ← nop_mod HFk.out.2.1 u]
            have h1 := FR2.out
            have h2 : n = (L.set q { Fk with vb := u, f := { Fk.f with body := (1, 0) :: Fk.f.body } }).length := by rw [List.length_set]; exact HMF.out.2.2.symm
            rw [h2] at h1
            exact frow_mod h1 (HR.out.2.below HKN.out) gc mem pg mo so
          have HSN : Hid (smM (nopM M q)) := nop_small HSM.out.1 (fun f hf => shape_len HSH.out hf)
          have HQ : Hid ((nopM M q).fs[q]? = some (nopF Fk.f)) := by unfold Hid; rw [nopM_at, HFk.out.2.2.1]; simp
          have HTN : Hid (told7 (nopM M q) (q : Int) = checkS (nopM M q) (nopF Fk.f)) := told_good HQ.out (nop_shape HSH.out HFk.out.2.2.1 (by rw [HBD.out.1, HBD.out.2.1]; exact HBD.out.2.2))
          obtain ⟨⟨d, there, hgn⟩, hT2⟩ : ∃ R, checkS (nopM M q) (nopF Fk.f) = R := ⟨_, rfl⟩
          have HND := nop_check M q Fk.f
          rw [hT2, HCK.out] at HND
          have HPL := check_place M Fk.f
          rw [HCK.out, HNB.out.1] at HPL
          have HPL2 : 0 ≤ at_ ∧ at_ ≤ (nb : Int) := HPL
          have HWR : Hid (wrap64 (at_ + 1) = at_ + 1) := by have h1 := HBD.out.2.2; clear HPL; unfold Hid wrap64; omega
          clear HPL2
          have IC2 : Hid (Calls Tryz.prog 5 #[.agg #[.slice (some ⟨gn, 0, none⟩) n cn, .slice ga ng gc, .bool mem, .int .i64 pg, .int .i64 mo, .int .i64 so], .int .i64 (q : Int)] w12 fun e w'' => e = .returned (.tuple #[.int .i64 d, .int .i64 there]) ∧ Below w12.heap.size w12 w'') := by
            have t := implCheckFunc ⟨some ⟨gn, 0, none⟩, cn, ga, gc⟩ (nopM M q) (q : Int) w12 HMN HSN
            rw [HTN.out, hT2] at t
            have h1 := HV2.out (some ⟨gn, 0, none⟩) cn q
            rw [h1] at t
            exact t
          clear hT2 HPL
          refine wh_done (by kernel_rfl) ?_
          have qq0 : w12.cell? ⟨y2, 0, none⟩ = some (.slice (some ⟨gn, 0, none⟩) n cn) := (cell_of_block byy2 0).trans rfl
          have qq1 : w12.cell? ⟨y2, 1, none⟩ = some (.slice ga ng gc) := (cell_of_block byy2 1).trans rfl
          have qq2 : w12.cell? ⟨y2, 2, none⟩ = some (.bool mem) := (cell_of_block byy2 2).trans rfl
          have qq3 : w12.cell? ⟨y2, 3, none⟩ = some (.int .i64 pg) := (cell_of_block byy2 3).trans rfl
          have qq4 : w12.cell? ⟨y2, 4, none⟩ = some (.int .i64 mo) := (cell_of_block byy2 4).trans rfl
          have qq5 : w12.cell? ⟨y2, 5, none⟩ = some (.int .i64 so) := (cell_of_block byy2 5).trans rfl
          go_wp2_with fail
          clear qq0 qq1 qq2 qq3 qq4 qq5
          refine IC2.out.mono ?_
          rintro e w13 ⟨rfl, hb⟩
          have HKF : Hid (Below w1.heap.size w1 w13) := below2 HKN.out hb
          clear hb IC2
          have hw := HWR.out
          have hd : d = c := HND.1
          subst hd
          have hth : there = at_ + 1 := HND.2.resolve_left hc0
          subst hth
          clear HND
          go_wp2
          go_ret
          exact ⟨rfl, HB0.out.trans (HKF.out.mono HB0.out.size)⟩
        · refine wo_val (some 173) (.slice (some ⟨gb, 0, none⟩) nb cbb) D rfl rfl (by rfl) (by go_simp) hSS ?_
          simp only [Act.put, List.setIfInBounds_toArray, List.set_cons_zero, List.set_cons_succ]
          refine wh_val 4 (some 167) (.slice (some ⟨y5, 0, none⟩) 1 1) X (by kernel_rfl) rfl rfl (by rfl) (by rw [← hNX, ← hy5]; go_simp) hSX ?_
          simp only [Act.put, List.setIfInBounds_toArray, List.set_cons_zero, List.set_cons_succ]
          clear hNX hy5 c3 c3X hSX hSS
          obtain ⟨vA, w10, hrun, hoA, hgA⟩ := appIns X y5 (.slice (some ⟨y5, 0, none⟩) 1 1) [((1 : Int), (0 : Int))] RC.out gb 0 cbb bd (fun j u hu => by rw [Nat.zero_add]; exact row_cells HBX.out j u hu) (by have := HBD.out.2; simp; omega) LY.out 37
          obtain ⟨aA, cA, e7⟩ := slice_ins hoA
          subst e7
          have hb : Below D.heap.size D w10 := by
            have h1 : Below y5 X w10 := (Below.refl _ _).grown hgA LY.out (fun q hq => (RC.out.lt q hq).1)
            have h2 := HY5.out.2.1
            rw [HY5.out.1] at h2 ⊢
            exact h2.trans h1
          replace byy := (hb.block y (lt_of_block byy)).trans byy
          replace byy2 := (hb.block y2 (lt_of_block byy2)).trans byy2
          replace HK : Hid (Below w1.heap.size w1 w10) := below2 HK.out hb
          replace FRN : Hid (FRow w.heap.size w10 (.slice (some ⟨gn, 0, none⟩) n cn) L) := FRN.out.below hb
          have HOA : Hid (w10.ownsRow w.heap.size 41 2 (.slice aA ([((1 : Int), (0 : Int))] ++ bd).length cA) ([((1 : Int), (0 : Int))] ++ bd).length (pv ([((1 : Int), (0 : Int))] ++ bd))) := own_baseI hoA HY5.out.2.2
          clear hb hgA RC LY HY5 HBX hoA
          obtain ⟨bd6, hbd6⟩ : ∃ l, [((1 : Int), (0 : Int))] ++ bd = l := ⟨_, rfl⟩
          have HBD6 : Hid (bd6 = (1, 0) :: Fk.f.body) := by unfold Hid; rw [← hbd6, HBD.out.1]; rfl
          rw [hbd6] at HOA
          rw [HBD.out.2.1] at hrun
          rw [hbd6] at hrun
          clear hbd6
          have hSY := And.intro byy byy2
          refine wh_val 11 (some 174) (.slice aA bd6.length cA) w10 (by kernel_rfl) rfl rfl (by rfl) (by simp [execOp, resolve, invoke, builtin, Act.eval, hrun, Result.andThen]) hSY ?_
          simp only [Act.put, List.setIfInBounds_toArray, List.set_cons_zero, List.set_cons_succ]
          clear hrun
          refine wh_val 12 (some 175) (.pointer (some ⟨gn, q * 4, none⟩)) w10 (by kernel_rfl) rfl rfl (by rfl) (by go_simp) hSY ?_
          simp only [Act.put, List.setIfInBounds_toArray, List.set_cons_zero, List.set_cons_succ]
          refine wh_val 13 (some 176) (.pointer (some ⟨gn, q * 4 + 3, none⟩)) w10 (by kernel_rfl) rfl rfl (by rfl) (by go_simp) hSY ?_
          simp only [Act.put, List.setIfInBounds_toArray, List.set_cons_zero, List.set_cons_succ]
          have hqL : q < L.length := by have := HFk.out.2.2.2; have := HMF.out.2.2; omega
          have c3 := (FRN.out.cells q hqL).2.2.2
          have f3 := (show w10.ownsRow w.heap.size 39 4 (.slice (some ⟨gn, 0, none⟩) n cn) n (fcv L) from by have h := FRN.out.row; rw [HMF.out.2.2] at h; exact h).frozenAt (q * 4 + 3)
          obtain ⟨w12, hNb⟩ : ∃ G, w10.setCell ⟨gn, q * 4 + 3, none⟩ (.slice aA bd6.length cA) = G := ⟨_, rfl⟩
          have hoth : ∀ b, b ≠ gn → w12.heap[b]? = w10.heap[b]? := fun b hb => by rw [← hNb]; exact heap_setCell_other _ ⟨gn, q * 4 + 3, none⟩ b _ hb
          have hyg : y ≠ gn := fun e => by obtain ⟨cur, hc, _⟩ := own_at FRN.out.row (g := gn) rfl; rw [← e, byy] at hc; simp at hc
          have hyg2 : y2 ≠ gn := fun e => by obtain ⟨cur, hc, _⟩ := own_at FRN.out.row (g := gn) rfl; rw [← e, byy2] at hc; simp at hc
          have byN := (hoth y hyg).trans byy
          have byN2 := (hoth y2 hyg2).trans byy2
          have HKN : Hid (Below w1.heap.size w1 w12) := by unfold Hid; rw [← hNb]; exact HK.out.setCell HGN.out.2 _
          have hLq : L[q] = Fk := by have h := HFk.out.2.1; rw [List.getElem?_eq_getElem hqL] at h; exact Option.some.inj h
          have FR2 : Hid (FRow w.heap.size w12 (.slice (some ⟨gn, 0, none⟩) n cn) (L.set q { Fk with vb := .slice aA bd6.length cA, f := { Fk.f with body := bd6 } })) := by unfold Hid; rw [← hNb]; have h := FRN.out.setB HMF.out.2.2.symm q hqL HOA.out; rw [hLq] at h; exact h
          refine wh_skip 14 none w12 (by kernel_rfl) rfl rfl (by rfl) (by rw [← hNb]; go_simp) ⟨byN, byN2⟩ ?_
          simp only [Act.put]
          clear c3 f3 hNb hoth hyg hyg2 hSY byy byy2 HK FRN HOA hLq
          have byy := byN
          have byy2 := byN2
          clear byN byN2
          rw [HBD6.out] at FR2
          obtain ⟨u, hu⟩ : ∃ u : Value, u = .slice aA ((1, 0) :: Fk.f.body).length cA := ⟨_, rfl⟩
          rw [← hu] at FR2
          clear hu
          have HMN : Hid (ModAt w12 ⟨some ⟨gn, 0, none⟩, cn, ga, gc⟩ (nopM M q)) := by
            unfold Hid
            rw [← HME.out, ← nop_mod HFk.out.2.1 u]
            have h1 := FR2.out
            have h2 : n = (L.set q { Fk with vb := u, f := { Fk.f with body := (1, 0) :: Fk.f.body } }).length := by rw [List.length_set]; exact HMF.out.2.2.symm
            rw [h2] at h1
            exact frow_mod h1 (HR.out.2.below HKN.out) gc mem pg mo so
          have HSN : Hid (smM (nopM M q)) := nop_small HSM.out.1 (fun f hf => shape_len HSH.out hf)
          have HQ : Hid ((nopM M q).fs[q]? = some (nopF Fk.f)) := by unfold Hid; rw [nopM_at, HFk.out.2.2.1]; simp
          have HTN : Hid (told7 (nopM M q) (q : Int) = checkS (nopM M q) (nopF Fk.f)) := told_good HQ.out (nop_shape HSH.out HFk.out.2.2.1 (by rw [HBD.out.1, HBD.out.2.1]; exact HBD.out.2.2))
          obtain ⟨⟨d, there, hgn⟩, hT2⟩ : ∃ R, checkS (nopM M q) (nopF Fk.f) = R := ⟨_, rfl⟩
          have HND := nop_check M q Fk.f
          rw [hT2, HCK.out] at HND
          have HPL := check_place M Fk.f
          rw [HCK.out, HNB.out.1] at HPL
          have HPL2 : 0 ≤ at_ ∧ at_ ≤ (nb : Int) := HPL
          have HWR : Hid (wrap64 (at_ + 1) = at_ + 1) := by have h1 := HBD.out.2.2; clear HPL; unfold Hid wrap64; omega
          clear HPL2
          have IC2 : Hid (Calls Tryz.prog 5 #[.agg #[.slice (some ⟨gn, 0, none⟩) n cn, .slice ga ng gc, .bool mem, .int .i64 pg, .int .i64 mo, .int .i64 so], .int .i64 (q : Int)] w12 fun e w'' => e = .returned (.tuple #[.int .i64 d, .int .i64 there]) ∧ Below w12.heap.size w12 w'') := by
            have t := implCheckFunc ⟨some ⟨gn, 0, none⟩, cn, ga, gc⟩ (nopM M q) (q : Int) w12 HMN HSN
            rw [HTN.out, hT2] at t
            have h1 := HV2.out (some ⟨gn, 0, none⟩) cn q
            rw [h1] at t
            exact t
          clear hT2 HPL
          refine wh_done (by kernel_rfl) ?_
          have qq0 : w12.cell? ⟨y2, 0, none⟩ = some (.slice (some ⟨gn, 0, none⟩) n cn) := (cell_of_block byy2 0).trans rfl
          have qq1 : w12.cell? ⟨y2, 1, none⟩ = some (.slice ga ng gc) := (cell_of_block byy2 1).trans rfl
          have qq2 : w12.cell? ⟨y2, 2, none⟩ = some (.bool mem) := (cell_of_block byy2 2).trans rfl
          have qq3 : w12.cell? ⟨y2, 3, none⟩ = some (.int .i64 pg) := (cell_of_block byy2 3).trans rfl
          have qq4 : w12.cell? ⟨y2, 4, none⟩ = some (.int .i64 mo) := (cell_of_block byy2 4).trans rfl
          have qq5 : w12.cell? ⟨y2, 5, none⟩ = some (.int .i64 so) := (cell_of_block byy2 5).trans rfl
          go_wp2_with fail
          clear qq0 qq1 qq2 qq3 qq4 qq5
          refine IC2.out.mono ?_
          rintro e w13 ⟨rfl, hb⟩
          have HKF : Hid (Below w1.heap.size w1 w13) := below2 HKN.out hb
          clear hb IC2
          have hw := HWR.out
          have hd : d = c := HND.1
          subst hd
          have hth : there = at_ + 1 := HND.2.resolve_left hc0
          subst hth
          clear HND
          go_wp2
          go_ret
          exact ⟨rfl, HB0.out.trans (HKF.out.mono HB0.out.size)⟩
      · skip
        have hc0 : c = 0 := by simpa using hcc
        subst hc0
        clear hcc
        have hd1 : decide ((nb : Int) < hg) = false := by simp only [decide_eq_false_iff_not]; exact h5
        have hd2 : ((nb : Int) == 200) = false := by simpa using h200
        have hd3 : ¬ ((nb : Int) < hg ∨ ((nb : Int) == 200) = true) := by rintro (h | h); exact h5 h; exact h200 (by simpa using h)
        have qy0 : w7.cell? ⟨y, 0, none⟩ = some (.slice (some ⟨gf, 0, none⟩) n fc) := (cell_of_block byy 0).trans rfl
        have qy1 : w7.cell? ⟨y, 1, none⟩ = some (.slice ga ng gc) := (cell_of_block byy 1).trans rfl
        have qy2 : w7.cell? ⟨y, 2, none⟩ = some (.bool mem) := (cell_of_block byy 2).trans rfl
        have qy3 : w7.cell? ⟨y, 3, none⟩ = some (.int .i64 pg) := (cell_of_block byy 3).trans rfl
        have qy4 : w7.cell? ⟨y, 4, none⟩ = some (.int .i64 mo) := (cell_of_block byy 4).trans rfl
        have qy5 : w7.cell? ⟨y, 5, none⟩ = some (.int .i64 so) := (cell_of_block byy 5).trans rfl
        have HKp := HK
        obtain ⟨y2, hy2⟩ : ∃ z, w7.heap.size = z := ⟨_, rfl⟩
        obtain ⟨Z2, hZ2⟩ : ∃ W, w7.alloc (.cells #[.slice none 0 0, .slice none 0 0, .bool false, .int .i64 0, .int .i64 0, .int .i64 0] 26) = W := ⟨_, rfl⟩
        have hb1 : Below w7.heap.size w7 Z2 := by rw [← hZ2]; exact bel_alloc (Below.refl _ _) _
        have hny2 : Z2.heap[y2]? = some (.cells #[.slice none 0 0, .slice none 0 0, .bool false, .int .i64 0, .int .i64 0, .int .i64 0] 26 (0, 0)) := by rw [← hZ2, ← hy2]; exact heap_alloc_new _ _
        obtain ⟨V2, hV2⟩ : ∃ G, ((((((Z2.setCell ⟨y2, 0, none⟩ (.slice (some ⟨gf, 0, none⟩) n fc)).setCell ⟨y2, 1, none⟩ (.slice ga ng gc)).setCell ⟨y2, 2, none⟩ (.bool mem)).setCell ⟨y2, 3, none⟩ (.int .i64 pg)).setCell ⟨y2, 4, none⟩ (.int .i64 mo)).setCell ⟨y2, 5, none⟩ (.int .i64 so)) = G := ⟨_, rfl⟩
        obtain ⟨byy2, s2, s3, s4⟩ := set6T hny2 _ _ _ _ _ _ hV2
        have hb : Below w7.heap.size w7 V2 := s4 _ _ (Nat.le_of_eq hy2) hb1
        have ey20 : Z2.cell? ⟨y2, 0, none⟩ = some (.slice none 0 0) := (cell_of_block hny2 0).trans rfl
        have fy20 := free_of_block hny2 0
        have ey21 : Z2.cell? ⟨y2, 1, none⟩ = some (.slice none 0 0) := (cell_of_block hny2 1).trans rfl
        have fy21 := free_of_block hny2 1
        have ey22 : Z2.cell? ⟨y2, 2, none⟩ = some (.bool false) := (cell_of_block hny2 2).trans rfl
        have fy22 := free_of_block hny2 2
        have ey23 : Z2.cell? ⟨y2, 3, none⟩ = some (.int .i64 0) := (cell_of_block hny2 3).trans rfl
        have fy23 := free_of_block hny2 3
        have ey24 : Z2.cell? ⟨y2, 4, none⟩ = some (.int .i64 0) := (cell_of_block hny2 4).trans rfl
        have fy24 := free_of_block hny2 4
        have ey25 : Z2.cell? ⟨y2, 5, none⟩ = some (.int .i64 0) := (cell_of_block hny2 5).trans rfl
        have fy25 := free_of_block hny2 5
        replace HK : Hid (Below w1.heap.size w1 V2) := below2 HK.out hb
        have HYY : Hid (y < y2 ∧ w1.heap.size ≤ y2) := ⟨by rw [← hy2]; exact lt_of_block byy, by rw [← hy2]; exact HKp.out.size⟩
        replace byy := (hb.block y (lt_of_block byy)).trans byy
        clear hb hb1 s2 s3 s4 hny2
        obtain ⟨y3, hy3⟩ : ∃ z, V2.heap.size = z := ⟨_, rfl⟩
        obtain ⟨X3, hX3⟩ : ∃ W, V2.alloc (.cells #[] 39) = W := ⟨_, rfl⟩
        have hb0 : Below V2.heap.size V2 X3 := by rw [← hX3]; exact bel_alloc (Below.refl _ _) _
        have HWB : Hid (w.heap.size ≤ V2.heap.size) := Nat.le_trans HB0.out.size HK.out.size
        have H0 : Hid (X3.ownsRow y3 39 4 (.slice (some ⟨y3, 0, none⟩) 0 0) 0 []) := by unfold Hid; rw [← hX3, ← hy3]; exact World.ownsRow_made V2 #[] 0 (Nat.le_refl _) (by simp [maxLen]) (by simp)
        have HKX : Hid (Below w1.heap.size w1 X3) := below2 HK.out hb0
        have FRX : Hid (FRow w.heap.size X3 (.slice (some ⟨gf, 0, none⟩) L.length fc) L) := HR.out.1.below HKX.out
        have HX3 : Hid (V2.heap.size = y3 ∧ Below V2.heap.size V2 X3 ∧ y3 ≤ X3.heap.size) := ⟨hy3, hb0, by rw [← hX3, ← hy3]; simp⟩
        have p0x : X3.cell? ⟨y, 0, none⟩ = some (.slice (some ⟨gf, 0, none⟩) n fc) := (cell_of_block ((hb0.block y (lt_of_block byy)).trans byy) 0).trans rfl
        clear hb0
        go_wp2_with (at_builtin; refine wpl_copyFun _ rfl _ _ rfl w.heap.size y3 _ rfl H0.out gf 0 fc L (by rw [HMF.out.2.2]; rfl) ?qc1 ?qc2 ?qc3 ?qc4 ?qc5 ?_)
        case qc1 => exact FRX.out.ok
        case qc2 => intro j u hu; rw [Nat.zero_add]; have h := FRX.out.row.cells (g := gf) rfl j u hu; rw [Addr.add_lit, Nat.zero_add] at h; exact h
        case qc3 => have := HSM.out; have := HMF.out.2.2; omega
        case qc4 => have := HWB.out; have := HX3.out; omega
        case qc5 => have := HX3.out; omega
        intro vN w8 hF hoF hgF
        clear qy0 qy1 qy2 qy3 qy4 qy5 hy2 hZ2 hV2 ey20 fy20 ey21 fy21 ey22 fy22 ey23 fy23 ey24 fy24 ey25 fy25 p0x hX3 hy3
        have hb : Below V2.heap.size V2 w8 := by
          have h1 : Below y3 X3 w8 := (Below.refl _ _).grown hgF HX3.out.2.2 (fun q hq => by have h : y3 = q := Option.some.inj hq; omega)
          have h2 := HX3.out.2.1
          rw [HX3.out.1] at h2 ⊢
          exact h2.trans h1
        obtain ⟨gn, cn, e5, _⟩ := own_pos hF.row (by have := HSM.out; have := HMF.out.2.2; omega)
        subst e5
        have HGN : Hid (y3 ≤ gn ∧ w1.heap.size ≤ gn) := by have h1 := (hoF.lt gn rfl).1; have h2 := HX3.out; have h3 := HK.out.size; exact ⟨h1, by omega⟩
        clear hoF
        replace byy := (hb.block y (lt_of_block byy)).trans byy
        replace byy2 := (hb.block y2 (lt_of_block byy2)).trans byy2
        replace HK : Hid (Below w1.heap.size w1 w8) := below2 HK.out hb
        have FRN : Hid (FRow w.heap.size w8 (.slice (some ⟨gn, 0, none⟩) n cn) L) := by have h := hF; rw [HMF.out.2.2] at h; exact h
        rw [HMF.out.2.2]
        clear hb hF hgF H0 FRX HX3 HKX HWB
        have hyy : y ≠ y2 := fun e => by have := HYY.out; omega
        obtain ⟨w9, hN9⟩ : ∃ G, w8.setCell ⟨y2, 0, none⟩ (.slice (some ⟨gn, 0, none⟩) n cn) = G := ⟨_, rfl⟩
        obtain ⟨s1, s2, s3, s4⟩ := set1T byy2 0 (.slice (some ⟨gn, 0, none⟩) n cn) hN9
        replace s1 : w9.heap[y2]? = some (.cells #[.slice (some ⟨gn, 0, none⟩) n cn, .slice ga ng gc, .bool mem, .int .i64 pg, .int .i64 mo, .int .i64 so] 26 (0, 0)) := s1
        have t0 : w8.cell? ⟨y2, 0, none⟩ = some (.slice (some ⟨gf, 0, none⟩) n fc) := (cell_of_block byy2 0).trans rfl
        have t1 := free_of_block byy2 0
        replace FRN : Hid (FRow w.heap.size w9 (.slice (some ⟨gn, 0, none⟩) n cn) L) := FRow.farM FRN.out byy2 (by decide) (by decide) (by decide) s2
        replace byy := (s2 y hyy).trans byy
        replace byy2 := s1
        replace HK : Hid (Below w1.heap.size w1 w9) := s4 _ _ HYY.out.2 HK.out
        clear s1 s2 s3 s4 hyy
        have FRO : Hid (FRow w.heap.size w9 (.slice (some ⟨gf, 0, none⟩) L.length fc) L) := HR.out.1.below HK.out
        have c3 := HC3.out _ HK.out
        obtain ⟨gb, cbb, hvb2, _⟩ := own_pos (HR.out.1.ok Fk HFk.out.1).bd (shape_pos HSH.out (List.mem_iff_getElem?.2 ⟨q, HFk.out.2.2.1⟩))
        have hvv := HNB.out.2.1
        rw [hvb2, HNB.out.1] at hvv
        simp only [Value.slice.injEq, true_and] at hvv
        obtain ⟨rfl, rfl⟩ := hvv
        have HVB : Hid (Fk.vb = .slice (some ⟨gb, 0, none⟩) Fk.f.body.length cbb) := hvb2
        clear hvb2
        obtain ⟨D, hD⟩ : ∃ W, w9.drew = W := ⟨_, rfl⟩
        have hbd : Below w9.heap.size w9 D := by rw [← hD]; exact (Below.refl _ _).drew
        go_wp2
        clear hN9 t0 t1 c3
        refine wh_begin (fun w' : World => w'.heap[y]? = some (.cells #[.slice (some ⟨gf, 0, none⟩) n fc, .slice ga ng gc, .bool mem, .int .i64 pg, .int .i64 mo, .int .i64 so] 26 (0, 0)) ∧ w'.heap[y2]? = some (.cells #[.slice (some ⟨gn, 0, none⟩) n cn, .slice ga ng gc, .bool mem, .int .i64 pg, .int .i64 mo, .int .i64 so] 26 (0, 0))) (by kernel_rfl) ?_
        rw [hD]
        replace byy := (hbd.block y (lt_of_block byy)).trans byy
        replace byy2 := (hbd.block y2 (lt_of_block byy2)).trans byy2
        replace HK : Hid (Below w1.heap.size w1 D) := below2 HK.out hbd
        replace FRN : Hid (FRow w.heap.size D (.slice (some ⟨gn, 0, none⟩) n cn) L) := FRN.out.below hbd
        have hSS := And.intro byy byy2
        have k3 : 0 ≤ (q : Int) ∧ (q : Int) < (n : Int) := ⟨by omega, k2⟩
        clear hbd hD FRO
        refine wh_take 0 (some 163) (.pointer (some ⟨y2, 0, none⟩)) rfl rfl (by kernel_rfl) (by kernel_rfl) (by kernel_rfl) (fun _ _ _ h => h) hSS (by rfl) (fun w' hS => by kernel_rfl) ?_
        simp only [Act.put, List.setIfInBounds_toArray, List.set_cons_zero, List.set_cons_succ]
        refine wh_take 2 (some 165) (.int .i64 (q : Int)) rfl rfl (by kernel_rfl) (by kernel_rfl) (by kernel_rfl) (fun _ _ _ h => h) hSS (by rfl) (fun w' hS => by kernel_rfl) ?_
        simp only [Act.put, List.setIfInBounds_toArray, List.set_cons_zero, List.set_cons_succ]
        refine wh_take 3 (some 166) (.agg #[.int .i64 1, .int .i64 0]) rfl rfl (by kernel_rfl) (by kernel_rfl) (by kernel_rfl) (fun _ _ _ h => h) hSS (by rfl) (fun w' hS => by clear hS; go_simp) ?_
        simp only [Act.put, List.setIfInBounds_toArray, List.set_cons_zero, List.set_cons_succ]
        refine wh_take 5 (some 168) (.pointer (some ⟨y, 0, none⟩)) rfl rfl (by kernel_rfl) (by kernel_rfl) (by kernel_rfl) (fun _ _ _ h => h) hSS (by rfl) (fun w' hS => by kernel_rfl) ?_
        simp only [Act.put, List.setIfInBounds_toArray, List.set_cons_zero, List.set_cons_succ]
        refine wh_take 7 (some 170) (.int .i64 (q : Int)) rfl rfl (by kernel_rfl) (by kernel_rfl) (by kernel_rfl) (fun _ _ _ h => h) hSS (by rfl) (fun w' hS => by kernel_rfl) ?_
        simp only [Act.put, List.setIfInBounds_toArray, List.set_cons_zero, List.set_cons_succ]
        refine wh_take 1 (some 164) (.slice (some ⟨gn, 0, none⟩) n cn) rfl rfl (by kernel_rfl) (by kernel_rfl) (by kernel_rfl) (fun _ _ _ h => h) hSS (by rfl) (fun w' hS => by have q0 : w'.cell? ⟨y2, 0, none⟩ = some (.slice (some ⟨gn, 0, none⟩) n cn) := (cell_of_block hS.2 0).trans rfl; clear hS; go_simp) ?_
        simp only [Act.put, List.setIfInBounds_toArray, List.set_cons_zero, List.set_cons_succ]
        refine wh_take 6 (some 169) (.slice (some ⟨gf, 0, none⟩) n fc) rfl rfl (by kernel_rfl) (by kernel_rfl) (by kernel_rfl) (fun _ _ _ h => h) hSS (by rfl) (fun w' hS => by have q0 : w'.cell? ⟨y, 0, none⟩ = some (.slice (some ⟨gf, 0, none⟩) n fc) := (cell_of_block hS.1 0).trans rfl; clear hS; go_simp) ?_
        simp only [Act.put, List.setIfInBounds_toArray, List.set_cons_zero, List.set_cons_succ]
        refine wh_take 8 (some 171) (.pointer (some ⟨gf, q * 4, none⟩)) rfl rfl (by kernel_rfl) (by kernel_rfl) (by kernel_rfl) (fun _ _ _ h => h) hSS (by rfl) (fun w' hS => by clear hS; go_simp) ?_
        simp only [Act.put, List.setIfInBounds_toArray, List.set_cons_zero, List.set_cons_succ]
        refine wh_take 9 (some 172) (.pointer (some ⟨gf, q * 4 + 3, none⟩)) rfl rfl (by kernel_rfl) (by kernel_rfl) (by kernel_rfl) (fun _ _ _ h => h) hSS (by rfl) (fun w' hS => by clear hS; go_simp) ?_
        simp only [Act.put, List.setIfInBounds_toArray, List.set_cons_zero, List.set_cons_succ]
        obtain ⟨bd, hbd⟩ : ∃ l, Fk.f.body = l := ⟨_, rfl⟩
        have HBD : Hid (Fk.f.body = bd ∧ bd.length = nb ∧ nb < 200) := ⟨hbd, by rw [← hbd]; exact HNB.out.1, by have h1 := shape_len HSH.out (List.mem_iff_getElem?.2 ⟨q, HFk.out.2.2.1⟩); rw [HNB.out.1] at h1; omega⟩
        have HBX0 : Hid (D.ownsRow w.heap.size 41 2 (.slice (some ⟨gb, 0, none⟩) nb cbb) nb (pv bd)) := by
          have h1 := ((HR.out.1.below HK.out).ok Fk HFk.out.1).bd
          rw [HVB.out, HNB.out.1, hbd] at h1
          exact h1
        obtain ⟨y5, hy5⟩ : ∃ z, D.heap.size = z := ⟨_, rfl⟩
        obtain ⟨X, hNX⟩ : ∃ W, D.alloc (.cells #[.int .i64 1, .int .i64 0] 41) = W := ⟨_, rfl⟩
        have hb0 : Below D.heap.size D X := by rw [← hNX]; exact bel_alloc (Below.refl _ _) _
        have bc : X.heap[y5]? = some (.cells #[.int .i64 1, .int .i64 0] 41 (0, 0)) := by rw [← hNX, ← hy5]; exact heap_alloc_new _ _
        have RC : Hid (X.ownsRow y5 41 2 (.slice (some ⟨y5, 0, none⟩) 1 1) ([((1 : Int), (0 : Int))] : List (Int × Int)).length (pv [((1 : Int), (0 : Int))])) := ⟨rfl, .inr ⟨y5, 1, _, rfl, Nat.le_refl _, bc, Nat.le_refl _, by unfold maxLen; omega, rfl, rfl⟩⟩
        have LY : Hid (y5 ≤ X.heap.size) := Nat.le_of_lt (lt_of_block bc)
        have HY5 : Hid (D.heap.size = y5 ∧ Below D.heap.size D X ∧ w.heap.size ≤ y5) := ⟨hy5, hb0, by rw [← hy5]; exact Nat.le_trans HB0.out.size HK.out.size⟩
        have hSX := And.intro ((hb0.block y (lt_of_block byy)).trans byy) ((hb0.block y2 (lt_of_block byy2)).trans byy2)
        have c3 := HC3.out _ HK.out
        have c3X := HC3.out _ (below2 HK.out hb0)
        have HBX : Hid (X.ownsRow w.heap.size 41 2 (.slice (some ⟨gb, 0, none⟩) nb cbb) nb (pv bd)) := own_keep HBX0.out (fun q' hq => hb0.block q' (HBX0.out.lt q' hq).2)
        clear hbd hb0 bc HBX0
        refine wh_two 4 10 (by kernel_rfl) ?_ ?_
        · refine wo_val (some 167) (.slice (some ⟨y5, 0, none⟩) 1 1) X rfl rfl (by rfl) (by rw [← hNX, ← hy5]; go_simp) hSX ?_
          simp only [Act.put, List.setIfInBounds_toArray, List.set_cons_zero, List.set_cons_succ]
          refine wh_val 10 (some 173) (.slice (some ⟨gb, 0, none⟩) nb cbb) X (by kernel_rfl) rfl rfl (by rfl) (by go_simp) hSX ?_
          simp only [Act.put, List.setIfInBounds_toArray, List.set_cons_zero, List.set_cons_succ]
          clear hNX hy5 c3 c3X hSX hSS
          obtain ⟨vA, w10, hrun, hoA, hgA⟩ := appIns X y5 (.slice (some ⟨y5, 0, none⟩) 1 1) [((1 : Int), (0 : Int))] RC.out gb 0 cbb bd (fun j u hu => by rw [Nat.zero_add]; exact row_cells HBX.out j u hu) (by have := HBD.out.2; simp; omega) LY.out 37
          obtain ⟨aA, cA, e7⟩ := slice_ins hoA
          subst e7
          have hb : Below D.heap.size D w10 := by
            have h1 : Below y5 X w10 := (Below.refl _ _).grown hgA LY.out (fun q hq => (RC.out.lt q hq).1)
            have h2 := HY5.out.2.1
            rw [HY5.out.1] at h2 ⊢
            exact h2.trans h1
          replace byy := (hb.block y (lt_of_block byy)).trans byy
          replace byy2 := (hb.block y2 (lt_of_block byy2)).trans byy2
          replace HK : Hid (Below w1.heap.size w1 w10) := below2 HK.out hb
          replace FRN : Hid (FRow w.heap.size w10 (.slice (some ⟨gn, 0, none⟩) n cn) L) := FRN.out.below hb
          have HOA : Hid (w10.ownsRow w.heap.size 41 2 (.slice aA ([((1 : Int), (0 : Int))] ++ bd).length cA) ([((1 : Int), (0 : Int))] ++ bd).length (pv ([((1 : Int), (0 : Int))] ++ bd))) := own_baseI hoA HY5.out.2.2
          clear hb hgA RC LY HY5 HBX hoA
          obtain ⟨bd6, hbd6⟩ : ∃ l, [((1 : Int), (0 : Int))] ++ bd = l := ⟨_, rfl⟩
          have HBD6 : Hid (bd6 = (1, 0) :: Fk.f.body) := by unfold Hid; rw [← hbd6, HBD.out.1]; rfl
          rw [hbd6] at HOA
          rw [HBD.out.2.1] at hrun
          rw [hbd6] at hrun
          clear hbd6
          have hSY := And.intro byy byy2
          refine wh_val 11 (some 174) (.slice aA bd6.length cA) w10 (by kernel_rfl) rfl rfl (by rfl) (by simp [execOp, resolve, invoke, builtin, Act.eval, hrun, Result.andThen]) hSY ?_
          simp only [Act.put, List.setIfInBounds_toArray, List.set_cons_zero, List.set_cons_succ]
          clear hrun
          refine wh_val 12 (some 175) (.pointer (some ⟨gn, q * 4, none⟩)) w10 (by kernel_rfl) rfl rfl (by rfl) (by go_simp) hSY ?_
          simp only [Act.put, List.setIfInBounds_toArray, List.set_cons_zero, List.set_cons_succ]
          refine wh_val 13 (some 176) (.pointer (some ⟨gn, q * 4 + 3, none⟩)) w10 (by kernel_rfl) rfl rfl (by rfl) (by go_simp) hSY ?_
          simp only [Act.put, List.setIfInBounds_toArray, List.set_cons_zero, List.set_cons_succ]
          have hqL : q < L.length := by have := HFk.out.2.2.2; have := HMF.out.2.2; omega
          have c3 := (FRN.out.cells q hqL).2.2.2
          have f3 := (show w10.ownsRow w.heap.size 39 4 (.slice (some ⟨gn, 0, none⟩) n cn) n (fcv L) from by have h := FRN.out.row; rw [HMF.out.2.2] at h; exact h).frozenAt (q * 4 + 3)
          obtain ⟨w12, hNb⟩ : ∃ G, w10.setCell ⟨gn, q * 4 + 3, none⟩ (.slice aA bd6.length cA) = G := ⟨_, rfl⟩
          have hoth : ∀ b, b ≠ gn → w12.heap[b]? = w10.heap[b]? := fun b hb => by rw [← hNb]; exact heap_setCell_other _ ⟨gn, q * 4 + 3, none⟩ b _ hb
          have hyg : y ≠ gn := fun e => by obtain ⟨cur, hc, _⟩ := own_at FRN.out.row (g := gn) rfl; rw [← e, byy] at hc; simp at hc
          have hyg2 : y2 ≠ gn := fun e => by obtain ⟨cur, hc, _⟩ := own_at FRN.out.row (g := gn) rfl; rw [← e, byy2] at hc; simp at hc
          have byN := (hoth y hyg).trans byy
          have byN2 := (hoth y2 hyg2).trans byy2
          have HKN : Hid (Below w1.heap.size w1 w12) := by unfold Hid; rw [← hNb]; exact HK.out.setCell HGN.out.2 _
          have hLq : L[q] = Fk := by have h := HFk.out.2.1; rw [List.getElem?_eq_getElem hqL] at h; exact Option.some.inj h
          have FR2 : Hid (FRow w.heap.size w12 (.slice (some ⟨gn, 0, none⟩) n cn) (L.set q { Fk with vb := .slice aA bd6.length cA, f := { Fk.f with body := bd6 } })) := by unfold Hid; rw [← hNb]; have h := FRN.out.setB HMF.out.2.2.symm q hqL HOA.out; rw [hLq] at h; exact h
          refine wh_skip 14 none w12 (by kernel_rfl) rfl rfl (by rfl) (by rw [← hNb]; go_simp) ⟨byN, byN2⟩ ?_
          simp only [Act.put]
          clear c3 f3 hNb hoth hyg hyg2 hSY byy byy2 HK FRN HOA hLq
          have byy := byN
          have byy2 := byN2
          clear byN byN2
          rw [HBD6.out] at FR2
          obtain ⟨u, hu⟩ : ∃ u : Value, u = .slice aA ((1, 0) :: Fk.f.body).length cA := ⟨_, rfl⟩
          rw [← hu] at FR2
          clear hu
          have HMN : Hid (ModAt w12 ⟨some ⟨gn, 0, none⟩, cn, ga, gc⟩ (nopM M q)) := by
            unfold Hid
            rw [← HME.out, ← nop_mod HFk.out.2.1 u]
            have h1 := FR2.out
            have h2 : n = (L.set q { Fk with vb := u, f := { Fk.f with body := (1, 0) :: Fk.f.body } }).length := by rw [List.length_set]; exact HMF.out.2.2.symm
            rw [h2] at h1
            exact frow_mod h1 (HR.out.2.below HKN.out) gc mem pg mo so
          have HSN : Hid (smM (nopM M q)) := nop_small HSM.out.1 (fun f hf => shape_len HSH.out hf)
          have HQ : Hid ((nopM M q).fs[q]? = some (nopF Fk.f)) := by unfold Hid; rw [nopM_at, HFk.out.2.2.1]; simp
          have HTN : Hid (told7 (nopM M q) (q : Int) = checkS (nopM M q) (nopF Fk.f)) := told_good HQ.out (nop_shape HSH.out HFk.out.2.2.1 (by rw [HBD.out.1, HBD.out.2.1]; exact HBD.out.2.2))
          obtain ⟨⟨d, there, hgn⟩, hT2⟩ : ∃ R, checkS (nopM M q) (nopF Fk.f) = R := ⟨_, rfl⟩
          have HND := nop_check M q Fk.f
          rw [hT2, HCK.out] at HND
          have HPL := check_place M Fk.f
          rw [HCK.out, HNB.out.1] at HPL
          have HPL2 : 0 ≤ at_ ∧ at_ ≤ (nb : Int) := HPL
          have HWR : Hid (wrap64 (at_ + 1) = at_ + 1) := by have h1 := HBD.out.2.2; clear HPL; unfold Hid wrap64; omega
          clear HPL2
          have IC2 : Hid (Calls Tryz.prog 5 #[.agg #[.slice (some ⟨gn, 0, none⟩) n cn, .slice ga ng gc, .bool mem, .int .i64 pg, .int .i64 mo, .int .i64 so], .int .i64 (q : Int)] w12 fun e w'' => e = .returned (.tuple #[.int .i64 d, .int .i64 there]) ∧ Below w12.heap.size w12 w'') := by
            have t := implCheckFunc ⟨some ⟨gn, 0, none⟩, cn, ga, gc⟩ (nopM M q) (q : Int) w12 HMN HSN
            rw [HTN.out, hT2] at t
            have h1 := HV2.out (some ⟨gn, 0, none⟩) cn q
            rw [h1] at t
            exact t
          clear hT2 HPL
          refine wh_done (by kernel_rfl) ?_
          have qq0 : w12.cell? ⟨y2, 0, none⟩ = some (.slice (some ⟨gn, 0, none⟩) n cn) := (cell_of_block byy2 0).trans rfl
          have qq1 : w12.cell? ⟨y2, 1, none⟩ = some (.slice ga ng gc) := (cell_of_block byy2 1).trans rfl
          have qq2 : w12.cell? ⟨y2, 2, none⟩ = some (.bool mem) := (cell_of_block byy2 2).trans rfl
          have qq3 : w12.cell? ⟨y2, 3, none⟩ = some (.int .i64 pg) := (cell_of_block byy2 3).trans rfl
          have qq4 : w12.cell? ⟨y2, 4, none⟩ = some (.int .i64 mo) := (cell_of_block byy2 4).trans rfl
          have qq5 : w12.cell? ⟨y2, 5, none⟩ = some (.int .i64 so) := (cell_of_block byy2 5).trans rfl
          go_wp2_with fail
          clear qq0 qq1 qq2 qq3 qq4 qq5
          refine IC2.out.mono ?_
          rintro e w13 ⟨rfl, hb⟩
          have HKF : Hid (Below w1.heap.size w1 w13) := below2 HKN.out hb
          clear hb IC2
          have hw := HWR.out
          have hd : d = 0 := HND.1
          subst hd
          clear HND
          go_wp2
          go_ret
          exact ⟨rfl, HB0.out.trans (HKF.out.mono HB0.out.size)⟩
        · refine wo_val (some 173) (.slice (some ⟨gb, 0, none⟩) nb cbb) D rfl rfl (by rfl) (by go_simp) hSS ?_
          simp only [Act.put, List.setIfInBounds_toArray, List.set_cons_zero, List.set_cons_succ]
          refine wh_val 4 (some 167) (.slice (some ⟨y5, 0, none⟩) 1 1) X (by kernel_rfl) rfl rfl (by rfl) (by rw [← hNX, ← hy5]; go_simp) hSX ?_
          simp only [Act.put, List.setIfInBounds_toArray, List.set_cons_zero, List.set_cons_succ]
          clear hNX hy5 c3 c3X hSX hSS
          obtain ⟨vA, w10, hrun, hoA, hgA⟩ := appIns X y5 (.slice (some ⟨y5, 0, none⟩) 1 1) [((1 : Int), (0 : Int))] RC.out gb 0 cbb bd (fun j u hu => by rw [Nat.zero_add]; exact row_cells HBX.out j u hu) (by have := HBD.out.2; simp; omega) LY.out 37
          obtain ⟨aA, cA, e7⟩ := slice_ins hoA
          subst e7
          have hb : Below D.heap.size D w10 := by
            have h1 : Below y5 X w10 := (Below.refl _ _).grown hgA LY.out (fun q hq => (RC.out.lt q hq).1)
            have h2 := HY5.out.2.1
            rw [HY5.out.1] at h2 ⊢
            exact h2.trans h1
          replace byy := (hb.block y (lt_of_block byy)).trans byy
          replace byy2 := (hb.block y2 (lt_of_block byy2)).trans byy2
          replace HK : Hid (Below w1.heap.size w1 w10) := below2 HK.out hb
          replace FRN : Hid (FRow w.heap.size w10 (.slice (some ⟨gn, 0, none⟩) n cn) L) := FRN.out.below hb
          have HOA : Hid (w10.ownsRow w.heap.size 41 2 (.slice aA ([((1 : Int), (0 : Int))] ++ bd).length cA) ([((1 : Int), (0 : Int))] ++ bd).length (pv ([((1 : Int), (0 : Int))] ++ bd))) := own_baseI hoA HY5.out.2.2
          clear hb hgA RC LY HY5 HBX hoA
          obtain ⟨bd6, hbd6⟩ : ∃ l, [((1 : Int), (0 : Int))] ++ bd = l := ⟨_, rfl⟩
          have HBD6 : Hid (bd6 = (1, 0) :: Fk.f.body) := by unfold Hid; rw [← hbd6, HBD.out.1]; rfl
          rw [hbd6] at HOA
          rw [HBD.out.2.1] at hrun
          rw [hbd6] at hrun
          clear hbd6
          have hSY := And.intro byy byy2
          refine wh_val 11 (some 174) (.slice aA bd6.length cA) w10 (by kernel_rfl) rfl rfl (by rfl) (by simp [execOp, resolve, invoke, builtin, Act.eval, hrun, Result.andThen]) hSY ?_
          simp only [Act.put, List.setIfInBounds_toArray, List.set_cons_zero, List.set_cons_succ]
          clear hrun
          refine wh_val 12 (some 175) (.pointer (some ⟨gn, q * 4, none⟩)) w10 (by kernel_rfl) rfl rfl (by rfl) (by go_simp) hSY ?_
          simp only [Act.put, List.setIfInBounds_toArray, List.set_cons_zero, List.set_cons_succ]
          refine wh_val 13 (some 176) (.pointer (some ⟨gn, q * 4 + 3, none⟩)) w10 (by kernel_rfl) rfl rfl (by rfl) (by go_simp) hSY ?_
          simp only [Act.put, List.setIfInBounds_toArray, List.set_cons_zero, List.set_cons_succ]
          have hqL : q < L.length := by have := HFk.out.2.2.2; have := HMF.out.2.2; omega
          have c3 := (FRN.out.cells q hqL).2.2.2
          have f3 := (show w10.ownsRow w.heap.size 39 4 (.slice (some ⟨gn, 0, none⟩) n cn) n (fcv L) from by have h := FRN.out.row; rw [HMF.out.2.2] at h; exact h).frozenAt (q * 4 + 3)
          obtain ⟨w12, hNb⟩ : ∃ G, w10.setCell ⟨gn, q * 4 + 3, none⟩ (.slice aA bd6.length cA) = G := ⟨_, rfl⟩
          have hoth : ∀ b, b ≠ gn → w12.heap[b]? = w10.heap[b]? := fun b hb => by rw [← hNb]; exact heap_setCell_other _ ⟨gn, q * 4 + 3, none⟩ b _ hb
          have hyg : y ≠ gn := fun e => by obtain ⟨cur, hc, _⟩ := own_at FRN.out.row (g := gn) rfl; rw [← e, byy] at hc; simp at hc
          have hyg2 : y2 ≠ gn := fun e => by obtain ⟨cur, hc, _⟩ := own_at FRN.out.row (g := gn) rfl; rw [← e, byy2] at hc; simp at hc
          have byN := (hoth y hyg).trans byy
          have byN2 := (hoth y2 hyg2).trans byy2
          have HKN : Hid (Below w1.heap.size w1 w12) := by unfold Hid; rw [← hNb]; exact HK.out.setCell HGN.out.2 _
          have hLq : L[q] = Fk := by have h := HFk.out.2.1; rw [List.getElem?_eq_getElem hqL] at h; exact Option.some.inj h
          have FR2 : Hid (FRow w.heap.size w12 (.slice (some ⟨gn, 0, none⟩) n cn) (L.set q { Fk with vb := .slice aA bd6.length cA, f := { Fk.f with body := bd6 } })) := by unfold Hid; rw [← hNb]; have h := FRN.out.setB HMF.out.2.2.symm q hqL HOA.out; rw [hLq] at h; exact h
          refine wh_skip 14 none w12 (by kernel_rfl) rfl rfl (by rfl) (by rw [← hNb]; go_simp) ⟨byN, byN2⟩ ?_
          simp only [Act.put]
          clear c3 f3 hNb hoth hyg hyg2 hSY byy byy2 HK FRN HOA hLq
          have byy := byN
          have byy2 := byN2
          clear byN byN2
          rw [HBD6.out] at FR2
          obtain ⟨u, hu⟩ : ∃ u : Value, u = .slice aA ((1, 0) :: Fk.f.body).length cA := ⟨_, rfl⟩
          rw [← hu] at FR2
          clear hu
          have HMN : Hid (ModAt w12 ⟨some ⟨gn, 0, none⟩, cn, ga, gc⟩ (nopM M q)) := by
            unfold Hid
            rw [← HME.out, ← nop_mod HFk.out.2.1 u]
            have h1 := FR2.out
            have h2 : n = (L.set q { Fk with vb := u, f := { Fk.f with body := (1, 0) :: Fk.f.body } }).length := by rw [List.length_set]; exact HMF.out.2.2.symm
            rw [h2] at h1
            exact frow_mod h1 (HR.out.2.below HKN.out) gc mem pg mo so
          have HSN : Hid (smM (nopM M q)) := nop_small HSM.out.1 (fun f hf => shape_len HSH.out hf)
          have HQ : Hid ((nopM M q).fs[q]? = some (nopF Fk.f)) := by unfold Hid; rw [nopM_at, HFk.out.2.2.1]; simp
          have HTN : Hid (told7 (nopM M q) (q : Int) = checkS (nopM M q) (nopF Fk.f)) := told_good HQ.out (nop_shape HSH.out HFk.out.2.2.1 (by rw [HBD.out.1, HBD.out.2.1]; exact HBD.out.2.2))
          obtain ⟨⟨d, there, hgn⟩, hT2⟩ : ∃ R, checkS (nopM M q) (nopF Fk.f) = R := ⟨_, rfl⟩
          have HND := nop_check M q Fk.f
          rw [hT2, HCK.out] at HND
          have HPL := check_place M Fk.f
          rw [HCK.out, HNB.out.1] at HPL
          have HPL2 : 0 ≤ at_ ∧ at_ ≤ (nb : Int) := HPL
          have HWR : Hid (wrap64 (at_ + 1) = at_ + 1) := by have h1 := HBD.out.2.2; clear HPL; unfold Hid wrap64; omega
          clear HPL2
          have IC2 : Hid (Calls Tryz.prog 5 #[.agg #[.slice (some ⟨gn, 0, none⟩) n cn, .slice ga ng gc, .bool mem, .int .i64 pg, .int .i64 mo, .int .i64 so], .int .i64 (q : Int)] w12 fun e w'' => e = .returned (.tuple #[.int .i64 d, .int .i64 there]) ∧ Below w12.heap.size w12 w'') := by
            have t := implCheckFunc ⟨some ⟨gn, 0, none⟩, cn, ga, gc⟩ (nopM M q) (q : Int) w12 HMN HSN
            rw [HTN.out, hT2] at t
            have h1 := HV2.out (some ⟨gn, 0, none⟩) cn q
            rw [h1] at t
            exact t
          clear hT2 HPL
          refine wh_done (by kernel_rfl) ?_
          have qq0 : w12.cell? ⟨y2, 0, none⟩ = some (.slice (some ⟨gn, 0, none⟩) n cn) := (cell_of_block byy2 0).trans rfl
          have qq1 : w12.cell? ⟨y2, 1, none⟩ = some (.slice ga ng gc) := (cell_of_block byy2 1).trans rfl
          have qq2 : w12.cell? ⟨y2, 2, none⟩ = some (.bool mem) := (cell_of_block byy2 2).trans rfl
          have qq3 : w12.cell? ⟨y2, 3, none⟩ = some (.int .i64 pg) := (cell_of_block byy2 3).trans rfl
          have qq4 : w12.cell? ⟨y2, 4, none⟩ = some (.int .i64 mo) := (cell_of_block byy2 4).trans rfl
          have qq5 : w12.cell? ⟨y2, 5, none⟩ = some (.int .i64 so) := (cell_of_block byy2 5).trans rfl
          go_wp2_with fail
          clear qq0 qq1 qq2 qq3 qq4 qq5
          refine IC2.out.mono ?_
          rintro e w13 ⟨rfl, hb⟩
          have HKF : Hid (Below w1.heap.size w1 w13) := below2 HKN.out hb
          clear hb IC2
          have hw := HWR.out
          have hd : d = 0 := HND.1
          subst hd
          clear HND
          go_wp2
          go_ret
          exact ⟨rfl, HB0.out.trans (HKF.out.mono HB0.out.size)⟩
  · have hT1 : told7 M k = (1, 0, 0) := told_bad (by rw [HMF.out.2.1, HSH.out]; exact hbad)
    rw [HT.out.1] at hT1
    simp only [Prod.mk.injEq] at hT1
    obtain ⟨rfl, rfl, rfl⟩ := hT1
    have HBAD : Hid (sh = false ∨ (sh = true ∧ k < 0) ∨ (sh = true ∧ ¬ k < 0 ∧ (n : Int) ≤ k)) := by
      unfold Hid
      cases sh
      · exact .inl rfl
      · simp only [and_true, Bool.true_eq_false, false_or, true_and] at hbad ⊢; omega
    clear hbad
    have bD : w6.drew.heap[y]? = some (.cells #[.slice fa n fc, .slice ga ng gc, .bool mem, .int .i64 pg, .int .i64 mo, .int .i64 so] 26 (0, 0)) := byy
    have HD : Hid (Below w1.heap.size w1 w6.drew) := below2 HK.out ((Below.refl _ _).drew)
    rcases HBAD.out with rfl | ⟨rfl, hkn⟩ | ⟨rfl, hkn, hkm⟩
    · skip
      go_wp2
      refine wh_begin (fun w' : World => w'.heap[y]? = some (.cells #[.slice fa n fc, .slice ga ng gc, .bool mem, .int .i64 pg, .int .i64 mo, .int .i64 so] 26 (0, 0))) (by kernel_rfl) ?_
      refine wh_take 0 (some 89) (.int .i64 1) rfl rfl (by kernel_rfl) (by kernel_rfl) (by kernel_rfl) (fun _ _ _ h => h) bD (by rfl) (fun w' hS => by kernel_rfl) ?_
      simp only [Act.put, List.setIfInBounds_toArray, List.set_cons_zero, List.set_cons_succ]
      refine wh_take 1 (some 90) (.bool true) rfl rfl (by kernel_rfl) (by kernel_rfl) (by kernel_rfl) (fun _ _ _ h => h) bD (by rfl) (fun w' hS => by clear hS; go_simp) ?_
      simp only [Act.put, List.setIfInBounds_toArray, List.set_cons_zero, List.set_cons_succ]
      refine wh_take 2 (some 91) (.bool true) rfl rfl (by kernel_rfl) (by kernel_rfl) (by kernel_rfl) (fun _ _ _ h => h) bD (by rfl) (fun w' hS => by kernel_rfl) ?_
      simp only [Act.put, List.setIfInBounds_toArray, List.set_cons_zero, List.set_cons_succ]
      refine wh_take 3 (some 92) (.agg #[.slice fa n fc, .slice ga ng gc, .bool mem, .int .i64 pg, .int .i64 mo, .int .i64 so]) rfl rfl (by kernel_rfl) (by kernel_rfl) (by kernel_rfl) (fun _ _ _ h => h) bD (by rfl) (fun w' hS => by have q0 : w'.cell? ⟨y, 0, none⟩ = some (.slice fa n fc) := (cell_of_block hS 0).trans rfl; have q1 : w'.cell? ⟨y, 1, none⟩ = some (.slice ga ng gc) := (cell_of_block hS 1).trans rfl; have q2 : w'.cell? ⟨y, 2, none⟩ = some (.bool mem) := (cell_of_block hS 2).trans rfl; have q3 : w'.cell? ⟨y, 3, none⟩ = some (.int .i64 pg) := (cell_of_block hS 3).trans rfl; have q4 : w'.cell? ⟨y, 4, none⟩ = some (.int .i64 mo) := (cell_of_block hS 4).trans rfl; have q5 : w'.cell? ⟨y, 5, none⟩ = some (.int .i64 so) := (cell_of_block hS 5).trans rfl; clear hS; go_simp) ?_
      simp only [Act.put, List.setIfInBounds_toArray, List.set_cons_zero, List.set_cons_succ]
      refine wh_take 5 (some 94) (.agg #[.slice fa n fc, .slice ga ng gc, .bool mem, .int .i64 pg, .int .i64 mo, .int .i64 so]) rfl rfl (by kernel_rfl) (by kernel_rfl) (by kernel_rfl) (fun _ _ _ h => h) bD (by rfl) (fun w' hS => by have q0 : w'.cell? ⟨y, 0, none⟩ = some (.slice fa n fc) := (cell_of_block hS 0).trans rfl; have q1 : w'.cell? ⟨y, 1, none⟩ = some (.slice ga ng gc) := (cell_of_block hS 1).trans rfl; have q2 : w'.cell? ⟨y, 2, none⟩ = some (.bool mem) := (cell_of_block hS 2).trans rfl; have q3 : w'.cell? ⟨y, 3, none⟩ = some (.int .i64 pg) := (cell_of_block hS 3).trans rfl; have q4 : w'.cell? ⟨y, 4, none⟩ = some (.int .i64 mo) := (cell_of_block hS 4).trans rfl; have q5 : w'.cell? ⟨y, 5, none⟩ = some (.int .i64 so) := (cell_of_block hS 5).trans rfl; clear hS; go_simp) ?_
      simp only [Act.put, List.setIfInBounds_toArray, List.set_cons_zero, List.set_cons_succ]
      refine wh_call 4 (some 93) 10 #[.agg #[.slice fa n fc, .slice ga ng gc, .bool mem, .int .i64 pg, .int .i64 mo, .int .i64 so]] (by kernel_rfl) rfl rfl (by rfl) (by kernel_rfl) ?_
      refine (IS.out _ HD.out).mono ?_
      rintro e v0 ⟨rfl, hb⟩
      have bD := (hb.block y (lt_of_block bD)).trans bD
      have HD : Hid (Below w1.heap.size w1 v0) := below2 HD.out hb
      clear hb
      refine ⟨_, rfl, bD, ?_⟩
      simp only [Act.put, List.setIfInBounds_toArray, List.set_cons_zero, List.set_cons_succ]
      refine wh_call 6 (some 95) 9 #[.agg #[.slice fa n fc, .slice ga ng gc, .bool mem, .int .i64 pg, .int .i64 mo, .int .i64 so]] (by kernel_rfl) rfl rfl (by rfl) (by kernel_rfl) ?_
      refine (SS2.out _ HD.out).mono ?_
      rintro e v1 ⟨rfl, hb⟩
      have bD := (hb.block y (lt_of_block bD)).trans bD
      have HD : Hid (Below w1.heap.size w1 v1) := below2 HD.out hb
      clear hb
      refine ⟨_, rfl, bD, ?_⟩
      simp only [Act.put, List.setIfInBounds_toArray, List.set_cons_zero, List.set_cons_succ]
      refine wh_take 7 (some 96) (.bool true) rfl rfl (by kernel_rfl) (by kernel_rfl) (by kernel_rfl) (fun _ _ _ h => h) bD (by rfl) (fun w' hS => by clear hS; go_simp) ?_
      simp only [Act.put, List.setIfInBounds_toArray, List.set_cons_zero, List.set_cons_succ]
      refine wh_take 8 (some 97) (.bool true) rfl rfl (by kernel_rfl) (by kernel_rfl) (by kernel_rfl) (fun _ _ _ h => h) bD (by rfl) (fun w' hS => by clear hS; go_simp) ?_
      simp only [Act.put, List.setIfInBounds_toArray, List.set_cons_zero, List.set_cons_succ]
      refine wh_val 9 (some 2) (.bool true) v1 (by kernel_rfl) rfl rfl (by rfl) (by go_simp) bD ?_
      simp only [Act.put, List.setIfInBounds_toArray, List.set_cons_zero, List.set_cons_succ]
      refine wh_done (by kernel_rfl) ?_
      go_wp2
      go_ret
      exact ⟨rfl, HB0.out.trans (HD.out.mono HB0.out.size)⟩
    · skip
      go_wp2
      refine wh_begin (fun w' : World => w'.heap[y]? = some (.cells #[.slice fa n fc, .slice ga ng gc, .bool mem, .int .i64 pg, .int .i64 mo, .int .i64 so] 26 (0, 0))) (by kernel_rfl) ?_
      refine wh_take 0 (some 89) (.int .i64 1) rfl rfl (by kernel_rfl) (by kernel_rfl) (by kernel_rfl) (fun _ _ _ h => h) bD (by rfl) (fun w' hS => by kernel_rfl) ?_
      simp only [Act.put, List.setIfInBounds_toArray, List.set_cons_zero, List.set_cons_succ]
      refine wh_take 1 (some 90) (.bool true) rfl rfl (by kernel_rfl) (by kernel_rfl) (by kernel_rfl) (fun _ _ _ h => h) bD (by rfl) (fun w' hS => by clear hS; go_simp) ?_
      simp only [Act.put, List.setIfInBounds_toArray, List.set_cons_zero, List.set_cons_succ]
      refine wh_take 2 (some 91) (.bool true) rfl rfl (by kernel_rfl) (by kernel_rfl) (by kernel_rfl) (fun _ _ _ h => h) bD (by rfl) (fun w' hS => by kernel_rfl) ?_
      simp only [Act.put, List.setIfInBounds_toArray, List.set_cons_zero, List.set_cons_succ]
      refine wh_take 3 (some 92) (.agg #[.slice fa n fc, .slice ga ng gc, .bool mem, .int .i64 pg, .int .i64 mo, .int .i64 so]) rfl rfl (by kernel_rfl) (by kernel_rfl) (by kernel_rfl) (fun _ _ _ h => h) bD (by rfl) (fun w' hS => by have q0 : w'.cell? ⟨y, 0, none⟩ = some (.slice fa n fc) := (cell_of_block hS 0).trans rfl; have q1 : w'.cell? ⟨y, 1, none⟩ = some (.slice ga ng gc) := (cell_of_block hS 1).trans rfl; have q2 : w'.cell? ⟨y, 2, none⟩ = some (.bool mem) := (cell_of_block hS 2).trans rfl; have q3 : w'.cell? ⟨y, 3, none⟩ = some (.int .i64 pg) := (cell_of_block hS 3).trans rfl; have q4 : w'.cell? ⟨y, 4, none⟩ = some (.int .i64 mo) := (cell_of_block hS 4).trans rfl; have q5 : w'.cell? ⟨y, 5, none⟩ = some (.int .i64 so) := (cell_of_block hS 5).trans rfl; clear hS; go_simp) ?_
      simp only [Act.put, List.setIfInBounds_toArray, List.set_cons_zero, List.set_cons_succ]
      refine wh_take 5 (some 94) (.agg #[.slice fa n fc, .slice ga ng gc, .bool mem, .int .i64 pg, .int .i64 mo, .int .i64 so]) rfl rfl (by kernel_rfl) (by kernel_rfl) (by kernel_rfl) (fun _ _ _ h => h) bD (by rfl) (fun w' hS => by have q0 : w'.cell? ⟨y, 0, none⟩ = some (.slice fa n fc) := (cell_of_block hS 0).trans rfl; have q1 : w'.cell? ⟨y, 1, none⟩ = some (.slice ga ng gc) := (cell_of_block hS 1).trans rfl; have q2 : w'.cell? ⟨y, 2, none⟩ = some (.bool mem) := (cell_of_block hS 2).trans rfl; have q3 : w'.cell? ⟨y, 3, none⟩ = some (.int .i64 pg) := (cell_of_block hS 3).trans rfl; have q4 : w'.cell? ⟨y, 4, none⟩ = some (.int .i64 mo) := (cell_of_block hS 4).trans rfl; have q5 : w'.cell? ⟨y, 5, none⟩ = some (.int .i64 so) := (cell_of_block hS 5).trans rfl; clear hS; go_simp) ?_
      simp only [Act.put, List.setIfInBounds_toArray, List.set_cons_zero, List.set_cons_succ]
      refine wh_call 4 (some 93) 10 #[.agg #[.slice fa n fc, .slice ga ng gc, .bool mem, .int .i64 pg, .int .i64 mo, .int .i64 so]] (by kernel_rfl) rfl rfl (by rfl) (by kernel_rfl) ?_
      refine (IS.out _ HD.out).mono ?_
      rintro e v0 ⟨rfl, hb⟩
      have bD := (hb.block y (lt_of_block bD)).trans bD
      have HD : Hid (Below w1.heap.size w1 v0) := below2 HD.out hb
      clear hb
      refine ⟨_, rfl, bD, ?_⟩
      simp only [Act.put, List.setIfInBounds_toArray, List.set_cons_zero, List.set_cons_succ]
      refine wh_call 6 (some 95) 9 #[.agg #[.slice fa n fc, .slice ga ng gc, .bool mem, .int .i64 pg, .int .i64 mo, .int .i64 so]] (by kernel_rfl) rfl rfl (by rfl) (by kernel_rfl) ?_
      refine (SS2.out _ HD.out).mono ?_
      rintro e v1 ⟨rfl, hb⟩
      have bD := (hb.block y (lt_of_block bD)).trans bD
      have HD : Hid (Below w1.heap.size w1 v1) := below2 HD.out hb
      clear hb
      refine ⟨_, rfl, bD, ?_⟩
      simp only [Act.put, List.setIfInBounds_toArray, List.set_cons_zero, List.set_cons_succ]
      refine wh_take 7 (some 96) (.bool true) rfl rfl (by kernel_rfl) (by kernel_rfl) (by kernel_rfl) (fun _ _ _ h => h) bD (by rfl) (fun w' hS => by clear hS; go_simp) ?_
      simp only [Act.put, List.setIfInBounds_toArray, List.set_cons_zero, List.set_cons_succ]
      refine wh_take 8 (some 97) (.bool true) rfl rfl (by kernel_rfl) (by kernel_rfl) (by kernel_rfl) (fun _ _ _ h => h) bD (by rfl) (fun w' hS => by clear hS; go_simp) ?_
      simp only [Act.put, List.setIfInBounds_toArray, List.set_cons_zero, List.set_cons_succ]
      refine wh_val 9 (some 2) (.bool true) v1 (by kernel_rfl) rfl rfl (by rfl) (by go_simp) bD ?_
      simp only [Act.put, List.setIfInBounds_toArray, List.set_cons_zero, List.set_cons_succ]
      refine wh_done (by kernel_rfl) ?_
      go_wp2
      go_ret
      exact ⟨rfl, HB0.out.trans (HD.out.mono HB0.out.size)⟩
    · skip
      have qy0 : w6.cell? ⟨y, 0, none⟩ = some (.slice fa n fc) := (cell_of_block byy 0).trans rfl
      have hkm2 : ¬ k < (n : Int) := by omega
      go_wp2
      refine wh_begin (fun w' : World => w'.heap[y]? = some (.cells #[.slice fa n fc, .slice ga ng gc, .bool mem, .int .i64 pg, .int .i64 mo, .int .i64 so] 26 (0, 0))) (by kernel_rfl) ?_
      refine wh_take 0 (some 89) (.int .i64 1) rfl rfl (by kernel_rfl) (by kernel_rfl) (by kernel_rfl) (fun _ _ _ h => h) bD (by rfl) (fun w' hS => by kernel_rfl) ?_
      simp only [Act.put, List.setIfInBounds_toArray, List.set_cons_zero, List.set_cons_succ]
      refine wh_take 1 (some 90) (.bool true) rfl rfl (by kernel_rfl) (by kernel_rfl) (by kernel_rfl) (fun _ _ _ h => h) bD (by rfl) (fun w' hS => by clear hS; go_simp) ?_
      simp only [Act.put, List.setIfInBounds_toArray, List.set_cons_zero, List.set_cons_succ]
      refine wh_take 2 (some 91) (.bool true) rfl rfl (by kernel_rfl) (by kernel_rfl) (by kernel_rfl) (fun _ _ _ h => h) bD (by rfl) (fun w' hS => by kernel_rfl) ?_
      simp only [Act.put, List.setIfInBounds_toArray, List.set_cons_zero, List.set_cons_succ]
      refine wh_take 3 (some 92) (.agg #[.slice fa n fc, .slice ga ng gc, .bool mem, .int .i64 pg, .int .i64 mo, .int .i64 so]) rfl rfl (by kernel_rfl) (by kernel_rfl) (by kernel_rfl) (fun _ _ _ h => h) bD (by rfl) (fun w' hS => by have q0 : w'.cell? ⟨y, 0, none⟩ = some (.slice fa n fc) := (cell_of_block hS 0).trans rfl; have q1 : w'.cell? ⟨y, 1, none⟩ = some (.slice ga ng gc) := (cell_of_block hS 1).trans rfl; have q2 : w'.cell? ⟨y, 2, none⟩ = some (.bool mem) := (cell_of_block hS 2).trans rfl; have q3 : w'.cell? ⟨y, 3, none⟩ = some (.int .i64 pg) := (cell_of_block hS 3).trans rfl; have q4 : w'.cell? ⟨y, 4, none⟩ = some (.int .i64 mo) := (cell_of_block hS 4).trans rfl; have q5 : w'.cell? ⟨y, 5, none⟩ = some (.int .i64 so) := (cell_of_block hS 5).trans rfl; clear hS; go_simp) ?_
      simp only [Act.put, List.setIfInBounds_toArray, List.set_cons_zero, List.set_cons_succ]
      refine wh_take 5 (some 94) (.agg #[.slice fa n fc, .slice ga ng gc, .bool mem, .int .i64 pg, .int .i64 mo, .int .i64 so]) rfl rfl (by kernel_rfl) (by kernel_rfl) (by kernel_rfl) (fun _ _ _ h => h) bD (by rfl) (fun w' hS => by have q0 : w'.cell? ⟨y, 0, none⟩ = some (.slice fa n fc) := (cell_of_block hS 0).trans rfl; have q1 : w'.cell? ⟨y, 1, none⟩ = some (.slice ga ng gc) := (cell_of_block hS 1).trans rfl; have q2 : w'.cell? ⟨y, 2, none⟩ = some (.bool mem) := (cell_of_block hS 2).trans rfl; have q3 : w'.cell? ⟨y, 3, none⟩ = some (.int .i64 pg) := (cell_of_block hS 3).trans rfl; have q4 : w'.cell? ⟨y, 4, none⟩ = some (.int .i64 mo) := (cell_of_block hS 4).trans rfl; have q5 : w'.cell? ⟨y, 5, none⟩ = some (.int .i64 so) := (cell_of_block hS 5).trans rfl; clear hS; go_simp) ?_
      simp only [Act.put, List.setIfInBounds_toArray, List.set_cons_zero, List.set_cons_succ]
      refine wh_call 4 (some 93) 10 #[.agg #[.slice fa n fc, .slice ga ng gc, .bool mem, .int .i64 pg, .int .i64 mo, .int .i64 so]] (by kernel_rfl) rfl rfl (by rfl) (by kernel_rfl) ?_
      refine (IS.out _ HD.out).mono ?_
      rintro e v0 ⟨rfl, hb⟩
      have bD := (hb.block y (lt_of_block bD)).trans bD
      have HD : Hid (Below w1.heap.size w1 v0) := below2 HD.out hb
      clear hb
      refine ⟨_, rfl, bD, ?_⟩
      simp only [Act.put, List.setIfInBounds_toArray, List.set_cons_zero, List.set_cons_succ]
      refine wh_call 6 (some 95) 9 #[.agg #[.slice fa n fc, .slice ga ng gc, .bool mem, .int .i64 pg, .int .i64 mo, .int .i64 so]] (by kernel_rfl) rfl rfl (by rfl) (by kernel_rfl) ?_
      refine (SS2.out _ HD.out).mono ?_
      rintro e v1 ⟨rfl, hb⟩
      have bD := (hb.block y (lt_of_block bD)).trans bD
      have HD : Hid (Below w1.heap.size w1 v1) := below2 HD.out hb
      clear hb
      refine ⟨_, rfl, bD, ?_⟩
      simp only [Act.put, List.setIfInBounds_toArray, List.set_cons_zero, List.set_cons_succ]
      refine wh_take 7 (some 96) (.bool true) rfl rfl (by kernel_rfl) (by kernel_rfl) (by kernel_rfl) (fun _ _ _ h => h) bD (by rfl) (fun w' hS => by clear hS; go_simp) ?_
      simp only [Act.put, List.setIfInBounds_toArray, List.set_cons_zero, List.set_cons_succ]
      refine wh_take 8 (some 97) (.bool true) rfl rfl (by kernel_rfl) (by kernel_rfl) (by kernel_rfl) (fun _ _ _ h => h) bD (by rfl) (fun w' hS => by clear hS; go_simp) ?_
      simp only [Act.put, List.setIfInBounds_toArray, List.set_cons_zero, List.set_cons_succ]
      refine wh_val 9 (some 2) (.bool true) v1 (by kernel_rfl) rfl rfl (by rfl) (by go_simp) bD ?_
      simp only [Act.put, List.setIfInBounds_toArray, List.set_cons_zero, List.set_cons_succ]
      refine wh_done (by kernel_rfl) ?_
      go_wp2
      go_ret
      exact ⟨rfl, HB0.out.trans (HD.out.mono HB0.out.size)⟩

end Go.Proofs.YtcgnefgdfgikdaaGreat
