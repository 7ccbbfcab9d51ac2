/-
  The law's check: branches, a choice.
-/
import Derived.Test.YtcgnefgdfgikdaaGreatKA11
namespace Go.Proofs.YtcgnefgdfgikdaaGreat
open Go.ChangeShapes Go.WideShapes Go.ChangeAt Go.RowKit

theorem wants_ok {s : St} {a k : Int} (h : wantsS a s = .ok k) (hb : ∀ b ∈ s.opn, okB b) : putKOk k := by
  unfold wantsS at h
  split at h
  · simp at h
  · rename_i b e
    have := hb b (List.mem_of_getElem? e)
    unfold okB at this
    unfold putKOk
    split at h <;> simp at h <;> omega
theorem want_of {k : Int} (h : putKOk k) : wantOk k ∧ sk k = k := by unfold putKOk at h; exact ⟨by unfold wantOk; omega, by unfold sk; rw [if_neg (by omega)]⟩

set_option maxRecDepth 100000 in
set_option maxHeartbeats 6400000 in
theorem insBr (g : Nat) (E : EnvS) (N : Nat) (own : List Int) (a : Nat) (s : St) (w : World) (h : Md w g E N (.ok s)) (hblk : ∀ b ∈ s.opn, okB b) (hN : N ≤ 250) :
    Calls Tryz.prog 35 #[.pointer (some ⟨g, 0, none⟩), .agg #[.int .i64 12, .int .i64 (a : Int)]] w fun e w' => OutN w g E (stepS E.M own E.res 12 (a : Int) s) e w' := by
  have HN : Hid (N ≤ 250) := hN
  obtain ⟨W, hW⟩ : ∃ W, w.alloc (.cells #[.int .i64 12, .int .i64 (a : Int)] 41) = W := ⟨_, rfl⟩
  obtain ⟨z, hz⟩ : ∃ z, w.heap.size = z := ⟨_, rfl⟩
  have hbW : Below w.heap.size w W := by rw [← hW]; exact w0_below w 12 a
  have hZ : W.heap[z]? = some (.cells #[.int .i64 12, .int .i64 (a : Int)] 41 (0, 0)) := by rw [← hW, ← hz]; exact w0_block w 12 a
  have HW : Hid (w.alloc (.cells #[.int .i64 12, .int .i64 (a : Int)] 41) = W ∧ w.heap.size = z) := ⟨hW, hz⟩
  have HBW : Hid (Below g w W) := hbW.mono (Nat.le_of_lt h.lt)
  have HM0 : Hid (Md W g E N (.ok s)) := h.keep hbW
  have HGZ : Hid (z ≠ g) := by have := h.lt; unfold Hid; omega
  have HZ : Hid (W.heap[z]? = some (.cells #[.int .i64 12, .int .i64 (a : Int)] 41 (0, 0))) := hZ
  have e0 : W.cell? ⟨z, 0, none⟩ = some (.int .i64 12) := (cell_of_block hZ 0).trans rfl
  have e1 : W.cell? ⟨z, 1, none⟩ = some (.int .i64 (a : Int)) := (cell_of_block hZ 1).trans rfl
  rw [← HW.out.1, ← HW.out.2] at e0 e1
  have TW := wantsM g E N s a W HM0.out
  have HS : Hid (stepS E.M own E.res 12 (a : Int) s = (wantsS (a : Int) s).bind fun k => (takeI k s).map dieS) := rfl
  have HBL : Hid (∀ b ∈ s.opn, okB b) := hblk
  clear h hN hZ hbW hW hz hblk
  go_enter Tryz.func35, Tryz.ntmps35
  go_wp2_with fail
  rw [HW.out.2, HW.out.1]
  clear e0 e1
  refine TW.mono ?_
  rintro e w1 ⟨⟨hb1, ht1⟩, ho⟩
  have HB1 : Hid (Below g w w1) := HBW.out.trans hb1
  have HT1 : Hid (Touch g W w1) := ht1
  clear TW hb1 ht1
  rcases hr : wantsS (a : Int) s with c | k
  · rw [hr] at ho
    obtain ⟨rfl, hm1⟩ := ho
    have HM1 : Hid (Md w1 g E N (.error c : Except Int St)) := hm1
    have HS2 : Hid (stepS E.M own E.res 12 (a : Int) s = .error c) := by unfold Hid; rw [HS.out, hr]; rfl
    clear hr hm1
    go_wp2_with fail
    refine (takeMx g E _ (64) (64) _ _ HM1.out (by unfold wantOk; omega) (by decide) (by have := HN.out; omega)).mono ?_
    rintro e w2 ⟨⟨hb2, ht2⟩, hm2, v2, rfl, hv2⟩
    have HB2 : Hid (Below g w w2) := HB1.out.trans hb2
    have HT2 : Hid (Touch g W w2) := HT1.out.trans ht2
    have HM2 : Hid (Md w2 g E (N) (((.error c : Except Int St)).bind (takeI (64)))) := hm2
    clear hb2 ht2 hm2 hv2
    go_wp2_with fail
    refine (dieM g E _ _ _ HM2.out (by have := HN.out; omega)).mono ?_
    rintro e w3 ⟨rfl, hm3, hb3⟩
    have HB3 : Hid (Below g w w3) := HB2.out.trans hb3
    have HM3 : Hid (Md w3 g E (N) (((((.error c : Except Int St)).bind (takeI (64)))).map dieS)) := hm3
    clear hb3 hm3
    go_wp2
    first
      | go_end0
      | refine bodyPost_ret (results_none rfl _ _ _) rfl ?_
    exact ⟨rfl, by rw [HS2.out]; exact HM3.out.fin, HB3.out⟩
  · rw [hr] at ho
    obtain ⟨rfl, hm1⟩ := ho
    have HM1 : Hid (Md w1 g E N (.ok s : Except Int St)) := hm1
    have HK : Hid (wantOk k ∧ sk k = k) := want_of (wants_ok hr HBL.out)
    have HP : Hid (putKOk k) := wants_ok hr HBL.out
    have HS2 : Hid (stepS E.M own E.res 12 (a : Int) s = ((Except.ok s).bind (takeI k)).map dieS) := by unfold Hid; rw [HS.out, hr]; rfl
    clear hr hm1
    go_wp2_with fail
    refine (takeMx g E _ (k) (k) _ _ HM1.out HK.out.1 HK.out.2 (by have := HN.out; omega)).mono ?_
    rintro e w2 ⟨⟨hb2, ht2⟩, hm2, v2, rfl, hv2⟩
    have HB2 : Hid (Below g w w2) := HB1.out.trans hb2
    have HT2 : Hid (Touch g W w2) := HT1.out.trans ht2
    have HM2 : Hid (Md w2 g E (N) (((.ok s : Except Int St)).bind (takeI (k)))) := hm2
    clear hb2 ht2 hm2 hv2
    go_wp2_with fail
    refine (dieM g E _ _ _ HM2.out (by have := HN.out; omega)).mono ?_
    rintro e w3 ⟨rfl, hm3, hb3⟩
    have HB3 : Hid (Below g w w3) := HB2.out.trans hb3
    have HM3 : Hid (Md w3 g E (N) (((((.ok s : Except Int St)).bind (takeI (k)))).map dieS)) := hm3
    clear hb3 hm3
    go_wp2
    first
      | go_end0
      | refine bodyPost_ret (results_none rfl _ _ _) rfl ?_
    exact ⟨rfl, by rw [HS2.out]; exact HM3.out.fin, HB3.out⟩

set_option maxRecDepth 100000 in
set_option maxHeartbeats 6400000 in
theorem insBrIf (g : Nat) (E : EnvS) (N : Nat) (own : List Int) (a : Nat) (s : St) (w : World) (h : Md w g E N (.ok s)) (hblk : ∀ b ∈ s.opn, okB b) (hN : N ≤ 250) :
    Calls Tryz.prog 35 #[.pointer (some ⟨g, 0, none⟩), .agg #[.int .i64 13, .int .i64 (a : Int)]] w fun e w' => OutN w g E (stepS E.M own E.res 13 (a : Int) s) e w' := by
  have HN : Hid (N ≤ 250) := hN
  obtain ⟨W, hW⟩ : ∃ W, w.alloc (.cells #[.int .i64 13, .int .i64 (a : Int)] 41) = W := ⟨_, rfl⟩
  obtain ⟨z, hz⟩ : ∃ z, w.heap.size = z := ⟨_, rfl⟩
  have hbW : Below w.heap.size w W := by rw [← hW]; exact w0_below w 13 a
  have hZ : W.heap[z]? = some (.cells #[.int .i64 13, .int .i64 (a : Int)] 41 (0, 0)) := by rw [← hW, ← hz]; exact w0_block w 13 a
  have HW : Hid (w.alloc (.cells #[.int .i64 13, .int .i64 (a : Int)] 41) = W ∧ w.heap.size = z) := ⟨hW, hz⟩
  have HBW : Hid (Below g w W) := hbW.mono (Nat.le_of_lt h.lt)
  have HM0 : Hid (Md W g E N (.ok s)) := h.keep hbW
  have HGZ : Hid (z ≠ g) := by have := h.lt; unfold Hid; omega
  have HZ : Hid (W.heap[z]? = some (.cells #[.int .i64 13, .int .i64 (a : Int)] 41 (0, 0))) := hZ
  have e0 : W.cell? ⟨z, 0, none⟩ = some (.int .i64 13) := (cell_of_block hZ 0).trans rfl
  have e1 : W.cell? ⟨z, 1, none⟩ = some (.int .i64 (a : Int)) := (cell_of_block hZ 1).trans rfl
  rw [← HW.out.1, ← HW.out.2] at e0 e1
  have TW := wantsM g E N s a W HM0.out
  have HS : Hid (stepS E.M own E.res 13 (a : Int) s = (wantsS (a : Int) s).bind fun k => ((Except.ok s).bind (takes [127, k])).map (putI k)) := by
    unfold Hid stepS
    rw [if_neg (by omega), if_neg (by omega), if_neg (by omega), if_neg (by omega), if_neg (by omega), if_neg (by omega), if_neg (by omega), if_neg (by omega)]
    unfold effS
    rw [if_pos rfl]
    cases wantsS (a : Int) s <;> rfl
  have HBL : Hid (∀ b ∈ s.opn, okB b) := hblk
  clear h hN hZ hbW hW hz hblk
  go_enter Tryz.func35, Tryz.ntmps35
  go_wp2_with fail
  rw [HW.out.2, HW.out.1]
  clear e0 e1
  refine TW.mono ?_
  rintro e w1 ⟨⟨hb1, ht1⟩, ho⟩
  have HB1 : Hid (Below g w w1) := HBW.out.trans hb1
  have HT1 : Hid (Touch g W w1) := ht1
  clear TW hb1 ht1
  rcases hr : wantsS (a : Int) s with c | k
  · rw [hr] at ho
    obtain ⟨rfl, hm1⟩ := ho
    have HM1 : Hid (Md w1 g E N (.error c : Except Int St)) := hm1
    have HS2 : Hid (stepS E.M own E.res 13 (a : Int) s = .error c) := by unfold Hid; rw [HS.out, hr]; rfl
    clear hr hm1
    go_wp2_with fail
    refine (takeMx g E _ (127) (127) _ _ HM1.out (by unfold wantOk; omega) (by decide) (by have := HN.out; omega)).mono ?_
    rintro e w2 ⟨⟨hb2, ht2⟩, hm2, v2, rfl, hv2⟩
    have HB2 : Hid (Below g w w2) := HB1.out.trans hb2
    have HT2 : Hid (Touch g W w2) := HT1.out.trans ht2
    have HM2 : Hid (Md w2 g E (N) (((.error c : Except Int St)).bind (takeI (127)))) := hm2
    clear hb2 ht2 hm2 hv2
    go_wp2_with fail
    refine (takeMx g E _ (64) (64) _ _ HM2.out (by unfold wantOk; omega) (by decide) (by have := HN.out; omega)).mono ?_
    rintro e w3 ⟨⟨hb3, ht3⟩, hm3, v3, rfl, hv3⟩
    have HB3 : Hid (Below g w w3) := HB2.out.trans hb3
    have HT3 : Hid (Touch g W w3) := HT2.out.trans ht3
    have HM3 : Hid (Md w3 g E (N) (((((.error c : Except Int St)).bind (takeI (127)))).bind (takeI (64)))) := hm3
    clear hb3 ht3 hm3 hv3
    go_wp2_with fail
    refine (putM g E _ (64) _ _ HM3.out (by unfold putKOk; omega) (by have := HN.out; omega)).mono ?_
    rintro e w4 ⟨rfl, hm4, hb4⟩
    have HB4 : Hid (Below g w w4) := HB3.out.trans hb4
    have HM4 : Hid (Md w4 g E (N + 1) (((((((.error c : Except Int St)).bind (takeI (127)))).bind (takeI (64)))).map (putI (64)))) := hm4
    clear hb4 hm4
    go_wp2
    first
      | go_end0
      | refine bodyPost_ret (results_none rfl _ _ _) rfl ?_
    exact ⟨rfl, by
      rw [HS2.out]
      have h := HM4.out.fin
      exact h, HB4.out⟩
  · rw [hr] at ho
    obtain ⟨rfl, hm1⟩ := ho
    have HM1 : Hid (Md w1 g E N (.ok s : Except Int St)) := hm1
    have HK : Hid (wantOk k ∧ sk k = k) := want_of (wants_ok hr HBL.out)
    have HP : Hid (putKOk k) := wants_ok hr HBL.out
    have HS2 : Hid (stepS E.M own E.res 13 (a : Int) s = ((Except.ok s).bind (takes [127, k])).map (putI k)) := by unfold Hid; rw [HS.out, hr]; rfl
    clear hr hm1
    go_wp2_with fail
    refine (takeMx g E _ (127) (127) _ _ HM1.out (by unfold wantOk; omega) (by decide) (by have := HN.out; omega)).mono ?_
    rintro e w2 ⟨⟨hb2, ht2⟩, hm2, v2, rfl, hv2⟩
    have HB2 : Hid (Below g w w2) := HB1.out.trans hb2
    have HT2 : Hid (Touch g W w2) := HT1.out.trans ht2
    have HM2 : Hid (Md w2 g E (N) (((.ok s : Except Int St)).bind (takeI (127)))) := hm2
    clear hb2 ht2 hm2 hv2
    go_wp2_with fail
    refine (takeMx g E _ (k) (k) _ _ HM2.out HK.out.1 HK.out.2 (by have := HN.out; omega)).mono ?_
    rintro e w3 ⟨⟨hb3, ht3⟩, hm3, v3, rfl, hv3⟩
    have HB3 : Hid (Below g w w3) := HB2.out.trans hb3
    have HT3 : Hid (Touch g W w3) := HT2.out.trans ht3
    have HM3 : Hid (Md w3 g E (N) (((((.ok s : Except Int St)).bind (takeI (127)))).bind (takeI (k)))) := hm3
    clear hb3 ht3 hm3 hv3
    go_wp2_with fail
    refine (putM g E _ (k) _ _ HM3.out HP.out (by have := HN.out; omega)).mono ?_
    rintro e w4 ⟨rfl, hm4, hb4⟩
    have HB4 : Hid (Below g w w4) := HB3.out.trans hb4
    have HM4 : Hid (Md w4 g E (N + 1) (((((((.ok s : Except Int St)).bind (takeI (127)))).bind (takeI (k)))).map (putI (k)))) := hm4
    clear hb4 hm4
    go_wp2
    first
      | go_end0
      | refine bodyPost_ret (results_none rfl _ _ _) rfl ?_
    exact ⟨rfl, by
      rw [HS2.out]
      have h := HM4.out.fin
      rw [← bind_takes2 (.ok s) 127 k] at h
      exact h, HB4.out⟩

theorem wt_getD {t : Ty} {k : Int} (h : okTy t) (hk : t.getD 0 = k) : wt k = t := by
  subst hk
  cases t with
  | none => rfl
  | some x => have := h x rfl; simp [wt]; omega
theorem want_getD {t : Ty} {k : Int} (h : okTy t) (hk : t.getD 0 = k) : wantOk k ∧ k ≠ 64 := by
  subst hk
  cases t with
  | none => exact ⟨.inl rfl, by decide⟩
  | some x => have := h x rfl; exact ⟨.inr (.inr this), by simp; omega⟩
theorem sel_eq {s : St} {k3 : Int} {t2 t3 : Ty} (h6 : k3 ≠ 64) (hw : wt k3 = t2)
    (h2 : ∀ s0 x, Except.bind (.ok s) (takeI 127) = .ok s0 → takeT (wt 0) s0 = .ok x → t2 = x.1.or (wt 0))
    (h3 : ∀ s0 x, Except.bind (Except.bind (.ok s) (takeI 127)) (takeI 0) = .ok s0 → takeT (wt k3) s0 = .ok x → t3 = x.1.or (wt k3)) :
    selS s = ((((Except.ok s).bind (takeI 127)).bind (takeI 0)).bind (takeI k3)).map (putT t3) := by
  have e1 : (Except.ok s).bind (takeI 127) = takeI 127 s := rfl
  rw [e1] at h2 h3 ⊢
  unfold selS
  rcases hr : takeI 127 s with c | s1
  · rfl
  · rw [hr] at h2 h3
    have e2 : (Except.ok s1).bind (takeI 0) = (takeT none s1).map (·.2) := by show takeI 0 s1 = _; unfold takeI; rw [if_neg (by decide)]; rfl
    rw [e2] at h3 ⊢
    show (takeT none s1).bind _ = _
    rcases hx : takeT none s1 with c | x
    · rfl
    · have ht2 : t2 = x.1 := by
        have := h2 s1 x rfl hx
        rw [this]; cases x.1 <;> rfl
      rw [hx] at h3
      have e3 : ((Except.ok x : Except Int (Ty × St)).map (·.2)).bind (takeI k3) = (takeT x.1 x.2).map (·.2) := by
        show takeI k3 x.2 = _
        unfold takeI; rw [if_neg h6, hw, ht2]
      rw [e3]
      show (takeT x.1 x.2).map _ = _
      rcases hy : takeT x.1 x.2 with c | y
      · rfl
      · have ht3 := h3 x.2 y rfl (by rw [hw, ht2]; exact hy)
        rw [hw, ht2] at ht3
        rw [ht3]; rfl

set_option maxRecDepth 100000 in
set_option maxHeartbeats 6400000 in
theorem insSel (g : Nat) (E : EnvS) (N : Nat) (own : List Int) (a : Int) (s : St) (w : World) (h : Md w g E N (.ok s)) (hN : N ≤ 250) :
    Calls Tryz.prog 35 #[.pointer (some ⟨g, 0, none⟩), .agg #[.int .i64 27, .int .i64 a]] w fun e w' => OutN w g E (stepS E.M own E.res 27 a s) e w' := by
  have HN : Hid (N ≤ 250) := hN
  obtain ⟨W, hW⟩ : ∃ W, w.alloc (.cells #[.int .i64 27, .int .i64 a] 41) = W := ⟨_, rfl⟩
  obtain ⟨z, hz⟩ : ∃ z, w.heap.size = z := ⟨_, rfl⟩
  have hbW : Below w.heap.size w W := by rw [← hW]; exact w0_below w 27 a
  have hZ : W.heap[z]? = some (.cells #[.int .i64 27, .int .i64 a] 41 (0, 0)) := by rw [← hW, ← hz]; exact w0_block w 27 a
  have HW : Hid (w.alloc (.cells #[.int .i64 27, .int .i64 a] 41) = W ∧ w.heap.size = z) := ⟨hW, hz⟩
  have HBW : Hid (Below g w W) := hbW.mono (Nat.le_of_lt h.lt)
  have HM0 : Hid (Md W g E N (.ok s)) := h.keep hbW
  have HGZ : Hid (z ≠ g) := by have := h.lt; unfold Hid; omega
  have HZ : Hid (W.heap[z]? = some (.cells #[.int .i64 27, .int .i64 a] 41 (0, 0))) := hZ
  have e0 : W.cell? ⟨z, 0, none⟩ = some (.int .i64 27) := (cell_of_block hZ 0).trans rfl
  have e1 : W.cell? ⟨z, 1, none⟩ = some (.int .i64 a) := (cell_of_block hZ 1).trans rfl
  rw [← HW.out.1, ← HW.out.2] at e0 e1
  have HS : Hid (stepS E.M own E.res 27 a s = selS s) := rfl
  clear h hN hZ hbW hW hz
  go_enter Tryz.func35, Tryz.ntmps35
  go_wp2_with fail
  rw [HW.out.2, HW.out.1]
  clear e0 e1
  refine (takeMx g E _ (127) (127) _ _ HM0.out (by unfold wantOk; omega) (by decide) (by have := HN.out; omega)).mono ?_
  rintro e w1 ⟨⟨hb1, ht1⟩, hm1, v1, rfl, hv1⟩
  have HB1 : Hid (Below g w w1) := HBW.out.trans hb1
  have HT1 : Hid (Touch g W w1) := ht1
  have HM1 : Hid (Md w1 g E (N) (((.ok s : Except Int St)).bind (takeI (127)))) := hm1
  clear hb1 ht1 hm1 hv1
  go_wp2_with fail
  refine (takeMx g E _ (0) (1) _ _ HM1.out (by unfold wantOk; omega) rfl (by have := HN.out; omega)).mono ?_
  rintro e w2 ⟨⟨hb2, ht2⟩, hm2, v2, rfl, hv2⟩
  have HB2 : Hid (Below g w w2) := HB1.out.trans hb2
  have HT2 : Hid (Touch g W w2) := HT1.out.trans ht2
  have HM2 : Hid (Md w2 g E (N) (((((.ok s : Except Int St)).bind (takeI (127)))).bind (takeI (0)))) := hm2
  clear hb2 ht2 hm2
  obtain ⟨t2, ok2, hv2', hx2⟩ := hv2 (by decide)
  subst hv2'
  obtain ⟨k3, hk3⟩ : ∃ k : Int, t2.getD 0 = k := ⟨_, rfl⟩
  have hw3 : wt k3 = t2 := wt_getD ok2 hk3
  have hs3 : sk k3 = enc 1 t2 := by rw [← sk_enc, hw3]
  have HK3 : Hid (wantOk k3 ∧ k3 ≠ 64 ∧ sk k3 = enc 1 t2 ∧ wt k3 = t2) := ⟨(want_getD ok2 hk3).1, (want_getD ok2 hk3).2, hs3, hw3⟩
  have HX2 : Hid (∀ s0 x, Except.bind (.ok s) (takeI 127) = .ok s0 → takeT (wt 0) s0 = .ok x → t2 = x.1.or (wt 0)) := hx2
  clear hv2 hx2 hk3 hw3 hs3
  obtain ⟨v, hv⟩ : ∃ v, enc 1 t2 = v := ⟨_, rfl⟩
  have HV : Hid (enc 1 t2 = v) := hv
  rw [hv]
  clear hv
  go_wp2_with fail
  refine (takeMx g E _ (k3) (v) _ _ HM2.out HK3.out.1 (by rw [HK3.out.2.2.1, HV.out]) (by have := HN.out; omega)).mono ?_
  rintro e w3 ⟨⟨hb3, ht3⟩, hm3, v3, rfl, hv3⟩
  have HB3 : Hid (Below g w w3) := HB2.out.trans hb3
  have HT3 : Hid (Touch g W w3) := HT2.out.trans ht3
  have HM3 : Hid (Md w3 g E (N) (((((((.ok s : Except Int St)).bind (takeI (127)))).bind (takeI (0)))).bind (takeI (k3)))) := hm3
  clear hb3 ht3 hm3
  obtain ⟨t3, ok3, hv3', hx3⟩ := hv3 HK3.out.2.1
  subst hv3'
  have HX3 : Hid (∀ s0 x, Except.bind (Except.bind (.ok s) (takeI 127)) (takeI 0) = .ok s0 → takeT (wt k3) s0 = .ok x → t3 = x.1.or (wt k3)) := hx3
  clear hv3 hx3
  go_wp2_with fail
  refine (putMT g E _ t3 _ _ HM3.out ok3 (by have := HN.out; omega)).mono ?_
  rintro e w4 ⟨rfl, hm4, hb4⟩
  have HM4 : Hid (Fin w4 g E (((((Except.ok s).bind (takeI 127)).bind (takeI 0)).bind (takeI k3)).map (putT t3))) := hm4.fin
  have HB4 : Hid (Below g w w4) := HB3.out.trans hb4
  clear hm4 hb4
  go_wp2
  first
    | go_end0
    | refine bodyPost_ret (results_none rfl _ _ _) rfl ?_
  exact ⟨rfl, by rw [HS.out, sel_eq HK3.out.2.1 HK3.out.2.2.2 HX2.out HX3.out]; exact HM4.out, HB4.out⟩

end Go.Proofs.YtcgnefgdfgikdaaGreat

namespace Go.Proofs.YtcgnefgdfgikdaaGreat
open Go.ChangeShapes Go.WideShapes Go.ChangeAt Go.RowKit

theorem Md.any {w : World} {g : Nat} {E : EnvS} {N : Nat} {r : Except Int St} (h : Md w g E N r) : ∃ c1 s1 vf1 b1 r1, CS w g E c1 s1 vf1 ∧ Bnd s1 N ∧ s1.opn = b1 :: r1 ∧ ((r = .ok s1 ∧ c1 = 0) ∨ (r = .error c1 ∧ c1 ≠ 0)) := by
  cases r with
  | ok s =>
    obtain ⟨⟨vf, hc⟩, _, hb⟩ := h
    obtain ⟨b, r, e⟩ := List.exists_cons_of_ne_nil hb.ne
    exact ⟨0, s, vf, b, r, hc, hb, e, .inl ⟨rfl, rfl⟩⟩
  | error c =>
    obtain ⟨h0, s, vf, hc, hb⟩ := h
    obtain ⟨b, r, e⟩ := List.exists_cons_of_ne_nil hb.ne
    exact ⟨c, s, vf, b, r, hc, hb, e, .inr ⟨rfl, h0⟩⟩

set_option maxRecDepth 100000 in
set_option maxHeartbeats 6400000 in
theorem insElse (g : Nat) (E : EnvS) (N : Nat) (own : List Int) (a : Int) (s : St) (w : World) (h : Md w g E N (.ok s)) (hblk : ∀ b ∈ s.opn, okB b) (hN : N ≤ 250) :
    Calls Tryz.prog 35 #[.pointer (some ⟨g, 0, none⟩), .agg #[.int .i64 5, .int .i64 a]] w fun e w' => OutN w g E (stepS E.M own E.res 5 a s) e w' := by
  have HN : Hid (N ≤ 250) := hN
  obtain ⟨W, hW⟩ : ∃ W, w.alloc (.cells #[.int .i64 5, .int .i64 a] 41) = W := ⟨_, rfl⟩
  obtain ⟨z, hz⟩ : ∃ z, w.heap.size = z := ⟨_, rfl⟩
  have hbW : Below w.heap.size w W := by rw [← hW]; exact w0_below w 5 a
  have hZ : W.heap[z]? = some (.cells #[.int .i64 5, .int .i64 a] 41 (0, 0)) := by rw [← hW, ← hz]; exact w0_block w 5 a
  have HW : Hid (w.alloc (.cells #[.int .i64 5, .int .i64 a] 41) = W ∧ w.heap.size = z) := ⟨hW, hz⟩
  have HBW : Hid (Below g w W) := hbW.mono (Nat.le_of_lt h.lt)
  have HM0 : Hid (Md W g E N (.ok s)) := h.keep hbW
  have HGZ : Hid (z ≠ g) := by have := h.lt; unfold Hid; omega
  have HZ : Hid (W.heap[z]? = some (.cells #[.int .i64 5, .int .i64 a] 41 (0, 0))) := hZ
  have e0 : W.cell? ⟨z, 0, none⟩ = some (.int .i64 5) := (cell_of_block hZ 0).trans rfl
  have e1 : W.cell? ⟨z, 1, none⟩ = some (.int .i64 a) := (cell_of_block hZ 1).trans rfl
  rw [← HW.out.1, ← HW.out.2] at e0 e1
  obtain ⟨⟨_, hgd, hbd⟩⟩ := And.intro h trivial
  obtain ⟨bt, rt, hst⟩ := List.exists_cons_of_ne_nil hbd.ne
  have TC := closeM g E N s bt rt W HM0.out hst (by have := hblk bt (by rw [hst]; exact List.mem_cons_self ..); unfold okB at this; unfold putKOk; omega) (by omega)
  clear h hN hZ hbW hW hz hblk hgd hbd hst
  go_enter Tryz.func35, Tryz.ntmps35
  go_wp2_with fail
  rw [HW.out.2, HW.out.1]
  clear e0 e1
  refine TC.mono ?_
  rintro e w1 ⟨⟨rfl, hm1, hb1⟩, ht1⟩
  have HB1 : Hid (Below g w w1) := HBW.out.trans hb1
  clear TC hb1 ht1
  obtain ⟨c1, s1, vf1, b1, r1, hc, hbd, hs, hmode⟩ := hm1.any
  obtain ⟨gf, cf, a1, cs, rfl, H⟩ := hc.top hs
  obtain ⟨m, hm⟩ : ∃ m, r1.length = m := ⟨_, rfl⟩
  have hm4 : m ≤ 400 := by have := hbd.no; rw [hs, List.length_cons] at this; omega
  have c11 : w1.cell? ⟨g, 11, none⟩ = some (.slice (some ⟨gf, 0, none⟩) (m + 1) cf) := by rw [cell_of_block H.blk, ← hm]; rfl
  have hB := own_at H.fr (g := gf) rfl
  have hgf : g + 1 ≤ gf := by obtain ⟨_, _, h⟩ := hB; exact h
  obtain ⟨⟨_, _, _, y3, y4⟩, hfr⟩ := H.cells
  have f3 := hfr 3 (by omega)
  have f4 := hfr 4 (by omega)
  rw [hm] at y3 y4 f3 f4
  obtain ⟨p0, p1, p2⟩ := Ck.setQ H.blk (R := ivs 1 s1.vals) (by rw [ivs_len]; exact H.st) H.fr (by decide) (r1.length * 5 + 3) (.bool false)
  rw [fvS_set b1 { b1 with dead := false } r1 3 (.bool false) rfl] at p2
  have g11 : (w1.setCell ⟨gf, r1.length * 5 + 3, none⟩ (.bool false)).cell? ⟨g, 11, none⟩ = some (.slice (some ⟨gf, 0, none⟩) (m + 1) cf) := by rw [cell_of_block p0, ← hm]; rfl
  obtain ⟨q0, q1, q2⟩ := Ck.setQ p0 p1 p2 (by decide) (r1.length * 5 + 4) (.bool true)
  rw [fvS_set { b1 with dead := false } { b1 with dead := false, split := true } r1 4 (.bool true) rfl] at q2
  have y4' := own_cell (j := r1.length * 5 + 4) (u := .bool b1.split) p2 (by rw [fvS_at]; rfl)
  obtain ⟨g4, k4⟩ := y4'
  rw [hm] at p0 p1 p2 q0 q1 q2 g11 g4 k4
  have HE : Hid (CS ((w1.setCell ⟨gf, m * 5 + 3, none⟩ (.bool false)).setCell ⟨gf, m * 5 + 4, none⟩ (.bool true)) g E c1 { s1 with opn := { b1 with dead := false, split := true } :: r1 } (.slice (some ⟨gf, 0, none⟩) (m + 1) cf)) := by
    unfold Hid CS
    simp only [List.length_cons, hm]
    exact ⟨_, q0, q1, q2⟩
  have HB2 : Hid (Below g w ((w1.setCell ⟨gf, m * 5 + 3, none⟩ (.bool false)).setCell ⟨gf, m * 5 + 4, none⟩ (.bool true))) := (HB1.out.setCell (show g ≤ gf by omega) _).setCell (show g ≤ gf by omega) _
  have HF : Hid (Fin ((w1.setCell ⟨gf, m * 5 + 3, none⟩ (.bool false)).setCell ⟨gf, m * 5 + 4, none⟩ (.bool true)) g E (stepS E.M own E.res 5 a s)) := by
    have e : stepS E.M own E.res 5 a s = elseS s := rfl
    unfold Hid
    rw [e]
    unfold elseS
    rcases hmode with ⟨hr, rfl⟩ | ⟨hr, h0⟩
    · rw [hr]
      simp only [Except.map, hs]
      exact ⟨_, HE.out⟩
    · rw [hr]
      exact ⟨h0, _, _, HE.out⟩
  have hjj : (m : Int) < (m : Int) + 1 := by omega
  have hi1 := i64n m hm4
  have hi2 := w64m m hm4
  clear hc hbd hs hmode H hm hB hgf hfr p0 p1 p2 q0 q1 q2 HE hm4 hm1
  go_wp2
  go_end0
  exact ⟨rfl, HF.out, HB2.out⟩

end Go.Proofs.YtcgnefgdfgikdaaGreat

namespace Go.Proofs.YtcgnefgdfgikdaaGreat
open Go.ChangeShapes Go.WideShapes Go.ChangeAt Go.RowKit

theorem end_fin {w : World} {g : Nat} {E : EnvS} {s s1 sF : St} {c1 c2 : Int} {b1 : Blk} {r1 : List Blk} {vf : Value} (hmode : (closeS s = .ok s1 ∧ c1 = 0) ∨ (closeS s = .error c1 ∧ c1 ≠ 0)) (hs : s1.opn = b1 :: r1) (hsF : sF = if r1 = [] then { s1 with opn := r1 } else putI b1.kind { s1 with opn := r1 })
    (hc2 : c2 = if (b1.op = 4 ∧ b1.split = false) ∧ b1.kind ≠ 64 then (if c1 = 0 then 3 else c1) else c1) (hcs : CS w g E c2 sF vf) : Fin w g E (endS s) := by
  rcases hmode with ⟨hr, rfl⟩ | ⟨hr, h0⟩
  · unfold endS
    rw [hr]
    simp only [Except.bind, hs]
    split
    · rename_i hc
      rw [if_pos hc, if_pos rfl] at hc2
      subst hc2
      exact ⟨by decide, _, _, hcs⟩
    · rename_i hc
      rw [if_neg hc] at hc2
      subst hc2 hsF
      exact ⟨_, hcs⟩
  · have e : c2 = c1 := by rw [hc2, if_neg h0, ite_self]
    unfold endS
    rw [hr]
    subst e
    exact ⟨h0, _, _, hcs⟩

set_option maxRecDepth 100000 in
set_option maxHeartbeats 6400000 in
theorem insEnd (g : Nat) (E : EnvS) (N : Nat) (own : List Int) (a : Int) (s : St) (w : World) (h : Md w g E N (.ok s)) (hblk : ∀ b ∈ s.opn, okB b) (hN : N ≤ 250) :
    Calls Tryz.prog 35 #[.pointer (some ⟨g, 0, none⟩), .agg #[.int .i64 11, .int .i64 a]] w fun e w' => OutN w g E (stepS E.M own E.res 11 a s) e w' := by
  have HN : Hid (N ≤ 250) := hN
  obtain ⟨W, hW⟩ : ∃ W, w.alloc (.cells #[.int .i64 11, .int .i64 a] 41) = W := ⟨_, rfl⟩
  obtain ⟨z, hz⟩ : ∃ z, w.heap.size = z := ⟨_, rfl⟩
  have hbW : Below w.heap.size w W := by rw [← hW]; exact w0_below w 11 a
  have hZ : W.heap[z]? = some (.cells #[.int .i64 11, .int .i64 a] 41 (0, 0)) := by rw [← hW, ← hz]; exact w0_block w 11 a
  have HW : Hid (w.alloc (.cells #[.int .i64 11, .int .i64 a] 41) = W ∧ w.heap.size = z) := ⟨hW, hz⟩
  have HBW : Hid (Below g w W) := hbW.mono (Nat.le_of_lt h.lt)
  have HM0 : Hid (Md W g E N (.ok s)) := h.keep hbW
  have HGZ : Hid (z ≠ g) := by have := h.lt; unfold Hid; omega
  have HZ : Hid (W.heap[z]? = some (.cells #[.int .i64 11, .int .i64 a] 41 (0, 0))) := hZ
  have e0 : W.cell? ⟨z, 0, none⟩ = some (.int .i64 11) := (cell_of_block hZ 0).trans rfl
  have e1 : W.cell? ⟨z, 1, none⟩ = some (.int .i64 a) := (cell_of_block hZ 1).trans rfl
  rw [← HW.out.1, ← HW.out.2] at e0 e1
  obtain ⟨⟨_, hgd, hbd⟩⟩ := And.intro h trivial
  obtain ⟨bt, rt, hst⟩ := List.exists_cons_of_ne_nil hbd.ne
  have TC := closeM g E N s bt rt W HM0.out hst (by have := hblk bt (by rw [hst]; exact List.mem_cons_self ..); unfold okB at this; unfold putKOk; omega) (by omega)
  have HS : Hid (stepS E.M own E.res 11 a s = endS s) := rfl
  clear h hN hZ hbW hW hz hblk hgd hbd hst
  go_enter Tryz.func35, Tryz.ntmps35
  go_wp2_with fail
  rw [HW.out.2, HW.out.1]
  clear e0 e1
  refine TC.mono ?_
  rintro e w1 ⟨⟨rfl, hm1, hb1⟩, ht1⟩
  have HB1 : Hid (Below g w w1) := HBW.out.trans hb1
  clear TC hb1 ht1
  obtain ⟨c1, s1, vf1, b1, r1, hc, hbd, hs, hmode⟩ := hm1.any
  obtain ⟨gf, cf, a1, cs, rfl, H⟩ := hc.top hs
  obtain ⟨m, hm⟩ : ∃ m, r1.length = m := ⟨_, rfl⟩
  have hm4 : m ≤ 400 := by have := hbd.no; rw [hs, List.length_cons] at this; omega
  have HMO : Hid ((closeS s = .ok s1 ∧ c1 = 0) ∨ (closeS s = .error c1 ∧ c1 ≠ 0)) := hmode
  have hlt := lt_of_block H.blk
  have hltF := (show gf < w1.heap.size by obtain ⟨cur, hc, _⟩ := own_at H.fr (g := gf) rfl; exact lt_of_block hc)
  have c11 : w1.cell? ⟨g, 11, none⟩ = some (.slice (some ⟨gf, 0, none⟩) (m + 1) cf) := by rw [cell_of_block H.blk, ← hm]; rfl
  obtain ⟨⟨y0, y1, y2, y3, y4⟩, _⟩ := H.cells
  rw [hm] at y0 y1 y2 y3 y4
  obtain ⟨o0, ho0⟩ : ∃ x, b1.op = x := ⟨_, rfl⟩
  obtain ⟨o1, ho1⟩ : ∃ x, b1.kind = x := ⟨_, rfl⟩
  obtain ⟨ht, hht⟩ : ∃ x, b1.h = x := ⟨_, rfl⟩
  obtain ⟨dd, hdd⟩ : ∃ x, b1.dead = x := ⟨_, rfl⟩
  obtain ⟨sp, hsp⟩ : ∃ x, b1.split = x := ⟨_, rfl⟩
  rw [ho0] at y0
  rw [ho1] at y1
  rw [hht] at y2
  rw [hdd] at y3
  rw [hsp] at y4
  have k11 : ∀ w', Keeps w1 w' → w'.cell? ⟨g, 11, none⟩ = some (.slice (some ⟨gf, 0, none⟩) (m + 1) cf) := fun w' h => h.cell hlt c11
  have z0 : ∀ w', Keeps w1 w' → w'.cell? ⟨gf, m * 5, none⟩ = some (.int .i64 o0) := fun w' h => h.cell hltF y0
  have z1 : ∀ w', Keeps w1 w' → w'.cell? ⟨gf, m * 5 + 1, none⟩ = some (.int .i64 o1) := fun w' h => h.cell hltF y1
  have z2 : ∀ w', Keeps w1 w' → w'.cell? ⟨gf, m * 5 + 2, none⟩ = some (.int .i64 (ht : Int)) := fun w' h => h.cell hltF y2
  have z3 : ∀ w', Keeps w1 w' → w'.cell? ⟨gf, m * 5 + 3, none⟩ = some (.bool dd) := fun w' h => h.cell hltF y3
  have z4 : ∀ w', Keeps w1 w' → w'.cell? ⟨gf, m * 5 + 4, none⟩ = some (.bool sp) := fun w' h => h.cell hltF y4
  have HC1 : Hid (CS w1 g E c1 s1 (.slice (some ⟨gf, 0, none⟩) (m + 1) cf)) := by have h := H.ci; rw [hm] at h; exact h
  have HI : Hid (s1.opn = b1 :: r1 ∧ r1.length = m ∧ b1.op = o0 ∧ b1.kind = o1 ∧ b1.split = sp ∧ s1.vals.length ≤ 299 ∧ m ≤ 250) := ⟨hs, hm, ho0, ho1, hsp, by have := hbd.nv; have := HN.out; omega, by have := hbd.no; rw [hs, List.length_cons] at this; omega⟩
  have hjj : (m : Int) < (m : Int) + 1 := by omega
  have HM4 : Hid (m ≤ 400) := hm4
  have hi1 := i64n m hm4
  have hi2 := w64m m hm4
  clear hc hbd hs hmode H hm hm4 hm1 ho0 ho1 hht hdd hsp hlt hltF y0 y1 y2 y3 y4 c11
  go_wp2_with fail
  refine region_m (C := KeepsM w1 (.cells #[.int .i64 0, .int .i64 0, .int .i64 0, .bool false, .bool false] 99)) 13 12 (by kernel_rfl) (by kernel_rfl) (KeepsM.start w1 _) ?_
  simp only [List.take_succ_cons, List.take_zero, List.drop_succ_cons, List.drop_zero]
  (iterate 12
    (apply wm_go _ (by omega) (by rfl)
     · intro M wq hq
       have hx := hq.keeps
       go_simp
       exact uponF_value hq rfl
     simp only [Act.put, List.setIfInBounds_toArray, List.set_cons_succ, List.set_cons_zero]))
  refine wm_make (by omega) (by rfl) (fun M wq hq => ⟨wq.heap.size, ?_⟩) (fun b9 => ?_)
  · go_simp
    exact uponF_value (hq.make 12) rfl
  simp only [Act.put, List.setIfInBounds_toArray, List.set_cons_succ, List.set_cons_zero, ptrTo]
  refine wm_nil ?_
  intro w2 hkp
  obtain ⟨u1, u2, u3⟩ := hkp.made 12 b9 (by simp [updM])
  have q0 : w2.cell? ⟨b9, 0, none⟩ = some (.int .i64 0) := by simp [World.cell?, u3]
  have q1 : w2.cell? ⟨b9, 1, none⟩ = some (.int .i64 0) := by simp [World.cell?, u3]
  have q2 : w2.cell? ⟨b9, 2, none⟩ = some (.int .i64 0) := by simp [World.cell?, u3]
  have q3 : w2.cell? ⟨b9, 3, none⟩ = some (.bool false) := by simp [World.cell?, u3]
  have q4 : w2.cell? ⟨b9, 4, none⟩ = some (.bool false) := by simp [World.cell?, u3]
  have fz : ∀ j, w2.frozen? ⟨b9, j, none⟩ = false := fun j => by simp [World.frozen?, u3]
  obtain ⟨W2, hW2⟩ : ∃ W2, ((((w2.setCell ⟨b9, 0, none⟩ (.int .i64 o0)).setCell ⟨b9, 1, none⟩ (.int .i64 o1)).setCell ⟨b9, 2, none⟩ (.int .i64 (ht : Int))).setCell ⟨b9, 3, none⟩ (.bool dd)).setCell ⟨b9, 4, none⟩ (.bool sp) = W2 := ⟨_, rfl⟩
  have hb2 : Below w1.heap.size w1 W2 := by rw [← hW2]; exact ((((hkp.keeps.below.setCell u1 _).setCell u1 _).setCell u1 _).setCell u1 _).setCell u1 _
  have hWb : W2.heap[b9]? = some (.cells #[.int .i64 o0, .int .i64 o1, .int .i64 (ht : Int), .bool dd, .bool sp] 99 (0, 0)) := by
    rw [← hW2]
    have e1 := heap_setCell_same _ _ 0 _ _ (.int .i64 o0) u3
    have e2 := heap_setCell_same _ _ 1 _ _ (.int .i64 o1) e1
    have e3 := heap_setCell_same _ _ 2 _ _ (.int .i64 (ht : Int)) e2
    have e4 := heap_setCell_same _ _ 3 _ _ (.bool dd) e3
    exact heap_setCell_same _ _ 4 _ _ (.bool sp) e4
  have HC2 : Hid (CS W2 g E c1 s1 (.slice (some ⟨gf, 0, none⟩) (m + 1) cf)) := HC1.out.keep hb2
  have HB2 : Hid (Below g w W2) := HB1.out.trans (hb2.mono (Nat.le_of_lt HC1.out.lt))
  have HWb : Hid (W2.heap[b9]? = some (.cells #[.int .i64 o0, .int .i64 o1, .int .i64 (ht : Int), .bool dd, .bool sp] 99 (0, 0)) ∧ b9 ≠ g) := ⟨hWb, by have h1 := HC1.out.lt; clear hi1 hi2; omega⟩
  have e0 : W2.cell? ⟨b9, 0, none⟩ = some (.int .i64 o0) := (cell_of_block hWb 0).trans rfl
  have e1 : W2.cell? ⟨b9, 1, none⟩ = some (.int .i64 o1) := (cell_of_block hWb 1).trans rfl
  have e4 : W2.cell? ⟨b9, 4, none⟩ = some (.bool sp) := (cell_of_block hWb 4).trans rfl
  have HW2 : Hid (((((w2.setCell ⟨b9, 0, none⟩ (.int .i64 o0)).setCell ⟨b9, 1, none⟩ (.int .i64 o1)).setCell ⟨b9, 2, none⟩ (.int .i64 (ht : Int))).setCell ⟨b9, 3, none⟩ (.bool dd)).setCell ⟨b9, 4, none⟩ (.bool sp) = W2) := hW2
  rw [← hW2] at e0 e1 e4
  clear hkp u1 u2 u3 k11 z0 z1 z2 z3 z4 hb2 hWb hW2 hi1 hi2 hjj
  have BD := badS g E c1 s1 3 _ W2 HC2.out
  by_cases hcond : (o0 = 4 ∧ sp = false) ∧ o1 ≠ 64
  · obtain ⟨⟨rfl, rfl⟩, ho1⟩ := hcond
    have hb1 : (o1 != 64) = true := by simpa using ho1
    have HCD : Hid ((if c1 = 0 then 3 else c1) = if (b1.op = 4 ∧ b1.split = false) ∧ b1.kind ≠ 64 then (if c1 = 0 then (3 : Int) else c1) else c1) := (if_pos (show (b1.op = 4 ∧ b1.split = false) ∧ b1.kind ≠ 64 from ⟨⟨HI.out.2.2.1, HI.out.2.2.2.2.1⟩, by rw [HI.out.2.2.2.1]; exact ho1⟩)).symm
    obtain ⟨c2, hc2⟩ : ∃ c, (if c1 = 0 then (3 : Int) else c1) = c := ⟨_, rfl⟩
    rw [hc2] at BD
    have HCE : Hid (c2 = if (b1.op = 4 ∧ b1.split = false) ∧ b1.kind ≠ 64 then (if c1 = 0 then (3 : Int) else c1) else c1) := by unfold Hid; rw [← hc2]; exact HCD.out
    clear HCD hc2 ho1
    go_wp2_with fail
    rw [HW2.out]
    clear q0 q1 q2 q3 q4 fz e0 e1 e4 hb1
    refine BD.mono ?_
    rintro e w3 ⟨rfl, hc3, hb3, ht3⟩
    have HC3 : Hid (CS w3 g E c2 s1 (.slice (some ⟨gf, 0, none⟩) (m + 1) cf)) := hc3
    have HB3 : Hid (Below g w w3) := HB2.out.trans hb3
    have HW3 : Hid (w3.heap[b9]? = some (.cells #[.int .i64 4, .int .i64 o1, .int .i64 (ht : Int), .bool dd, .bool false] 99 (0, 0)) ∧ b9 ≠ g) := ⟨(ht3.2 b9 (lt_of_block HWb.out.1) HWb.out.2).trans HWb.out.1, HWb.out.2⟩
    clear BD hc3 hb3 ht3 HWb HW2
    go_wp2_with fail
    have hlt3 := HC3.out.lt
    obtain ⟨vs3, g3, r3, f3⟩ := HC3.out
    have k11 : ∀ w', Keeps w3 w' → w'.cell? ⟨g, 11, none⟩ = some (.slice (some ⟨gf, 0, none⟩) (m + 1) cf) := fun w' h => h.cell hlt3 ((cell_of_block g3 11).trans rfl)
    have k11f : ∀ w', Keeps w3 w' → w'.frozen? ⟨g, 11, none⟩ = false := fun w' h => h.frozen hlt3 (free_of_block g3 11)
    clear hlt3 g3 r3 f3
    have hmc : (m : Int) ≤ cf := by obtain ⟨_, _, _, f3⟩ := HC3.out; obtain ⟨_, _, he, hcc⟩ := own_shape f3; simp only [Value.slice.injEq] at he; obtain ⟨_, h1, rfl⟩ := he; omega
    have hjj : (m : Int) < (m : Int) + 1 := by omega
    have hm0 : (0 : Int) ≤ (m : Int) := by omega
    have hi1 := i64n m HM4.out
    have hi2 := w64m m HM4.out
    refine region_qtail (C := Keeps w3) 14 (by kernel_rfl) (by kernel_rfl) (Keeps.drew w3) ?_
    (iterate 14
    (apply wpQuiet_go _ (by rfl)
     · intro wq hq
       go_simp
       first
         | exact rfl
     simp only [Act.put, List.setIfInBounds_toArray, List.set_cons_succ, List.set_cons_zero]))
    refine wpQuiet_nil ?_
    intro wz hk
    clear hi1 hi2
    have cz := k11 _ hk
    have fz := k11f _ hk
    have HCz : Hid (CS (wz.setCell ⟨g, 11, none⟩ (.slice (some ⟨gf, 0, none⟩) m cf)) g E c2 { s1 with opn := r1 } (.slice (some ⟨gf, 0, none⟩) m cf)) := by
      obtain ⟨vs5, p0, p1, p2⟩ := HC3.out.keep hk.below
      unfold Hid CS
      simp only
      refine ck_set p0 (mk' := mkS E c2 s1.most) (vf' := .slice (some ⟨gf, 0, none⟩) m cf) (vs' := vs5) 11 _ rfl p1 ?_
      have hop : s1.opn.length = m + 1 := by rw [HI.out.1, List.length_cons, HI.out.2.1]
      rw [hop] at p2
      have h := own_cut p2 m (by omega)
      have e : (fvS s1.opn).take (m * 5) = fvS r1 := by rw [HI.out.1, fvS_cons, ← HI.out.2.1, ← fvS_len r1, List.take_left]
      rw [e] at h
      rw [HI.out.2.1]
      exact h
    have HBz : Hid (Below g w (wz.setCell ⟨g, 11, none⟩ (.slice (some ⟨gf, 0, none⟩) m cf))) := (HB3.out.trans (hk.below.mono (Nat.le_of_lt HC3.out.lt))).setCell (Nat.le_refl _) _
    have hwbz := (hk.below.block b9 (lt_of_block HW3.out.1)).trans HW3.out.1
    have hwb5 := (heap_setCell_other wz ⟨g, 11, none⟩ b9 (.slice (some ⟨gf, 0, none⟩) m cf) HW3.out.2).trans hwbz
    have e1 : (wz.setCell ⟨g, 11, none⟩ (.slice (some ⟨gf, 0, none⟩) m cf)).cell? ⟨b9, 1, none⟩ = some (.int .i64 o1) := (cell_of_block hwb5 1).trans rfl
    clear hk k11 k11f hwbz hwb5 hjj hm0
    by_cases hm00 : m = 0
    · subst hm00
      clear e1 hmc
      go_wp2
      go_end0
      exact ⟨rfl, by rw [HS.out]; exact end_fin HMO.out HI.out.1 (by rw [if_pos (List.length_eq_zero_iff.1 HI.out.2.1)]) HCE.out HCz.out, HBz.out⟩
    · have hmp : (0 : Int) < (m : Int) := by omega
      have hnr : ¬ r1 = [] := fun e => hm00 (by rw [← HI.out.2.1, e]; rfl)
      have HNR : Hid (¬ r1 = []) := hnr
      have HL5 : Hid (Lim { s1 with opn := r1 }) := ⟨by have := HI.out.2.2.2.2.2.1; simp only; omega, by have := HI.out.2.2.2.2.2.2; simp only; rw [HI.out.2.1]; omega⟩
      clear hnr hm00 hmc
      by_cases h64 : o1 = 64
      · subst h64
        go_wp2_with fail
        refine (putS64 g _).mono ?_
        rintro e w6 ⟨rfl, hw6⟩
        obtain rfl := hw6.symm
        go_wp2
        go_end0
        exact ⟨rfl, by rw [HS.out]; exact end_fin HMO.out HI.out.1 (by rw [if_neg HNR.out]; unfold putI; rw [if_pos HI.out.2.2.2.1]) HCE.out HCz.out, HBz.out⟩
      · have T6 := putST g E c2 { s1 with opn := r1 } (some o1) _ _ HCz.out HL5.out (by show (o1 == 64) = false; simpa using h64)
        have H64 : Hid (o1 ≠ 64) := h64
        clear h64
        go_wp2_with fail
        refine T6.mono ?_
        rintro e w6 ⟨rfl, hc6, hb6⟩
        have HC6 : Hid (CS w6 g E c2 (putT (some o1) { s1 with opn := r1 }) (.slice (some ⟨gf, 0, none⟩) m cf)) := hc6
        have HB6 : Hid (Below g w w6) := HBz.out.trans hb6
        clear T6 hc6 hb6
        go_wp2
        go_end0
        exact ⟨rfl, by rw [HS.out]; exact end_fin HMO.out HI.out.1 (by rw [if_neg HNR.out]; unfold putI; rw [HI.out.2.2.2.1, if_neg H64.out]) HCE.out HC6.out, HB6.out⟩
  · have HCE : Hid (c1 = if (b1.op = 4 ∧ b1.split = false) ∧ b1.kind ≠ 64 then (if c1 = 0 then (3 : Int) else c1) else c1) := by unfold Hid; rw [HI.out.2.2.1, HI.out.2.2.2.1, HI.out.2.2.2.2.1, if_neg hcond]
    have hway : (o0 == 4) = false ∨ (o0 = 4 ∧ sp = true) ∨ (o0 = 4 ∧ sp = false ∧ o1 = 64) := by
      by_cases h1 : o0 = 4
      · right
        cases sp
        · exact .inr ⟨h1, rfl, Classical.not_not.1 fun h => hcond ⟨⟨h1, rfl⟩, h⟩⟩
        · exact .inl ⟨h1, rfl⟩
      · left; simpa using h1
    clear BD hcond
    rcases hway with hw1 | ⟨rfl, rfl⟩ | ⟨rfl, rfl, rfl⟩
    · go_wp2_with fail
      rw [HW2.out]
      clear q0 q1 q2 q3 q4 fz e0 e1 e4
      have HC3 := HC2
      have HB3 := HB2
      have HW3 := HWb
      clear HC2 HB2 HWb HW2
      generalize W2 = w3 at HC3 HB3 HW3 ⊢
      have hlt3 := HC3.out.lt
      obtain ⟨vs3, g3, r3, f3⟩ := HC3.out
      have k11 : ∀ w', Keeps w3 w' → w'.cell? ⟨g, 11, none⟩ = some (.slice (some ⟨gf, 0, none⟩) (m + 1) cf) := fun w' h => h.cell hlt3 ((cell_of_block g3 11).trans rfl)
      have k11f : ∀ w', Keeps w3 w' → w'.frozen? ⟨g, 11, none⟩ = false := fun w' h => h.frozen hlt3 (free_of_block g3 11)
      clear hlt3 g3 r3 f3
      have hmc : (m : Int) ≤ cf := by obtain ⟨_, _, _, f3⟩ := HC3.out; obtain ⟨_, _, he, hcc⟩ := own_shape f3; simp only [Value.slice.injEq] at he; obtain ⟨_, h1, rfl⟩ := he; omega
      have hjj : (m : Int) < (m : Int) + 1 := by omega
      have hm0 : (0 : Int) ≤ (m : Int) := by omega
      have hi1 := i64n m HM4.out
      have hi2 := w64m m HM4.out
      refine region_qtail (C := Keeps w3) 14 (by kernel_rfl) (by kernel_rfl) (Keeps.drew w3) ?_
      (iterate 14
    (apply wpQuiet_go _ (by rfl)
     · intro wq hq
       go_simp
       first
         | exact rfl
     simp only [Act.put, List.setIfInBounds_toArray, List.set_cons_succ, List.set_cons_zero]))
      refine wpQuiet_nil ?_
      intro wz hk
      clear hi1 hi2
      have cz := k11 _ hk
      have fz := k11f _ hk
      have HCz : Hid (CS (wz.setCell ⟨g, 11, none⟩ (.slice (some ⟨gf, 0, none⟩) m cf)) g E c1 { s1 with opn := r1 } (.slice (some ⟨gf, 0, none⟩) m cf)) := by
        obtain ⟨vs5, p0, p1, p2⟩ := HC3.out.keep hk.below
        unfold Hid CS
        simp only
        refine ck_set p0 (mk' := mkS E c1 s1.most) (vf' := .slice (some ⟨gf, 0, none⟩) m cf) (vs' := vs5) 11 _ rfl p1 ?_
        have hop : s1.opn.length = m + 1 := by rw [HI.out.1, List.length_cons, HI.out.2.1]
        rw [hop] at p2
        have h := own_cut p2 m (by omega)
        have e : (fvS s1.opn).take (m * 5) = fvS r1 := by rw [HI.out.1, fvS_cons, ← HI.out.2.1, ← fvS_len r1, List.take_left]
        rw [e] at h
        rw [HI.out.2.1]
        exact h
      have HBz : Hid (Below g w (wz.setCell ⟨g, 11, none⟩ (.slice (some ⟨gf, 0, none⟩) m cf))) := (HB3.out.trans (hk.below.mono (Nat.le_of_lt HC3.out.lt))).setCell (Nat.le_refl _) _
      have hwbz := (hk.below.block b9 (lt_of_block HW3.out.1)).trans HW3.out.1
      have hwb5 := (heap_setCell_other wz ⟨g, 11, none⟩ b9 (.slice (some ⟨gf, 0, none⟩) m cf) HW3.out.2).trans hwbz
      have e1 : (wz.setCell ⟨g, 11, none⟩ (.slice (some ⟨gf, 0, none⟩) m cf)).cell? ⟨b9, 1, none⟩ = some (.int .i64 o1) := (cell_of_block hwb5 1).trans rfl
      clear hk k11 k11f hwbz hwb5 hjj hm0
      by_cases hm00 : m = 0
      · subst hm00
        clear e1 hmc
        go_wp2
        go_end0
        exact ⟨rfl, by rw [HS.out]; exact end_fin HMO.out HI.out.1 (by rw [if_pos (List.length_eq_zero_iff.1 HI.out.2.1)]) HCE.out HCz.out, HBz.out⟩
      · have hmp : (0 : Int) < (m : Int) := by omega
        have hnr : ¬ r1 = [] := fun e => hm00 (by rw [← HI.out.2.1, e]; rfl)
        have HNR : Hid (¬ r1 = []) := hnr
        have HL5 : Hid (Lim { s1 with opn := r1 }) := ⟨by have := HI.out.2.2.2.2.2.1; simp only; omega, by have := HI.out.2.2.2.2.2.2; simp only; rw [HI.out.2.1]; omega⟩
        clear hnr hm00 hmc
        by_cases h64 : o1 = 64
        · subst h64
          go_wp2_with fail
          refine (putS64 g _).mono ?_
          rintro e w6 ⟨rfl, hw6⟩
          obtain rfl := hw6.symm
          go_wp2
          go_end0
          exact ⟨rfl, by rw [HS.out]; exact end_fin HMO.out HI.out.1 (by rw [if_neg HNR.out]; unfold putI; rw [if_pos HI.out.2.2.2.1]) HCE.out HCz.out, HBz.out⟩
        · have T6 := putST g E c1 { s1 with opn := r1 } (some o1) _ _ HCz.out HL5.out (by show (o1 == 64) = false; simpa using h64)
          have H64 : Hid (o1 ≠ 64) := h64
          clear h64
          go_wp2_with fail
          refine T6.mono ?_
          rintro e w6 ⟨rfl, hc6, hb6⟩
          have HC6 : Hid (CS w6 g E c1 (putT (some o1) { s1 with opn := r1 }) (.slice (some ⟨gf, 0, none⟩) m cf)) := hc6
          have HB6 : Hid (Below g w w6) := HBz.out.trans hb6
          clear T6 hc6 hb6
          go_wp2
          go_end0
          exact ⟨rfl, by rw [HS.out]; exact end_fin HMO.out HI.out.1 (by rw [if_neg HNR.out]; unfold putI; rw [HI.out.2.2.2.1, if_neg H64.out]) HCE.out HC6.out, HB6.out⟩
    · go_wp2_with fail
      rw [HW2.out]
      clear q0 q1 q2 q3 q4 fz e0 e1 e4
      have HC3 := HC2
      have HB3 := HB2
      have HW3 := HWb
      clear HC2 HB2 HWb HW2
      generalize W2 = w3 at HC3 HB3 HW3 ⊢
      have hlt3 := HC3.out.lt
      obtain ⟨vs3, g3, r3, f3⟩ := HC3.out
      have k11 : ∀ w', Keeps w3 w' → w'.cell? ⟨g, 11, none⟩ = some (.slice (some ⟨gf, 0, none⟩) (m + 1) cf) := fun w' h => h.cell hlt3 ((cell_of_block g3 11).trans rfl)
      have k11f : ∀ w', Keeps w3 w' → w'.frozen? ⟨g, 11, none⟩ = false := fun w' h => h.frozen hlt3 (free_of_block g3 11)
      clear hlt3 g3 r3 f3
      have hmc : (m : Int) ≤ cf := by obtain ⟨_, _, _, f3⟩ := HC3.out; obtain ⟨_, _, he, hcc⟩ := own_shape f3; simp only [Value.slice.injEq] at he; obtain ⟨_, h1, rfl⟩ := he; omega
      have hjj : (m : Int) < (m : Int) + 1 := by omega
      have hm0 : (0 : Int) ≤ (m : Int) := by omega
      have hi1 := i64n m HM4.out
      have hi2 := w64m m HM4.out
      refine region_qtail (C := Keeps w3) 14 (by kernel_rfl) (by kernel_rfl) (Keeps.drew w3) ?_
      (iterate 14
    (apply wpQuiet_go _ (by rfl)
     · intro wq hq
       go_simp
       first
         | exact rfl
     simp only [Act.put, List.setIfInBounds_toArray, List.set_cons_succ, List.set_cons_zero]))
      refine wpQuiet_nil ?_
      intro wz hk
      clear hi1 hi2
      have cz := k11 _ hk
      have fz := k11f _ hk
      have HCz : Hid (CS (wz.setCell ⟨g, 11, none⟩ (.slice (some ⟨gf, 0, none⟩) m cf)) g E c1 { s1 with opn := r1 } (.slice (some ⟨gf, 0, none⟩) m cf)) := by
        obtain ⟨vs5, p0, p1, p2⟩ := HC3.out.keep hk.below
        unfold Hid CS
        simp only
        refine ck_set p0 (mk' := mkS E c1 s1.most) (vf' := .slice (some ⟨gf, 0, none⟩) m cf) (vs' := vs5) 11 _ rfl p1 ?_
        have hop : s1.opn.length = m + 1 := by rw [HI.out.1, List.length_cons, HI.out.2.1]
        rw [hop] at p2
        have h := own_cut p2 m (by omega)
        have e : (fvS s1.opn).take (m * 5) = fvS r1 := by rw [HI.out.1, fvS_cons, ← HI.out.2.1, ← fvS_len r1, List.take_left]
        rw [e] at h
        rw [HI.out.2.1]
        exact h
      have HBz : Hid (Below g w (wz.setCell ⟨g, 11, none⟩ (.slice (some ⟨gf, 0, none⟩) m cf))) := (HB3.out.trans (hk.below.mono (Nat.le_of_lt HC3.out.lt))).setCell (Nat.le_refl _) _
      have hwbz := (hk.below.block b9 (lt_of_block HW3.out.1)).trans HW3.out.1
      have hwb5 := (heap_setCell_other wz ⟨g, 11, none⟩ b9 (.slice (some ⟨gf, 0, none⟩) m cf) HW3.out.2).trans hwbz
      have e1 : (wz.setCell ⟨g, 11, none⟩ (.slice (some ⟨gf, 0, none⟩) m cf)).cell? ⟨b9, 1, none⟩ = some (.int .i64 o1) := (cell_of_block hwb5 1).trans rfl
      clear hk k11 k11f hwbz hwb5 hjj hm0
      by_cases hm00 : m = 0
      · subst hm00
        clear e1 hmc
        go_wp2
        go_end0
        exact ⟨rfl, by rw [HS.out]; exact end_fin HMO.out HI.out.1 (by rw [if_pos (List.length_eq_zero_iff.1 HI.out.2.1)]) HCE.out HCz.out, HBz.out⟩
      · have hmp : (0 : Int) < (m : Int) := by omega
        have hnr : ¬ r1 = [] := fun e => hm00 (by rw [← HI.out.2.1, e]; rfl)
        have HNR : Hid (¬ r1 = []) := hnr
        have HL5 : Hid (Lim { s1 with opn := r1 }) := ⟨by have := HI.out.2.2.2.2.2.1; simp only; omega, by have := HI.out.2.2.2.2.2.2; simp only; rw [HI.out.2.1]; omega⟩
        clear hnr hm00 hmc
        by_cases h64 : o1 = 64
        · subst h64
          go_wp2_with fail
          refine (putS64 g _).mono ?_
          rintro e w6 ⟨rfl, hw6⟩
          obtain rfl := hw6.symm
          go_wp2
          go_end0
          exact ⟨rfl, by rw [HS.out]; exact end_fin HMO.out HI.out.1 (by rw [if_neg HNR.out]; unfold putI; rw [if_pos HI.out.2.2.2.1]) HCE.out HCz.out, HBz.out⟩
        · have T6 := putST g E c1 { s1 with opn := r1 } (some o1) _ _ HCz.out HL5.out (by show (o1 == 64) = false; simpa using h64)
          have H64 : Hid (o1 ≠ 64) := h64
          clear h64
          go_wp2_with fail
          refine T6.mono ?_
          rintro e w6 ⟨rfl, hc6, hb6⟩
          have HC6 : Hid (CS w6 g E c1 (putT (some o1) { s1 with opn := r1 }) (.slice (some ⟨gf, 0, none⟩) m cf)) := hc6
          have HB6 : Hid (Below g w w6) := HBz.out.trans hb6
          clear T6 hc6 hb6
          go_wp2
          go_end0
          exact ⟨rfl, by rw [HS.out]; exact end_fin HMO.out HI.out.1 (by rw [if_neg HNR.out]; unfold putI; rw [HI.out.2.2.2.1, if_neg H64.out]) HCE.out HC6.out, HB6.out⟩
    · go_wp2_with fail
      rw [HW2.out]
      clear q0 q1 q2 q3 q4 fz e0 e1 e4
      have HC3 := HC2
      have HB3 := HB2
      have HW3 := HWb
      clear HC2 HB2 HWb HW2
      generalize W2 = w3 at HC3 HB3 HW3 ⊢
      have hlt3 := HC3.out.lt
      obtain ⟨vs3, g3, r3, f3⟩ := HC3.out
      have k11 : ∀ w', Keeps w3 w' → w'.cell? ⟨g, 11, none⟩ = some (.slice (some ⟨gf, 0, none⟩) (m + 1) cf) := fun w' h => h.cell hlt3 ((cell_of_block g3 11).trans rfl)
      have k11f : ∀ w', Keeps w3 w' → w'.frozen? ⟨g, 11, none⟩ = false := fun w' h => h.frozen hlt3 (free_of_block g3 11)
      clear hlt3 g3 r3 f3
      have hmc : (m : Int) ≤ cf := by obtain ⟨_, _, _, f3⟩ := HC3.out; obtain ⟨_, _, he, hcc⟩ := own_shape f3; simp only [Value.slice.injEq] at he; obtain ⟨_, h1, rfl⟩ := he; omega
      have hjj : (m : Int) < (m : Int) + 1 := by omega
      have hm0 : (0 : Int) ≤ (m : Int) := by omega
      have hi1 := i64n m HM4.out
      have hi2 := w64m m HM4.out
      refine region_qtail (C := Keeps w3) 14 (by kernel_rfl) (by kernel_rfl) (Keeps.drew w3) ?_
      (iterate 14
    (apply wpQuiet_go _ (by rfl)
     · intro wq hq
       go_simp
       first
         | exact rfl
     simp only [Act.put, List.setIfInBounds_toArray, List.set_cons_succ, List.set_cons_zero]))
      refine wpQuiet_nil ?_
      intro wz hk
      clear hi1 hi2
      have cz := k11 _ hk
      have fz := k11f _ hk
      have HCz : Hid (CS (wz.setCell ⟨g, 11, none⟩ (.slice (some ⟨gf, 0, none⟩) m cf)) g E c1 { s1 with opn := r1 } (.slice (some ⟨gf, 0, none⟩) m cf)) := by
        obtain ⟨vs5, p0, p1, p2⟩ := HC3.out.keep hk.below
        unfold Hid CS
        simp only
        refine ck_set p0 (mk' := mkS E c1 s1.most) (vf' := .slice (some ⟨gf, 0, none⟩) m cf) (vs' := vs5) 11 _ rfl p1 ?_
        have hop : s1.opn.length = m + 1 := by rw [HI.out.1, List.length_cons, HI.out.2.1]
        rw [hop] at p2
        have h := own_cut p2 m (by omega)
        have e : (fvS s1.opn).take (m * 5) = fvS r1 := by rw [HI.out.1, fvS_cons, ← HI.out.2.1, ← fvS_len r1, List.take_left]
        rw [e] at h
        rw [HI.out.2.1]
        exact h
      have HBz : Hid (Below g w (wz.setCell ⟨g, 11, none⟩ (.slice (some ⟨gf, 0, none⟩) m cf))) := (HB3.out.trans (hk.below.mono (Nat.le_of_lt HC3.out.lt))).setCell (Nat.le_refl _) _
      have hwbz := (hk.below.block b9 (lt_of_block HW3.out.1)).trans HW3.out.1
      have hwb5 := (heap_setCell_other wz ⟨g, 11, none⟩ b9 (.slice (some ⟨gf, 0, none⟩) m cf) HW3.out.2).trans hwbz
      have e1 : (wz.setCell ⟨g, 11, none⟩ (.slice (some ⟨gf, 0, none⟩) m cf)).cell? ⟨b9, 1, none⟩ = some (.int .i64 64) := (cell_of_block hwb5 1).trans rfl
      clear hk k11 k11f hwbz hwb5 hjj hm0
      by_cases hm00 : m = 0
      · subst hm00
        clear e1 hmc
        go_wp2
        go_end0
        exact ⟨rfl, by rw [HS.out]; exact end_fin HMO.out HI.out.1 (by rw [if_pos (List.length_eq_zero_iff.1 HI.out.2.1)]) HCE.out HCz.out, HBz.out⟩
      · have hmp : (0 : Int) < (m : Int) := by omega
        have hnr : ¬ r1 = [] := fun e => hm00 (by rw [← HI.out.2.1, e]; rfl)
        have HNR : Hid (¬ r1 = []) := hnr
        have HL5 : Hid (Lim { s1 with opn := r1 }) := ⟨by have := HI.out.2.2.2.2.2.1; simp only; omega, by have := HI.out.2.2.2.2.2.2; simp only; rw [HI.out.2.1]; omega⟩
        clear hnr hm00 hmc
        go_wp2_with fail
        refine (putS64 g _).mono ?_
        rintro e w6 ⟨rfl, hw6⟩
        obtain rfl := hw6.symm
        go_wp2
        go_end0
        exact ⟨rfl, by rw [HS.out]; exact end_fin HMO.out HI.out.1 (by rw [if_neg HNR.out]; unfold putI; rw [if_pos HI.out.2.2.2.1]) HCE.out HCz.out, HBz.out⟩


end Go.Proofs.YtcgnefgdfgikdaaGreat

namespace Go.Proofs.YtcgnefgdfgikdaaGreat
open Go.ChangeShapes Go.WideShapes Go.ChangeAt Go.RowKit

set_option maxRecDepth 100000 in
set_option maxHeartbeats 6400000 in
theorem insOther (g : Nat) (E : EnvS) (N : Nat) (own : List Int) (op : Int) (a : Int) (s : St) (w : World) (h : Md w g E N (.ok s)) (hT : ∀ W, Md W g E N (.ok s) → Below w.heap.size w W → Calls Tryz.prog 61 #[.pointer (some ⟨g, 0, none⟩), .agg #[.int .i64 op, .int .i64 a]] W fun e w' => OutPM W g E (N + 1) (effR E.M own op a s) e w') (hop : ¬ (op = 1 ∨ op = 0 ∨ op = 15 ∨ op = 26 ∨ op = 27 ∨ op = 2 ∨ op = 3 ∨ op = 4 ∨ op = 5 ∨ op = 11 ∨ op = 12 ∨ op = 13)) (hN : N ≤ 250) :
    Calls Tryz.prog 35 #[.pointer (some ⟨g, 0, none⟩), .agg #[.int .i64 op, .int .i64 a]] w fun e w' => OutN w g E (stepS E.M own E.res op a s) e w' := by
  have HN : Hid (N ≤ 250) := hN
  obtain ⟨W, hW⟩ : ∃ W, w.alloc (.cells #[.int .i64 op, .int .i64 a] 41) = W := ⟨_, rfl⟩
  obtain ⟨z, hz⟩ : ∃ z, w.heap.size = z := ⟨_, rfl⟩
  have hbW : Below w.heap.size w W := by rw [← hW]; exact w0_below w op a
  have hZ : W.heap[z]? = some (.cells #[.int .i64 op, .int .i64 a] 41 (0, 0)) := by rw [← hW, ← hz]; exact w0_block w op a
  have HW : Hid (w.alloc (.cells #[.int .i64 op, .int .i64 a] 41) = W ∧ w.heap.size = z) := ⟨hW, hz⟩
  have HBW : Hid (Below g w W) := hbW.mono (Nat.le_of_lt h.lt)
  have HM0 : Hid (Md W g E N (.ok s)) := h.keep hbW
  have HGZ : Hid (z ≠ g) := by have := h.lt; unfold Hid; omega
  have HZ : Hid (W.heap[z]? = some (.cells #[.int .i64 op, .int .i64 a] 41 (0, 0))) := hZ
  have e0 : W.cell? ⟨z, 0, none⟩ = some (.int .i64 op) := (cell_of_block hZ 0).trans rfl
  have e1 : W.cell? ⟨z, 1, none⟩ = some (.int .i64 a) := (cell_of_block hZ 1).trans rfl
  rw [← HW.out.1, ← HW.out.2] at e0 e1
  have HS : Hid (stepS E.M own E.res op a s = effR E.M own op a s) := by
    unfold Hid stepS
    rw [if_neg (by omega), if_neg (by omega), if_neg (by omega), if_neg (by omega), if_neg (by omega), if_neg (by omega), if_neg (by omega), if_neg (by omega)]
    rfl
  have T := hT W HM0.out hbW
  have n1 : (op == 1) = false := by simp; omega
  have n0 : (op == 0) = false := by simp; omega
  have n15 : (op == 15) = false := by simp; omega
  have n26 : (op == 26) = false := by simp; omega
  have n27 : (op == 27) = false := by simp; omega
  have n2 : (op == 2) = false := by simp; omega
  have n3 : (op == 3) = false := by simp; omega
  have n4 : (op == 4) = false := by simp; omega
  have n5 : (op == 5) = false := by simp; omega
  have n11 : (op == 11) = false := by simp; omega
  have n12 : (op == 12) = false := by simp; omega
  have n13 : (op == 13) = false := by simp; omega
  clear h hN hZ hbW hW hz hT hop
  go_enter Tryz.func35, Tryz.ntmps35
  go_wp2_with fail
  rw [HW.out.2, HW.out.1]
  clear e0 e1
  refine T.mono ?_
  rintro e w1 ⟨rfl, hm1, hb1⟩
  have HM1 : Hid (Fin w1 g E (effR E.M own op a s)) := hm1.fin
  have HB1 : Hid (Below g w w1) := HBW.out.trans hb1
  clear T hm1 hb1
  go_wp2
  first
    | go_end0
    | refine bodyPost_ret (results_none rfl _ _ _) rfl ?_
  exact ⟨rfl, by rw [HS.out]; exact HM1.out, HB1.out⟩

theorem insM (V : World) (g : Nat) (E : EnvS) (N : Nat) (own : List Int) (op a : Int) (s : St) (w : World) (h : Md w g E N (.ok s)) (hE : Hid (EnvOkS V g E own)) (hV : Below V.heap.size V w) (hg : gi op a = true) (hblk : ∀ b ∈ s.opn, okB b) (hN : N ≤ 250) :
    Calls Tryz.prog 35 #[.pointer (some ⟨g, 0, none⟩), .agg #[.int .i64 op, .int .i64 a]] w fun e w' => OutN w g E (stepS E.M own E.res op a s) e w' := by
  obtain ⟨hk, h0, _⟩ := kinds7 hg
  have hres : putKOk E.res := by have := hE.out.ty.res; unfold putKOk; omega
  rcases hk with hk | hk | hk | hk | hk | hk
  · exact insBlock g E N own op a s w h hk hN
  · subst hk; exact insIf g E N own a s w h hN
  · rcases hk with rfl | rfl | rfl | rfl
    · exact insElse g E N own a s w h hblk hN
    · exact insEnd g E N own a s w h hblk hN
    · exact insDie g E N own a s w h hN
    · exact insSel g E N own a s w h hN
  · subst hk; exact insRet g E N own a s w h hres hN
  · subst hk
    obtain ⟨n, rfl⟩ : ∃ n : Nat, a = n := ⟨a.toNat, by have := h0 (by simp); omega⟩
    exact insBr g E N own n s w h hblk hN
  · by_cases h13 : op = 13
    · subst h13
      obtain ⟨n, rfl⟩ : ∃ n : Nat, a = n := ⟨a.toNat, by have := h0 (by simp); omega⟩
      exact insBrIf g E N own n s w h hblk hN
    by_cases h1 : op = 1
    · subst h1; exact insNop g E N own a s w h hN
    by_cases h26 : op = 26
    · subst h26; exact insDrop g E N own a s w h hN
    unfold effOps plains at hk
    simp only [List.mem_cons, List.not_mem_nil, or_false] at hk
    refine insOther g E N own op a s w h (fun W hm hb => ?_) (by omega) hN
    have hVW : Below V.heap.size V W := bel_step hV hb
    by_cases c16 : op = 16
    · subst c16
      obtain ⟨n, rfl⟩ : ∃ n : Nat, a = n := ⟨a.toNat, by have := h0 (by simp); omega⟩
      exact otherCall V g E N own n s W hm hE hVW hN
    by_cases cv : op = 32 ∨ op = 33 ∨ op = 34
    · obtain ⟨n, rfl⟩ : ∃ n : Nat, a = n := ⟨a.toNat, by have := h0 (by omega); omega⟩
      exact otherVar V g E N own op n s W hm hE hVW cv (by omega)
    by_cases cg : op = 35 ∨ op = 36
    · obtain ⟨n, rfl⟩ : ∃ n : Nat, a = n := ⟨a.toNat, by have := h0 (by omega); omega⟩
      exact otherGlo V g E N own op n s W hm hE hVW cg hN
    by_cases cm : op = 40 ∨ op = 41 ∨ op = 54 ∨ op = 55 ∨ op = 63 ∨ op = 64
    · exact otherMem g E N own op a s W hm cm (by omega)
    by_cases cp : op = 65 ∨ op = 66 ∨ op = 67 ∨ op = 176 ∨ op = 177 ∨ op = 178 ∨ op = 179 ∨ op = 180
    · exact otherPlain g E N own op a s W hm cp (by omega)
    · exact otherNum g E N own op a s W hm (by omega) (by omega)

end Go.Proofs.YtcgnefgdfgikdaaGreat
