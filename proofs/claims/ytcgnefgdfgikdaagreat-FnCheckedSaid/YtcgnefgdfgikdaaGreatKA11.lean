/-
  The law's check: locals and globals.
-/
import Derived.Test.YtcgnefgdfgikdaaGreatKA10
namespace Go.Proofs.YtcgnefgdfgikdaaGreat
open Go.ChangeShapes Go.WideShapes Go.ChangeAt Go.RowKit

structure EnvOkS (V : World) (g : Nat) (E : EnvS) (own : List Int) : Prop where
  hm : ModAt V E.l E.M
  ho : ∃ oa oc, E.sv = .slice oa own.length oc ∧ Ints V oa own
  hg : V.heap.size ≤ g
  ps : ∀ f ∈ E.M.fs, f.ps.length ≤ 20
  ns : E.M.fs.length ≤ 20 ∧ E.M.gs.length ≤ 20 ∧ own.length ≤ 40
  ty : TyOk E.M own E.res
  pt : ∀ f ∈ E.M.fs, ∀ t ∈ f.ps, 125 ≤ t ∧ t ≤ 127
theorem Md.blk {w : World} {g : Nat} {E : EnvS} {N : Nat} {r : Except Int St} (h : Md w g E N r) : ∃ code most vf vs, w.heap[g]? = some (.cells (mkS E code most vf vs) 77 (0, 0)) := by
  cases r with
  | ok s => obtain ⟨⟨vf, vs, h0, _⟩, _⟩ := h; exact ⟨_, _, _, _, h0⟩
  | error c => obtain ⟨_, s, vf, ⟨vs, h0, _⟩, _⟩ := h; exact ⟨_, _, _, _, h0⟩
theorem Ints.cellAt {w : World} {a : Option Addr} {L : List Int} (h : Ints w a L) (k : Nat) (hk : k < L.length) : ∃ b off, a = some ⟨b, off, none⟩ ∧ b < w.heap.size ∧ w.cell? ⟨b, off + k, none⟩ = some (.int .i64 L[k]) := by
  obtain ⟨b, off, ha, hl, hc⟩ := h (fun e => by subst e; simp at hk)
  exact ⟨b, off, ha, hl, hc k hk⟩

set_option maxRecDepth 100000 in
set_option maxHeartbeats 6400000 in
theorem otherVar (V : World) (g : Nat) (E : EnvS) (N : Nat) (own : List Int) (op : Int) (a : Nat) (s : St) (w : World) (h : Md w g E N (.ok s)) (hE : Hid (EnvOkS V g E own)) (hV : Below V.heap.size V w) (hop : op = 32 ∨ op = 33 ∨ op = 34) (hN : N ≤ 299) :
    Calls Tryz.prog 61 #[.pointer (some ⟨g, 0, none⟩), .agg #[.int .i64 op, .int .i64 (a : Int)]] w fun e w' => OutPM w g E (N + 1) (effR E.M own op (a : Int) s) e w' := by
  have HN : Hid (N ≤ 299) := hN
  obtain ⟨W, hW⟩ : ∃ W, w.alloc (.cells #[.int .i64 op, .int .i64 (a : Int)] 41) = W := ⟨_, rfl⟩
  obtain ⟨z, hz⟩ : ∃ z, w.heap.size = z := ⟨_, rfl⟩
  have hbW : Below w.heap.size w W := by rw [← hW]; exact w0_below w op a
  have hZ : W.heap[z]? = some (.cells #[.int .i64 op, .int .i64 (a : Int)] 41 (0, 0)) := by rw [← hW, ← hz]; exact w0_block w op a
  have HW : Hid (w.alloc (.cells #[.int .i64 op, .int .i64 (a : Int)] 41) = W ∧ w.heap.size = z) := ⟨hW, hz⟩
  have HBW : Hid (Below g w W) := hbW.mono (Nat.le_of_lt h.lt)
  have HM0 : Hid (Md W g E N (.ok s)) := h.keep hbW
  have HGZ : Hid (z ≠ g) := by have := h.lt; unfold Hid; omega
  have HZ : Hid (W.heap[z]? = some (.cells #[.int .i64 op, .int .i64 (a : Int)] 41 (0, 0))) := hZ
  have HVW : Hid (Below V.heap.size V W) := bel_step hV hbW
  obtain ⟨oa, oc, hsv, hI⟩ := hE.out.ho
  obtain ⟨code, most, vf, vs, hgb⟩ := HM0.out.blk
  obtain ⟨n, hn⟩ : ∃ n, own.length = n := ⟨_, rfl⟩
  rw [hn] at hsv
  have hzl := lt_of_block hZ
  have hgl := lt_of_block hgb
  have kz0 : ∀ w', Keeps W w' → w'.cell? ⟨z, 0, none⟩ = some (.int .i64 op) := fun w' h => h.cell hzl ((cell_of_block hZ 0).trans rfl)
  have kz1 : ∀ w', Keeps W w' → w'.cell? ⟨z, 1, none⟩ = some (.int .i64 (a : Int)) := fun w' h => h.cell hzl ((cell_of_block hZ 1).trans rfl)
  have k14 : ∀ w', Keeps W w' → w'.cell? ⟨g, 14, none⟩ = some (.slice oa n oc) := fun w' h => h.cell hgl ((cell_of_block hgb 14).trans (congrArg some hsv))
  have HSV : Hid (E.sv = .slice oa n oc ∧ Ints V oa own ∧ own.length = n) := ⟨hsv, hI, hn⟩
  have HE0 : Hid (effR E.M own op (a : Int) s = match own[a]? with | none => .error 5 | some t => (takes (varEff op t).1 s).map (putI (varEff op t).2)) := by
    unfold Hid effR effS
    rw [if_neg (by omega), if_neg (by omega), if_pos hop, Int.toNat_natCast]
    cases own[a]? <;> rfl
  by_cases ha : a < n
  · obtain ⟨bo, off, rfl, hbo, hc⟩ := hI.cellAt a (by omega)
    obtain ⟨t, ht⟩ : ∃ t, own[a]'(by omega) = t := ⟨_, rfl⟩
    rw [ht] at hc
    have hkt : own[a]? = some t := by rw [List.getElem?_eq_getElem (by omega), ht]
    have htk := hE.out.ty.own t (List.mem_of_getElem? hkt)
    have HE1 : Hid (effR E.M own op (a : Int) s = (takes (varEff op t).1 s).map (putI (varEff op t).2)) := by unfold Hid; rw [HE0.out, hkt]
    have kt : ∀ w', Below V.heap.size V w' → w'.cell? ⟨bo, off + a, none⟩ = some (.int .i64 t) := fun w' h => (h.cell (p := ⟨bo, off + a, none⟩) hbo).trans hc
    have ha2 : ¬ (n : Int) ≤ (a : Int) := by omega
    have ha3 : (a : Int) < (n : Int) := by omega
    have ha0 : (0 : Int) ≤ (a : Int) := by omega
    have HTK : Hid (wantOk t ∧ sk t = t ∧ putKOk t) := ⟨by unfold wantOk; omega, by unfold sk; rw [if_neg (by omega)], by unfold putKOk; omega⟩
    have kt1 : ∀ w', Keeps W w' → w'.cell? ⟨bo, off + a, none⟩ = some (.int .i64 t) := fun w' h => kt w' (bel_step HVW.out h.below)
    clear hc hbo ht hkt htk HE0 hZ hgb hzl hgl hsv hI hn hbW hW hz h hV hN
    rcases hop with rfl | rfl | rfl
    · go_enter Tryz.func61, Tryz.ntmps61
      have e0 := kz0 _ ⟨Below.refl _ _⟩
      rw [← HW.out.1, ← HW.out.2] at e0
      go_wp2_with fail
      rw [HW.out.2, HW.out.1]
      clear e0
      refine region_q (C := Keeps W) (by kernel_rfl) (by kernel_rfl) (Keeps.drew W) ?_
      (iterate 8
    (apply wpQuiet_go _ (by rfl)
     · intro wq hq
       go_simp
       first
         | exact rfl
     simp only [Act.put, List.setIfInBounds_toArray, List.set_cons_succ, List.set_cons_zero]))
      refine wpQuiet_nil ?_
      intro wz hk
      have e0 := kz0 _ hk
      go_wp2_with fail
      clear e0
      refine region_qtail (C := Keeps W) 9 (by kernel_rfl) (by kernel_rfl) (hk.step ((Below.refl _ _).drew)) ?_
      (iterate 9
    (apply wpQuiet_go _ (by rfl)
     · intro wq hq
       go_simp
       first
         | exact rfl
     simp only [Act.put, List.setIfInBounds_toArray, List.set_cons_succ, List.set_cons_zero]))
      refine wpQuiet_nil ?_
      intro wy hk1
      have HM4 : Hid (Md wy g E N (.ok s)) := HM0.out.keep hk1.below
      have HB4 : Hid (Below g w wy) := HBW.out.trans (hk1.below.mono (Nat.le_of_lt HM0.out.lt))
      clear hk hk1 kz0 kz1 k14 kt1
      go_wp2_with fail
      refine (putM g E N t _ _ HM4.out HTK.out.2.2 (by have := HN.out; omega)).mono ?_
      rintro e w5 ⟨rfl, hm5, hb5⟩
      have HM5 : Hid (Md w5 g E (N + 1) (Except.map (putI t) (.ok s : Except Int St))) := hm5
      have HB5 : Hid (Below g w w5) := HB4.out.trans hb5
      clear hm5 hb5
      go_wp2
      first
        | go_end0
        | refine bodyPost_ret (results_none rfl _ _ _) rfl ?_
      exact ⟨rfl, by
        have h := HM5.out
        skip
        rw [HE1.out]
        exact h, HB5.out⟩
    · go_enter Tryz.func61, Tryz.ntmps61
      have e0 := kz0 _ ⟨Below.refl _ _⟩
      rw [← HW.out.1, ← HW.out.2] at e0
      go_wp2_with fail
      rw [HW.out.2, HW.out.1]
      clear e0
      refine region_q (C := Keeps W) (by kernel_rfl) (by kernel_rfl) (Keeps.drew W) ?_
      (iterate 8
    (apply wpQuiet_go _ (by rfl)
     · intro wq hq
       go_simp
       first
         | exact rfl
     simp only [Act.put, List.setIfInBounds_toArray, List.set_cons_succ, List.set_cons_zero]))
      refine wpQuiet_nil ?_
      intro wz hk
      have e0 := kz0 _ hk
      go_wp2_with fail
      clear e0
      refine region_qtail (C := Keeps W) 9 (by kernel_rfl) (by kernel_rfl) (hk.step ((Below.refl _ _).drew)) ?_
      (iterate 9
    (apply wpQuiet_go _ (by rfl)
     · intro wq hq
       go_simp
       first
         | exact rfl
     simp only [Act.put, List.setIfInBounds_toArray, List.set_cons_succ, List.set_cons_zero]))
      refine wpQuiet_nil ?_
      intro wy hk1
      have HM1 : Hid (Md wy g E N (.ok s)) := HM0.out.keep hk1.below
      have HB1 : Hid (Below g w wy) := HBW.out.trans (hk1.below.mono (Nat.le_of_lt HM0.out.lt))
      have HZ1 : Hid (wy.heap[z]? = some (.cells #[.int .i64 33, .int .i64 (a : Int)] 41 (0, 0))) := (hk1.below.block z (lt_of_block HZ.out)).trans HZ.out
      have HV1 : Hid (Below V.heap.size V wy) := bel_step HVW.out hk1.below
      clear hk hk1 kz0 kz1 k14 kt1
      go_wp2_with fail
      refine (takeMx g E N t t _ _ HM1.out HTK.out.1 HTK.out.2.1 (by have := HN.out; omega)).mono ?_
      rintro e w3 ⟨⟨hb3, ht3⟩, hm3, v3, rfl, _⟩
      have HB3 : Hid (Below g w w3) := HB1.out.trans hb3
      have HM3 : Hid (Md w3 g E N ((Except.ok s).bind (takeI t))) := hm3
      have hz3 := (ht3.2 z (lt_of_block HZ1.out) HGZ.out).trans HZ1.out
      have hzl3 := lt_of_block hz3
      obtain ⟨code3, most3, vf3, vs3, hg3⟩ := hm3.blk
      have hgl3 := lt_of_block hg3
      have hV3 : Below V.heap.size V w3 := HV1.out.trans (hb3.mono hE.out.hg)
      have e0 : w3.cell? ⟨z, 0, none⟩ = some (.int .i64 33) := (cell_of_block hz3 0).trans rfl
      have j1 : ∀ w', Keeps w3 w' → w'.cell? ⟨z, 1, none⟩ = some (.int .i64 (a : Int)) := fun w' h => h.cell hzl3 ((cell_of_block hz3 1).trans rfl)
      have j14 : ∀ w', Keeps w3 w' → w'.cell? ⟨g, 14, none⟩ = some (.slice (some ⟨bo, off, none⟩) n oc) := fun w' h => h.cell hgl3 ((cell_of_block hg3 14).trans (congrArg some HSV.out.1))
      have jt : ∀ w', Keeps w3 w' → w'.cell? ⟨bo, off + a, none⟩ = some (.int .i64 t) := fun w' h => kt w' (bel_step hV3 h.below)
      clear hb3 ht3 hm3 hz3 hzl3 hg3 hgl3 hV3
      go_wp2
      first
        | go_end0
        | refine bodyPost_ret (results_none rfl _ _ _) rfl ?_
      exact ⟨rfl, by
        have h := md_up HM3.out
        rw [← bind_takes1 (.ok s) t, ← map_put64 ((Except.ok s).bind _)] at h
        rw [HE1.out]
        exact h, HB3.out⟩
    · go_enter Tryz.func61, Tryz.ntmps61
      have e0 := kz0 _ ⟨Below.refl _ _⟩
      rw [← HW.out.1, ← HW.out.2] at e0
      go_wp2_with fail
      rw [HW.out.2, HW.out.1]
      clear e0
      refine region_q (C := Keeps W) (by kernel_rfl) (by kernel_rfl) (Keeps.drew W) ?_
      (iterate 8
    (apply wpQuiet_go _ (by rfl)
     · intro wq hq
       go_simp
       first
         | exact rfl
     simp only [Act.put, List.setIfInBounds_toArray, List.set_cons_succ, List.set_cons_zero]))
      refine wpQuiet_nil ?_
      intro wz hk
      have e0 := kz0 _ hk
      go_wp2_with fail
      clear e0
      refine region_qtail (C := Keeps W) 9 (by kernel_rfl) (by kernel_rfl) (hk.step ((Below.refl _ _).drew)) ?_
      (iterate 9
    (apply wpQuiet_go _ (by rfl)
     · intro wq hq
       go_simp
       first
         | exact rfl
     simp only [Act.put, List.setIfInBounds_toArray, List.set_cons_succ, List.set_cons_zero]))
      refine wpQuiet_nil ?_
      intro wy hk1
      have HM1 : Hid (Md wy g E N (.ok s)) := HM0.out.keep hk1.below
      have HB1 : Hid (Below g w wy) := HBW.out.trans (hk1.below.mono (Nat.le_of_lt HM0.out.lt))
      have HZ1 : Hid (wy.heap[z]? = some (.cells #[.int .i64 34, .int .i64 (a : Int)] 41 (0, 0))) := (hk1.below.block z (lt_of_block HZ.out)).trans HZ.out
      have HV1 : Hid (Below V.heap.size V wy) := bel_step HVW.out hk1.below
      clear hk hk1 kz0 kz1 k14 kt1
      go_wp2_with fail
      refine (takeMx g E N t t _ _ HM1.out HTK.out.1 HTK.out.2.1 (by have := HN.out; omega)).mono ?_
      rintro e w3 ⟨⟨hb3, ht3⟩, hm3, v3, rfl, _⟩
      have HB3 : Hid (Below g w w3) := HB1.out.trans hb3
      have HM3 : Hid (Md w3 g E N ((Except.ok s).bind (takeI t))) := hm3
      have hz3 := (ht3.2 z (lt_of_block HZ1.out) HGZ.out).trans HZ1.out
      have hzl3 := lt_of_block hz3
      obtain ⟨code3, most3, vf3, vs3, hg3⟩ := hm3.blk
      have hgl3 := lt_of_block hg3
      have hV3 : Below V.heap.size V w3 := HV1.out.trans (hb3.mono hE.out.hg)
      have e0 : w3.cell? ⟨z, 0, none⟩ = some (.int .i64 34) := (cell_of_block hz3 0).trans rfl
      have j1 : ∀ w', Keeps w3 w' → w'.cell? ⟨z, 1, none⟩ = some (.int .i64 (a : Int)) := fun w' h => h.cell hzl3 ((cell_of_block hz3 1).trans rfl)
      have j14 : ∀ w', Keeps w3 w' → w'.cell? ⟨g, 14, none⟩ = some (.slice (some ⟨bo, off, none⟩) n oc) := fun w' h => h.cell hgl3 ((cell_of_block hg3 14).trans (congrArg some HSV.out.1))
      have jt : ∀ w', Keeps w3 w' → w'.cell? ⟨bo, off + a, none⟩ = some (.int .i64 t) := fun w' h => kt w' (bel_step hV3 h.below)
      clear hb3 ht3 hm3 hz3 hzl3 hg3 hgl3 hV3
      go_wp2_with fail
      clear e0
      refine region_qtail (C := Keeps w3) 9 (by kernel_rfl) (by kernel_rfl) (Keeps.drew w3) ?_
      (iterate 9
    (apply wpQuiet_go _ (by rfl)
     · intro wq hq
       go_simp
       first
         | exact rfl
     simp only [Act.put, List.setIfInBounds_toArray, List.set_cons_succ, List.set_cons_zero]))
      refine wpQuiet_nil ?_
      intro wx hk3
      have HM4 : Hid (Md wx g E N ((Except.ok s).bind (takeI t))) := HM3.out.keep hk3.below
      have HB4 : Hid (Below g w wx) := HB3.out.trans (hk3.below.mono (Nat.le_of_lt HM3.out.lt))
      clear hk3 j1 j14 jt
      go_wp2_with fail
      refine (putM g E N t _ _ HM4.out HTK.out.2.2 (by have := HN.out; omega)).mono ?_
      rintro e w5 ⟨rfl, hm5, hb5⟩
      have HM5 : Hid (Md w5 g E (N + 1) (Except.map (putI t) ((Except.ok s).bind (takeI t)))) := hm5
      have HB5 : Hid (Below g w w5) := HB4.out.trans hb5
      clear hm5 hb5
      go_wp2
      first
        | go_end0
        | refine bodyPost_ret (results_none rfl _ _ _) rfl ?_
      exact ⟨rfl, by
        have h := HM5.out
        rw [← bind_takes1 (.ok s) t] at h
        rw [HE1.out]
        exact h, HB5.out⟩
  · have ha2 : (n : Int) ≤ (a : Int) := by omega
    have HE1 : Hid (effR E.M own op (a : Int) s = .error 5) := by unfold Hid; rw [HE0.out, List.getElem?_eq_none (by omega)]
    clear HE0 hZ hgb hzl hgl hsv hI hn hbW hW hz h hV hN ha
    rcases hop with rfl | rfl | rfl
    all_goals
      go_enter Tryz.func61, Tryz.ntmps61
      have e0 := kz0 _ ⟨Below.refl _ _⟩
      rw [← HW.out.1, ← HW.out.2] at e0
      go_wp2_with fail
      rw [HW.out.2, HW.out.1]
      clear e0
      refine region_q (C := Keeps W) (by kernel_rfl) (by kernel_rfl) (Keeps.drew W) ?_
      (iterate 8
    (apply wpQuiet_go _ (by rfl)
     · intro wq hq
       go_simp
       first
         | exact rfl
     simp only [Act.put, List.setIfInBounds_toArray, List.set_cons_succ, List.set_cons_zero]))
      refine wpQuiet_nil ?_
      intro wz hk
      have BD := badM g E N 5 s wz (HM0.out.keep hk.below) (by decide)
      have HBz : Hid (Below g w wz) := HBW.out.trans (hk.below.mono (Nat.le_of_lt HM0.out.lt))
      clear hk kz0 kz1 k14
      go_wp2_with fail
      refine BD.mono ?_
      rintro e w1 ⟨⟨rfl, hm1, hb1⟩, _⟩
      have HM1 : Hid (Md w1 g E N (.error 5)) := hm1
      have HB1 : Hid (Below g w w1) := HBz.out.trans hb1
      clear BD hm1 hb1
      go_wp2
      first
        | go_end0
        | refine bodyPost_ret (results_none rfl _ _ _) rfl ?_
      exact ⟨rfl, by rw [HE1.out]; exact md_up HM1.out, HB1.out⟩

end Go.Proofs.YtcgnefgdfgikdaaGreat

namespace Go.Proofs.YtcgnefgdfgikdaaGreat
open Go.ChangeShapes Go.WideShapes Go.ChangeAt Go.RowKit

set_option maxRecDepth 100000 in
set_option maxHeartbeats 6400000 in
theorem otherGlo (V : World) (g : Nat) (E : EnvS) (N : Nat) (own : List Int) (op : Int) (a : Nat) (s : St) (w : World) (h : Md w g E N (.ok s)) (hE : Hid (EnvOkS V g E own)) (hV : Below V.heap.size V w) (hop : op = 35 ∨ op = 36) (hN : N ≤ 250) :
    Calls Tryz.prog 61 #[.pointer (some ⟨g, 0, none⟩), .agg #[.int .i64 op, .int .i64 (a : Int)]] w fun e w' => OutPM w g E (N + 1) (effR E.M own op (a : Int) s) e w' := by
  have HN : Hid (N ≤ 250) := hN
  obtain ⟨W, hW⟩ : ∃ W, w.alloc (.cells #[.int .i64 op, .int .i64 (a : Int)] 41) = W := ⟨_, rfl⟩
  obtain ⟨z, hz⟩ : ∃ z, w.heap.size = z := ⟨_, rfl⟩
  have hbW : Below w.heap.size w W := by rw [← hW]; exact w0_below w op a
  have hZ : W.heap[z]? = some (.cells #[.int .i64 op, .int .i64 (a : Int)] 41 (0, 0)) := by rw [← hW, ← hz]; exact w0_block w op a
  have HW : Hid (w.alloc (.cells #[.int .i64 op, .int .i64 (a : Int)] 41) = W ∧ w.heap.size = z) := ⟨hW, hz⟩
  have HBW : Hid (Below g w W) := hbW.mono (Nat.le_of_lt h.lt)
  have HM0 : Hid (Md W g E N (.ok s)) := h.keep hbW
  have HGZ : Hid (z ≠ g) := by have := h.lt; unfold Hid; omega
  have HZ : Hid (W.heap[z]? = some (.cells #[.int .i64 op, .int .i64 (a : Int)] 41 (0, 0))) := hZ
  have HVW : Hid (Below V.heap.size V W) := bel_step hV hbW
  obtain ⟨code, most, vf, vs, hgb⟩ := HM0.out.blk
  obtain ⟨n, hn⟩ : ∃ n, E.M.gs.length = n := ⟨_, rfl⟩
  have hzl := lt_of_block hZ
  have hgl := lt_of_block hgb
  have kz0 : ∀ w', Keeps W w' → w'.cell? ⟨z, 0, none⟩ = some (.int .i64 op) := fun w' h => h.cell hzl ((cell_of_block hZ 0).trans rfl)
  have kz1 : ∀ w', Keeps W w' → w'.cell? ⟨z, 1, none⟩ = some (.int .i64 (a : Int)) := fun w' h => h.cell hzl ((cell_of_block hZ 1).trans rfl)
  have kg : ∀ w', Keeps W w' → w'.cell? ⟨g, 1, none⟩ = some (.slice E.l.ga n E.l.gc) := fun w' h => h.cell hgl (by rw [cell_of_block hgb, ← hn]; rfl)
  have HE0 : Hid (effR E.M own op (a : Int) s = match E.M.gs[a]? with | none => .error 5 | some g => if op = 36 ∧ g.fixed = true then .error 7 else (takes (varEff op g.ty).1 s).map (putI (varEff op g.ty).2)) := by
    unfold Hid effR effS
    rw [if_neg (by omega), if_neg (by omega), if_neg (by omega), if_pos hop, Int.toNat_natCast]
    cases E.M.gs[a]? with
    | none => rfl
    | some g => simp only; split <;> rfl
  by_cases ha : a < n
  · obtain ⟨bo, off, hga, hbo, hc0, hc1, hc2⟩ := hE.out.hm.2.at a (by omega)
    obtain ⟨gl, hgl2⟩ : ∃ t, E.M.gs[a]'(by omega) = t := ⟨_, rfl⟩
    rw [hgl2] at hc0 hc1 hc2
    have hkt : E.M.gs[a]? = some gl := by rw [List.getElem?_eq_getElem (by omega), hgl2]
    have htk := hE.out.ty.gt gl (List.mem_of_getElem? hkt)
    obtain ⟨t, ht⟩ : ∃ t, gl.ty = t := ⟨_, rfl⟩
    obtain ⟨fx, hfx⟩ : ∃ t, gl.fixed = t := ⟨_, rfl⟩
    obtain ⟨bt, hbt⟩ : ∃ t, gl.bits = t := ⟨_, rfl⟩
    rw [ht] at hc0
    rw [hfx] at hc1
    rw [hbt] at hc2
    have HE1 : Hid (effR E.M own op (a : Int) s = if op = 36 ∧ fx = true then .error 7 else (takes (varEff op t).1 s).map (putI (varEff op t).2)) := by unfold Hid; rw [HE0.out, hkt]; simp only [ht, hfx]
    have kt0 : ∀ w', Keeps W w' → w'.cell? ⟨bo, off + a * 3, none⟩ = some (.int .i64 t) := fun w' h => ((bel_step HVW.out h.below).cell (p := ⟨bo, off + a * 3, none⟩) hbo).trans hc0
    have kt1 : ∀ w', Keeps W w' → w'.cell? ⟨bo, off + a * 3 + 1, none⟩ = some (.bool fx) := fun w' h => ((bel_step HVW.out h.below).cell (p := ⟨bo, off + a * 3 + 1, none⟩) hbo).trans hc1
    have kt2 : ∀ w', Keeps W w' → w'.cell? ⟨bo, off + a * 3 + 2, none⟩ = some (.int .u64 bt) := fun w' h => ((bel_step HVW.out h.below).cell (p := ⟨bo, off + a * 3 + 2, none⟩) hbo).trans hc2
    rw [hga] at kg
    have ha2 : ¬ (n : Int) ≤ (a : Int) := by omega
    have ha3 : (a : Int) < (n : Int) := by omega
    have ha0 : (0 : Int) ≤ (a : Int) := by omega
    rw [ht] at htk
    have HTK : Hid (wantOk t ∧ sk t = t ∧ putKOk t) := ⟨by unfold wantOk; omega, by unfold sk; rw [if_neg (by omega)], by unfold putKOk; omega⟩
    clear hc0 hc1 hc2 hbo hga hgl2 hkt htk ht hfx hbt HE0 hZ hgb hzl hgl hn hbW hW hz h hV hN
    rcases hop with rfl | rfl
    · go_enter Tryz.func61, Tryz.ntmps61
      have e0 := kz0 _ ⟨Below.refl _ _⟩
      rw [← HW.out.1, ← HW.out.2] at e0
      go_wp2_with fail
      rw [HW.out.2, HW.out.1]
      clear e0
      refine region_q (C := Keeps W) (by kernel_rfl) (by kernel_rfl) (Keeps.drew W) ?_
      (iterate 9
    (apply wpQuiet_go _ (by rfl)
     · intro wq hq
       go_simp
       first
         | exact rfl
     simp only [Act.put, List.setIfInBounds_toArray, List.set_cons_succ, List.set_cons_zero]))
      refine wpQuiet_nil ?_
      intro wz hk
      have HKz : Hid (Keeps W wz) := hk
      have m1 : ∀ w', Keeps wz w' → w'.cell? ⟨z, 1, none⟩ = some (.int .i64 (a : Int)) := fun w' h => kz1 _ (HKz.out.step h.below)
      have mg : ∀ w', Keeps wz w' → w'.cell? ⟨g, 1, none⟩ = some (.slice (some ⟨bo, off, none⟩) n E.l.gc) := fun w' h => kg _ (HKz.out.step h.below)
      have mt0 : ∀ w', Keeps wz w' → w'.cell? ⟨bo, off + a * 3, none⟩ = some (.int .i64 t) := fun w' h => kt0 _ (HKz.out.step h.below)
      have mt1 : ∀ w', Keeps wz w' → w'.cell? ⟨bo, off + a * 3 + 1, none⟩ = some (.bool fx) := fun w' h => kt1 _ (HKz.out.step h.below)
      have mt2 : ∀ w', Keeps wz w' → w'.cell? ⟨bo, off + a * 3 + 2, none⟩ = some (.int .u64 bt) := fun w' h => kt2 _ (HKz.out.step h.below)
      clear hk kz0 kz1 kg kt0 kt1 kt2
      go_wp2_with fail
      refine region_m (C := KeepsM wz (.cells #[.int .i64 0, .bool false, .int .u64 0] 57)) 10 9 (by kernel_rfl) (by kernel_rfl) (KeepsM.start wz _) ?_
      simp only [List.take_succ_cons, List.take_zero, List.drop_succ_cons, List.drop_zero]
      (iterate 9
    (apply wm_go _ (by omega) (by rfl)
     · intro M wq hq
       have hx := hq.keeps
       go_simp
       exact uponF_value hq rfl
     simp only [Act.put, List.setIfInBounds_toArray, List.set_cons_succ, List.set_cons_zero]))
      refine wm_make (by omega) (by rfl) (fun M wq hq => ⟨wq.heap.size, ?_⟩) (fun b9 => ?_)
      · go_simp
        exact uponF_value (hq.make 9) rfl
      simp only [Act.put, List.setIfInBounds_toArray, List.set_cons_succ, List.set_cons_zero, ptrTo]
      refine wm_nil ?_
      intro w2 hkp
      obtain ⟨u1, u2, u3⟩ := hkp.made 9 b9 (by simp [updM])
      have q0 : w2.cell? ⟨b9, 0, none⟩ = some (.int .i64 0) := by simp [World.cell?, u3]
      have q1 : w2.cell? ⟨b9, 1, none⟩ = some (.bool false) := by simp [World.cell?, u3]
      have q2 : w2.cell? ⟨b9, 2, none⟩ = some (.int .u64 0) := by simp [World.cell?, u3]
      have fz : ∀ j, w2.frozen? ⟨b9, j, none⟩ = false := fun j => by simp [World.frozen?, u3]
      obtain ⟨W2, hW2⟩ : ∃ W2, ((w2.setCell ⟨b9, 0, none⟩ (.int .i64 t)).setCell ⟨b9, 1, none⟩ (.bool fx)).setCell ⟨b9, 2, none⟩ (.int .u64 bt) = W2 := ⟨_, rfl⟩
      have hb2 : Below wz.heap.size wz W2 := by rw [← hW2]; exact ((hkp.keeps.below.setCell u1 _).setCell u1 _).setCell u1 _
      have hWb : W2.heap[b9]? = some (.cells #[.int .i64 t, .bool fx, .int .u64 bt] 57 (0, 0)) := by
        rw [← hW2]
        have e1 := heap_setCell_same _ _ 0 _ _ (.int .i64 t) u3
        have e2 := heap_setCell_same _ _ 1 _ _ (.bool fx) e1
        exact heap_setCell_same _ _ 2 _ _ (.int .u64 bt) e2
      have HKW : Hid (Keeps W W2) := HKz.out.step hb2
      have HM2 : Hid (Md W2 g E N (.ok s)) := HM0.out.keep HKW.out.below
      have HB2 : Hid (Below g w W2) := HBW.out.trans (HKW.out.below.mono (Nat.le_of_lt HM0.out.lt))
      have hz2 := (HKW.out.below.block z (lt_of_block HZ.out)).trans HZ.out
      have e0 : W2.cell? ⟨z, 0, none⟩ = some (.int .i64 35) := (cell_of_block hz2 0).trans rfl
      have f0 : W2.cell? ⟨b9, 0, none⟩ = some (.int .i64 t) := (cell_of_block hWb 0).trans rfl
      have f1 : W2.cell? ⟨b9, 1, none⟩ = some (.bool fx) := (cell_of_block hWb 1).trans rfl
      have HWb : Hid (W2.heap[b9]? = some (.cells #[.int .i64 t, .bool fx, .int .u64 bt] 57 (0, 0)) ∧ b9 ≠ g) := ⟨hWb, by have h1 := HM0.out.lt; have h2 := HKz.out.below.size; omega⟩
      have HW2 : Hid (((w2.setCell ⟨b9, 0, none⟩ (.int .i64 t)).setCell ⟨b9, 1, none⟩ (.bool fx)).setCell ⟨b9, 2, none⟩ (.int .u64 bt) = W2) := hW2
      rw [← hW2] at e0 f0 f1
      clear hkp u1 u2 u3 m1 mg mt0 mt1 mt2 hb2 hWb hz2 hW2
      go_wp2_with fail
      rw [HW2.out]
      clear q0 q1 q2 fz e0 f0 f1
      refine (putM g E N t _ _ HM2.out HTK.out.2.2 (by have := HN.out; omega)).mono ?_
      rintro e w5 ⟨rfl, hm5, hb5⟩
      have HM5 : Hid (Md w5 g E (N + 1) (Except.map (putI t) (.ok s))) := hm5
      have HB5 : Hid (Below g w w5) := HB2.out.trans hb5
      clear hm5 hb5
      go_wp2
      first
        | go_end0
        | refine bodyPost_ret (results_none rfl _ _ _) rfl ?_
      exact ⟨rfl, by
        have h := HM5.out
        rw [HE1.out, if_neg (by omega)]
        exact h, HB5.out⟩
    · go_enter Tryz.func61, Tryz.ntmps61
      have e0 := kz0 _ ⟨Below.refl _ _⟩
      rw [← HW.out.1, ← HW.out.2] at e0
      go_wp2_with fail
      rw [HW.out.2, HW.out.1]
      clear e0
      refine region_q (C := Keeps W) (by kernel_rfl) (by kernel_rfl) (Keeps.drew W) ?_
      (iterate 9
    (apply wpQuiet_go _ (by rfl)
     · intro wq hq
       go_simp
       first
         | exact rfl
     simp only [Act.put, List.setIfInBounds_toArray, List.set_cons_succ, List.set_cons_zero]))
      refine wpQuiet_nil ?_
      intro wz hk
      have HKz : Hid (Keeps W wz) := hk
      have m1 : ∀ w', Keeps wz w' → w'.cell? ⟨z, 1, none⟩ = some (.int .i64 (a : Int)) := fun w' h => kz1 _ (HKz.out.step h.below)
      have mg : ∀ w', Keeps wz w' → w'.cell? ⟨g, 1, none⟩ = some (.slice (some ⟨bo, off, none⟩) n E.l.gc) := fun w' h => kg _ (HKz.out.step h.below)
      have mt0 : ∀ w', Keeps wz w' → w'.cell? ⟨bo, off + a * 3, none⟩ = some (.int .i64 t) := fun w' h => kt0 _ (HKz.out.step h.below)
      have mt1 : ∀ w', Keeps wz w' → w'.cell? ⟨bo, off + a * 3 + 1, none⟩ = some (.bool fx) := fun w' h => kt1 _ (HKz.out.step h.below)
      have mt2 : ∀ w', Keeps wz w' → w'.cell? ⟨bo, off + a * 3 + 2, none⟩ = some (.int .u64 bt) := fun w' h => kt2 _ (HKz.out.step h.below)
      clear hk kz0 kz1 kg kt0 kt1 kt2
      go_wp2_with fail
      refine region_m (C := KeepsM wz (.cells #[.int .i64 0, .bool false, .int .u64 0] 57)) 10 9 (by kernel_rfl) (by kernel_rfl) (KeepsM.start wz _) ?_
      simp only [List.take_succ_cons, List.take_zero, List.drop_succ_cons, List.drop_zero]
      (iterate 9
    (apply wm_go _ (by omega) (by rfl)
     · intro M wq hq
       have hx := hq.keeps
       go_simp
       exact uponF_value hq rfl
     simp only [Act.put, List.setIfInBounds_toArray, List.set_cons_succ, List.set_cons_zero]))
      refine wm_make (by omega) (by rfl) (fun M wq hq => ⟨wq.heap.size, ?_⟩) (fun b9 => ?_)
      · go_simp
        exact uponF_value (hq.make 9) rfl
      simp only [Act.put, List.setIfInBounds_toArray, List.set_cons_succ, List.set_cons_zero, ptrTo]
      refine wm_nil ?_
      intro w2 hkp
      obtain ⟨u1, u2, u3⟩ := hkp.made 9 b9 (by simp [updM])
      have q0 : w2.cell? ⟨b9, 0, none⟩ = some (.int .i64 0) := by simp [World.cell?, u3]
      have q1 : w2.cell? ⟨b9, 1, none⟩ = some (.bool false) := by simp [World.cell?, u3]
      have q2 : w2.cell? ⟨b9, 2, none⟩ = some (.int .u64 0) := by simp [World.cell?, u3]
      have fz : ∀ j, w2.frozen? ⟨b9, j, none⟩ = false := fun j => by simp [World.frozen?, u3]
      obtain ⟨W2, hW2⟩ : ∃ W2, ((w2.setCell ⟨b9, 0, none⟩ (.int .i64 t)).setCell ⟨b9, 1, none⟩ (.bool fx)).setCell ⟨b9, 2, none⟩ (.int .u64 bt) = W2 := ⟨_, rfl⟩
      have hb2 : Below wz.heap.size wz W2 := by rw [← hW2]; exact ((hkp.keeps.below.setCell u1 _).setCell u1 _).setCell u1 _
      have hWb : W2.heap[b9]? = some (.cells #[.int .i64 t, .bool fx, .int .u64 bt] 57 (0, 0)) := by
        rw [← hW2]
        have e1 := heap_setCell_same _ _ 0 _ _ (.int .i64 t) u3
        have e2 := heap_setCell_same _ _ 1 _ _ (.bool fx) e1
        exact heap_setCell_same _ _ 2 _ _ (.int .u64 bt) e2
      have HKW : Hid (Keeps W W2) := HKz.out.step hb2
      have HM2 : Hid (Md W2 g E N (.ok s)) := HM0.out.keep HKW.out.below
      have HB2 : Hid (Below g w W2) := HBW.out.trans (HKW.out.below.mono (Nat.le_of_lt HM0.out.lt))
      have hz2 := (HKW.out.below.block z (lt_of_block HZ.out)).trans HZ.out
      have e0 : W2.cell? ⟨z, 0, none⟩ = some (.int .i64 36) := (cell_of_block hz2 0).trans rfl
      have f0 : W2.cell? ⟨b9, 0, none⟩ = some (.int .i64 t) := (cell_of_block hWb 0).trans rfl
      have f1 : W2.cell? ⟨b9, 1, none⟩ = some (.bool fx) := (cell_of_block hWb 1).trans rfl
      have HWb : Hid (W2.heap[b9]? = some (.cells #[.int .i64 t, .bool fx, .int .u64 bt] 57 (0, 0)) ∧ b9 ≠ g) := ⟨hWb, by have h1 := HM0.out.lt; have h2 := HKz.out.below.size; omega⟩
      have HW2 : Hid (((w2.setCell ⟨b9, 0, none⟩ (.int .i64 t)).setCell ⟨b9, 1, none⟩ (.bool fx)).setCell ⟨b9, 2, none⟩ (.int .u64 bt) = W2) := hW2
      rw [← hW2] at e0 f0 f1
      clear hkp u1 u2 u3 m1 mg mt0 mt1 mt2 hb2 hWb hz2 hW2
      cases fx
      · go_wp2_with fail
        rw [HW2.out]
        clear q0 q1 q2 fz e0 f0 f1
        refine (takeMx g E N t t _ _ HM2.out HTK.out.1 HTK.out.2.1 (by have := HN.out; omega)).mono ?_
        rintro e w3 ⟨⟨hb3, ht3⟩, hm3, v3, rfl, _⟩
        have HB3 : Hid (Below g w w3) := HB2.out.trans hb3
        have HM3 : Hid (Md w3 g E N ((Except.ok s).bind (takeI t))) := hm3
        clear hb3 ht3 hm3
        go_wp2
        first
          | go_end0
          | refine bodyPost_ret (results_none rfl _ _ _) rfl ?_
        exact ⟨rfl, by
          have h := md_up HM3.out
          rw [← bind_takes1 (.ok s) t, ← map_put64 ((Except.ok s).bind _)] at h
          rw [HE1.out, if_neg (by simp)]
          exact h, HB3.out⟩
      · have BD := badM g E N 7 s W2 HM2.out (by decide)
        go_wp2_with fail
        rw [HW2.out]
        clear q0 q1 q2 fz e0 f0 f1
        refine BD.mono ?_
        rintro e w3 ⟨⟨rfl, hm3, hb3⟩, ht3⟩
        have HB3 : Hid (Below g w w3) := HB2.out.trans hb3
        have HM3 : Hid (Md w3 g E N (.error 7)) := hm3
        have hg3 := (ht3.2 b9 (lt_of_block HWb.out.1) HWb.out.2).trans HWb.out.1
        have f0 : w3.cell? ⟨b9, 0, none⟩ = some (.int .i64 t) := (cell_of_block hg3 0).trans rfl
        clear hb3 ht3 hm3 hg3 BD
        go_wp2_with fail
        refine (takeMx g E N t t _ _ HM3.out HTK.out.1 HTK.out.2.1 (by have := HN.out; omega)).mono ?_
        rintro e w4 ⟨⟨hb4, ht4⟩, hm4, v4, rfl, _⟩
        have HB4 : Hid (Below g w w4) := HB3.out.trans hb4
        have HM4 : Hid (Md w4 g E N (.error 7)) := hm4
        clear hb4 ht4 hm4 f0
        go_wp2
        first
          | go_end0
          | refine bodyPost_ret (results_none rfl _ _ _) rfl ?_
        exact ⟨rfl, by rw [HE1.out, if_pos (by simp)]; exact md_up HM4.out, HB4.out⟩
  · have ha2 : (n : Int) ≤ (a : Int) := by omega
    have HE1 : Hid (effR E.M own op (a : Int) s = .error 5) := by unfold Hid; rw [HE0.out, List.getElem?_eq_none (by omega)]
    clear HE0 hZ hgb hzl hgl hn hbW hW hz h hV hN ha
    rcases hop with rfl | rfl
    all_goals
      go_enter Tryz.func61, Tryz.ntmps61
      have e0 := kz0 _ ⟨Below.refl _ _⟩
      rw [← HW.out.1, ← HW.out.2] at e0
      go_wp2_with fail
      rw [HW.out.2, HW.out.1]
      clear e0
      refine region_q (C := Keeps W) (by kernel_rfl) (by kernel_rfl) (Keeps.drew W) ?_
      (iterate 9
    (apply wpQuiet_go _ (by rfl)
     · intro wq hq
       go_simp
       first
         | exact rfl
     simp only [Act.put, List.setIfInBounds_toArray, List.set_cons_succ, List.set_cons_zero]))
      refine wpQuiet_nil ?_
      intro wz hk
      have BD := badM g E N 5 s wz (HM0.out.keep hk.below) (by decide)
      have HBz : Hid (Below g w wz) := HBW.out.trans (hk.below.mono (Nat.le_of_lt HM0.out.lt))
      clear hk kz0 kz1 kg
      go_wp2_with fail
      refine BD.mono ?_
      rintro e w1 ⟨⟨rfl, hm1, hb1⟩, _⟩
      have HM1 : Hid (Md w1 g E N (.error 5)) := hm1
      have HB1 : Hid (Below g w w1) := HBz.out.trans hb1
      clear BD hm1 hb1
      go_wp2
      first
        | go_end0
        | refine bodyPost_ret (results_none rfl _ _ _) rfl ?_
      exact ⟨rfl, by rw [HE1.out]; exact md_up HM1.out, HB1.out⟩

end Go.Proofs.YtcgnefgdfgikdaaGreat

namespace Go.Proofs.YtcgnefgdfgikdaaGreat
open Go.ChangeShapes Go.WideShapes Go.ChangeAt Go.RowKit

theorem bind_snoc (r : Except Int St) (L : List Int) (x : Int) : r.bind (takes (L ++ [x])) = (r.bind (takes L)).bind (takeI x) := by
  cases r with
  | error c => rfl
  | ok s => show takes (L ++ [x]) s = (takes L s).bind (takeI x); simp [takes, List.foldlM_append]; rfl
theorem w64u (q : Nat) (h : q ≤ 400) : wrap64 ((q : Int) - 1) = (q : Int) - 1 := by unfold wrap64; omega

set_option maxRecDepth 100000 in
set_option maxHeartbeats 6400000 in
theorem otherCall (V : World) (g : Nat) (E : EnvS) (N : Nat) (own : List Int) (a : Nat) (s : St) (w : World) (h : Md w g E N (.ok s)) (hE : Hid (EnvOkS V g E own)) (hV : Below V.heap.size V w) (hN : N ≤ 250) :
    Calls Tryz.prog 61 #[.pointer (some ⟨g, 0, none⟩), .agg #[.int .i64 16, .int .i64 (a : Int)]] w fun e w' => OutPM w g E (N + 1) (effR E.M own 16 (a : Int) s) e w' := by
  have HN : Hid (N ≤ 250) := hN
  obtain ⟨W, hW⟩ : ∃ W, w.alloc (.cells #[.int .i64 16, .int .i64 (a : Int)] 41) = W := ⟨_, rfl⟩
  obtain ⟨z, hz⟩ : ∃ z, w.heap.size = z := ⟨_, rfl⟩
  have hbW : Below w.heap.size w W := by rw [← hW]; exact w0_below w 16 a
  have hZ : W.heap[z]? = some (.cells #[.int .i64 16, .int .i64 (a : Int)] 41 (0, 0)) := by rw [← hW, ← hz]; exact w0_block w 16 a
  have HW : Hid (w.alloc (.cells #[.int .i64 16, .int .i64 (a : Int)] 41) = W ∧ w.heap.size = z) := ⟨hW, hz⟩
  have HBW : Hid (Below g w W) := hbW.mono (Nat.le_of_lt h.lt)
  have HM0 : Hid (Md W g E N (.ok s)) := h.keep hbW
  have HGZ : Hid (z ≠ g) := by have := h.lt; unfold Hid; omega
  have HZ : Hid (W.heap[z]? = some (.cells #[.int .i64 16, .int .i64 (a : Int)] 41 (0, 0))) := hZ
  have HVW : Hid (Below V.heap.size V W) := bel_step hV hbW
  obtain ⟨code, most, vf, vs, hgb⟩ := HM0.out.blk
  obtain ⟨n, hn⟩ : ∃ n, E.M.fs.length = n := ⟨_, rfl⟩
  have hzl := lt_of_block hZ
  have hgl := lt_of_block hgb
  have kz0 : ∀ w', Keeps W w' → w'.cell? ⟨z, 0, none⟩ = some (.int .i64 16) := fun w' h => h.cell hzl ((cell_of_block hZ 0).trans rfl)
  have kz1 : ∀ w', Keeps W w' → w'.cell? ⟨z, 1, none⟩ = some (.int .i64 (a : Int)) := fun w' h => h.cell hzl ((cell_of_block hZ 1).trans rfl)
  have kg : ∀ w', Keeps W w' → w'.cell? ⟨g, 0, none⟩ = some (.slice E.l.fa n E.l.fc) := fun w' h => h.cell hgl (by rw [cell_of_block hgb, ← hn]; rfl)
  have HE0 : Hid (effR E.M own 16 (a : Int) s = match E.M.fs[a]? with | none => .error 5 | some f => (takes f.ps.reverse s).map (putI f.res)) := by
    unfold Hid effR effS
    rw [if_neg (by omega), if_pos rfl, Int.toNat_natCast]
    cases E.M.fs[a]? <;> rfl
  by_cases ha : a < n
  · obtain ⟨bo, off, hfa, hbo, pa, pc, la, lc, ba, bc, hc0, hc1, hc2, hc3, hrow⟩ := hE.out.hm.1.at a (by omega)
    obtain ⟨f, hf2⟩ : ∃ t, E.M.fs[a]'(by omega) = t := ⟨_, rfl⟩
    rw [hf2] at hc0 hc1 hc2 hc3 hrow
    have hkt : E.M.fs[a]? = some f := by rw [List.getElem?_eq_getElem (by omega), hf2]
    have hfm := List.mem_of_getElem? hkt
    have htr := hE.out.ty.fr f hfm
    have hpl := hE.out.ps f hfm
    have HPT : Hid (∀ t ∈ f.ps, 125 ≤ t ∧ t ≤ 127) := hE.out.pt f hfm
    have HE1 : Hid (effR E.M own 16 (a : Int) s = (takes f.ps.reverse s).map (putI f.res)) := by unfold Hid; rw [HE0.out, hkt]
    obtain ⟨res, hres⟩ : ∃ t, f.res = t := ⟨_, rfl⟩
    obtain ⟨np, hnp⟩ : ∃ t, f.ps.length = t := ⟨_, rfl⟩
    obtain ⟨nl, hnl⟩ : ∃ t, f.ls.length = t := ⟨_, rfl⟩
    obtain ⟨nb, hnb⟩ : ∃ t, f.body.length = t := ⟨_, rfl⟩
    rw [hnp] at hc0 hpl
    rw [hres] at hc1 htr
    rw [hnl] at hc2
    rw [hnb] at hc3
    have kt0 : ∀ w', Keeps W w' → w'.cell? ⟨bo, off + a * 4, none⟩ = some (.slice pa np pc) := fun w' h => ((bel_step HVW.out h.below).cell (p := ⟨bo, off + a * 4, none⟩) hbo).trans hc0
    have kt1 : ∀ w', Keeps W w' → w'.cell? ⟨bo, off + a * 4 + 1, none⟩ = some (.int .i64 res) := fun w' h => ((bel_step HVW.out h.below).cell (p := ⟨bo, off + a * 4 + 1, none⟩) hbo).trans hc1
    have kt2 : ∀ w', Keeps W w' → w'.cell? ⟨bo, off + a * 4 + 2, none⟩ = some (.slice la nl lc) := fun w' h => ((bel_step HVW.out h.below).cell (p := ⟨bo, off + a * 4 + 2, none⟩) hbo).trans hc2
    have kt3 : ∀ w', Keeps W w' → w'.cell? ⟨bo, off + a * 4 + 3, none⟩ = some (.slice ba nb bc) := fun w' h => ((bel_step HVW.out h.below).cell (p := ⟨bo, off + a * 4 + 3, none⟩) hbo).trans hc3
    rw [hfa] at kg
    have ha2 : ¬ (n : Int) ≤ (a : Int) := by omega
    have ha3 : (a : Int) < (n : Int) := by omega
    have ha0 : (0 : Int) ≤ (a : Int) := by omega
    have HTK : Hid (putKOk res ∧ f.res = res) := ⟨by unfold putKOk; omega, hres⟩
    have HNP : Hid (f.ps.length = np ∧ np ≤ 20) := ⟨hnp, hpl⟩
    have HPS : Hid (Ints V pa f.ps) := hrow.out.1
    clear hc0 hc1 hc2 hc3 hbo hfa hf2 hkt hfm htr hpl hres hnp hnl hnb hrow HE0 hZ hgb hzl hgl hn hbW hW hz h hV hN
    go_enter Tryz.func61, Tryz.ntmps61
    have e0 := kz0 _ ⟨Below.refl _ _⟩
    rw [← HW.out.1, ← HW.out.2] at e0
    go_wp2_with fail
    rw [HW.out.2, HW.out.1]
    clear e0
    refine region_q (C := Keeps W) (by kernel_rfl) (by kernel_rfl) (Keeps.drew W) ?_
    (iterate 9
    (apply wpQuiet_go _ (by rfl)
     · intro wq hq
       go_simp
       first
         | exact rfl
     simp only [Act.put, List.setIfInBounds_toArray, List.set_cons_succ, List.set_cons_zero]))
    refine wpQuiet_nil ?_
    intro wz hk
    have HKz : Hid (Keeps W wz) := hk
    have m1 : ∀ w', Keeps wz w' → w'.cell? ⟨z, 1, none⟩ = some (.int .i64 (a : Int)) := fun w' h => kz1 _ (HKz.out.step h.below)
    have mg : ∀ w', Keeps wz w' → w'.cell? ⟨g, 0, none⟩ = some (.slice (some ⟨bo, off, none⟩) n E.l.fc) := fun w' h => kg _ (HKz.out.step h.below)
    have mt0 : ∀ w', Keeps wz w' → w'.cell? ⟨bo, off + a * 4, none⟩ = some (.slice pa np pc) := fun w' h => kt0 _ (HKz.out.step h.below)
    have mt1 : ∀ w', Keeps wz w' → w'.cell? ⟨bo, off + a * 4 + 1, none⟩ = some (.int .i64 res) := fun w' h => kt1 _ (HKz.out.step h.below)
    have mt2 : ∀ w', Keeps wz w' → w'.cell? ⟨bo, off + a * 4 + 2, none⟩ = some (.slice la nl lc) := fun w' h => kt2 _ (HKz.out.step h.below)
    have mt3 : ∀ w', Keeps wz w' → w'.cell? ⟨bo, off + a * 4 + 3, none⟩ = some (.slice ba nb bc) := fun w' h => kt3 _ (HKz.out.step h.below)
    clear hk kz0 kz1 kg kt0 kt1 kt2 kt3
    go_wp2_with fail
    refine region_m (C := KeepsM wz (.cells #[.slice none 0 0, .int .i64 0, .slice none 0 0, .slice none 0 0] 39)) 10 9 (by kernel_rfl) (by kernel_rfl) (KeepsM.start wz _) ?_
    simp only [List.take_succ_cons, List.take_zero, List.drop_succ_cons, List.drop_zero]
    (iterate 9
    (apply wm_go _ (by omega) (by rfl)
     · intro M wq hq
       have hx := hq.keeps
       go_simp
       exact uponF_value hq rfl
     simp only [Act.put, List.setIfInBounds_toArray, List.set_cons_succ, List.set_cons_zero]))
    refine wm_make (by omega) (by rfl) (fun M wq hq => ⟨wq.heap.size, ?_⟩) (fun b9 => ?_)
    · go_simp
      exact uponF_value (hq.make 9) rfl
    simp only [Act.put, List.setIfInBounds_toArray, List.set_cons_succ, List.set_cons_zero, ptrTo]
    refine wm_nil ?_
    intro w2 hkp
    obtain ⟨u1, u2, u3⟩ := hkp.made 9 b9 (by simp [updM])
    have q0 : w2.cell? ⟨b9, 0, none⟩ = some (.slice none 0 0) := by simp [World.cell?, u3]
    have q1 : w2.cell? ⟨b9, 1, none⟩ = some (.int .i64 0) := by simp [World.cell?, u3]
    have q2 : w2.cell? ⟨b9, 2, none⟩ = some (.slice none 0 0) := by simp [World.cell?, u3]
    have q3 : w2.cell? ⟨b9, 3, none⟩ = some (.slice none 0 0) := by simp [World.cell?, u3]
    have fz : ∀ j, w2.frozen? ⟨b9, j, none⟩ = false := fun j => by simp [World.frozen?, u3]
    obtain ⟨W2, hW2⟩ : ∃ W2, (((w2.setCell ⟨b9, 0, none⟩ (.slice pa np pc)).setCell ⟨b9, 1, none⟩ (.int .i64 res)).setCell ⟨b9, 2, none⟩ (.slice la nl lc)).setCell ⟨b9, 3, none⟩ (.slice ba nb bc) = W2 := ⟨_, rfl⟩
    have hb2 : Below wz.heap.size wz W2 := by rw [← hW2]; exact (((hkp.keeps.below.setCell u1 _).setCell u1 _).setCell u1 _).setCell u1 _
    have hWb : W2.heap[b9]? = some (.cells #[.slice pa np pc, .int .i64 res, .slice la nl lc, .slice ba nb bc] 39 (0, 0)) := by
      rw [← hW2]
      have e1 := heap_setCell_same _ _ 0 _ _ (.slice pa np pc) u3
      have e2 := heap_setCell_same _ _ 1 _ _ (.int .i64 res) e1
      have e3 := heap_setCell_same _ _ 2 _ _ (.slice la nl lc) e2
      exact heap_setCell_same _ _ 3 _ _ (.slice ba nb bc) e3
    have HKW : Hid (Keeps W W2) := HKz.out.step hb2
    have HM2 : Hid (Md W2 g E N (.ok s)) := HM0.out.keep HKW.out.below
    have HB2 : Hid (Below g w W2) := HBW.out.trans (HKW.out.below.mono (Nat.le_of_lt HM0.out.lt))
    have HV2 : Hid (Below V.heap.size V W2) := bel_step HVW.out HKW.out.below
    have f0 : W2.cell? ⟨b9, 0, none⟩ = some (.slice pa np pc) := (cell_of_block hWb 0).trans rfl
    have HWb : Hid (W2.heap[b9]? = some (.cells #[.slice pa np pc, .int .i64 res, .slice la nl lc, .slice ba nb bc] 39 (0, 0)) ∧ b9 ≠ g) := ⟨hWb, by have h1 := HM0.out.lt; have h2 := HKz.out.below.size; omega⟩
    have HW2 : Hid ((((w2.setCell ⟨b9, 0, none⟩ (.slice pa np pc)).setCell ⟨b9, 1, none⟩ (.int .i64 res)).setCell ⟨b9, 2, none⟩ (.slice la nl lc)).setCell ⟨b9, 3, none⟩ (.slice ba nb bc) = W2) := hW2
    rw [← hW2] at f0
    have hnp4 : np ≤ 400 := by have := HNP.out.2; omega
    have hw1 := w64u np hnp4
    clear hkp u1 u2 u3 m1 mg mt0 mt1 mt2 mt3 hb2 hWb hW2 hnp4
    go_wp2_with fail
    rw [HW2.out]
    have HW1 : Hid (wrap64 ((np : Int) - 1) = (np : Int) - 1) := hw1
    clear q0 q1 q2 q3 fz f0 hw1
    rw [HW1.out]
    have hd : decide (n ≤ a) = false := by simp; omega
    rw [hd]
    clear hd
    go_loopw [5] (fun i wr => ∃ j : Nat, j ≤ np ∧ i = .int .i64 ((j : Int) - 1) ∧ Hid (Md wr g E N ((Except.ok s).bind (takes (f.ps.drop j).reverse))) ∧ Hid (Below g W2 wr) ∧ Hid (wr.heap[b9]? = some (.cells #[.slice pa np pc, .int .i64 res, .slice la nl lc, .slice ba nb bc] 39 (0, 0)))) (fun i _ => (intOf i + 1).toNat)
    case atStart => exact ⟨np, Nat.le_refl _, rfl, by unfold Hid; rw [List.drop_of_length_le (by have := HNP.out.1; omega)]; exact HM2.out, Below.refl _ _, HWb.out.1⟩
    case round =>
      obtain ⟨j, hj, rfl, hm, hb, hblk⟩ := hrel
      cases j with
      | zero =>
        have f1 : wr.cell? ⟨b9, 1, none⟩ = some (.int .i64 res) := (cell_of_block hblk.out 1).trans rfl
        have hneg : ¬ (0 : Int) ≤ ((0 : Nat) : Int) - 1 := by omega
        have hneg2 : ((0 : Nat) : Int) - 1 < 0 := by omega
        go_wp2_with fail
        refine (putM g E N res _ _ hm.out HTK.out.1 (by have := HN.out; omega)).mono ?_
        rintro e w5 ⟨rfl, hm5, hb5⟩
        have HM5 : Hid (Md w5 g E (N + 1) (Except.map (putI res) ((Except.ok s).bind (takes (f.ps.drop 0).reverse)))) := hm5
        have HB5 : Hid (Below g w w5) := HB2.out.trans (hb.out.trans hb5)
        clear hm5 hb5
        go_wp2
        first
          | go_end0
          | refine bodyPost_ret (results_none rfl _ _ _) rfl ?_
        exact ⟨rfl, by
          have h := HM5.out
          rw [HE1.out, HTK.out.2]
          exact h, HB5.out⟩
      | succ q =>
        have hqL : q < f.ps.length := by have := HNP.out.1; omega
        obtain ⟨pb, po, rfl, hpb, hpc⟩ := HPS.out.cellAt q hqL
        obtain ⟨t, ht⟩ : ∃ t, f.ps[q] = t := ⟨_, rfl⟩
        rw [ht] at hpc
        have htk := HPT.out t (by rw [← ht]; exact List.getElem_mem _)
        have HV3 : Below V.heap.size V wr := HV2.out.trans (hb.out.mono hE.out.hg)
        have p0 : wr.cell? ⟨pb, po + q, none⟩ = some (.int .i64 t) := (HV3.cell (p := ⟨pb, po + q, none⟩) hpb).trans hpc
        have f0 : wr.cell? ⟨b9, 0, none⟩ = some (.slice (some ⟨pb, po, none⟩) np pc) := (cell_of_block hblk.out 0).trans rfl
        have hqe : ((q + 1 : Nat) : Int) - 1 = (q : Int) := by omega
        rw [hqe]
        have hq0 : (0 : Int) ≤ (q : Int) := by omega
        have hqn : (q : Int) < (np : Int) := by omega
        have hq4 : q ≤ 400 := by have := HNP.out.2; omega
        have HQ : Hid (q < np ∧ (f.ps.drop q).reverse = (f.ps.drop (q + 1)).reverse ++ [t]) := ⟨by omega, by rw [List.drop_eq_getElem_cons hqL, List.reverse_cons, ht]⟩
        have T := takeMx g E N t t _ _ hm.out (by unfold wantOk; omega) (by unfold sk; rw [if_neg (by omega)]) (by have := HN.out; omega)
        clear hpc hpb ht htk HV3 hqe hj hqL
        have hw1 := w64u q hq4
        clear hq4
        go_wp2_with fail
        refine T.mono ?_
        rintro e w3 ⟨⟨hb3, ht3⟩, hm3, v3, rfl, _⟩
        have HM3 : Hid (Md w3 g E N ((Except.ok s).bind (takes (f.ps.drop q).reverse))) := by unfold Hid; rw [HQ.out.2, bind_snoc]; exact hm3
        have HB3 : Hid (Below g W2 w3) := hb.out.trans hb3
        have HK3 : Hid (w3.heap[b9]? = some (.cells #[.slice (some ⟨pb, po, none⟩) np pc, .int .i64 res, .slice la nl lc, .slice ba nb bc] 39 (0, 0))) := (ht3.2 b9 (lt_of_block hblk.out) HWb.out.2).trans hblk.out
        clear T hb3 ht3 hm3 p0 f0
        have HW3 : Hid (wrap64 ((q : Int) - 1) = (q : Int) - 1) := hw1
        clear hw1
        go_wp2
        rw [HW3.out]
        go_roundw
        case rel => exact ⟨q, by have := HQ.out.1; omega, by go_num, HM3, HB3, HK3⟩
        case measure => simp [intOf]; try omega
  · have ha2 : (n : Int) ≤ (a : Int) := by omega
    have HE1 : Hid (effR E.M own 16 (a : Int) s = .error 5) := by unfold Hid; rw [HE0.out, List.getElem?_eq_none (by omega)]
    clear HE0 hZ hgb hzl hgl hn hbW hW hz h hV hN ha
    go_enter Tryz.func61, Tryz.ntmps61
    have e0 := kz0 _ ⟨Below.refl _ _⟩
    rw [← HW.out.1, ← HW.out.2] at e0
    go_wp2_with fail
    rw [HW.out.2, HW.out.1]
    clear e0
    refine region_q (C := Keeps W) (by kernel_rfl) (by kernel_rfl) (Keeps.drew W) ?_
    (iterate 9
    (apply wpQuiet_go _ (by rfl)
     · intro wq hq
       go_simp
       first
         | exact rfl
     simp only [Act.put, List.setIfInBounds_toArray, List.set_cons_succ, List.set_cons_zero]))
    refine wpQuiet_nil ?_
    intro wz hk
    have BD := badM g E N 5 s wz (HM0.out.keep hk.below) (by decide)
    have HBz : Hid (Below g w wz) := HBW.out.trans (hk.below.mono (Nat.le_of_lt HM0.out.lt))
    clear hk kz0 kz1 kg
    go_wp2_with fail
    refine BD.mono ?_
    rintro e w1 ⟨⟨rfl, hm1, hb1⟩, _⟩
    have HM1 : Hid (Md w1 g E N (.error 5)) := hm1
    have HB1 : Hid (Below g w w1) := HBz.out.trans hb1
    clear BD hm1 hb1
    go_wp2
    first
      | go_end0
      | refine bodyPost_ret (results_none rfl _ _ _) rfl ?_
    exact ⟨rfl, by rw [HE1.out]; exact md_up HM1.out, HB1.out⟩

end Go.Proofs.YtcgnefgdfgikdaaGreat

namespace Go.Proofs.YtcgnefgdfgikdaaGreat
open Go.ChangeShapes Go.WideShapes Go.ChangeAt Go.RowKit

/-- What stands in memory in the end. -/
def Fin (w : World) (g : Nat) (E : EnvS) : Except Int St → Prop
  | .ok s => ∃ vf, CS w g E 0 s vf
  | .error c => c ≠ 0 ∧ ∃ s vf, CS w g E c s vf
theorem Md.fin {w : World} {g : Nat} {E : EnvS} {N : Nat} {r : Except Int St} (h : Md w g E N r) : Fin w g E r := by
  cases r with
  | ok s => exact h.1
  | error c => obtain ⟨h0, s, vf, hc, _⟩ := h; exact ⟨h0, s, vf, hc⟩
def OutN (w : World) (g : Nat) (E : EnvS) (r : Except Int St) (e : Ending) (w' : World) : Prop := e = .returned (.tuple #[]) ∧ Fin w' g E r ∧ Below g w w'
theorem beginM (g : Nat) (E : EnvS) (N : Nat) (op kd : Int) (r : Except Int St) (w : World) (h : Md w g E N r) (hN : N ≤ 300) :
    Calls Tryz.prog 34 #[.pointer (some ⟨g, 0, none⟩), .int .i64 op, .int .i64 kd] w fun e w' => OutN w g E (r.map (beginS op kd)) e w' := by
  cases r with
  | error c =>
    obtain ⟨h0, s, vf, hc, hb⟩ := h
    refine (beginSp g E c s op kd vf w hc ⟨by have := hb.nv; omega, by have := hb.no; omega⟩).mono ?_
    rintro e w' ⟨rfl, ⟨vf', hci⟩, hbl⟩
    exact ⟨rfl, ⟨h0, _, vf', hci⟩, hbl⟩
  | ok s =>
    obtain ⟨⟨vf, hc⟩, hg, hb⟩ := h
    refine (beginSp g E 0 s op kd vf w hc ⟨by have := hb.nv; omega, by have := hb.no; omega⟩).mono ?_
    rintro e w' ⟨rfl, hci, hbl⟩
    exact ⟨rfl, hci, hbl⟩

set_option maxRecDepth 100000 in
set_option maxHeartbeats 6400000 in
theorem insNop (g : Nat) (E : EnvS) (N : Nat) (own : List Int) (a : Int) (s : St) (w : World) (h : Md w g E N (.ok s)) (hN : N ≤ 250) :
    Calls Tryz.prog 35 #[.pointer (some ⟨g, 0, none⟩), .agg #[.int .i64 1, .int .i64 a]] w fun e w' => OutN w g E (stepS E.M own E.res 1 a s) e w' := by
  have HN : Hid (N ≤ 250) := hN
  obtain ⟨W, hW⟩ : ∃ W, w.alloc (.cells #[.int .i64 1, .int .i64 a] 41) = W := ⟨_, rfl⟩
  obtain ⟨z, hz⟩ : ∃ z, w.heap.size = z := ⟨_, rfl⟩
  have hbW : Below w.heap.size w W := by rw [← hW]; exact w0_below w 1 a
  have hZ : W.heap[z]? = some (.cells #[.int .i64 1, .int .i64 a] 41 (0, 0)) := by rw [← hW, ← hz]; exact w0_block w 1 a
  have HW : Hid (w.alloc (.cells #[.int .i64 1, .int .i64 a] 41) = W ∧ w.heap.size = z) := ⟨hW, hz⟩
  have HBW : Hid (Below g w W) := hbW.mono (Nat.le_of_lt h.lt)
  have HM0 : Hid (Md W g E N (.ok s)) := h.keep hbW
  have HGZ : Hid (z ≠ g) := by have := h.lt; unfold Hid; omega
  have HZ : Hid (W.heap[z]? = some (.cells #[.int .i64 1, .int .i64 a] 41 (0, 0))) := hZ
  have e0 : W.cell? ⟨z, 0, none⟩ = some (.int .i64 1) := (cell_of_block hZ 0).trans rfl
  have e1 : W.cell? ⟨z, 1, none⟩ = some (.int .i64 a) := (cell_of_block hZ 1).trans rfl
  rw [← HW.out.1, ← HW.out.2] at e0 e1
  have HS : Hid (stepS E.M own E.res 1 a s = .ok s) := rfl
  clear h hN hZ hbW hW hz
  go_enter Tryz.func35, Tryz.ntmps35
  go_wp2
  first
    | go_end0
    | refine bodyPost_ret (results_none rfl _ _ _) rfl ?_
  rw [HW.out.1]
  exact ⟨rfl, by rw [HS.out]; exact HM0.out.fin, HBW.out⟩

set_option maxRecDepth 100000 in
set_option maxHeartbeats 6400000 in
theorem insDie (g : Nat) (E : EnvS) (N : Nat) (own : List Int) (a : Int) (s : St) (w : World) (h : Md w g E N (.ok s)) (hN : N ≤ 250) :
    Calls Tryz.prog 35 #[.pointer (some ⟨g, 0, none⟩), .agg #[.int .i64 0, .int .i64 a]] w fun e w' => OutN w g E (stepS E.M own E.res 0 a s) e w' := by
  have HN : Hid (N ≤ 250) := hN
  obtain ⟨W, hW⟩ : ∃ W, w.alloc (.cells #[.int .i64 0, .int .i64 a] 41) = W := ⟨_, rfl⟩
  obtain ⟨z, hz⟩ : ∃ z, w.heap.size = z := ⟨_, rfl⟩
  have hbW : Below w.heap.size w W := by rw [← hW]; exact w0_below w 0 a
  have hZ : W.heap[z]? = some (.cells #[.int .i64 0, .int .i64 a] 41 (0, 0)) := by rw [← hW, ← hz]; exact w0_block w 0 a
  have HW : Hid (w.alloc (.cells #[.int .i64 0, .int .i64 a] 41) = W ∧ w.heap.size = z) := ⟨hW, hz⟩
  have HBW : Hid (Below g w W) := hbW.mono (Nat.le_of_lt h.lt)
  have HM0 : Hid (Md W g E N (.ok s)) := h.keep hbW
  have HGZ : Hid (z ≠ g) := by have := h.lt; unfold Hid; omega
  have HZ : Hid (W.heap[z]? = some (.cells #[.int .i64 0, .int .i64 a] 41 (0, 0))) := hZ
  have e0 : W.cell? ⟨z, 0, none⟩ = some (.int .i64 0) := (cell_of_block hZ 0).trans rfl
  have e1 : W.cell? ⟨z, 1, none⟩ = some (.int .i64 a) := (cell_of_block hZ 1).trans rfl
  rw [← HW.out.1, ← HW.out.2] at e0 e1
  have HS : Hid (stepS E.M own E.res 0 a s = (Except.ok s).map dieS) := rfl
  clear h hN hZ hbW hW hz
  go_enter Tryz.func35, Tryz.ntmps35
  go_wp2_with fail
  rw [HW.out.2, HW.out.1]
  clear e0 e1
  refine (dieM g E _ _ _ HM0.out (by have := HN.out; omega)).mono ?_
  rintro e w1 ⟨rfl, hm1, hb1⟩
  have HB1 : Hid (Below g w w1) := HBW.out.trans hb1
  have HM1 : Hid (Md w1 g E (N) (((.ok s : Except Int St)).map dieS)) := hm1
  clear hb1 hm1
  go_wp2
  first
    | go_end0
    | refine bodyPost_ret (results_none rfl _ _ _) rfl ?_
  exact ⟨rfl, by rw [HS.out]; exact HM1.out.fin, HB1.out⟩

set_option maxRecDepth 100000 in
set_option maxHeartbeats 6400000 in
theorem insRet (g : Nat) (E : EnvS) (N : Nat) (own : List Int) (a : Int) (s : St) (w : World) (h : Md w g E N (.ok s)) (hr : putKOk E.res) (hN : N ≤ 250) :
    Calls Tryz.prog 35 #[.pointer (some ⟨g, 0, none⟩), .agg #[.int .i64 15, .int .i64 a]] w fun e w' => OutN w g E (stepS E.M own E.res 15 a s) e w' := by
  have HN : Hid (N ≤ 250) := hN
  obtain ⟨W, hW⟩ : ∃ W, w.alloc (.cells #[.int .i64 15, .int .i64 a] 41) = W := ⟨_, rfl⟩
  obtain ⟨z, hz⟩ : ∃ z, w.heap.size = z := ⟨_, rfl⟩
  have hbW : Below w.heap.size w W := by rw [← hW]; exact w0_below w 15 a
  have hZ : W.heap[z]? = some (.cells #[.int .i64 15, .int .i64 a] 41 (0, 0)) := by rw [← hW, ← hz]; exact w0_block w 15 a
  have HW : Hid (w.alloc (.cells #[.int .i64 15, .int .i64 a] 41) = W ∧ w.heap.size = z) := ⟨hW, hz⟩
  have HBW : Hid (Below g w W) := hbW.mono (Nat.le_of_lt h.lt)
  have HM0 : Hid (Md W g E N (.ok s)) := h.keep hbW
  have HGZ : Hid (z ≠ g) := by have := h.lt; unfold Hid; omega
  have HZ : Hid (W.heap[z]? = some (.cells #[.int .i64 15, .int .i64 a] 41 (0, 0))) := hZ
  have e0 : W.cell? ⟨z, 0, none⟩ = some (.int .i64 15) := (cell_of_block hZ 0).trans rfl
  have e1 : W.cell? ⟨z, 1, none⟩ = some (.int .i64 a) := (cell_of_block hZ 1).trans rfl
  rw [← HW.out.1, ← HW.out.2] at e0 e1
  have HS : Hid (stepS E.M own E.res 15 a s = ((Except.ok s).bind (takeI E.res)).map dieS) := rfl
  have HR : Hid (wantOk E.res ∧ sk E.res = E.res) := by unfold putKOk at hr; exact ⟨by unfold wantOk; omega, by unfold sk; rw [if_neg (by omega)]⟩
  obtain ⟨code, most, vf, vs, hgb⟩ := HM0.out.blk
  have c7 : W.cell? ⟨g, 7, none⟩ = some (.int .i64 E.res) := (cell_of_block hgb 7).trans rfl
  rw [← HW.out.1] at c7
  obtain ⟨rs, hrs⟩ : ∃ x, E.res = x := ⟨_, rfl⟩
  have HRS : Hid (E.res = rs) := hrs
  rw [hrs] at c7 HS HR
  clear h hN hZ hbW hW hz hgb hr hrs
  go_enter Tryz.func35, Tryz.ntmps35
  go_wp2_with fail
  rw [HW.out.2, HW.out.1]
  clear e0 e1 c7
  refine (takeMx g E _ (rs) (rs) _ _ HM0.out HR.out.1 HR.out.2 (by have := HN.out; omega)).mono ?_
  rintro e w1 ⟨⟨hb1, ht1⟩, hm1, v1, rfl, hv1⟩
  have HB1 : Hid (Below g w w1) := HBW.out.trans hb1
  have HT1 : Hid (Touch g W w1) := ht1
  have HM1 : Hid (Md w1 g E (N) (((.ok s : Except Int St)).bind (takeI (rs)))) := hm1
  clear hb1 ht1 hm1 hv1
  go_wp2_with fail
  refine (dieM g E _ _ _ HM1.out (by have := HN.out; omega)).mono ?_
  rintro e w2 ⟨rfl, hm2, hb2⟩
  have HB2 : Hid (Below g w w2) := HB1.out.trans hb2
  have HM2 : Hid (Md w2 g E (N) (((((.ok s : Except Int St)).bind (takeI (rs)))).map dieS)) := hm2
  clear hb2 hm2
  go_wp2
  first
    | go_end0
    | refine bodyPost_ret (results_none rfl _ _ _) rfl ?_
  exact ⟨rfl, by
    rw [HRS.out, HS.out]
    exact HM2.out.fin, HB2.out⟩

set_option maxRecDepth 100000 in
set_option maxHeartbeats 6400000 in
theorem insDrop (g : Nat) (E : EnvS) (N : Nat) (own : List Int) (a : Int) (s : St) (w : World) (h : Md w g E N (.ok s)) (hN : N ≤ 250) :
    Calls Tryz.prog 35 #[.pointer (some ⟨g, 0, none⟩), .agg #[.int .i64 26, .int .i64 a]] w fun e w' => OutN w g E (stepS E.M own E.res 26 a s) e w' := by
  have HN : Hid (N ≤ 250) := hN
  obtain ⟨W, hW⟩ : ∃ W, w.alloc (.cells #[.int .i64 26, .int .i64 a] 41) = W := ⟨_, rfl⟩
  obtain ⟨z, hz⟩ : ∃ z, w.heap.size = z := ⟨_, rfl⟩
  have hbW : Below w.heap.size w W := by rw [← hW]; exact w0_below w 26 a
  have hZ : W.heap[z]? = some (.cells #[.int .i64 26, .int .i64 a] 41 (0, 0)) := by rw [← hW, ← hz]; exact w0_block w 26 a
  have HW : Hid (w.alloc (.cells #[.int .i64 26, .int .i64 a] 41) = W ∧ w.heap.size = z) := ⟨hW, hz⟩
  have HBW : Hid (Below g w W) := hbW.mono (Nat.le_of_lt h.lt)
  have HM0 : Hid (Md W g E N (.ok s)) := h.keep hbW
  have HGZ : Hid (z ≠ g) := by have := h.lt; unfold Hid; omega
  have HZ : Hid (W.heap[z]? = some (.cells #[.int .i64 26, .int .i64 a] 41 (0, 0))) := hZ
  have e0 : W.cell? ⟨z, 0, none⟩ = some (.int .i64 26) := (cell_of_block hZ 0).trans rfl
  have e1 : W.cell? ⟨z, 1, none⟩ = some (.int .i64 a) := (cell_of_block hZ 1).trans rfl
  rw [← HW.out.1, ← HW.out.2] at e0 e1
  have HS : Hid (stepS E.M own E.res 26 a s = ((Except.ok s).bind (takes [0])).map (putI 64)) := rfl
  clear h hN hZ hbW hW hz
  go_enter Tryz.func35, Tryz.ntmps35
  go_wp2_with fail
  rw [HW.out.2, HW.out.1]
  clear e0 e1
  refine (takeMx g E _ (0) (1) _ _ HM0.out (by unfold wantOk; omega) rfl (by have := HN.out; omega)).mono ?_
  rintro e w1 ⟨⟨hb1, ht1⟩, hm1, v1, rfl, hv1⟩
  have HB1 : Hid (Below g w w1) := HBW.out.trans hb1
  have HT1 : Hid (Touch g W w1) := ht1
  have HM1 : Hid (Md w1 g E (N) (((.ok s : Except Int St)).bind (takeI (0)))) := hm1
  clear hb1 ht1 hm1 hv1
  go_wp2
  first
    | go_end0
    | refine bodyPost_ret (results_none rfl _ _ _) rfl ?_
  exact ⟨rfl, by rw [HS.out, map_put64, bind_takes1]; exact HM1.out.fin, HB1.out⟩

set_option maxRecDepth 100000 in
set_option maxHeartbeats 6400000 in
theorem insBlock (g : Nat) (E : EnvS) (N : Nat) (own : List Int) (op : Int) (a : Int) (s : St) (w : World) (h : Md w g E N (.ok s)) (hop : op = 2 ∨ op = 3) (hN : N ≤ 250) :
    Calls Tryz.prog 35 #[.pointer (some ⟨g, 0, none⟩), .agg #[.int .i64 op, .int .i64 a]] w fun e w' => OutN w g E (stepS E.M own E.res op a s) e w' := by
  have HN : Hid (N ≤ 250) := hN
  obtain ⟨W, hW⟩ : ∃ W, w.alloc (.cells #[.int .i64 op, .int .i64 a] 41) = W := ⟨_, rfl⟩
  obtain ⟨z, hz⟩ : ∃ z, w.heap.size = z := ⟨_, rfl⟩
  have hbW : Below w.heap.size w W := by rw [← hW]; exact w0_below w op a
  have hZ : W.heap[z]? = some (.cells #[.int .i64 op, .int .i64 a] 41 (0, 0)) := by rw [← hW, ← hz]; exact w0_block w op a
  have HW : Hid (w.alloc (.cells #[.int .i64 op, .int .i64 a] 41) = W ∧ w.heap.size = z) := ⟨hW, hz⟩
  have HBW : Hid (Below g w W) := hbW.mono (Nat.le_of_lt h.lt)
  have HM0 : Hid (Md W g E N (.ok s)) := h.keep hbW
  have HGZ : Hid (z ≠ g) := by have := h.lt; unfold Hid; omega
  have HZ : Hid (W.heap[z]? = some (.cells #[.int .i64 op, .int .i64 a] 41 (0, 0))) := hZ
  have e0 : W.cell? ⟨z, 0, none⟩ = some (.int .i64 op) := (cell_of_block hZ 0).trans rfl
  have e1 : W.cell? ⟨z, 1, none⟩ = some (.int .i64 a) := (cell_of_block hZ 1).trans rfl
  rw [← HW.out.1, ← HW.out.2] at e0 e1
  have HS : Hid (stepS E.M own E.res op a s = (Except.ok s).map (beginS op a)) := if_pos hop
  have T := beginM g E N op a (.ok s) W HM0.out (by omega)
  clear h hN hZ hbW hW hz
  rcases hop with rfl | rfl
  all_goals
    go_enter Tryz.func35, Tryz.ntmps35
    go_wp2_with fail
    rw [HW.out.2, HW.out.1]
    clear e0 e1
    refine T.mono ?_
    rintro e w1 ⟨rfl, hm1, hb1⟩
    have HM1 : Hid (Fin w1 g E _) := hm1
    have HB1 : Hid (Below g w w1) := HBW.out.trans hb1
    clear T hm1 hb1
    go_wp2
    first
      | go_end0
      | refine bodyPost_ret (results_none rfl _ _ _) rfl ?_
    exact ⟨rfl, by rw [HS.out]; exact HM1.out, HB1.out⟩

set_option maxRecDepth 100000 in
set_option maxHeartbeats 6400000 in
theorem insIf (g : Nat) (E : EnvS) (N : Nat) (own : List Int) (a : Int) (s : St) (w : World) (h : Md w g E N (.ok s)) (hN : N ≤ 250) :
    Calls Tryz.prog 35 #[.pointer (some ⟨g, 0, none⟩), .agg #[.int .i64 4, .int .i64 a]] w fun e w' => OutN w g E (stepS E.M own E.res 4 a s) e w' := by
  have HN : Hid (N ≤ 250) := hN
  obtain ⟨W, hW⟩ : ∃ W, w.alloc (.cells #[.int .i64 4, .int .i64 a] 41) = W := ⟨_, rfl⟩
  obtain ⟨z, hz⟩ : ∃ z, w.heap.size = z := ⟨_, rfl⟩
  have hbW : Below w.heap.size w W := by rw [← hW]; exact w0_below w 4 a
  have hZ : W.heap[z]? = some (.cells #[.int .i64 4, .int .i64 a] 41 (0, 0)) := by rw [← hW, ← hz]; exact w0_block w 4 a
  have HW : Hid (w.alloc (.cells #[.int .i64 4, .int .i64 a] 41) = W ∧ w.heap.size = z) := ⟨hW, hz⟩
  have HBW : Hid (Below g w W) := hbW.mono (Nat.le_of_lt h.lt)
  have HM0 : Hid (Md W g E N (.ok s)) := h.keep hbW
  have HGZ : Hid (z ≠ g) := by have := h.lt; unfold Hid; omega
  have HZ : Hid (W.heap[z]? = some (.cells #[.int .i64 4, .int .i64 a] 41 (0, 0))) := hZ
  have e0 : W.cell? ⟨z, 0, none⟩ = some (.int .i64 4) := (cell_of_block hZ 0).trans rfl
  have e1 : W.cell? ⟨z, 1, none⟩ = some (.int .i64 a) := (cell_of_block hZ 1).trans rfl
  rw [← HW.out.1, ← HW.out.2] at e0 e1
  have HS : Hid (stepS E.M own E.res 4 a s = ((Except.ok s).bind (takeI 127)).map (beginS 4 a)) := rfl
  clear h hN hZ hbW hW hz
  go_enter Tryz.func35, Tryz.ntmps35
  go_wp2_with fail
  rw [HW.out.2, HW.out.1]
  clear e0 e1
  refine (takeMx g E _ (127) (127) _ _ HM0.out (by unfold wantOk; omega) (by decide) (by have := HN.out; omega)).mono ?_
  rintro e w1 ⟨⟨hb1, ht1⟩, hm1, v1, rfl, hv1⟩
  have HB1 : Hid (Below g w w1) := HBW.out.trans hb1
  have HT1 : Hid (Touch g W w1) := ht1
  have HM1 : Hid (Md w1 g E (N) (((.ok s : Except Int St)).bind (takeI (127)))) := hm1
  clear hb1 ht1 hm1 hv1
  have hz1 := (HT1.out.2 z (lt_of_block HZ.out) HGZ.out).trans HZ.out
  have e0 : w1.cell? ⟨z, 0, none⟩ = some (.int .i64 4) := (cell_of_block hz1 0).trans rfl
  have e1 : w1.cell? ⟨z, 1, none⟩ = some (.int .i64 a) := (cell_of_block hz1 1).trans rfl
  clear hz1
  go_wp2_with fail
  clear e0 e1
  refine (beginM g E N 4 a _ w1 HM1.out (by have := HN.out; omega)).mono ?_
  rintro e w2 ⟨rfl, hm2, hb2⟩
  have HM2 : Hid (Fin w2 g E _) := hm2
  have HB2 : Hid (Below g w w2) := HB1.out.trans hb2
  clear hm2 hb2
  go_wp2
  first
    | go_end0
    | refine bodyPost_ret (results_none rfl _ _ _) rfl ?_
  exact ⟨rfl, by rw [HS.out]; exact HM2.out, HB2.out⟩

end Go.Proofs.YtcgnefgdfgikdaaGreat
