/-
  The law's check: what instructions take and put.
-/
import Derived.Test.YtcgnefgdfgikdaaGreatKA9
import Derived.Test.YtcgnefgdfgikdaaGreatA1
namespace Go.Proofs.YtcgnefgdfgikdaaGreat
open Go.ChangeShapes Go.WideShapes Go.ChangeAt Go.RowKit

theorem takeMx (g : Nat) (E : EnvS) (N : Nat) (k x : Int) (r : Except Int St) (w : World) (h : Md w g E N r) (hk : wantOk k) (hx : sk k = x) (hN : N ≤ 300) :
    Calls Tryz.prog 56 #[.pointer (some ⟨g, 0, none⟩), .int .i64 x] w fun e w' => OutTM w g E N k r e w' := by
  subst hx; exact takeM g E N k r w h hk hN
theorem bind_takes1 (r : Except Int St) (a : Int) : r.bind (takes [a]) = r.bind (takeI a) := by
  cases r with
  | error c => rfl
  | ok s => show takes [a] s = takeI a s; simp [takes]
theorem bind_takes2 (r : Except Int St) (a b : Int) : r.bind (takes [a, b]) = (r.bind (takeI a)).bind (takeI b) := by
  cases r with
  | error c => rfl
  | ok s => show takes [a, b] s = (takeI a s).bind (takeI b); simp [takes]; rfl
theorem bind_takes0 (r : Except Int St) : r.bind (takes []) = r := by
  cases r with
  | error c => rfl
  | ok s => rfl
theorem md_up {w : World} {g : Nat} {E : EnvS} {N : Nat} {r : Except Int St} (h : Md w g E N r) : Md w g E (N + 1) r := by
  cases r with
  | error c => obtain ⟨h0, s, vf, hc, hb⟩ := h; exact ⟨h0, s, vf, hc, bnd_up hb⟩
  | ok s => obtain ⟨hc, hg, hb⟩ := h; exact ⟨hc, hg, bnd_up hb⟩
theorem map_put64 (r : Except Int St) : r.map (putI 64) = r := by cases r <;> rfl
theorem badM (g : Nat) (E : EnvS) (N : Nat) (c : Int) (s : St) (w : World) (h : Md w g E N (.ok s)) (hc : c ≠ 0) :
    Calls Tryz.prog 59 #[.pointer (some ⟨g, 0, none⟩), .int .i64 c] w fun e w' => OutPM w g E N (.error c) e w' ∧ Touch g w w' := by
  obtain ⟨⟨vf, hci⟩, hg, hb⟩ := h
  refine (badS g E 0 s c vf w hci).mono ?_
  rintro e w' ⟨rfl, hc1, hb1, ht1⟩
  exact ⟨⟨rfl, ⟨hc, s, vf, hc1, hb⟩, hb1⟩, ht1⟩

set_option maxRecDepth 100000 in
set_option maxHeartbeats 1600000 in
theorem turnM (g : Nat) (E : EnvS) (N : Nat) (a b : Int) (r : Except Int St) (w : World) (h : Md w g E N r) (ha : wantOk a) (hx : sk a = a) (hb : putKOk b) (hN : N ≤ 300) :
    Calls Tryz.prog 79 #[.pointer (some ⟨g, 0, none⟩), .int .i64 a, .int .i64 b] w fun e w' => OutPM w g E (N + 1) ((r.bind (takeI a)).map (putI b)) e w' := by
  have HM0 : Hid (Md w g E N r) := h
  have HA : Hid (wantOk a ∧ sk a = a ∧ putKOk b) := ⟨ha, hx, hb⟩
  have HN : Hid (N ≤ 300) := hN
  clear h ha hx hb hN
  go_enter Tryz.func79, Tryz.ntmps79
  go_wp2_with fail
  refine (takeMx g E _ (a) (a) _ _ HM0.out HA.out.1 HA.out.2.1 (by have := HN.out; omega)).mono ?_
  rintro e w1 ⟨⟨hb1, ht1⟩, hm1, v1, rfl, hv1⟩
  have HB1 : Hid (Below g w w1) := hb1
  have HT1 : Hid (Touch g w w1) := ht1
  have HM1 : Hid (Md w1 g E (N) ((r).bind (takeI (a)))) := hm1
  clear hb1 ht1 hm1 hv1
  go_wp2_with fail
  refine (putM g E _ (b) _ _ HM1.out HA.out.2.2 (by have := HN.out; omega)).mono ?_
  rintro e w2 ⟨rfl, hm2, hb2⟩
  have HB2 : Hid (Below g w w2) := HB1.out.trans hb2
  have HM2 : Hid (Md w2 g E (N + 1) ((((r).bind (takeI (a)))).map (putI (b)))) := hm2
  clear hb2 hm2
  go_wp2
  first
    | go_end0
    | refine bodyPost_ret (results_none rfl _ _ _) rfl ?_
  exact ⟨rfl, HM2.out, HB2.out⟩

/-- What an effect leaves. -/
def effR (M : Mod7) (own : List Int) (op a : Int) (s : St) : Except Int St := (effS M own op a s).bind fun e => (takes e.1 s).map (putI e.2)
set_option maxRecDepth 100000 in
set_option maxHeartbeats 3200000 in
theorem memoryM (g : Nat) (E : EnvS) (N : Nat) (own : List Int) (op a : Int) (s : St) (w : World) (h : Md w g E N (.ok s)) (hop : op = 40 ∨ op = 41 ∨ op = 54 ∨ op = 55 ∨ op = 63 ∨ op = 64) (hN : N ≤ 299) :
    Calls Tryz.prog 78 #[.pointer (some ⟨g, 0, none⟩), .int .i64 op] w fun e w' => OutPM w g E (N + 1) (effR E.M own op a s) e w' := by
  have HM0 : Hid (Md w g E N (.ok s)) := h
  have HN : Hid (N ≤ 299) := hN
  obtain ⟨⟨vf, vs, h0, _, _⟩, _, _⟩ := h
  have c2 : w.cell? ⟨g, 2, none⟩ = some (.bool E.M.mem) := (cell_of_block h0 2).trans rfl
  have HE : Hid (effR E.M own op a s = if E.M.mem then (takes (memEff op).1 s).map (putI (memEff op).2) else .error 6) := by
    unfold Hid effR effS
    rw [if_neg (by omega), if_neg (by omega), if_neg (by omega), if_neg (by omega), if_pos (by omega)]
    split <;> rfl
  obtain ⟨me, hme⟩ : ∃ x, E.M.mem = x := ⟨_, rfl⟩
  rw [hme] at c2 HE
  have BD := badM g E N 6 s w HM0.out (by decide)
  clear h0 hN hme
  cases me
  · rcases hop with rfl | rfl | rfl | rfl | rfl | rfl
    all_goals
      go_enter Tryz.func78, Tryz.ntmps78
      go_wp2_with fail
      refine BD.mono ?_
      rintro e w1 ⟨⟨rfl, hm1, hb1⟩, _⟩
      have HM1 : Hid (Md w1 g E N (.error 6)) := hm1
      have HB1 : Hid (Below g w w1) := hb1
      clear BD hm1 hb1
      go_wp2
      first
        | go_end0
        | refine bodyPost_ret (results_none rfl _ _ _) rfl ?_
      exact ⟨rfl, by rw [HE.out]; exact md_up HM1.out, HB1.out⟩
  · clear BD
    rcases hop with rfl | rfl | rfl | rfl | rfl | rfl
    · go_enter Tryz.func78, Tryz.ntmps78
      go_wp2_with fail
      refine (turnM g E _ (127) (127) _ _ HM0.out (by unfold wantOk; omega) (by decide) (by unfold putKOk; omega) (by have := HN.out; omega)).mono ?_
      rintro e w1 ⟨rfl, hm1, hb1⟩
      have HB1 : Hid (Below g w w1) := hb1
      have HM1 : Hid (Md w1 g E (N + 1) ((((.ok s : Except Int St)).bind (takeI (127))).map (putI (127)))) := hm1
      clear hb1 hm1
      go_wp2
      first
        | go_end0
        | refine bodyPost_ret (results_none rfl _ _ _) rfl ?_
      exact ⟨rfl, by
        have h := HM1.out
        rw [HE.out]
        rw [← bind_takes1 (.ok s) 127] at h
        exact h, HB1.out⟩
    · go_enter Tryz.func78, Tryz.ntmps78
      go_wp2_with fail
      refine (turnM g E _ (127) (126) _ _ HM0.out (by unfold wantOk; omega) (by decide) (by unfold putKOk; omega) (by have := HN.out; omega)).mono ?_
      rintro e w1 ⟨rfl, hm1, hb1⟩
      have HB1 : Hid (Below g w w1) := hb1
      have HM1 : Hid (Md w1 g E (N + 1) ((((.ok s : Except Int St)).bind (takeI (127))).map (putI (126)))) := hm1
      clear hb1 hm1
      go_wp2
      first
        | go_end0
        | refine bodyPost_ret (results_none rfl _ _ _) rfl ?_
      exact ⟨rfl, by
        have h := HM1.out
        rw [HE.out]
        rw [← bind_takes1 (.ok s) 127] at h
        exact h, HB1.out⟩
    · go_enter Tryz.func78, Tryz.ntmps78
      go_wp2_with fail
      refine (takeMx g E _ (127) (127) _ _ HM0.out (by unfold wantOk; omega) (by decide) (by have := HN.out; omega)).mono ?_
      rintro e w1 ⟨⟨hb1, ht1⟩, hm1, v1, rfl, hv1⟩
      have HB1 : Hid (Below g w w1) := hb1
      have HT1 : Hid (Touch g w w1) := ht1
      have HM1 : Hid (Md w1 g E (N) (((.ok s : Except Int St)).bind (takeI (127)))) := hm1
      clear hb1 ht1 hm1 hv1
      go_wp2_with fail
      refine (takeMx g E _ (127) (127) _ _ HM1.out (by unfold wantOk; omega) (by decide) (by have := HN.out; omega)).mono ?_
      rintro e w2 ⟨⟨hb2, ht2⟩, hm2, v2, rfl, hv2⟩
      have HB2 : Hid (Below g w w2) := HB1.out.trans hb2
      have HT2 : Hid (Touch g w w2) := HT1.out.trans ht2
      have HM2 : Hid (Md w2 g E (N) (((((.ok s : Except Int St)).bind (takeI (127)))).bind (takeI (127)))) := hm2
      clear hb2 ht2 hm2 hv2
      go_wp2
      first
        | go_end0
        | refine bodyPost_ret (results_none rfl _ _ _) rfl ?_
      exact ⟨rfl, by
        have h := md_up HM2.out
        rw [← bind_takes2 (.ok s) 127 127, ← map_put64 ((Except.ok s).bind _)] at h
        rw [HE.out]
        exact h, HB2.out⟩
    · go_enter Tryz.func78, Tryz.ntmps78
      go_wp2_with fail
      refine (takeMx g E _ (126) (126) _ _ HM0.out (by unfold wantOk; omega) (by decide) (by have := HN.out; omega)).mono ?_
      rintro e w1 ⟨⟨hb1, ht1⟩, hm1, v1, rfl, hv1⟩
      have HB1 : Hid (Below g w w1) := hb1
      have HT1 : Hid (Touch g w w1) := ht1
      have HM1 : Hid (Md w1 g E (N) (((.ok s : Except Int St)).bind (takeI (126)))) := hm1
      clear hb1 ht1 hm1 hv1
      go_wp2_with fail
      refine (takeMx g E _ (127) (127) _ _ HM1.out (by unfold wantOk; omega) (by decide) (by have := HN.out; omega)).mono ?_
      rintro e w2 ⟨⟨hb2, ht2⟩, hm2, v2, rfl, hv2⟩
      have HB2 : Hid (Below g w w2) := HB1.out.trans hb2
      have HT2 : Hid (Touch g w w2) := HT1.out.trans ht2
      have HM2 : Hid (Md w2 g E (N) (((((.ok s : Except Int St)).bind (takeI (126)))).bind (takeI (127)))) := hm2
      clear hb2 ht2 hm2 hv2
      go_wp2
      first
        | go_end0
        | refine bodyPost_ret (results_none rfl _ _ _) rfl ?_
      exact ⟨rfl, by
        have h := md_up HM2.out
        rw [← bind_takes2 (.ok s) 126 127, ← map_put64 ((Except.ok s).bind _)] at h
        rw [HE.out]
        exact h, HB2.out⟩
    · go_enter Tryz.func78, Tryz.ntmps78
      go_wp2_with fail
      refine (putM g E _ (127) _ _ HM0.out (by unfold putKOk; omega) (by have := HN.out; omega)).mono ?_
      rintro e w1 ⟨rfl, hm1, hb1⟩
      have HB1 : Hid (Below g w w1) := hb1
      have HM1 : Hid (Md w1 g E (N + 1) (((.ok s : Except Int St)).map (putI (127)))) := hm1
      clear hb1 hm1
      go_wp2
      first
        | go_end0
        | refine bodyPost_ret (results_none rfl _ _ _) rfl ?_
      exact ⟨rfl, by
        have h := HM1.out
        rw [HE.out]
        exact h, HB1.out⟩
    · go_enter Tryz.func78, Tryz.ntmps78
      go_wp2_with fail
      refine (turnM g E _ (127) (127) _ _ HM0.out (by unfold wantOk; omega) (by decide) (by unfold putKOk; omega) (by have := HN.out; omega)).mono ?_
      rintro e w1 ⟨rfl, hm1, hb1⟩
      have HB1 : Hid (Below g w w1) := hb1
      have HM1 : Hid (Md w1 g E (N + 1) ((((.ok s : Except Int St)).bind (takeI (127))).map (putI (127)))) := hm1
      clear hb1 hm1
      go_wp2
      first
        | go_end0
        | refine bodyPost_ret (results_none rfl _ _ _) rfl ?_
      exact ⟨rfl, by
        have h := HM1.out
        rw [HE.out]
        rw [← bind_takes1 (.ok s) 127] at h
        exact h, HB1.out⟩

end Go.Proofs.YtcgnefgdfgikdaaGreat

namespace Go.Proofs.YtcgnefgdfgikdaaGreat
open Go.ChangeShapes Go.WideShapes Go.ChangeAt Go.RowKit

theorem w64i (x k : Int) (h : x = k) (h0 : 0 ≤ k) (h1 : k ≤ 400) : wrap64 x = k := by subst h; unfold wrap64; omega

set_option maxRecDepth 100000 in
set_option maxHeartbeats 3200000 in
theorem numF (g : Nat) (E : EnvS) (N : Nat) (op k : Int) (s : St) (w : World) (h : Md w g E N (.ok s)) (hk : op - 160 = k) (hr : 1 ≤ k ∧ k ≤ 9) (hN : N ≤ 299) :
    Calls Tryz.prog 80 #[.pointer (some ⟨g, 0, none⟩), .int .i64 op] w fun e w' => OutPM w g E (N + 1) ((takes (floatEff k).1 s).map (putI (floatEff k).2)) e w' := by
  have HM0 : Hid (Md w g E N (.ok s)) := h
  have HN : Hid (N ≤ 299) := hN
  clear h hN
  have h1 : 160 < op := by omega
  have hr1 := hr.1
  have hr2 := hr.2
  have hw := w64i (op - 160) k hk (by omega) (by omega)
  clear hk
  by_cases h6 : k = 6
  · subst h6
    have HE : Hid (floatEff 6 = ([125], 125)) := rfl
    clear hr hr1 hr2
    go_enter Tryz.func80, Tryz.ntmps80
    go_wp2_with fail
    refine (takeMx g E _ (125) (125) _ _ HM0.out (by unfold wantOk; omega) (by decide) (by have := HN.out; omega)).mono ?_
    rintro e w1 ⟨⟨hb1, ht1⟩, hm1, v1, rfl, hv1⟩
    have HB1 : Hid (Below g w w1) := hb1
    have HT1 : Hid (Touch g w w1) := ht1
    have HM1 : Hid (Md w1 g E (N) (((.ok s : Except Int St)).bind (takeI (125)))) := hm1
    clear hb1 ht1 hm1 hv1
    go_wp2_with fail
    refine (putM g E _ (125) _ _ HM1.out (by unfold putKOk; omega) (by have := HN.out; omega)).mono ?_
    rintro e w2 ⟨rfl, hm2, hb2⟩
    have HB2 : Hid (Below g w w2) := HB1.out.trans hb2
    have HM2 : Hid (Md w2 g E (N + 1) (((((.ok s : Except Int St)).bind (takeI (125)))).map (putI (125)))) := hm2
    clear hb2 hm2
    go_wp2
    first
      | go_end0
      | refine bodyPost_ret (results_none rfl _ _ _) rfl ?_
    exact ⟨rfl, by
      have h := HM2.out
      rw [← bind_takes1 (.ok s) 125] at h
      rw [HE.out]
      exact h, HB2.out⟩
  · have h6b : (k == 6) = false := by simpa using h6
    have h6c : (k != 6) = true := by simpa using h6
    by_cases h7 : 6 < k
    · have HE : Hid (floatEff k = ([125, 125], 127)) := by unfold Hid floatEff; rw [if_neg h6, if_pos (by omega)]
      clear hr hr1 hr2
      go_enter Tryz.func80, Tryz.ntmps80
      go_wp2_with fail
      refine (takeMx g E _ (125) (125) _ _ HM0.out (by unfold wantOk; omega) (by decide) (by have := HN.out; omega)).mono ?_
      rintro e w1 ⟨⟨hb1, ht1⟩, hm1, v1, rfl, hv1⟩
      have HB1 : Hid (Below g w w1) := hb1
      have HT1 : Hid (Touch g w w1) := ht1
      have HM1 : Hid (Md w1 g E (N) (((.ok s : Except Int St)).bind (takeI (125)))) := hm1
      clear hb1 ht1 hm1 hv1
      go_wp2_with fail
      refine (takeMx g E _ (125) (125) _ _ HM1.out (by unfold wantOk; omega) (by decide) (by have := HN.out; omega)).mono ?_
      rintro e w2 ⟨⟨hb2, ht2⟩, hm2, v2, rfl, hv2⟩
      have HB2 : Hid (Below g w w2) := HB1.out.trans hb2
      have HT2 : Hid (Touch g w w2) := HT1.out.trans ht2
      have HM2 : Hid (Md w2 g E (N) (((((.ok s : Except Int St)).bind (takeI (125)))).bind (takeI (125)))) := hm2
      clear hb2 ht2 hm2 hv2
      go_wp2_with fail
      refine (putM g E _ (127) _ _ HM2.out (by unfold putKOk; omega) (by have := HN.out; omega)).mono ?_
      rintro e w3 ⟨rfl, hm3, hb3⟩
      have HB3 : Hid (Below g w w3) := HB2.out.trans hb3
      have HM3 : Hid (Md w3 g E (N + 1) (((((((.ok s : Except Int St)).bind (takeI (125)))).bind (takeI (125)))).map (putI (127)))) := hm3
      clear hb3 hm3
      go_wp2
      first
        | go_end0
        | refine bodyPost_ret (results_none rfl _ _ _) rfl ?_
      exact ⟨rfl, by
        have h := HM3.out
        rw [← bind_takes2 (.ok s) 125 125] at h
        rw [HE.out]
        exact h, HB3.out⟩
    · have HE : Hid (floatEff k = ([125, 125], 125)) := by unfold Hid floatEff; rw [if_neg h6, if_neg (by omega)]
      have h8 : k ≤ 6 := by omega
      clear hr hr1 hr2
      go_enter Tryz.func80, Tryz.ntmps80
      go_wp2_with fail
      refine (takeMx g E _ (125) (125) _ _ HM0.out (by unfold wantOk; omega) (by decide) (by have := HN.out; omega)).mono ?_
      rintro e w1 ⟨⟨hb1, ht1⟩, hm1, v1, rfl, hv1⟩
      have HB1 : Hid (Below g w w1) := hb1
      have HT1 : Hid (Touch g w w1) := ht1
      have HM1 : Hid (Md w1 g E (N) (((.ok s : Except Int St)).bind (takeI (125)))) := hm1
      clear hb1 ht1 hm1 hv1
      go_wp2_with fail
      refine (takeMx g E _ (125) (125) _ _ HM1.out (by unfold wantOk; omega) (by decide) (by have := HN.out; omega)).mono ?_
      rintro e w2 ⟨⟨hb2, ht2⟩, hm2, v2, rfl, hv2⟩
      have HB2 : Hid (Below g w w2) := HB1.out.trans hb2
      have HT2 : Hid (Touch g w w2) := HT1.out.trans ht2
      have HM2 : Hid (Md w2 g E (N) (((((.ok s : Except Int St)).bind (takeI (125)))).bind (takeI (125)))) := hm2
      clear hb2 ht2 hm2 hv2
      go_wp2_with fail
      refine (putM g E _ (125) _ _ HM2.out (by unfold putKOk; omega) (by have := HN.out; omega)).mono ?_
      rintro e w3 ⟨rfl, hm3, hb3⟩
      have HB3 : Hid (Below g w w3) := HB2.out.trans hb3
      have HM3 : Hid (Md w3 g E (N + 1) (((((((.ok s : Except Int St)).bind (takeI (125)))).bind (takeI (125)))).map (putI (125)))) := hm3
      clear hb3 hm3
      go_wp2
      first
        | go_end0
        | refine bodyPost_ret (results_none rfl _ _ _) rfl ?_
      exact ⟨rfl, by
        have h := HM3.out
        rw [← bind_takes2 (.ok s) 125 125] at h
        rw [HE.out]
        exact h, HB3.out⟩

set_option maxRecDepth 100000 in
set_option maxHeartbeats 3200000 in
theorem num32 (g : Nat) (E : EnvS) (N : Nat) (op k : Int) (s : St) (w : World) (h : Md w g E N (.ok s)) (hk : op - 96 = k) (hr : 1 ≤ k ∧ k ≤ 27) (hN : N ≤ 299) :
    Calls Tryz.prog 80 #[.pointer (some ⟨g, 0, none⟩), .int .i64 op] w fun e w' => OutPM w g E (N + 1) ((takes (intEff k 127).1 s).map (putI (intEff k 127).2)) e w' := by
  have HM0 : Hid (Md w g E N (.ok s)) := h
  have HN : Hid (N ≤ 299) := hN
  clear h hN
  have h1 : op ≤ 160 := by omega
  have h1b : ¬ 160 < op := by omega
  have h2 : op ≤ 128 := by omega
  have h2b : ¬ 128 < op := by omega
  have hr1 := hr.1
  have hr2 := hr.2
  have hw := w64i (op - 96) k hk (by omega) (by omega)
  clear hk
  rcases (show k < 16 ∨ (16 ≤ k ∧ k ≤ 21) ∨ k = 25 ∨ (21 < k ∧ ¬ k = 25) by omega) with hA | hA | hA | hA
  · have HE : Hid (intEff k 127 = ([127, 127], 127)) := by unfold Hid intEff; rw [if_pos (by omega)]
    have HI : Hid ((decide (16 ≤ k) && decide (k ≤ 21)) = false) := by unfold Hid; simp; omega
    have hle : k ≤ 21 := by omega
    have h25 : (k == 25) = false := by simp; omega
    clear hr hr1 hr2 hA
    go_enter Tryz.func80, Tryz.ntmps80
    go_wp2_with fail
    refine (takeMx g E _ (127) (127) _ _ HM0.out (by unfold wantOk; omega) (by decide) (by have := HN.out; omega)).mono ?_
    rintro e w1 ⟨⟨hb1, ht1⟩, hm1, v1, rfl, hv1⟩
    have HB1 : Hid (Below g w w1) := hb1
    have HT1 : Hid (Touch g w w1) := ht1
    have HM1 : Hid (Md w1 g E (N) (((.ok s : Except Int St)).bind (takeI (127)))) := hm1
    clear hb1 ht1 hm1 hv1
    go_wp2_with fail
    refine (takeMx g E _ (127) (127) _ _ HM1.out (by unfold wantOk; omega) (by decide) (by have := HN.out; omega)).mono ?_
    rintro e w2 ⟨⟨hb2, ht2⟩, hm2, v2, rfl, hv2⟩
    have HB2 : Hid (Below g w w2) := HB1.out.trans hb2
    have HT2 : Hid (Touch g w w2) := HT1.out.trans ht2
    have HM2 : Hid (Md w2 g E (N) (((((.ok s : Except Int St)).bind (takeI (127)))).bind (takeI (127)))) := hm2
    clear hb2 ht2 hm2 hv2
    go_wp2_with (go_at_call 16; refine (in_eq _ _ _ _ (by assumption) _).mono ?_; rintro e w9 ⟨rfl, hw⟩; obtain rfl := hw.symm)
    refine (putM g E _ (127) _ _ HM2.out (by unfold putKOk; omega) (by have := HN.out; omega)).mono ?_
    rintro e w3 ⟨rfl, hm3, hb3⟩
    have HB3 : Hid (Below g w w3) := HB2.out.trans hb3
    have HM3 : Hid (Md w3 g E (N + 1) (((((((.ok s : Except Int St)).bind (takeI (127)))).bind (takeI (127)))).map (putI (127)))) := hm3
    clear hb3 hm3
    go_wp2
    first
      | go_end0
      | refine bodyPost_ret (results_none rfl _ _ _) rfl ?_
    exact ⟨rfl, by
      have h := HM3.out
      rw [← bind_takes2 (.ok s) 127 127] at h
      rw [HE.out]
      exact h, HB3.out⟩
  · have HE : Hid (intEff k 127 = ([127, 127], 127)) := by unfold Hid intEff; rw [if_neg (by omega), if_pos (by omega)]
    have HI : Hid ((decide (16 ≤ k) && decide (k ≤ 21)) = true) := by unfold Hid; simp; omega
    have hle : k ≤ 21 := by omega
    clear hr hr1 hr2 hA
    go_enter Tryz.func80, Tryz.ntmps80
    go_wp2_with fail
    refine (takeMx g E _ (127) (127) _ _ HM0.out (by unfold wantOk; omega) (by decide) (by have := HN.out; omega)).mono ?_
    rintro e w1 ⟨⟨hb1, ht1⟩, hm1, v1, rfl, hv1⟩
    have HB1 : Hid (Below g w w1) := hb1
    have HT1 : Hid (Touch g w w1) := ht1
    have HM1 : Hid (Md w1 g E (N) (((.ok s : Except Int St)).bind (takeI (127)))) := hm1
    clear hb1 ht1 hm1 hv1
    go_wp2_with fail
    refine (takeMx g E _ (127) (127) _ _ HM1.out (by unfold wantOk; omega) (by decide) (by have := HN.out; omega)).mono ?_
    rintro e w2 ⟨⟨hb2, ht2⟩, hm2, v2, rfl, hv2⟩
    have HB2 : Hid (Below g w w2) := HB1.out.trans hb2
    have HT2 : Hid (Touch g w w2) := HT1.out.trans ht2
    have HM2 : Hid (Md w2 g E (N) (((((.ok s : Except Int St)).bind (takeI (127)))).bind (takeI (127)))) := hm2
    clear hb2 ht2 hm2 hv2
    go_wp2_with (go_at_call 16; refine (in_eq _ _ _ _ (by assumption) _).mono ?_; rintro e w9 ⟨rfl, hw⟩; obtain rfl := hw.symm)
    refine (putM g E _ (127) _ _ HM2.out (by unfold putKOk; omega) (by have := HN.out; omega)).mono ?_
    rintro e w3 ⟨rfl, hm3, hb3⟩
    have HB3 : Hid (Below g w w3) := HB2.out.trans hb3
    have HM3 : Hid (Md w3 g E (N + 1) (((((((.ok s : Except Int St)).bind (takeI (127)))).bind (takeI (127)))).map (putI (127)))) := hm3
    clear hb3 hm3
    go_wp2
    first
      | go_end0
      | refine bodyPost_ret (results_none rfl _ _ _) rfl ?_
    exact ⟨rfl, by
      have h := HM3.out
      rw [← bind_takes2 (.ok s) 127 127] at h
      rw [HE.out]
      exact h, HB3.out⟩
  · have HE : Hid (intEff k 127 = ([127], 127)) := by unfold Hid intEff; rw [if_neg (by omega), if_neg (by omega), if_pos (by omega)]
    have HI : Hid ((decide (16 ≤ k) && decide (k ≤ 21)) = false) := by unfold Hid; simp; omega
    have hle : ¬ k ≤ 21 := by omega
    have hle2 : 21 < k := by omega
    subst hA
    clear hr hr1 hr2
    go_enter Tryz.func80, Tryz.ntmps80
    go_wp2_with fail
    refine (takeMx g E _ (127) (127) _ _ HM0.out (by unfold wantOk; omega) (by decide) (by have := HN.out; omega)).mono ?_
    rintro e w1 ⟨⟨hb1, ht1⟩, hm1, v1, rfl, hv1⟩
    have HB1 : Hid (Below g w w1) := hb1
    have HT1 : Hid (Touch g w w1) := ht1
    have HM1 : Hid (Md w1 g E (N) (((.ok s : Except Int St)).bind (takeI (127)))) := hm1
    clear hb1 ht1 hm1 hv1
    go_wp2_with (go_at_call 16; refine (in_eq _ _ _ _ (by assumption) _).mono ?_; rintro e w9 ⟨rfl, hw⟩; obtain rfl := hw.symm)
    refine (putM g E _ (127) _ _ HM1.out (by unfold putKOk; omega) (by have := HN.out; omega)).mono ?_
    rintro e w2 ⟨rfl, hm2, hb2⟩
    have HB2 : Hid (Below g w w2) := HB1.out.trans hb2
    have HM2 : Hid (Md w2 g E (N + 1) (((((.ok s : Except Int St)).bind (takeI (127)))).map (putI (127)))) := hm2
    clear hb2 hm2
    go_wp2
    first
      | go_end0
      | refine bodyPost_ret (results_none rfl _ _ _) rfl ?_
    exact ⟨rfl, by
      have h := HM2.out
      rw [← bind_takes1 (.ok s) 127] at h
      rw [HE.out]
      exact h, HB2.out⟩
  · have HE : Hid (intEff k 127 = ([127], 127)) := by unfold Hid intEff; rw [if_neg (by omega), if_neg (by omega), if_neg (by omega)]
    have HI : Hid ((decide (16 ≤ k) && decide (k ≤ 21)) = false) := by unfold Hid; simp; omega
    have hle : ¬ k ≤ 21 := by omega
    have hle2 : 21 < k := by omega
    have h25 : (k == 25) = false := by simp; omega
    clear hr hr1 hr2 hA
    go_enter Tryz.func80, Tryz.ntmps80
    go_wp2_with fail
    refine (takeMx g E _ (127) (127) _ _ HM0.out (by unfold wantOk; omega) (by decide) (by have := HN.out; omega)).mono ?_
    rintro e w1 ⟨⟨hb1, ht1⟩, hm1, v1, rfl, hv1⟩
    have HB1 : Hid (Below g w w1) := hb1
    have HT1 : Hid (Touch g w w1) := ht1
    have HM1 : Hid (Md w1 g E (N) (((.ok s : Except Int St)).bind (takeI (127)))) := hm1
    clear hb1 ht1 hm1 hv1
    go_wp2_with (go_at_call 16; refine (in_eq _ _ _ _ (by assumption) _).mono ?_; rintro e w9 ⟨rfl, hw⟩; obtain rfl := hw.symm)
    refine (putM g E _ (127) _ _ HM1.out (by unfold putKOk; omega) (by have := HN.out; omega)).mono ?_
    rintro e w2 ⟨rfl, hm2, hb2⟩
    have HB2 : Hid (Below g w w2) := HB1.out.trans hb2
    have HM2 : Hid (Md w2 g E (N + 1) (((((.ok s : Except Int St)).bind (takeI (127)))).map (putI (127)))) := hm2
    clear hb2 hm2
    go_wp2
    first
      | go_end0
      | refine bodyPost_ret (results_none rfl _ _ _) rfl ?_
    exact ⟨rfl, by
      have h := HM2.out
      rw [← bind_takes1 (.ok s) 127] at h
      rw [HE.out]
      exact h, HB2.out⟩

set_option maxRecDepth 100000 in
set_option maxHeartbeats 3200000 in
theorem num64 (g : Nat) (E : EnvS) (N : Nat) (op k : Int) (s : St) (w : World) (h : Md w g E N (.ok s)) (hk : op - 128 = k) (hr : 1 ≤ k ∧ k ≤ 27) (hN : N ≤ 299) :
    Calls Tryz.prog 80 #[.pointer (some ⟨g, 0, none⟩), .int .i64 op] w fun e w' => OutPM w g E (N + 1) ((takes (intEff k 126).1 s).map (putI (intEff k 126).2)) e w' := by
  have HM0 : Hid (Md w g E N (.ok s)) := h
  have HN : Hid (N ≤ 299) := hN
  clear h hN
  have h1 : op ≤ 160 := by omega
  have h1b : ¬ 160 < op := by omega
  have h2 : 128 < op := by omega
  have hr1 := hr.1
  have hr2 := hr.2
  have hw := w64i (op - 128) k hk (by omega) (by omega)
  subst hk; clear hw
  rcases (show (op - 128) < 16 ∨ (16 ≤ (op - 128) ∧ (op - 128) ≤ 21) ∨ (op - 128) = 25 ∨ (21 < (op - 128) ∧ ¬ (op - 128) = 25) by omega) with hA | hA | hA | hA
  · have HE : Hid (intEff (op - 128) 126 = ([126, 126], 126)) := by unfold Hid intEff; rw [if_pos (by omega)]
    have HI : Hid ((decide (16 ≤ (op - 128)) && decide ((op - 128) ≤ 21)) = false) := by unfold Hid; simp; omega
    have hle : (op - 128) ≤ 21 := by omega
    have h25 : ((op - 128) == 25) = false := by simp; omega
    clear hr hr1 hr2 hA
    go_enter Tryz.func80, Tryz.ntmps80
    go_wp2_with fail
    refine (takeMx g E _ (126) (126) _ _ HM0.out (by unfold wantOk; omega) (by decide) (by have := HN.out; omega)).mono ?_
    rintro e w1 ⟨⟨hb1, ht1⟩, hm1, v1, rfl, hv1⟩
    have HB1 : Hid (Below g w w1) := hb1
    have HT1 : Hid (Touch g w w1) := ht1
    have HM1 : Hid (Md w1 g E (N) (((.ok s : Except Int St)).bind (takeI (126)))) := hm1
    clear hb1 ht1 hm1 hv1
    go_wp2_with fail
    refine (takeMx g E _ (126) (126) _ _ HM1.out (by unfold wantOk; omega) (by decide) (by have := HN.out; omega)).mono ?_
    rintro e w2 ⟨⟨hb2, ht2⟩, hm2, v2, rfl, hv2⟩
    have HB2 : Hid (Below g w w2) := HB1.out.trans hb2
    have HT2 : Hid (Touch g w w2) := HT1.out.trans ht2
    have HM2 : Hid (Md w2 g E (N) (((((.ok s : Except Int St)).bind (takeI (126)))).bind (takeI (126)))) := hm2
    clear hb2 ht2 hm2 hv2
    go_wp2_with (go_at_call 16; refine (in_eq _ _ _ _ (by assumption) _).mono ?_; rintro e w9 ⟨rfl, hw⟩; obtain rfl := hw.symm)
    refine (putM g E _ (126) _ _ HM2.out (by unfold putKOk; omega) (by have := HN.out; omega)).mono ?_
    rintro e w3 ⟨rfl, hm3, hb3⟩
    have HB3 : Hid (Below g w w3) := HB2.out.trans hb3
    have HM3 : Hid (Md w3 g E (N + 1) (((((((.ok s : Except Int St)).bind (takeI (126)))).bind (takeI (126)))).map (putI (126)))) := hm3
    clear hb3 hm3
    go_wp2
    first
      | go_end0
      | refine bodyPost_ret (results_none rfl _ _ _) rfl ?_
    exact ⟨rfl, by
      have h := HM3.out
      rw [← bind_takes2 (.ok s) 126 126] at h
      rw [HE.out]
      exact h, HB3.out⟩
  · have HE : Hid (intEff (op - 128) 126 = ([126, 126], 127)) := by unfold Hid intEff; rw [if_neg (by omega), if_pos (by omega)]
    have HI : Hid ((decide (16 ≤ (op - 128)) && decide ((op - 128) ≤ 21)) = true) := by unfold Hid; simp; omega
    have hle : (op - 128) ≤ 21 := by omega
    clear hr hr1 hr2 hA
    go_enter Tryz.func80, Tryz.ntmps80
    go_wp2_with fail
    refine (takeMx g E _ (126) (126) _ _ HM0.out (by unfold wantOk; omega) (by decide) (by have := HN.out; omega)).mono ?_
    rintro e w1 ⟨⟨hb1, ht1⟩, hm1, v1, rfl, hv1⟩
    have HB1 : Hid (Below g w w1) := hb1
    have HT1 : Hid (Touch g w w1) := ht1
    have HM1 : Hid (Md w1 g E (N) (((.ok s : Except Int St)).bind (takeI (126)))) := hm1
    clear hb1 ht1 hm1 hv1
    go_wp2_with fail
    refine (takeMx g E _ (126) (126) _ _ HM1.out (by unfold wantOk; omega) (by decide) (by have := HN.out; omega)).mono ?_
    rintro e w2 ⟨⟨hb2, ht2⟩, hm2, v2, rfl, hv2⟩
    have HB2 : Hid (Below g w w2) := HB1.out.trans hb2
    have HT2 : Hid (Touch g w w2) := HT1.out.trans ht2
    have HM2 : Hid (Md w2 g E (N) (((((.ok s : Except Int St)).bind (takeI (126)))).bind (takeI (126)))) := hm2
    clear hb2 ht2 hm2 hv2
    go_wp2_with (go_at_call 16; refine (in_eq _ _ _ _ (by assumption) _).mono ?_; rintro e w9 ⟨rfl, hw⟩; obtain rfl := hw.symm)
    refine (putM g E _ (127) _ _ HM2.out (by unfold putKOk; omega) (by have := HN.out; omega)).mono ?_
    rintro e w3 ⟨rfl, hm3, hb3⟩
    have HB3 : Hid (Below g w w3) := HB2.out.trans hb3
    have HM3 : Hid (Md w3 g E (N + 1) (((((((.ok s : Except Int St)).bind (takeI (126)))).bind (takeI (126)))).map (putI (127)))) := hm3
    clear hb3 hm3
    go_wp2
    first
      | go_end0
      | refine bodyPost_ret (results_none rfl _ _ _) rfl ?_
    exact ⟨rfl, by
      have h := HM3.out
      rw [← bind_takes2 (.ok s) 126 126] at h
      rw [HE.out]
      exact h, HB3.out⟩
  · have HE : Hid (intEff (op - 128) 126 = ([126], 127)) := by unfold Hid intEff; rw [if_neg (by omega), if_neg (by omega), if_pos (by omega)]
    have HI : Hid ((decide (16 ≤ (op - 128)) && decide ((op - 128) ≤ 21)) = false) := by unfold Hid; simp; omega
    have hle : ¬ (op - 128) ≤ 21 := by omega
    have hle2 : 21 < (op - 128) := by omega
    obtain rfl : op = 153 := by omega
    clear hr hr1 hr2 hA
    go_enter Tryz.func80, Tryz.ntmps80
    go_wp2_with fail
    refine (takeMx g E _ (126) (126) _ _ HM0.out (by unfold wantOk; omega) (by decide) (by have := HN.out; omega)).mono ?_
    rintro e w1 ⟨⟨hb1, ht1⟩, hm1, v1, rfl, hv1⟩
    have HB1 : Hid (Below g w w1) := hb1
    have HT1 : Hid (Touch g w w1) := ht1
    have HM1 : Hid (Md w1 g E (N) (((.ok s : Except Int St)).bind (takeI (126)))) := hm1
    clear hb1 ht1 hm1 hv1
    go_wp2_with (go_at_call 16; refine (in_eq _ _ _ _ (by assumption) _).mono ?_; rintro e w9 ⟨rfl, hw⟩; obtain rfl := hw.symm)
    refine (putM g E _ (127) _ _ HM1.out (by unfold putKOk; omega) (by have := HN.out; omega)).mono ?_
    rintro e w2 ⟨rfl, hm2, hb2⟩
    have HB2 : Hid (Below g w w2) := HB1.out.trans hb2
    have HM2 : Hid (Md w2 g E (N + 1) (((((.ok s : Except Int St)).bind (takeI (126)))).map (putI (127)))) := hm2
    clear hb2 hm2
    go_wp2
    first
      | go_end0
      | refine bodyPost_ret (results_none rfl _ _ _) rfl ?_
    exact ⟨rfl, by
      have h := HM2.out
      rw [← bind_takes1 (.ok s) 126] at h
      rw [HE.out]
      exact h, HB2.out⟩
  · have HE : Hid (intEff (op - 128) 126 = ([126], 126)) := by unfold Hid intEff; rw [if_neg (by omega), if_neg (by omega), if_neg (by omega)]
    have HI : Hid ((decide (16 ≤ (op - 128)) && decide ((op - 128) ≤ 21)) = false) := by unfold Hid; simp; omega
    have hle : ¬ (op - 128) ≤ 21 := by omega
    have hle2 : 21 < (op - 128) := by omega
    have h25 : ((op - 128) == 25) = false := by simp; omega
    clear hr hr1 hr2 hA
    go_enter Tryz.func80, Tryz.ntmps80
    go_wp2_with fail
    refine (takeMx g E _ (126) (126) _ _ HM0.out (by unfold wantOk; omega) (by decide) (by have := HN.out; omega)).mono ?_
    rintro e w1 ⟨⟨hb1, ht1⟩, hm1, v1, rfl, hv1⟩
    have HB1 : Hid (Below g w w1) := hb1
    have HT1 : Hid (Touch g w w1) := ht1
    have HM1 : Hid (Md w1 g E (N) (((.ok s : Except Int St)).bind (takeI (126)))) := hm1
    clear hb1 ht1 hm1 hv1
    go_wp2_with (go_at_call 16; refine (in_eq _ _ _ _ (by assumption) _).mono ?_; rintro e w9 ⟨rfl, hw⟩; obtain rfl := hw.symm)
    refine (putM g E _ (126) _ _ HM1.out (by unfold putKOk; omega) (by have := HN.out; omega)).mono ?_
    rintro e w2 ⟨rfl, hm2, hb2⟩
    have HB2 : Hid (Below g w w2) := HB1.out.trans hb2
    have HM2 : Hid (Md w2 g E (N + 1) (((((.ok s : Except Int St)).bind (takeI (126)))).map (putI (126)))) := hm2
    clear hb2 hm2
    go_wp2
    first
      | go_end0
      | refine bodyPost_ret (results_none rfl _ _ _) rfl ?_
    exact ⟨rfl, by
      have h := HM2.out
      rw [← bind_takes1 (.ok s) 126] at h
      rw [HE.out]
      exact h, HB2.out⟩

end Go.Proofs.YtcgnefgdfgikdaaGreat

namespace Go.Proofs.YtcgnefgdfgikdaaGreat
open Go.ChangeShapes Go.WideShapes Go.ChangeAt Go.RowKit

def OutWS (w : World) (g : Nat) (E : EnvS) (N : Nat) (s : St) (r : Except Int Int) (e : Ending) (w' : World) : Prop :=
  (Below g w w' ∧ Touch g w w') ∧ match r with
    | .ok k => e = .returned (.int .i64 k) ∧ Md w' g E N (.ok s)
    | .error c => e = .returned (.int .i64 64) ∧ Md w' g E N (.error c)

set_option maxRecDepth 100000 in
set_option maxHeartbeats 1600000 in
theorem wantsM (g : Nat) (E : EnvS) (N : Nat) (s : St) (a : Nat) (w : World) (hmd : Md w g E N (.ok s)) :
    Calls Tryz.prog 60 #[.pointer (some ⟨g, 0, none⟩), .int .i64 (a : Int)] w fun e w' => OutWS w g E N s (wantsS (a : Int) s) e w' := by
  have HMD : Hid (Md w g E N (.ok s)) := hmd
  have BD := badM g E N 4 s w hmd (by decide)
  obtain ⟨⟨vf, vs, h0, _, h2⟩, _, hbd⟩ := hmd
  obtain ⟨n, hn⟩ : ∃ n, s.opn.length = n := ⟨_, rfl⟩
  rw [hn] at h2
  have hn0 : 0 < n := by rw [← hn]; exact List.length_pos_iff.2 hbd.ne
  have hn2 : n ≤ 300 := by have := hbd.no; omega
  obtain ⟨gf, cf, rfl, hcf⟩ := own_pos h2 hn0
  have hlt := lt_of_block h0
  have HLT : Hid (g < w.heap.size) := hlt
  have c0 : w.cell? ⟨g, 11, none⟩ = some (.slice (some ⟨gf, 0, none⟩) n cf) := by rw [cell_of_block h0]; rfl
  by_cases ha : a < n
  · obtain ⟨b, hb⟩ : ∃ b, s.opn[a]? = some b := ⟨_, List.getElem?_eq_getElem (by omega)⟩
    have HW : Hid (wantsS (a : Int) s = if b.op = 3 then .ok 64 else .ok b.kind) := by unfold Hid wantsS; rw [Int.toNat_natCast, hb]
    obtain ⟨q, hq⟩ : ∃ q, n = a + 1 + q := ⟨n - (a + 1), by omega⟩
    have e4 : ∀ j u, j < 5 → (fv5 b)[j]? = some u → w.cell? ⟨gf, q * 5 + j, none⟩ = some u := fun j u hj hu => (own_cell h2 (by have h := fvS_far s.opn a b hb j hj; rw [hn, show n - 1 - a = q by omega] at h; rw [h]; exact hu)).1
    have d0 := e4 0 _ (by omega) rfl
    have d1 := e4 1 _ (by omega) rfl
    have d2 := e4 2 _ (by omega) rfl
    have d3 := e4 3 _ (by omega) rfl
    have d4 := e4 4 _ (by omega) rfl
    simp only [Nat.add_zero] at d0
    have hltF := (show gf < w.heap.size by obtain ⟨cur, hc, _⟩ := own_at h2 (g := gf) rfl; exact lt_of_block hc)
    have k0 : ∀ w', Keeps w w' → w'.cell? ⟨g, 11, none⟩ = some (.slice (some ⟨gf, 0, none⟩) n cf) := fun w' h => h.cell hlt c0
    have y0 : ∀ w', Keeps w w' → w'.cell? ⟨gf, q * 5, none⟩ = some _ := fun w' h => h.cell hltF d0
    have y1 : ∀ w', Keeps w w' → w'.cell? ⟨gf, q * 5 + 1, none⟩ = some _ := fun w' h => h.cell hltF d1
    have y2 : ∀ w', Keeps w w' → w'.cell? ⟨gf, q * 5 + 2, none⟩ = some _ := fun w' h => h.cell hltF d2
    have y3 : ∀ w', Keeps w w' → w'.cell? ⟨gf, q * 5 + 3, none⟩ = some _ := fun w' h => h.cell hltF d3
    have y4 : ∀ w', Keeps w w' → w'.cell? ⟨gf, q * 5 + 4, none⟩ = some _ := fun w' h => h.cell hltF d4
    have ha2 : ¬ (n : Int) ≤ (a : Int) := by omega
    have i1 : IntKind.i64.wrap ((n : Int) - 1) = (n : Int) - 1 := IntWalk.i64_in _ ⟨by omega, by omega⟩
    have i2 : IntKind.i64.wrap ((n : Int) - 1 - (a : Int)) = (q : Int) := by rw [show (n : Int) - 1 - (a : Int) = (q : Int) by omega]; exact IntWalk.i64_in _ ⟨by omega, by omega⟩
    have hqn : (q : Int) < (n : Int) := by omega
    have hq0 : (0 : Int) ≤ (q : Int) := by omega
    obtain ⟨o1, ho1⟩ : ∃ x, b.op = x := ⟨_, rfl⟩
    obtain ⟨o2, ho2⟩ : ∃ x, b.kind = x := ⟨_, rfl⟩
    obtain ⟨o3, ho3⟩ : ∃ x, (b.h : Int) = x := ⟨_, rfl⟩
    obtain ⟨o4, ho4⟩ : ∃ x, b.dead = x := ⟨_, rfl⟩
    obtain ⟨o5, ho5⟩ : ∃ x, b.split = x := ⟨_, rfl⟩
    rw [ho1] at y0
    rw [ho2] at y1
    rw [ho3] at y2
    rw [ho4] at y3
    rw [ho5] at y4
    have HO : Hid (b.op = o1 ∧ b.kind = o2) := ⟨ho1, ho2⟩
    clear d0 d1 d2 d3 d4 e4 h0 h2 hn2 ha hq hcf hn0 hn hb hlt hltF c0 ho1 ho2 ho3 ho4 ho5 BD hbd
    go_enter Tryz.func60, Tryz.ntmps60
    have c0 := k0 w ⟨Below.refl _ _⟩
    go_wp2_with fail
    clear c0 ha2
    refine region_m (C := KeepsM w (.cells #[.int .i64 0, .int .i64 0, .int .i64 0, .bool false, .bool false] 99)) 15 14 (by kernel_rfl) (by kernel_rfl) (KeepsM.start w _) ?_
    simp only [List.take_succ_cons, List.take_zero, List.drop_succ_cons, List.drop_zero]
    (iterate 14
    (apply wm_go _ (by omega) (by rfl)
     · intro M wq hq
       have hx := hq.keeps
       go_simp
       exact uponF_value hq rfl
     simp only [Act.put, List.setIfInBounds_toArray, List.set_cons_succ, List.set_cons_zero]))
    refine wm_make (by omega) (by rfl) (fun M wq hq => ⟨wq.heap.size, ?_⟩) (fun b9 => ?_)
    · go_simp
      exact uponF_value (hq.make 14) rfl
    simp only [Act.put, List.setIfInBounds_toArray, List.set_cons_succ, List.set_cons_zero, ptrTo]
    refine wm_nil ?_
    intro w2 hk
    obtain ⟨u1, u2, u3⟩ := hk.made 14 b9 (by simp [updM])
    have z0 : w2.cell? ⟨b9, 0, none⟩ = some (.int .i64 0) := by simp [World.cell?, u3]
    have z1 : w2.cell? ⟨b9, 1, none⟩ = some (.int .i64 0) := by simp [World.cell?, u3]
    have z2 : w2.cell? ⟨b9, 2, none⟩ = some (.int .i64 0) := by simp [World.cell?, u3]
    have z3 : w2.cell? ⟨b9, 3, none⟩ = some (.bool false) := by simp [World.cell?, u3]
    have z4 : w2.cell? ⟨b9, 4, none⟩ = some (.bool false) := by simp [World.cell?, u3]
    have fz : ∀ j, w2.frozen? ⟨b9, j, none⟩ = false := fun j => by simp [World.frozen?, u3]
    have HBz : Hid (Below w.heap.size w (((((w2.setCell ⟨b9, 0, none⟩ (.int .i64 o1)).setCell ⟨b9, 1, none⟩ (.int .i64 o2)).setCell ⟨b9, 2, none⟩ (.int .i64 o3)).setCell ⟨b9, 3, none⟩ (.bool o4)).setCell ⟨b9, 4, none⟩ (.bool o5))) := ((((hk.keeps.below.setCell u1 _).setCell u1 _).setCell u1 _).setCell u1 _).setCell u1 _
    clear hk u1 u2 u3 k0 y0 y1 y2 y3 y4
    by_cases h3 : o1 = 3
    · subst h3
      have HW2 : Hid (wantsS (a : Int) s = .ok 64) := by unfold Hid; rw [HW.out, if_pos HO.out.1]
      go_wp2
      go_ret
      exact ⟨⟨HBz.out.mono (Nat.le_of_lt HLT.out), touch_below HBz.out⟩, by rw [HW2.out]; exact ⟨rfl, HMD.out.keep HBz.out⟩⟩
    · have e3 : (o1 == 3) = false := by simpa using h3
      have HW2 : Hid (wantsS (a : Int) s = .ok o2) := by unfold Hid; rw [HW.out, if_neg (by rw [HO.out.1]; exact h3), HO.out.2]
      clear h3
      go_wp2
      go_ret
      exact ⟨⟨HBz.out.mono (Nat.le_of_lt HLT.out), touch_below HBz.out⟩, by rw [HW2.out]; exact ⟨rfl, HMD.out.keep HBz.out⟩⟩
  · have ha2 : (n : Int) ≤ (a : Int) := by omega
    have HW : Hid (wantsS (a : Int) s = .error 4) := by unfold Hid wantsS; rw [Int.toNat_natCast, List.getElem?_eq_none (by omega)]
    clear h0 h2 hn hn0 hn2 hcf hbd
    go_enter Tryz.func60, Tryz.ntmps60
    go_wp2_with fail
    refine BD.mono ?_
    rintro e w1 ⟨⟨rfl, hm1, hb1⟩, ht1⟩
    have HM1 : Hid (Md w1 g E N (.error 4)) := hm1
    have HB1 : Hid (Below g w w1 ∧ Touch g w w1) := ⟨hb1, ht1⟩
    clear BD hm1 hb1 ht1
    go_wp2
    go_ret
    exact ⟨HB1.out, by rw [HW.out]; exact ⟨rfl, HM1.out⟩⟩

/-- A block's cells are read into a new variable: what holds behind. -/
structure Read (w w' : World) (b9 : Nat) (b : Blk) : Prop where
  blk : w'.heap[b9]? = some (.cells #[.int .i64 b.op, .int .i64 b.kind, .int .i64 (b.h : Int), .bool b.dead, .bool b.split] 99 (0, 0))
  bel : Below w.heap.size w w'
  new : w.heap.size ≤ b9

set_option maxRecDepth 100000 in
set_option maxHeartbeats 3200000 in
theorem closeM (g : Nat) (E : EnvS) (N : Nat) (s : St) (b : Blk) (r : List Blk) (w : World) (hmd : Md w g E N (.ok s)) (hs : s.opn = b :: r) (hk : putKOk b.kind) (hN : N ≤ 299) :
    Calls Tryz.prog 58 #[.pointer (some ⟨g, 0, none⟩)] w fun e w' => (OutPM w g E N (closeS s) e w' ∧ Touch g w w') := by
  have HMD : Hid (Md w g E N (.ok s)) := hmd
  have HN : Hid (N ≤ 299) := hN
  obtain ⟨⟨vf, hc⟩, hgd, hbd⟩ := hmd
  obtain ⟨gf, cf, a, cs, rfl, H⟩ := hc.top hs
  have hlt := lt_of_block H.blk
  obtain ⟨m, hm⟩ : ∃ m, r.length = m := ⟨_, rfl⟩
  have hm4 : m ≤ 400 := by have := hbd.no; rw [hs, List.length_cons] at this; omega
  have hltF := (show gf < w.heap.size by obtain ⟨cur, hc, _⟩ := own_at H.fr (g := gf) rfl; exact lt_of_block hc)
  have c11 : w.cell? ⟨g, 11, none⟩ = some (.slice (some ⟨gf, 0, none⟩) (m + 1) cf) := by rw [cell_of_block H.blk, ← hm]; rfl
  obtain ⟨⟨y0, y1, y2, y3, y4⟩, _⟩ := H.cells
  rw [hm] at y0 y1 y2 y3 y4
  obtain ⟨o0, ho0⟩ : ∃ x, b.op = x := ⟨_, rfl⟩
  obtain ⟨o1, ho1⟩ : ∃ x, b.kind = x := ⟨_, rfl⟩
  obtain ⟨ht, hht⟩ : ∃ x, b.h = x := ⟨_, rfl⟩
  obtain ⟨dd, hdd⟩ : ∃ x, b.dead = x := ⟨_, rfl⟩
  obtain ⟨sp, hsp⟩ : ∃ x, b.split = x := ⟨_, rfl⟩
  rw [ho0] at y0
  rw [ho1] at y1
  rw [hht] at y2
  rw [hdd] at y3
  rw [hsp] at y4
  have k11 : ∀ w', Keeps w w' → w'.cell? ⟨g, 11, none⟩ = some (.slice (some ⟨gf, 0, none⟩) (m + 1) cf) := fun w' h => h.cell hlt c11
  have z0 : ∀ w', Keeps w w' → w'.cell? ⟨gf, m * 5, none⟩ = some (.int .i64 o0) := fun w' h => h.cell hltF y0
  have z1 : ∀ w', Keeps w w' → w'.cell? ⟨gf, m * 5 + 1, none⟩ = some (.int .i64 o1) := fun w' h => h.cell hltF y1
  have z2 : ∀ w', Keeps w w' → w'.cell? ⟨gf, m * 5 + 2, none⟩ = some (.int .i64 (ht : Int)) := fun w' h => h.cell hltF y2
  have z3 : ∀ w', Keeps w w' → w'.cell? ⟨gf, m * 5 + 3, none⟩ = some (.bool dd) := fun w' h => h.cell hltF y3
  have z4 : ∀ w', Keeps w w' → w'.cell? ⟨gf, m * 5 + 4, none⟩ = some (.bool sp) := fun w' h => h.cell hltF y4
  have HLT : Hid (g < w.heap.size) := hlt
  have HC : Hid (closeS s = (takeI o1 s).bind fun s' => if s'.vals.length ≤ ht then .ok s' else .error 2) := by unfold Hid closeS; rw [hs, ← ho1, ← hht]
  have HK : Hid (wantOk o1 ∧ sk o1 = o1) := by
    rw [ho1] at hk
    unfold putKOk at hk
    exact ⟨by unfold wantOk; omega, by unfold sk; rw [if_neg (by omega)]⟩
  have HT0 : Hid (∀ s', takeI o1 s = .ok s' → ht ≤ s'.vals.length) := fun s' h => by
    obtain ⟨b', r', hs', hl'⟩ := hgd.top
    rw [hs] at hs'
    simp only [List.cons.injEq] at hs'
    obtain ⟨rfl, rfl⟩ := hs'
    have := takeI_low h hs hl'
    omega
  have hjj : (m : Int) < (m : Int) + 1 := by omega
  have hi1 := i64n m hm4
  have hi2 := w64m m hm4
  clear hc H hs hlt hltF hm ho0 ho1 hht hdd hsp c11 y0 y1 y2 y3 y4 hm4 hk hgd hbd hN
  go_enter Tryz.func58, Tryz.ntmps58
  go_wp2_with fail
  refine region_m (C := KeepsM w (.cells #[.int .i64 0, .int .i64 0, .int .i64 0, .bool false, .bool false] 99)) 13 12 (by kernel_rfl) (by kernel_rfl) (KeepsM.start w _) ?_
  simp only [List.take_succ_cons, List.take_zero, List.drop_succ_cons, List.drop_zero]
  (iterate 12
    (apply wm_go _ (by omega) (by rfl)
     · intro M wq hq
       have hx := hq.keeps
       go_simp
       exact uponF_value hq rfl
     simp only [Act.put, List.setIfInBounds_toArray, List.set_cons_succ, List.set_cons_zero]))
  refine wm_make (by omega) (by rfl) (fun M wq hq => ⟨wq.heap.size, ?_⟩) (fun b9 => ?_)
  · go_simp
    exact uponF_value (hq.make 12) rfl
  simp only [Act.put, List.setIfInBounds_toArray, List.set_cons_succ, List.set_cons_zero, ptrTo]
  refine wm_nil ?_
  intro w2 hkp
  obtain ⟨u1, u2, u3⟩ := hkp.made 12 b9 (by simp [updM])
  have q0 : w2.cell? ⟨b9, 0, none⟩ = some (.int .i64 0) := by simp [World.cell?, u3]
  have q1 : w2.cell? ⟨b9, 1, none⟩ = some (.int .i64 0) := by simp [World.cell?, u3]
  have q2 : w2.cell? ⟨b9, 2, none⟩ = some (.int .i64 0) := by simp [World.cell?, u3]
  have q3 : w2.cell? ⟨b9, 3, none⟩ = some (.bool false) := by simp [World.cell?, u3]
  have q4 : w2.cell? ⟨b9, 4, none⟩ = some (.bool false) := by simp [World.cell?, u3]
  have fz : ∀ j, w2.frozen? ⟨b9, j, none⟩ = false := fun j => by simp [World.frozen?, u3]
  obtain ⟨W, hW⟩ : ∃ W, ((((w2.setCell ⟨b9, 0, none⟩ (.int .i64 o0)).setCell ⟨b9, 1, none⟩ (.int .i64 o1)).setCell ⟨b9, 2, none⟩ (.int .i64 (ht : Int))).setCell ⟨b9, 3, none⟩ (.bool dd)).setCell ⟨b9, 4, none⟩ (.bool sp) = W := ⟨_, rfl⟩
  have hbW : Below w.heap.size w W := by rw [← hW]; exact ((((hkp.keeps.below.setCell u1 _).setCell u1 _).setCell u1 _).setCell u1 _).setCell u1 _
  have hWb : W.heap[b9]? = some (.cells #[.int .i64 o0, .int .i64 o1, .int .i64 (ht : Int), .bool dd, .bool sp] 99 (0, 0)) := by
    rw [← hW]
    have e1 := heap_setCell_same _ _ 0 _ _ (.int .i64 o0) u3
    have e2 := heap_setCell_same _ _ 1 _ _ (.int .i64 o1) e1
    have e3 := heap_setCell_same _ _ 2 _ _ (.int .i64 (ht : Int)) e2
    have e4 := heap_setCell_same _ _ 3 _ _ (.bool dd) e3
    exact heap_setCell_same _ _ 4 _ _ (.bool sp) e4
  have HW : Hid (((((w2.setCell ⟨b9, 0, none⟩ (.int .i64 o0)).setCell ⟨b9, 1, none⟩ (.int .i64 o1)).setCell ⟨b9, 2, none⟩ (.int .i64 (ht : Int))).setCell ⟨b9, 3, none⟩ (.bool dd)).setCell ⟨b9, 4, none⟩ (.bool sp) = W) := hW
  have HBW : Hid (Below w.heap.size w W) := hbW
  have HWb : Hid (W.heap[b9]? = some (.cells #[.int .i64 o0, .int .i64 o1, .int .i64 (ht : Int), .bool dd, .bool sp] 99 (0, 0))) := hWb
  have HU : Hid (w.heap.size ≤ b9) := u1
  have HMW : Hid (Md W g E N (.ok s)) := HMD.out.keep hbW
  have HGB : Hid (b9 ≠ g) := by have h1 := HLT.out; unfold Hid; clear hi1 hi2; omega
  clear hkp u1 u2 u3 k11 z0 z1 z2 z3 z4 hbW hWb hi1 hi2 hjj
  have z1 : W.cell? ⟨b9, 1, none⟩ = some (.int .i64 o1) := (cell_of_block HWb.out 1).trans rfl
  rw [← hW] at z1
  clear hW
  go_wp2_with fail
  rw [HW.out]
  clear q0 q1 q2 q3 q4 fz z1
  refine (takeMx g E N o1 o1 (.ok s) W HMW.out HK.out.1 HK.out.2 (by have := HN.out; omega)).mono ?_
  rintro e w3 ⟨⟨hb3, ht3⟩, hm3, v3, rfl, _⟩
  have hwb3 : w3.heap[b9]? = some (.cells #[.int .i64 o0, .int .i64 o1, .int .i64 (ht : Int), .bool dd, .bool sp] 99 (0, 0)) := (ht3.2 b9 (lt_of_block HWb.out) HGB.out).trans HWb.out
  have HB3 : Hid (Below g w w3) := (HBW.out.mono (Nat.le_of_lt HLT.out)).trans hb3
  have HT3 : Hid (Touch g w w3) := (touch_below HBW.out).trans ht3
  have hltb := lt_of_block hwb3
  have kb2 : ∀ w', Keeps w3 w' → w'.cell? ⟨b9, 2, none⟩ = some (.int .i64 (ht : Int)) := fun w' h => h.cell hltb ((cell_of_block hwb3 2).trans rfl)
  have hm3' : Md w3 g E N (takeI o1 s) := hm3
  clear hb3 ht3 hm3 hwb3 hltb
  rcases hr : takeI o1 s with c | s1
  · rw [hr] at hm3'
    have HMe : Hid (Md w3 g E N (.error c)) := hm3'
    obtain ⟨hc0, s', vf', ⟨vs', h0, _, _⟩, _⟩ := hm3'
    have hcl : Hid (closeS s = .error c) := by unfold Hid; rw [HC.out, hr]; rfl
    have hlt3 := lt_of_block h0
    have k12 : ∀ w', Keeps w3 w' → w'.cell? ⟨g, 12, none⟩ = some (.int .i64 c) := fun w' h => h.cell hlt3 ((cell_of_block h0 12).trans rfl)
    have hcb : (c == 0) = false := by simpa using hc0
    clear h0 hr hlt3 hc0
    go_wp2_with fail
    refine region_w (C := Keeps w3) (by kernel_rfl) (by kernel_rfl) (Keeps.drew w3) ?_
    (iterate 6
      (apply wq_go _ (by rfl)
       · intro wq hq
         go_simp
         first
           | exact rfl
       simp only [Act.put, List.setIfInBounds_toArray, List.set_cons_succ, List.set_cons_zero]))
    (iterate 8 (refine wq_no (by rfl) ?_; simp only [Act.put, List.setIfInBounds_toArray, List.set_cons_succ, List.set_cons_zero]))
    (iterate 1
      (apply wq_go _ (by rfl)
       · intro wq hq
         go_simp
         first
           | exact rfl
       simp only [Act.put, List.setIfInBounds_toArray, List.set_cons_succ, List.set_cons_zero]))
    refine wq_nil ?_
    intro wz hk
    have HMz : Hid (Md wz g E N (.error c)) := HMe.out.keep hk.below
    have HBz : Hid (Below g w wz ∧ Touch g w wz) := ⟨HB3.out.trans (hk.below.mono (Nat.le_of_lt HMe.out.lt)), HT3.out.trans (touch_below hk.below)⟩
    clear hk k12 kb2
    go_wp2
    go_end0
    exact ⟨⟨rfl, by rw [hcl.out]; exact HMz.out, HBz.out.1⟩, HBz.out.2⟩
  · rw [hr] at hm3'
    have HMe : Hid (Md w3 g E N (.ok s1)) := hm3'
    obtain ⟨⟨vf', vs', h0, h1, _⟩, _, hbd⟩ := hm3'
    rw [ivs_len] at h1
    obtain ⟨a1, c1, rfl, _⟩ := own_shape h1
    obtain ⟨n1, hn1⟩ : ∃ n, s1.vals.length = n := ⟨_, rfl⟩
    rw [hn1] at h0
    have hlow := HT0.out s1 hr
    have hcl : Hid (closeS s = if n1 ≤ ht then .ok s1 else .error 2) := by unfold Hid; rw [HC.out, hr, ← hn1]; rfl
    have hlt3 := lt_of_block h0
    have k12 : ∀ w', Keeps w3 w' → w'.cell? ⟨g, 12, none⟩ = some (.int .i64 0) := fun w' h => h.cell hlt3 ((cell_of_block h0 12).trans rfl)
    have k10 : ∀ w', Keeps w3 w' → w'.cell? ⟨g, 10, none⟩ = some (.slice a1 n1 c1) := fun w' h => h.cell hlt3 ((cell_of_block h0 10).trans rfl)
    have HL2 : Hid (ht ≤ n1) := by unfold Hid; omega
    clear h0 h1 hr hlt3 hbd hn1 hlow
    go_wp2_with fail
    refine region_w (C := Keeps w3) (by kernel_rfl) (by kernel_rfl) (Keeps.drew w3) ?_
    (iterate 15
      (apply wq_go _ (by rfl)
       · intro wq hq
         go_simp
         first
           | exact rfl
       simp only [Act.put, List.setIfInBounds_toArray, List.set_cons_succ, List.set_cons_zero]))
    refine wq_nil ?_
    intro wz hk
    have HMz : Hid (Md wz g E N (.ok s1)) := HMe.out.keep hk.below
    have HBz : Hid (Below g w wz ∧ Touch g w wz) := ⟨HB3.out.trans (hk.below.mono (Nat.le_of_lt HMe.out.lt)), HT3.out.trans (touch_below hk.below)⟩
    clear hk k12 kb2 k10
    by_cases he : n1 = ht
    · subst he
      clear HT0
      go_wp2
      go_end0
      exact ⟨⟨rfl, by rw [hcl.out, if_pos (Nat.le_refl _)]; exact HMz.out, HBz.out.1⟩, HBz.out.2⟩
    · have hne : ((n1 : Int) != (ht : Int)) = true := by simp; omega
      have hne2 : ¬ (n1 : Int) = (ht : Int) := by omega
      have BD := badM g E N 2 s1 wz HMz.out (by decide)
      have HNE : Hid (¬ n1 ≤ ht) := by have := HL2.out; unfold Hid; omega
      clear he
      go_wp2_with fail
      refine BD.mono ?_
      rintro e w5 ⟨⟨rfl, hm5, hb5⟩, ht5⟩
      have HM5 : Hid (Md w5 g E N (.error 2)) := hm5
      have HB5 : Hid (Below g w w5 ∧ Touch g w w5) := ⟨HBz.out.1.trans hb5, HBz.out.2.trans ht5⟩
      clear BD hm5 hb5 ht5
      go_wp2
      go_end0
      exact ⟨⟨rfl, by rw [hcl.out, if_neg HNE.out]; exact HM5.out, HB5.out.1⟩, HB5.out.2⟩

end Go.Proofs.YtcgnefgdfgikdaaGreat

namespace Go.Proofs.YtcgnefgdfgikdaaGreat
open Go.ChangeShapes Go.WideShapes Go.ChangeAt Go.RowKit

theorem effR_plain {M : Mod7} {own : List Int} {op a : Int} {s : St} (h : ¬ (op = 13 ∨ op = 16 ∨ op = 32 ∨ op = 33 ∨ op = 34 ∨ op = 35 ∨ op = 36 ∨ op = 40 ∨ op = 41 ∨ op = 54 ∨ op = 55 ∨ op = 63 ∨ op = 64)) : effR M own op a s = (takes (plainEff op).1 s).map (putI (plainEff op).2) := by
  unfold effR effS
  rw [if_neg (by omega), if_neg (by omega), if_neg (by omega), if_neg (by omega), if_neg (by omega)]
  rfl
def W0 (w : World) (op a : Int) : World := w.alloc (.cells #[.int .i64 op, .int .i64 a] 41)
theorem w0_below (w : World) (op a : Int) : Below w.heap.size w (W0 w op a) := (Below.refl _ _).alloc (Nat.le_refl _) _
theorem w0_block (w : World) (op a : Int) : (W0 w op a).heap[w.heap.size]? = some (.cells #[.int .i64 op, .int .i64 a] 41 (0, 0)) := heap_alloc_new _ _
theorem outPM_on {w w1 w2 : World} {g : Nat} {E : EnvS} {N : Nat} {r : Except Int St} {e : Ending} (h : OutPM w1 g E N r e w2) (hb : Below g w w1) : OutPM w g E N r e w2 := ⟨h.1, h.2.1, hb.trans h.2.2⟩

set_option maxRecDepth 100000 in
set_option maxHeartbeats 6400000 in
theorem otherMem (g : Nat) (E : EnvS) (N : Nat) (own : List Int) (op a : Int) (s : St) (w : World) (h : Md w g E N (.ok s)) (hop : op = 40 ∨ op = 41 ∨ op = 54 ∨ op = 55 ∨ op = 63 ∨ op = 64) (hN : N ≤ 299) :
    Calls Tryz.prog 61 #[.pointer (some ⟨g, 0, none⟩), .agg #[.int .i64 op, .int .i64 a]] w fun e w' => OutPM w g E (N + 1) (effR E.M own op a s) e w' := by
  have HN : Hid (N ≤ 299) := hN
  have HBW : Hid (Below g w (w.alloc (.cells #[.int .i64 op, .int .i64 a] 41))) := (w0_below w op a).mono (Nat.le_of_lt h.lt)
  have HM0 : Hid (Md (w.alloc (.cells #[.int .i64 op, .int .i64 a] 41)) g E N (.ok s)) := h.keep (w0_below w op a)
  have T := memoryM g E N own op a s _ HM0.out hop hN
  clear h hN
  rcases hop with rfl | rfl | rfl | rfl | rfl | rfl
  all_goals
    go_enter Tryz.func61, Tryz.ntmps61
    go_wp2_with fail
    refine T.mono ?_
    rintro e w1 ho
    have HO := outPM_on ho HBW.out
    obtain ⟨rfl, hm1, hb1⟩ := HO
    have HO : Hid (OutPM w g E (N + 1) _ (.returned (.tuple #[])) w1) := ⟨rfl, hm1, hb1⟩
    clear T ho hm1 hb1
    go_wp2
    first
      | go_end0
      | refine bodyPost_ret (results_none rfl _ _ _) rfl ?_
    exact HO.out

set_option maxRecDepth 100000 in
set_option maxHeartbeats 6400000 in
theorem otherPlain (g : Nat) (E : EnvS) (N : Nat) (own : List Int) (op a : Int) (s : St) (w : World) (h : Md w g E N (.ok s)) (hop : op = 65 ∨ op = 66 ∨ op = 67 ∨ op = 176 ∨ op = 177 ∨ op = 178 ∨ op = 179 ∨ op = 180) (hN : N ≤ 299) :
    Calls Tryz.prog 61 #[.pointer (some ⟨g, 0, none⟩), .agg #[.int .i64 op, .int .i64 a]] w fun e w' => OutPM w g E (N + 1) (effR E.M own op a s) e w' := by
  have HN : Hid (N ≤ 299) := hN
  have HBW : Hid (Below g w (w.alloc (.cells #[.int .i64 op, .int .i64 a] 41))) := (w0_below w op a).mono (Nat.le_of_lt h.lt)
  have HM0 : Hid (Md (w.alloc (.cells #[.int .i64 op, .int .i64 a] 41)) g E N (.ok s)) := h.keep (w0_below w op a)
  have HE : Hid (effR E.M own op a s = (takes (plainEff op).1 s).map (putI (plainEff op).2)) := effR_plain (by omega)
  clear h hN
  rcases hop with rfl | rfl | rfl | rfl | rfl | rfl | rfl | rfl
  · go_enter Tryz.func61, Tryz.ntmps61
    go_wp2_with fail
    refine (putM g E _ (127) _ _ HM0.out (by unfold putKOk; omega) (by have := HN.out; omega)).mono ?_
    rintro e w1 ⟨rfl, hm1, hb1⟩
    have HB1 : Hid (Below g (w.alloc (.cells #[.int .i64 65, .int .i64 a] 41)) w1) := hb1
    have HM1 : Hid (Md w1 g E (N + 1) (((.ok s : Except Int St)).map (putI (127)))) := hm1
    clear hb1 hm1
    go_wp2
    first
      | go_end0
      | refine bodyPost_ret (results_none rfl _ _ _) rfl ?_
    exact ⟨rfl, by
      have h := HM1.out
      rw [HE.out]
      exact h, HBW.out.trans HB1.out⟩
  · go_enter Tryz.func61, Tryz.ntmps61
    go_wp2_with fail
    refine (putM g E _ (126) _ _ HM0.out (by unfold putKOk; omega) (by have := HN.out; omega)).mono ?_
    rintro e w1 ⟨rfl, hm1, hb1⟩
    have HB1 : Hid (Below g (w.alloc (.cells #[.int .i64 66, .int .i64 a] 41)) w1) := hb1
    have HM1 : Hid (Md w1 g E (N + 1) (((.ok s : Except Int St)).map (putI (126)))) := hm1
    clear hb1 hm1
    go_wp2
    first
      | go_end0
      | refine bodyPost_ret (results_none rfl _ _ _) rfl ?_
    exact ⟨rfl, by
      have h := HM1.out
      rw [HE.out]
      exact h, HBW.out.trans HB1.out⟩
  · go_enter Tryz.func61, Tryz.ntmps61
    go_wp2_with fail
    refine (putM g E _ (125) _ _ HM0.out (by unfold putKOk; omega) (by have := HN.out; omega)).mono ?_
    rintro e w1 ⟨rfl, hm1, hb1⟩
    have HB1 : Hid (Below g (w.alloc (.cells #[.int .i64 67, .int .i64 a] 41)) w1) := hb1
    have HM1 : Hid (Md w1 g E (N + 1) (((.ok s : Except Int St)).map (putI (125)))) := hm1
    clear hb1 hm1
    go_wp2
    first
      | go_end0
      | refine bodyPost_ret (results_none rfl _ _ _) rfl ?_
    exact ⟨rfl, by
      have h := HM1.out
      rw [HE.out]
      exact h, HBW.out.trans HB1.out⟩
  · go_enter Tryz.func61, Tryz.ntmps61
    go_wp2_with fail
    refine (turnM g E _ (126) (127) _ _ HM0.out (by unfold wantOk; omega) (by decide) (by unfold putKOk; omega) (by have := HN.out; omega)).mono ?_
    rintro e w1 ⟨rfl, hm1, hb1⟩
    have HB1 : Hid (Below g (w.alloc (.cells #[.int .i64 176, .int .i64 a] 41)) w1) := hb1
    have HM1 : Hid (Md w1 g E (N + 1) ((((.ok s : Except Int St)).bind (takeI (126))).map (putI (127)))) := hm1
    clear hb1 hm1
    go_wp2
    first
      | go_end0
      | refine bodyPost_ret (results_none rfl _ _ _) rfl ?_
    exact ⟨rfl, by
      have h := HM1.out
      rw [← bind_takes1 (.ok s) 126] at h
      rw [HE.out]
      exact h, HBW.out.trans HB1.out⟩
  · go_enter Tryz.func61, Tryz.ntmps61
    go_wp2_with fail
    refine (turnM g E _ (127) (126) _ _ HM0.out (by unfold wantOk; omega) (by decide) (by unfold putKOk; omega) (by have := HN.out; omega)).mono ?_
    rintro e w1 ⟨rfl, hm1, hb1⟩
    have HB1 : Hid (Below g (w.alloc (.cells #[.int .i64 177, .int .i64 a] 41)) w1) := hb1
    have HM1 : Hid (Md w1 g E (N + 1) ((((.ok s : Except Int St)).bind (takeI (127))).map (putI (126)))) := hm1
    clear hb1 hm1
    go_wp2
    first
      | go_end0
      | refine bodyPost_ret (results_none rfl _ _ _) rfl ?_
    exact ⟨rfl, by
      have h := HM1.out
      rw [← bind_takes1 (.ok s) 127] at h
      rw [HE.out]
      exact h, HBW.out.trans HB1.out⟩
  · go_enter Tryz.func61, Tryz.ntmps61
    go_wp2_with fail
    refine (turnM g E _ (127) (126) _ _ HM0.out (by unfold wantOk; omega) (by decide) (by unfold putKOk; omega) (by have := HN.out; omega)).mono ?_
    rintro e w1 ⟨rfl, hm1, hb1⟩
    have HB1 : Hid (Below g (w.alloc (.cells #[.int .i64 178, .int .i64 a] 41)) w1) := hb1
    have HM1 : Hid (Md w1 g E (N + 1) ((((.ok s : Except Int St)).bind (takeI (127))).map (putI (126)))) := hm1
    clear hb1 hm1
    go_wp2
    first
      | go_end0
      | refine bodyPost_ret (results_none rfl _ _ _) rfl ?_
    exact ⟨rfl, by
      have h := HM1.out
      rw [← bind_takes1 (.ok s) 127] at h
      rw [HE.out]
      exact h, HBW.out.trans HB1.out⟩
  · go_enter Tryz.func61, Tryz.ntmps61
    go_wp2_with fail
    refine (turnM g E _ (127) (125) _ _ HM0.out (by unfold wantOk; omega) (by decide) (by unfold putKOk; omega) (by have := HN.out; omega)).mono ?_
    rintro e w1 ⟨rfl, hm1, hb1⟩
    have HB1 : Hid (Below g (w.alloc (.cells #[.int .i64 179, .int .i64 a] 41)) w1) := hb1
    have HM1 : Hid (Md w1 g E (N + 1) ((((.ok s : Except Int St)).bind (takeI (127))).map (putI (125)))) := hm1
    clear hb1 hm1
    go_wp2
    first
      | go_end0
      | refine bodyPost_ret (results_none rfl _ _ _) rfl ?_
    exact ⟨rfl, by
      have h := HM1.out
      rw [← bind_takes1 (.ok s) 127] at h
      rw [HE.out]
      exact h, HBW.out.trans HB1.out⟩
  · go_enter Tryz.func61, Tryz.ntmps61
    go_wp2_with fail
    refine (turnM g E _ (125) (127) _ _ HM0.out (by unfold wantOk; omega) (by decide) (by unfold putKOk; omega) (by have := HN.out; omega)).mono ?_
    rintro e w1 ⟨rfl, hm1, hb1⟩
    have HB1 : Hid (Below g (w.alloc (.cells #[.int .i64 180, .int .i64 a] 41)) w1) := hb1
    have HM1 : Hid (Md w1 g E (N + 1) ((((.ok s : Except Int St)).bind (takeI (125))).map (putI (127)))) := hm1
    clear hb1 hm1
    go_wp2
    first
      | go_end0
      | refine bodyPost_ret (results_none rfl _ _ _) rfl ?_
    exact ⟨rfl, by
      have h := HM1.out
      rw [← bind_takes1 (.ok s) 125] at h
      rw [HE.out]
      exact h, HBW.out.trans HB1.out⟩

set_option maxRecDepth 100000 in
set_option maxHeartbeats 6400000 in
theorem otherNum (g : Nat) (E : EnvS) (N : Nat) (own : List Int) (op a : Int) (s : St) (w : World) (h : Md w g E N (.ok s)) (hop : (96 < op ∧ op ≤ 123) ∨ (128 < op ∧ op ≤ 155) ∨ (160 < op ∧ op ≤ 169)) (hN : N ≤ 299) :
    Calls Tryz.prog 61 #[.pointer (some ⟨g, 0, none⟩), .agg #[.int .i64 op, .int .i64 a]] w fun e w' => OutPM w g E (N + 1) (effR E.M own op a s) e w' := by
  have HN : Hid (N ≤ 299) := hN
  have HBW : Hid (Below g w (w.alloc (.cells #[.int .i64 op, .int .i64 a] 41))) := (w0_below w op a).mono (Nat.le_of_lt h.lt)
  have HM0 : Hid (Md (w.alloc (.cells #[.int .i64 op, .int .i64 a] 41)) g E N (.ok s)) := h.keep (w0_below w op a)
  have HE : Hid (effR E.M own op a s = (takes (plainEff op).1 s).map (putI (plainEff op).2)) := effR_plain (by omega)
  have T : Calls Tryz.prog 80 #[.pointer (some ⟨g, 0, none⟩), .int .i64 op] (w.alloc (.cells #[.int .i64 op, .int .i64 a] 41)) fun e w' => OutPM (w.alloc (.cells #[.int .i64 op, .int .i64 a] 41)) g E (N + 1) ((takes (plainEff op).1 s).map (putI (plainEff op).2)) e w' := by
    rcases hop with hA | hA | hA
    · have e : plainEff op = intEff (op - 96) 127 := by unfold plainEff; rw [if_neg (by omega), if_neg (by omega), if_neg (by omega), if_neg (by omega), if_neg (by omega), if_neg (by omega), if_neg (by omega), if_neg (by omega), if_pos hA]
      rw [e]; exact num32 g E N op _ s _ HM0.out rfl (by omega) hN
    · have e : plainEff op = intEff (op - 128) 126 := by unfold plainEff; rw [if_neg (by omega), if_neg (by omega), if_neg (by omega), if_neg (by omega), if_neg (by omega), if_neg (by omega), if_neg (by omega), if_neg (by omega), if_neg (by omega), if_pos hA]
      rw [e]; exact num64 g E N op _ s _ HM0.out rfl (by omega) hN
    · have e : plainEff op = floatEff (op - 160) := by unfold plainEff; rw [if_neg (by omega), if_neg (by omega), if_neg (by omega), if_neg (by omega), if_neg (by omega), if_neg (by omega), if_neg (by omega), if_neg (by omega), if_neg (by omega), if_neg (by omega), if_pos hA]
      rw [e]; exact numF g E N op _ s _ HM0.out rfl (by omega) hN
  have n16 : (op == 16) = false := by simp; omega
  have n32 : (op == 32) = false := by simp; omega
  have n33 : (op == 33) = false := by simp; omega
  have n34 : (op == 34) = false := by simp; omega
  have n35 : (op == 35) = false := by simp; omega
  have n36 : (op == 36) = false := by simp; omega
  have n40 : (op == 40) = false := by simp; omega
  have n41 : (op == 41) = false := by simp; omega
  have n54 : (op == 54) = false := by simp; omega
  have n55 : (op == 55) = false := by simp; omega
  have n63 : (op == 63) = false := by simp; omega
  have n64 : (op == 64) = false := by simp; omega
  have n65 : (op == 65) = false := by simp; omega
  have n66 : (op == 66) = false := by simp; omega
  have n67 : (op == 67) = false := by simp; omega
  have n176 : (op == 176) = false := by simp; omega
  have n177 : (op == 177) = false := by simp; omega
  have n178 : (op == 178) = false := by simp; omega
  have n179 : (op == 179) = false := by simp; omega
  have n180 : (op == 180) = false := by simp; omega
  clear h hN hop
  go_enter Tryz.func61, Tryz.ntmps61
  go_wp2_with fail
  refine T.mono ?_
  rintro e w1 ho
  have HO := outPM_on ho HBW.out
  rw [← HE.out] at HO
  obtain ⟨rfl, hm1, hb1⟩ := HO
  have HO : Hid (OutPM w g E (N + 1) _ (.returned (.tuple #[])) w1) := ⟨rfl, hm1, hb1⟩
  clear T ho hm1 hb1
  go_wp2
  first
    | go_end0
    | refine bodyPost_ret (results_none rfl _ _ _) rfl ?_
  exact HO.out

end Go.Proofs.YtcgnefgdfgikdaaGreat
