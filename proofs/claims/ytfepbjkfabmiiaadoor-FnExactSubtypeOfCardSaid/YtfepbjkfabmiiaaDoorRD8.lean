/-
  Types read from texts: the program.
-/
import Derived.Test.YtfepbjkfabmiiaaDoorRD7
namespace Go.Proofs.YtfepbjkfabmiiaaDoor
open Go.ChangeShapes Go.WideShapes Go.ChangeAt Go.RowKit Go.PlainAid

theorem ndo_at {B : Nat} {w : World} {v : Value} {L : List Nd} (h : NdO B w v L) : ∃ a b c, v = .slice a L.length c ∧ (L ≠ [] → a = some ⟨b, 0, none⟩ ∧ b < w.heap.size) ∧ ndAt w b 0 L := by
  cases hL : L with
  | nil =>
    obtain ⟨a, c, hv⟩ := ownsRow_shape h
    rw [hL] at hv
    exact ⟨a, 0, c, hv, fun hn => absurd rfl hn, fun i hi => by simp at hi⟩
  | cons x r =>
    rw [← hL]
    obtain ⟨g, c, hv, _⟩ := own_pos h (by rw [hL]; simp)
    subst hv
    exact ⟨_, g, c, rfl, fun _ => ⟨rfl, (h.lt g rfl).2⟩, nd_of_own rfl h⟩
theorem rwM_len (L : List Nd) (a : Int) (v : List UInt8) : (rwM L a v).length ≤ L.length + 1 := by
  unfold rwM
  split
  · rw [List.length_modify]; omega
  · split
    · omega
    · simp
theorem nd2_len : ∀ (s v : List UInt8) (L : List Nd) (a : Int), (nd2 s v L a).length ≤ L.length + s.length + 1
  | [], v, L, a => by
    rw [nd2]
    have : (rwM L a v).length ≤ L.length + 1 := rwM_len L a v
    simp; omega
  | c :: r, v, L, a => by
    rw [nd2]
    split
    · have h1 := nd2_len r [] (rwM L a v) (nxA c (rwM L a v) a)
      have h2 : (rwM L a v).length ≤ L.length + 1 := rwM_len L a v
      simp; omega
    · have h1 := nd2_len r (v ++ [c]) L a
      simp; omega
theorem bsY_list (l : List UInt8) : (bsY l).toList = l := by rw [ByteArray.toList_eq]; rfl

set_option maxRecDepth 100000 in
set_option maxHeartbeats 1600000 in
theorem implRead (s : ByteArray) (hs : s.size ≤ 1048576) (w : World) (hT : Hid (Tabs w)) (hE : Hid (Errs w)) (hP : Hid (Pows w)) (hg : Hid (0 < w.heap.size ∧ 2 < w.heap.size ∧ 3 < w.heap.size)) :
    Calls Tryd.prog 7 #[.string s] w fun e w' => ∃ v, e = .returned (.tuple #[v, .bool (rdB s.data.toList)]) ∧ NdO w.heap.size w' v (rdM s.data.toList) ∧ Below w.heap.size w w' := by
  obtain ⟨z, hz⟩ : ∃ z : Int, (s.size : Int) = z := ⟨_, rfl⟩
  have hll : s.data.toList.length = s.size := by simp
  by_cases h4 : 400 < z
  · have HB : Hid (rdB s.data.toList = false ∧ rdM s.data.toList = []) := by
      have hb : rdB s.data.toList = false := by
        unfold rdB
        rw [decide_eq_false (by rw [hll]; omega), Bool.false_and]
      exact ⟨hb, by unfold rdM; rw [hb]; rfl⟩
    go_enter Tryd.func7, Tryd.ntmps7
    go_wp2
    go_ret2
    exact ⟨_, by rw [HB.out.1]; rfl, by unfold NdO; rw [HB.out.2]; exact World.ownsRow_nil _ _ _ _, Below.refl _ _⟩
  · have NI := implNodesIn s (by omega) w hT hE hg
    obtain ⟨L, hL⟩ : ∃ L, nd2 s.data.toList [] [] (-1) = L := ⟨_, rfl⟩
    rw [hL] at NI
    have HB0 : Hid (rdB s.data.toList = (goodT L && (txt L L.length 0 == s.data.toList))) := by
      unfold Hid rdB
      rw [hL, decide_eq_true (by rw [hll]; omega), Bool.true_and]
    have HM0 : Hid (rdB s.data.toList = true → rdM s.data.toList = L) := fun h => by unfold rdM; rw [if_pos h, hL]
    have HM1 : Hid (rdB s.data.toList = false → rdM s.data.toList = []) := fun h => by unfold rdM; rw [h]; rfl
    have HLL : Hid (L.length ≤ 1048576) := by unfold Hid; rw [← hL]; have h := nd2_len s.data.toList [] [] (-1); rw [hll] at h; simp at h; omega
    clear hL hE hg hll hs
    go_enter Tryd.func7, Tryd.ntmps7
    go_wp2_with fail
    refine NI.mono ?_
    rintro e w1 ⟨v, rfl, hO, hb1⟩
    clear NI
    obtain ⟨a, b, c, rfl, ha, hat⟩ := ndo_at hO
    have hl1 : L.length ≤ 1048576 := HLL.out
    have TT := implTT a b 0 c L w1 ha hat hl1 (hT.out.below hb1 (Nat.le_refl _)) (hP.out.below hb1 (Nat.le_refl _))
    have HO : Hid (NdO w.heap.size w1 (.slice a L.length c) L) := hO
    have HB1 : Hid (Below w.heap.size w w1) := hb1
    clear hO ha hat hb1 hl1
    cases hG : goodT L with
    | false =>
      rw [hG] at TT
      have HR : Hid (rdB s.data.toList = false) := by unfold Hid; rw [HB0.out, hG]; rfl
      clear HB0 HM0 hG
      obtain ⟨X, hX⟩ : ∃ X, tt L = X := ⟨_, rfl⟩
      rw [hX] at TT
      clear hX
      go_wp2_with fail
      refine TT.mono ?_
      rintro e w2 ⟨rfl, hb2⟩
      have HB2 : Hid (Below w.heap.size w w2) := bel_step HB1.out hb2
      clear TT hb2 HB1
      go_wp2
      go_ret2
      exact ⟨_, by rw [HR.out]; rfl, by unfold NdO; rw [HM1.out HR.out]; exact World.ownsRow_nil _ _ _ _, HB2.out⟩
    | true =>
      rw [hG] at TT
      have htt : tt L = bsY (txt L L.length 0) := by unfold tt; rw [if_pos hG]
      rw [htt] at TT
      have HB3 : Hid (rdB s.data.toList = (txt L L.length 0 == s.data.toList)) := by unfold Hid; rw [HB0.out, hG, Bool.true_and]
      have HXL := bsY_list (txt L L.length 0)
      obtain ⟨T, hTx⟩ : ∃ T, txt L L.length 0 = T := ⟨_, rfl⟩
      rw [hTx] at TT HB3 HXL
      clear HB0 hG htt hTx
      obtain ⟨X, hX⟩ : ∃ X, bsY T = X := ⟨_, rfl⟩
      rw [hX] at TT HXL
      clear hX
      cases hq : (T == s.data.toList) with
      | false =>
        have HR : Hid (rdB s.data.toList = false) := by unfold Hid; rw [HB3.out, hq]
        have hne : (T == s.toList) = false := by rw [ByteArray.toList_eq]; exact hq
        clear HB3 HM0 hq
        go_wp2_with fail
        refine TT.mono ?_
        rintro e w2 ⟨rfl, hb2⟩
        have HB2 : Hid (Below w.heap.size w w2) := bel_step HB1.out hb2
        clear TT hb2 HB1
        go_wp2
        go_ret2
        exact ⟨_, by rw [HR.out]; rfl, by unfold NdO; rw [HM1.out HR.out]; exact World.ownsRow_nil _ _ _ _, HB2.out⟩
      | true =>
        have HR : Hid (rdB s.data.toList = true) := by unfold Hid; rw [HB3.out, hq]
        have hne : (T == s.toList) = true := by rw [ByteArray.toList_eq]; exact hq
        have HMM : Hid (rdM s.data.toList = L) := HM0.out HR.out
        clear HB3 HM1 hq
        go_wp2_with fail
        refine TT.mono ?_
        rintro e w2 ⟨rfl, hb2⟩
        have HB2 : Hid (Below w.heap.size w w2) := bel_step HB1.out hb2
        have HO2 : Hid (NdO w.heap.size w2 (.slice a L.length c) L) := own_keep HO.out (fun q hq => hb2.block q (HO.out.lt q hq).2)
        clear TT hb2 HB1 HO
        go_wp2
        go_ret2
        exact ⟨_, by rw [HR.out]; rfl, by unfold NdO; rw [HMM.out]; exact HO2.out, HB2.out⟩

end Go.Proofs.YtfepbjkfabmiiaaDoor
