/-
  Types read from texts: the program's side.
-/
import Derived.Test.YtebendaiokchdaaDoorX1
import Derived.Test.YtebendaiokchdaaDoorYTxL
namespace Go.Proofs.YtebendaiokchdaaDoor
open Go.ChangeShapes Go.WideShapes Go.ChangeAt Go.RowKit Go.PlainAid

/-- A text is that of a type. -/
def rdB (s : List UInt8) : Bool := decide (s.length ≤ 400) && (goodT (nd2 s [] [] (-1)) && (txt (nd2 s [] [] (-1)) (nd2 s [] [] (-1)).length 0 == s))
def rdM (s : List UInt8) : List Nd := if rdB s = true then nd2 s [] [] (-1) else []
/-- Of a name, and what follows it, at most ten bytes a node. -/
theorem nm_dec {x n : Int} (h0 : 1 ≤ x) (h1 : x ≤ 21) (hw : withN x = true) (hb : nodeOk (x, n, 0) 0 = true) : (nm x).length + (Lib.decDigits n.toNat).length ≤ 7 := by
  unfold withN at hw
  simp at hw
  unfold nodeOk at hb
  simp only [Bool.and_eq_true, decide_eq_true_eq] at hb
  obtain ⟨⟨_, h5⟩, h6⟩ := hb
  have hc : x = 16 ∨ x = 19 ∨ x = 20 ∨ x = 21 := by omega
  have d1 : ∀ m : Fin 301, (Lib.decDigits m.val).length ≤ (if m.val < 10 then 1 else if m.val < 100 then 2 else 3) := by decide +kernel
  rcases hc with rfl | rfl | rfl | rfl
  · have h7 : n ≤ 32 := h6
    have h8 : (1 : Int) ≤ n := h5
    have h9 := d1 ⟨n.toNat, by omega⟩
    have hn : (nm 16).length = 5 := by decide
    simp only at h9
    split at h9
    · omega
    · rw [if_pos (by omega)] at h9; omega
  · have h7 : n ≤ 300 := h6
    have h8 : (1 : Int) ≤ n := h5
    have h9 := d1 ⟨n.toNat, by omega⟩
    have hn : (nm 19).length = 4 := by decide
    simp only at h9
    split at h9
    · omega
    · split at h9 <;> omega
  · have h7 : n ≤ 9 := h6
    have h8 : (0 : Int) ≤ n := h5
    have h9 := d1 ⟨n.toNat, by omega⟩
    have hn : (nm 20).length = 3 := by decide
    simp only at h9
    rw [if_pos (by omega)] at h9
    omega
  · have h7 : n ≤ 9 := h6
    have h8 : (0 : Int) ≤ n := h5
    have h9 := d1 ⟨n.toNat, by omega⟩
    have hn : (nm 21).length = 6 := by decide
    simp only at h9
    rw [if_pos (by omega)] at h9
    omega
theorem join_len1 : ∀ (l : List (List UInt8)) (s : UInt8), l ≠ [] → (Lib.join l [s]).length + 1 ≤ (l.map fun x => x.length + 1).sum
  | [], _, h => absurd rfl h
  | [a], s, _ => by simp [Lib.join_one]
  | a :: b :: r, s, _ => by
    have ih := join_len1 (b :: r) s (by simp)
    rw [join_two]
    simp only [List.length_append, List.map_cons, List.sum_cons, List.length_cons, List.length_nil] at ih ⊢
    omega
theorem txt_ten {L : List Nd} (hG : goodT L = true) : ∀ (f p e : Nat), isEnd L p e → (txt L f p).length + 1 ≤ 10 * (e - p)
  | 0, p, e, he => by have := he.1; simp [txt]; omega
  | f + 1, p, e, he => by
    have hU := ups_good hG
    have hpe := he.1
    have hpl : p < L.length := by have := he.2.1; omega
    obtain ⟨⟨k1, k2⟩, k3, _⟩ := node_n hG hpl
    have hn := nm_len (kdAt L p) (by omega) k2
    have hk : ∀ i (h : i < (kidsOf L p).length), (kidsOf L p)[i] < endAt (kidsOf L p) e i ∧ (txt L f (kidsOf L p)[i]).length + 1 ≤ 10 * (endAt (kidsOf L p) e i - (kidsOf L p)[i]) := fun i h => by
      have h1 := parts_end hU he i h
      exact ⟨h1.1, txt_ten hG f _ _ h1⟩
    unfold txt
    rw [List.length_append]
    split
    · rename_i h0
      have hj := join_len1 ((kidsOf L p).map (txt L f)) 44
      rw [List.map_map] at hj
      cases hK : kidsOf L p with
      | nil => rw [hK] at h0; simp at h0
      | cons c r =>
        have := sum_segC 10 (fun c => (txt L f c).length + 1) (kidsOf L p) e hk c r hK
        have hc := (kids_mem (show c ∈ kidsOf L p by rw [hK]; simp)).1
        rw [hK] at this hj
        have e2 : ((fun x => x.length + 1) ∘ txt L f) = (fun c => (txt L f c).length + 1) := rfl
        rw [e2] at hj
        have hj := hj (by simp)
        simp only [List.length_append, List.length_cons, List.length_nil] at hj ⊢
        omega
    split
    · rename_i hw
      have h3 := k3 hw
      have hg : nodeOk (L.getD p (0, 0, -1)) ((kidsOf L p).length : Int) = true := by
        have h := hG
        unfold goodT at h
        simp at h
        have := nodesOk_le L L.length (p + 1) h.2 (by omega)
        rw [nodesOk_succ] at this
        simp at this
        exact this.2
      rw [h3.2.2] at hg
      have hd := nm_dec (x := kdAt L p) (n := nAt L p) k1 k2 hw hg
      simp only [List.length_append, List.length_cons, List.length_nil]
      omega
    · simp
      omega
theorem rd_yes {s : List UInt8} {L : List Nd} (hG : goodT L = true) (h : txt L L.length 0 = s) : rdB s = true ∧ rdM s = L := by
  have hU := ups_good hG
  have hl := txt_ten hG L.length 0 L.length (isEnd_whole hU)
  have h40 := hU.2.1
  have hn : nd2 s [] [] (-1) = L := by rw [← h]; exact nd2_type hG
  have hb : rdB s = true := by
    unfold rdB
    rw [hn, hG, h]
    simp
    rw [h] at hl
    omega
  exact ⟨hb, by unfold rdM; rw [if_pos hb, hn]⟩
theorem rd_some {s : List UInt8} (h : rdB s = true) : goodT (rdM s) = true ∧ txt (rdM s) (rdM s).length 0 = s := by
  have hm : rdM s = nd2 s [] [] (-1) := by unfold rdM; rw [if_pos h]
  rw [hm]
  unfold rdB at h
  simp only [Bool.and_eq_true, decide_eq_true_eq, beq_iff_eq] at h
  exact ⟨h.2.1, h.2.2⟩

end Go.Proofs.YtebendaiokchdaaDoor

namespace Go.Proofs.YtebendaiokchdaaDoor
open Go.ChangeShapes Go.WideShapes Go.ChangeAt Go.RowKit Go.PlainAid

theorem ndo_at {B : Nat} {w : World} {v : Value} {L : List Nd} (h : NdO B w v L) : ∃ a b c, v = .slice a L.length c ∧ (L ≠ [] → a = some ⟨b, 0, none⟩ ∧ b < w.heap.size) ∧ ndAt w b 0 L := by
  cases hL : L with
  | nil =>
    obtain ⟨a, c, hv⟩ := ownsRow_shape h
    rw [hL] at hv
    exact ⟨a, 0, c, hv, fun hn => absurd rfl hn, fun i hi => by simp at hi⟩
  | cons x r =>
    rw [← hL]
    obtain ⟨g, c, hv, _⟩ := own_pos h (by rw [hL]; simp)
    subst hv
    exact ⟨_, g, c, rfl, fun _ => ⟨rfl, (h.lt g rfl).2⟩, nd_of_own rfl h⟩
theorem rwM_len (L : List Nd) (a : Int) (v : List UInt8) : (rwM L a v).length ≤ L.length + 1 := by
  unfold rwM
  split
  · rw [List.length_modify]; omega
  · split
    · omega
    · simp
theorem nd2_len : ∀ (s v : List UInt8) (L : List Nd) (a : Int), (nd2 s v L a).length ≤ L.length + s.length + 1
  | [], v, L, a => by
    rw [nd2]
    have : (rwM L a v).length ≤ L.length + 1 := rwM_len L a v
    simp; omega
  | c :: r, v, L, a => by
    rw [nd2]
    split
    · have h1 := nd2_len r [] (rwM L a v) (nxA c (rwM L a v) a)
      have h2 : (rwM L a v).length ≤ L.length + 1 := rwM_len L a v
      simp; omega
    · have h1 := nd2_len r (v ++ [c]) L a
      simp; omega
theorem bsY_list (l : List UInt8) : (bsY l).toList = l := by rw [ByteArray.toList_eq]; rfl

set_option maxRecDepth 100000 in
set_option maxHeartbeats 1600000 in
theorem implRead (s : ByteArray) (hs : s.size ≤ 1048576) (w : World) (hT : Hid (Tabs w)) (hE : Hid (Errs w)) (hP : Hid (Pows w)) (hg : Hid (0 < w.heap.size ∧ 3 < w.heap.size ∧ 4 < w.heap.size)) :
    Calls Tryd.prog 7 #[.string s] w fun e w' => ∃ v, e = .returned (.tuple #[v, .bool (rdB s.data.toList)]) ∧ NdO w.heap.size w' v (rdM s.data.toList) ∧ Below w.heap.size w w' := by
  obtain ⟨z, hz⟩ : ∃ z : Int, (s.size : Int) = z := ⟨_, rfl⟩
  have hll : s.data.toList.length = s.size := by simp
  by_cases h4 : 400 < z
  · have HB : Hid (rdB s.data.toList = false ∧ rdM s.data.toList = []) := by
      have hb : rdB s.data.toList = false := by
        unfold rdB
        rw [decide_eq_false (by rw [hll]; omega), Bool.false_and]
      exact ⟨hb, by unfold rdM; rw [hb]; rfl⟩
    go_enter Tryd.func7, Tryd.ntmps7
    go_wp2
    go_ret2
    exact ⟨_, by rw [HB.out.1]; rfl, by unfold NdO; rw [HB.out.2]; exact World.ownsRow_nil _ _ _ _, Below.refl _ _⟩
  · have NI := implNodesIn s (by omega) w hT hE hg
    obtain ⟨L, hL⟩ : ∃ L, nd2 s.data.toList [] [] (-1) = L := ⟨_, rfl⟩
    rw [hL] at NI
    have HB0 : Hid (rdB s.data.toList = (goodT L && (txt L L.length 0 == s.data.toList))) := by
      unfold Hid rdB
      rw [hL, decide_eq_true (by rw [hll]; omega), Bool.true_and]
    have HM0 : Hid (rdB s.data.toList = true → rdM s.data.toList = L) := fun h => by unfold rdM; rw [if_pos h, hL]
    have HM1 : Hid (rdB s.data.toList = false → rdM s.data.toList = []) := fun h => by unfold rdM; rw [h]; rfl
    have HLL : Hid (L.length ≤ 1048576) := by unfold Hid; rw [← hL]; have h := nd2_len s.data.toList [] [] (-1); rw [hll] at h; simp at h; omega
    clear hL hE hg hll hs
    go_enter Tryd.func7, Tryd.ntmps7
    go_wp2_with fail
    refine NI.mono ?_
    rintro e w1 ⟨v, rfl, hO, hb1⟩
    clear NI
    obtain ⟨a, b, c, rfl, ha, hat⟩ := ndo_at hO
    have hl1 : L.length ≤ 1048576 := HLL.out
    have TT := implTT a b 0 c L w1 ha hat hl1 (hT.out.below hb1 (Nat.le_refl _)) (hP.out.below hb1 (Nat.le_refl _))
    have HO : Hid (NdO w.heap.size w1 (.slice a L.length c) L) := hO
    have HB1 : Hid (Below w.heap.size w w1) := hb1
    clear hO ha hat hb1 hl1
    cases hG : goodT L with
    | false =>
      rw [hG] at TT
      have HR : Hid (rdB s.data.toList = false) := by unfold Hid; rw [HB0.out, hG]; rfl
      clear HB0 HM0 hG
      obtain ⟨X, hX⟩ : ∃ X, tt L = X := ⟨_, rfl⟩
      rw [hX] at TT
      clear hX
      go_wp2_with fail
      refine TT.mono ?_
      rintro e w2 ⟨rfl, hb2⟩
      have HB2 : Hid (Below w.heap.size w w2) := bel_step HB1.out hb2
      clear TT hb2 HB1
      go_wp2
      go_ret2
      exact ⟨_, by rw [HR.out]; rfl, by unfold NdO; rw [HM1.out HR.out]; exact World.ownsRow_nil _ _ _ _, HB2.out⟩
    | true =>
      rw [hG] at TT
      have htt : tt L = bsY (txt L L.length 0) := by unfold tt; rw [if_pos hG]
      rw [htt] at TT
      have HB3 : Hid (rdB s.data.toList = (txt L L.length 0 == s.data.toList)) := by unfold Hid; rw [HB0.out, hG, Bool.true_and]
      have HXL := bsY_list (txt L L.length 0)
      obtain ⟨T, hTx⟩ : ∃ T, txt L L.length 0 = T := ⟨_, rfl⟩
      rw [hTx] at TT HB3 HXL
      clear HB0 hG htt hTx
      obtain ⟨X, hX⟩ : ∃ X, bsY T = X := ⟨_, rfl⟩
      rw [hX] at TT HXL
      clear hX
      cases hq : (T == s.data.toList) with
      | false =>
        have HR : Hid (rdB s.data.toList = false) := by unfold Hid; rw [HB3.out, hq]
        have hne : (T == s.toList) = false := by rw [ByteArray.toList_eq]; exact hq
        clear HB3 HM0 hq
        go_wp2_with fail
        refine TT.mono ?_
        rintro e w2 ⟨rfl, hb2⟩
        have HB2 : Hid (Below w.heap.size w w2) := bel_step HB1.out hb2
        clear TT hb2 HB1
        go_wp2
        go_ret2
        exact ⟨_, by rw [HR.out]; rfl, by unfold NdO; rw [HM1.out HR.out]; exact World.ownsRow_nil _ _ _ _, HB2.out⟩
      | true =>
        have HR : Hid (rdB s.data.toList = true) := by unfold Hid; rw [HB3.out, hq]
        have hne : (T == s.toList) = true := by rw [ByteArray.toList_eq]; exact hq
        have HMM : Hid (rdM s.data.toList = L) := HM0.out HR.out
        clear HB3 HM1 hq
        go_wp2_with fail
        refine TT.mono ?_
        rintro e w2 ⟨rfl, hb2⟩
        have HB2 : Hid (Below w.heap.size w w2) := bel_step HB1.out hb2
        have HO2 : Hid (NdO w.heap.size w2 (.slice a L.length c) L) := own_keep HO.out (fun q hq => hb2.block q (HO.out.lt q hq).2)
        clear TT hb2 HB1 HO
        go_wp2
        go_ret2
        exact ⟨_, by rw [HR.out]; rfl, by unfold NdO; rw [HMM.out]; exact HO2.out, HB2.out⟩

end Go.Proofs.YtebendaiokchdaaDoor
