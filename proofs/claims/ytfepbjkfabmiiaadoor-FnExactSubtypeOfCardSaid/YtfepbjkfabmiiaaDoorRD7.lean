/-
  Types read from texts: the program's side.
-/
import Derived.Test.YtfepbjkfabmiiaaDoorRD6
import Derived.Test.YtfepbjkfabmiiaaDoorYTxL
namespace Go.Proofs.YtfepbjkfabmiiaaDoor
open Go.ChangeShapes Go.WideShapes Go.ChangeAt Go.RowKit Go.PlainAid

/-- A text is that of a type. -/
def rdB (s : List UInt8) : Bool := decide (s.length ≤ 400) && (goodT (nd2 s [] [] (-1)) && (txt (nd2 s [] [] (-1)) (nd2 s [] [] (-1)).length 0 == s))
def rdM (s : List UInt8) : List Nd := if rdB s = true then nd2 s [] [] (-1) else []
/-- Of a name, and what follows it, at most ten bytes a node. -/
theorem nm_dec {x n : Int} (h0 : 1 ≤ x) (h1 : x ≤ 21) (hw : withN x = true) (hb : nodeOk (x, n, 0) 0 = true) : (nm x).length + (Lib.decDigits n.toNat).length ≤ 7 := by
  unfold withN at hw
  simp at hw
  unfold nodeOk at hb
  simp only [Bool.and_eq_true, decide_eq_true_eq] at hb
  obtain ⟨⟨_, h5⟩, h6⟩ := hb
  have hc : x = 16 ∨ x = 19 ∨ x = 20 ∨ x = 21 := by omega
  have d1 : ∀ m : Fin 301, (Lib.decDigits m.val).length ≤ (if m.val < 10 then 1 else if m.val < 100 then 2 else 3) := by decide +kernel
  rcases hc with rfl | rfl | rfl | rfl
  · have h7 : n ≤ 32 := h6
    have h8 : (1 : Int) ≤ n := h5
    have h9 := d1 ⟨n.toNat, by omega⟩
    have hn : (nm 16).length = 5 := by decide
    simp only at h9
    split at h9
    · omega
    · rw [if_pos (by omega)] at h9; omega
  · have h7 : n ≤ 300 := h6
    have h8 : (1 : Int) ≤ n := h5
    have h9 := d1 ⟨n.toNat, by omega⟩
    have hn : (nm 19).length = 4 := by decide
    simp only at h9
    split at h9
    · omega
    · split at h9 <;> omega
  · have h7 : n ≤ 9 := h6
    have h8 : (0 : Int) ≤ n := h5
    have h9 := d1 ⟨n.toNat, by omega⟩
    have hn : (nm 20).length = 3 := by decide
    simp only at h9
    rw [if_pos (by omega)] at h9
    omega
  · have h7 : n ≤ 9 := h6
    have h8 : (0 : Int) ≤ n := h5
    have h9 := d1 ⟨n.toNat, by omega⟩
    have hn : (nm 21).length = 6 := by decide
    simp only at h9
    rw [if_pos (by omega)] at h9
    omega
theorem join_len1 : ∀ (l : List (List UInt8)) (s : UInt8), l ≠ [] → (Lib.join l [s]).length + 1 ≤ (l.map fun x => x.length + 1).sum
  | [], _, h => absurd rfl h
  | [a], s, _ => by simp [Lib.join_one]
  | a :: b :: r, s, _ => by
    have ih := join_len1 (b :: r) s (by simp)
    rw [join_two]
    simp only [List.length_append, List.map_cons, List.sum_cons, List.length_cons, List.length_nil] at ih ⊢
    omega
theorem txt_ten {L : List Nd} (hG : goodT L = true) : ∀ (f p e : Nat), isEnd L p e → (txt L f p).length + 1 ≤ 10 * (e - p)
  | 0, p, e, he => by have := he.1; simp [txt]; omega
  | f + 1, p, e, he => by
    have hU := ups_good hG
    have hpe := he.1
    have hpl : p < L.length := by have := he.2.1; omega
    obtain ⟨⟨k1, k2⟩, k3, _⟩ := node_n hG hpl
    have hn := nm_len (kdAt L p) (by omega) k2
    have hk : ∀ i (h : i < (kidsOf L p).length), (kidsOf L p)[i] < endAt (kidsOf L p) e i ∧ (txt L f (kidsOf L p)[i]).length + 1 ≤ 10 * (endAt (kidsOf L p) e i - (kidsOf L p)[i]) := fun i h => by
      have h1 := parts_end hU he i h
      exact ⟨h1.1, txt_ten hG f _ _ h1⟩
    unfold txt
    rw [List.length_append]
    split
    · rename_i h0
      have hj := join_len1 ((kidsOf L p).map (txt L f)) 44
      rw [List.map_map] at hj
      cases hK : kidsOf L p with
      | nil => rw [hK] at h0; simp at h0
      | cons c r =>
        have := sum_segC 10 (fun c => (txt L f c).length + 1) (kidsOf L p) e hk c r hK
        have hc := (kids_mem (show c ∈ kidsOf L p by rw [hK]; simp)).1
        rw [hK] at this hj
        have e2 : ((fun x => x.length + 1) ∘ txt L f) = (fun c => (txt L f c).length + 1) := rfl
        rw [e2] at hj
        have hj := hj (by simp)
        simp only [List.length_append, List.length_cons, List.length_nil] at hj ⊢
        omega
    split
    · rename_i hw
      have h3 := k3 hw
      have hg : nodeOk (L.getD p (0, 0, -1)) ((kidsOf L p).length : Int) = true := by
        have h := hG
        unfold goodT at h
        simp at h
        have := nodesOk_le L L.length (p + 1) h.2 (by omega)
        rw [nodesOk_succ] at this
        simp at this
        exact this.2
      rw [h3.2.2] at hg
      have hd := nm_dec (x := kdAt L p) (n := nAt L p) k1 k2 hw hg
      simp only [List.length_append, List.length_cons, List.length_nil]
      omega
    · simp
      omega
theorem rd_yes {s : List UInt8} {L : List Nd} (hG : goodT L = true) (h : txt L L.length 0 = s) : rdB s = true ∧ rdM s = L := by
  have hU := ups_good hG
  have hl := txt_ten hG L.length 0 L.length (isEnd_whole hU)
  have h40 := hU.2.1
  have hn : nd2 s [] [] (-1) = L := by rw [← h]; exact nd2_type hG
  have hb : rdB s = true := by
    unfold rdB
    rw [hn, hG, h]
    simp
    rw [h] at hl
    omega
  exact ⟨hb, by unfold rdM; rw [if_pos hb, hn]⟩
theorem rd_some {s : List UInt8} (h : rdB s = true) : goodT (rdM s) = true ∧ txt (rdM s) (rdM s).length 0 = s := by
  have hm : rdM s = nd2 s [] [] (-1) := by unfold rdM; rw [if_pos h]
  rw [hm]
  unfold rdB at h
  simp only [Bool.and_eq_true, decide_eq_true_eq, beq_iff_eq] at h
  exact ⟨h.2.1, h.2.2⟩

end Go.Proofs.YtfepbjkfabmiiaaDoor
