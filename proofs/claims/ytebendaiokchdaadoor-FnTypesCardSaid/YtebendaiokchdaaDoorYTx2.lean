/-
  Texts of types: a plain model; the specification's side.
-/
import Derived.Test.YtebendaiokchdaaDoorYTx1
import Derived.Test.YtebendaiokchdaaDoorYTr
import Derived.Lib.Join
namespace Go.Proofs.YtebendaiokchdaaDoor
open Go.ChangeShapes Go.WideShapes Go.ChangeAt Go.RowKit

def bsY (l : List UInt8) : ByteArray := ⟨l.toArray⟩
theorem bsY_app (l m : List UInt8) : bsY l ++ bsY m = bsY (l ++ m) := by apply ByteArray.ext; simp [bsY]
theorem bsY_size (l : List UInt8) : (bsY l).size = l.length := by show l.toArray.size = _; simp
def nm (x : Int) : List UInt8 := (krow.getD x.toNat ([], 0, 0, 0, 0, 0, 0)).1
def withN (x : Int) : Bool := x == 16 || x == 19 || x == 20 || x == 21

def txt (L : List Nd) : Nat → Nat → List UInt8
  | 0, _ => []
  | f + 1, k => nm (kdAt L k) ++ (if 0 < (kidsOf L k).length then [60] ++ Lib.join ((kidsOf L k).map (txt L f)) [44] ++ [62] else if withN (kdAt L k) then [60] ++ Lib.decDigits (nAt L k).toNat ++ [62] else [])

theorem nm_len (x : Int) (h : 0 ≤ x) (h2 : x ≤ 21) : (nm x).length ≤ 7 := by
  have H : ∀ j : Fin 22, (nm ((j.val : Nat) : Int)).length ≤ 7 := by decide +kernel
  have := H ⟨x.toNat, by omega⟩
  rw [show ((x.toNat : Nat) : Int) = x by omega] at this
  exact this
theorem nm_get (i : Nat) (h : i < krow.length) : nm (i : Int) = krow[i].1 := by
  unfold nm
  rw [show ((i : Int).toNat) = i by omega, List.getD_eq_getElem?_getD, List.getElem?_eq_getElem h]
  rfl
theorem dec_len3 {u : Nat} (h : u ≤ 300) : (Lib.decDigits u).length ≤ 3 := by
  by_cases h1 : u < 10
  · rw [dec_small h1]; simp
  · rw [dec_more h1, List.length_append]
    by_cases h2 : u / 10 < 10
    · rw [dec_small h2]; simp
    · rw [dec_more h2, List.length_append, dec_small (by omega)]; simp

theorem join_snoc (x : List UInt8) : ∀ (l : List (List UInt8)) (s : List UInt8), l ≠ [] → Lib.join (l ++ [x]) s = Lib.join l s ++ s ++ x
  | [], _, h => absurd rfl h
  | a :: r, s, _ => by
    rw [List.cons_append, Lib.join_cons, Lib.join_cons]
    simp [Lib.joinTail]
theorem join_len : ∀ (l : List (List UInt8)) (s : UInt8), (Lib.join l [s]).length ≤ (l.map fun x => x.length + 1).sum
  | [], _ => by simp [Lib.join]
  | a :: r, s => by
    rw [Lib.join_cons]
    have : (Lib.joinTail [s] r).length = (r.map fun x => x.length + 1).sum := by
      clear a
      induction r with
      | nil => rfl
      | cons b r ih =>
        have e : Lib.joinTail [s] (b :: r) = ([s] ++ b) ++ Lib.joinTail [s] r := by simp [Lib.joinTail]
        rw [e, List.length_append, ih]
        simp
    rw [List.length_append, this]
    simp
theorem sum_segC (C : Nat) (g : Nat → Nat) : ∀ (ks : List Nat) (q : Nat), (∀ i (h : i < ks.length), ks[i] < endAt ks q i ∧ g ks[i] ≤ C * (endAt ks q i - ks[i])) → ∀ c r, ks = c :: r → (ks.map g).sum ≤ C * (q - c) ∧ c < q
  | [], _, _, c, r, h => by simp at h
  | [d], q, hh, c, r, h => by
    simp at h
    have := hh 0 (by simp)
    have e : endAt [d] q 0 = q := rfl
    rw [e] at this
    simp at this ⊢
    rw [← h.1]
    omega
  | d :: d' :: r', q, hh, c, r, h => by
    simp at h
    obtain ⟨rfl, _⟩ := h
    have h0 := hh 0 (by simp)
    have e : endAt (d :: d' :: r') q 0 = d' := rfl
    rw [e] at h0
    have ih := sum_segC C g (d' :: r') q (fun i hi => hh (i + 1) (by simpa using hi)) d' r' rfl
    have e2 : ((d :: d' :: r').map g).sum = g d + ((d' :: r').map g).sum := by simp
    rw [e2]
    simp at h0
    have e3 : C * (q - d) = C * (d' - d) + C * (q - d') := by rw [← Nat.mul_add]; congr 1; omega
    rw [e3]
    omega

/-- What is good about a node. -/
theorem node_n {L : List Nd} (h : goodT L = true) {k : Nat} (hk : k < L.length) : (1 ≤ kdAt L k ∧ kdAt L k ≤ 21) ∧ (withN (kdAt L k) = true → 0 ≤ nAt L k ∧ nAt L k ≤ 300 ∧ (kidsOf L k).length = 0) ∧ (withN (kdAt L k) = false → (shp4 (kdAt L k)).2.2.2 = 0) := by
  have hg : nodeOk (L.getD k (0, 0, -1)) ((kidsOf L k).length : Int) = true := by
    unfold goodT at h
    simp at h
    have := nodesOk_le L L.length (k + 1) h.2 (by omega)
    rw [nodesOk_succ] at this
    simp at this
    exact this.2
  unfold nodeOk at hg
  simp only [Bool.and_eq_true, decide_eq_true_eq] at hg
  obtain ⟨⟨⟨⟨⟨h1, h2⟩, h3⟩, h4⟩, h5⟩, h6⟩ := hg
  have e1 : (L.getD k (0, 0, -1)).1 = kdAt L k := rfl
  have e2 : (L.getD k (0, 0, -1)).2.1 = nAt L k := rfl
  rw [e1] at h1 h2 h3 h4 h5 h6
  rw [e2] at h5 h6
  refine ⟨⟨h1, h2⟩, fun hw => ?_, fun hw => ?_⟩
  · unfold withN at hw
    simp at hw
    have hc : kdAt L k = 16 ∨ kdAt L k = 19 ∨ kdAt L k = 20 ∨ kdAt L k = 21 := by omega
    rcases hc with hc | hc | hc | hc
    · rw [hc] at h4 h5 h6
      replace h4 : ((kidsOf L k).length : Int) ≤ 0 := h4
      replace h5 : (1 : Int) ≤ nAt L k := h5
      replace h6 : nAt L k ≤ 32 := h6
      omega
    · rw [hc] at h4 h5 h6
      replace h4 : ((kidsOf L k).length : Int) ≤ 0 := h4
      replace h5 : (1 : Int) ≤ nAt L k := h5
      replace h6 : nAt L k ≤ 300 := h6
      omega
    · rw [hc] at h4 h5 h6
      replace h4 : ((kidsOf L k).length : Int) ≤ 0 := h4
      replace h5 : (0 : Int) ≤ nAt L k := h5
      replace h6 : nAt L k ≤ 9 := h6
      omega
    · rw [hc] at h4 h5 h6
      replace h4 : ((kidsOf L k).length : Int) ≤ 0 := h4
      replace h5 : (0 : Int) ≤ nAt L k := h5
      replace h6 : nAt L k ≤ 9 := h6
      omega
  · unfold withN at hw
    simp at hw
    obtain ⟨⟨⟨a, b⟩, c⟩, d⟩ := hw
    unfold shp4
    split
    · rfl
    split
    · rfl
    split
    · rfl
    first
      | rw [if_neg a, if_neg b, if_neg (by omega)]
      | rw [if_neg (by omega)]

theorem txt_len {L : List Nd} (hG : goodT L = true) : ∀ (f p e : Nat), isEnd L p e → (txt L f p).length + 1 ≤ 20 * (e - p)
  | 0, p, e, he => by have := he.1; simp [txt]; omega
  | f + 1, p, e, he => by
    have hU := ups_good hG
    have hpe := he.1
    have hpl : p < L.length := by have := he.2.1; omega
    obtain ⟨⟨k1, k2⟩, k3, _⟩ := node_n hG hpl
    have hn := nm_len (kdAt L p) (by omega) k2
    have hk : ∀ i (h : i < (kidsOf L p).length), (kidsOf L p)[i] < endAt (kidsOf L p) e i ∧ (txt L f (kidsOf L p)[i]).length + 1 ≤ 20 * (endAt (kidsOf L p) e i - (kidsOf L p)[i]) := fun i h => by
      have h1 := parts_end hU he i h
      exact ⟨h1.1, txt_len hG f _ _ h1⟩
    unfold txt
    rw [List.length_append]
    split
    · rename_i h0
      have hj := join_len ((kidsOf L p).map (txt L f)) 44
      rw [List.map_map] at hj
      cases hK : kidsOf L p with
      | nil => rw [hK] at h0; simp at h0
      | cons c r =>
        have := sum_segC 20 (fun c => (txt L f c).length + 1) (kidsOf L p) e hk c r hK
        have hc := (kids_mem (show c ∈ kidsOf L p by rw [hK]; simp)).1
        rw [hK] at this hj
        have e2 : ((fun x => x.length + 1) ∘ txt L f) = (fun c => (txt L f c).length + 1) := rfl
        rw [e2] at hj
        simp only [List.length_append, List.length_cons, List.length_nil] at hj ⊢
        omega
    split
    · rename_i hw
      have := k3 hw
      have hd := dec_len3 (u := (nAt L p).toNat) (by omega)
      simp only [List.length_append, List.length_cons, List.length_nil]
      omega
    · simp
      omega

set_option maxRecDepth 100000 in
set_option maxHeartbeats 1600000 in
theorem specNames (w : World) : Calls Tryd.prog 29 #[] w fun e w' => e = .returned (.slice (some ⟨w.heap.size, 0, none⟩) 22 22) ∧ (∀ i (h : i < krow.length), w'.cell? ⟨w.heap.size, i, none⟩ = some (.string (bsY krow[i].1))) ∧ Below w.heap.size w w' := by
  go_enter Tryd.func29, Tryd.ntmps29
  go_wp2
  go_ret
  refine ⟨rfl, fun i hi => ?_, (Below.refl _ _).alloc (Nat.le_refl _) _⟩
  refine newCell rfl ?_
  have H : ∀ j : Fin 22, ((krow.map (fun r => Value.string (bsY r.1))).toArray)[j.val]? = some (.string (bsY krow[j].1)) := by
    intro j
    simp [List.getElem?_eq_getElem (show j.val < krow.length from j.isLt)]
  exact H ⟨i, hi⟩

end Go.Proofs.YtebendaiokchdaaDoor
