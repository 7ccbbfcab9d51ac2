/-
  Types as trees of their own: their nodes in a row, and which nodes are parts of which. Plain facts.
-/
import Derived.Test.YtebendaiokchdaaDoorX2
import Derived.Test.YtebendaiokchdaaDoorYTx3
import Derived.Deep.AppendLies
namespace Go.Proofs.YtebendaiokchdaaDoor

inductive TT where
  | mk (kind n : Int) (kids : List TT)
mutual
def szT : TT → Nat
  | .mk _ _ ks => 1 + szK ks
def szK : List TT → Nat
  | [] => 0
  | t :: r => szT t + szK r
end
mutual
def flT : TT → Int → Nat → List Nd
  | .mk k n ks, up, b => (k, n, up) :: flK ks b (b + 1)
def flK : List TT → Nat → Nat → List Nd
  | [], _, _ => []
  | t :: r, p, b => flT t (p : Int) b ++ flK r p (b + szT t)
end
mutual
theorem flT_len : ∀ (t : TT) (up : Int) (b : Nat), (flT t up b).length = szT t
  | .mk k n ks, up, b => by
    rw [flT, szT, List.length_cons, flK_len ks b (b + 1)]
    omega
theorem flK_len : ∀ (ks : List TT) (p b : Nat), (flK ks p b).length = szK ks
  | [], _, _ => rfl
  | t :: r, p, b => by rw [flK, szK, List.length_append, flT_len t p b, flK_len r p (b + szT t)]
end
theorem szT_pos (t : TT) : 1 ≤ szT t := by cases t; rw [szT]; omega
/-- Where the parts begin. -/
def stK : List TT → Nat → List Nat
  | [], _ => []
  | t :: r, b => b :: stK r (b + szT t)
mutual
/-- What stands around the nodes of a tree, but for the first one, is one of them. -/
theorem flT_ups : ∀ (t : TT) (up : Int) (b : Nat), ∃ r, flT t up b = ((flT t up b).headD (0, 0, -1)) :: r ∧ ((flT t up b).headD (0, 0, -1)).2.2 = up ∧ ∀ x ∈ r, (b : Int) ≤ x.2.2 ∧ x.2.2 < ((b + szT t : Nat) : Int)
  | .mk k n ks, up, b => by
    refine ⟨flK ks b (b + 1), by rw [flT]; rfl, by rw [flT]; rfl, fun x hx => ?_⟩
    have h := flK_ups ks b (b + 1) x hx
    rw [szT]
    rcases h with h | h <;> omega
theorem flK_ups : ∀ (ks : List TT) (p b : Nat), ∀ x ∈ flK ks p b, x.2.2 = (p : Int) ∨ ((b : Int) ≤ x.2.2 ∧ x.2.2 < ((b + szK ks : Nat) : Int))
  | [], _, _, x, hx => by cases hx
  | t :: r, p, b, x, hx => by
    rw [flK] at hx
    rw [szK]
    rcases List.mem_append.1 hx with hx | hx
    · obtain ⟨r', e1, e2, e3⟩ := flT_ups t p b
      rw [e1] at hx
      rcases List.mem_cons.1 hx with rfl | hx
      · exact .inl e2
      · have := e3 x hx
        right; omega
    · rcases flK_ups r p (b + szT t) x hx with h | h
      · exact .inl h
      · right; omega
end
/-- The nodes from b on that stand in p. -/
def kf : List Nd → Nat → Int → List Nat
  | [], _, _ => []
  | x :: r, b, p => if x.2.2 = p then b :: kf r (b + 1) p else kf r (b + 1) p
theorem kf_app : ∀ (A B : List Nd) (b : Nat) (p : Int), kf (A ++ B) b p = kf A b p ++ kf B (b + A.length) p
  | [], B, b, p => by simp [kf]
  | x :: A, B, b, p => by
    rw [List.cons_append, kf, kf, kf_app A B (b + 1) p]
    have e : b + 1 + A.length = b + (x :: A).length := by simp; omega
    rw [e]
    split <;> rfl
theorem kf_none : ∀ (A : List Nd) (b : Nat) (p : Int), (∀ x ∈ A, x.2.2 ≠ p) → kf A b p = []
  | [], _, _, _ => rfl
  | x :: A, b, p, h => by
    rw [kf, if_neg (h x (by simp)), kf_none A (b + 1) p (fun y hy => h y (by simp [hy]))]
theorem kf_flT (t : TT) (p b : Nat) (h : p < b) : kf (flT t (p : Int) b) b (p : Int) = [b] := by
  obtain ⟨r, e1, e2, e3⟩ := flT_ups t p b
  rw [e1, kf, if_pos e2, kf_none r (b + 1) p (fun x hx => by have := e3 x hx; omega)]
theorem kf_flK : ∀ (ks : List TT) (p b : Nat), p < b → kf (flK ks p b) b (p : Int) = stK ks b
  | [], _, _, _ => rfl
  | t :: r, p, b, h => by
    rw [flK, kf_app, kf_flT t p b h, flT_len, kf_flK r p (b + szT t) (by omega), stK]
    rfl
theorem kf_range : ∀ (l : List Nd) (b : Nat) (p : Int), kf l b p = ((List.range l.length).filter (fun i => decide ((l.getD i (0, 0, -1)).2.2 = p))).map (· + b)
  | [], _, _ => rfl
  | x :: l, b, p => by
    rw [List.length_cons, List.range_succ_eq_map, List.filter_cons, List.filter_map, kf, kf_range l (b + 1) p]
    have e : (fun i => decide ((List.getD (x :: l) i (0, 0, -1)).2.2 = p)) ∘ Nat.succ = fun i => decide ((l.getD i (0, 0, -1)).2.2 = p) := by
      funext i
      simp
    rw [e]
    have e2 : (decide ((List.getD (x :: l) 0 (0, 0, -1)).2.2 = p) = true) ↔ x.2.2 = p := by simp
    by_cases h : x.2.2 = p
    · rw [if_pos h, if_pos (e2.2 h), List.map_cons, List.map_map]
      congr 1
      · omega
      · congr 1
        funext i
        simp; omega
    · rw [if_neg h, if_neg (fun h' => h (e2.1 h')), List.map_map]
      congr 1
      funext i
      simp; omega
theorem kidsOf_kf (L : List Nd) (k : Nat) (hk : k < L.length) : kidsOf L k = kf (L.drop (k + 1)) (k + 1) (k : Int) := by
  rw [kf_range]
  unfold kidsOf
  have e : L.length = (k + 1) + (L.length - (k + 1)) := by omega
  conv => lhs; rw [e]
  rw [List.range_add, List.filter_append]
  have h1 : (List.range (k + 1)).filter (fun i => decide (k < i) && decide (upAt L i = (k : Int))) = [] := by
    rw [List.filter_eq_nil_iff]
    intro i hi
    have := List.mem_range.1 hi
    simp; omega
  rw [h1, List.nil_append, List.filter_map, List.length_drop]
  have h2 : (fun i => decide (k < i) && decide (upAt L i = (k : Int))) ∘ (fun x => k + 1 + x) = fun i => decide (((L.drop (k + 1)).getD i (0, 0, -1)).2.2 = (k : Int)) := by
    funext i
    have h3 : k < k + 1 + i := by omega
    simp only [Function.comp, h3, decide_true, Bool.true_and]
    unfold upAt
    rw [List.getD_eq_getElem?_getD, List.getD_eq_getElem?_getD, List.getElem?_drop]
  rw [h2]
  congr 1
  funext i
  omega
/-- Of a row that holds a tree's nodes: the parts of its first one. -/
theorem kids_tree {L A C : List Nd} {kd n : Int} {ks : List TT} {up : Int} {k : Nat} (hL : L = A ++ flT (.mk kd n ks) up k ++ C) (hA : A.length = k) (hC : ∀ x ∈ C, x.2.2 ≠ (k : Int)) : kidsOf L k = stK ks (k + 1) := by
  have hk : k < L.length := by rw [hL, List.length_append, List.length_append, flT_len]; have := szT_pos (.mk kd n ks); omega
  rw [kidsOf_kf L k hk]
  have hd : L.drop (k + 1) = flK ks k (k + 1) ++ C := by
    rw [hL, flT, List.append_assoc, List.drop_append, hA]
    have e : A.drop (k + 1) = [] := by rw [List.drop_eq_nil_iff]; omega
    rw [e, List.nil_append, show k + 1 - k = 1 by omega]
    rfl
  rw [hd, kf_app, kf_flK ks k (k + 1) (by omega), kf_none C _ _ hC, List.append_nil]

end Go.Proofs.YtebendaiokchdaaDoor

namespace Go.Proofs.YtebendaiokchdaaDoor
open Go.ChangeShapes Go.WideShapes Go.ChangeAt Go.RowKit

def kdT : TT → Int
  | .mk k _ _ => k
def nT : TT → Int
  | .mk _ n _ => n
mutual
/-- The parts of a tree lie behind the slice sl, in blocks from lo on and below hi. -/
def TRep (lo hi : Nat) (w : World) : TT → Value → Prop
  | .mk _ _ ks, sl => ∃ a cap, sl = .slice a ks.length cap ∧ KRep lo hi w ks a 0
def KRep (lo hi : Nat) (w : World) : List TT → Option Addr → Nat → Prop
  | [], _, _ => True
  | t :: r, a, j => (∃ g sl', a = some ⟨g, 0, none⟩ ∧ lo ≤ g ∧ g < hi ∧ w.cell? ⟨g, j * 3, none⟩ = some (.int .i64 (kdT t)) ∧ w.cell? ⟨g, j * 3 + 1, none⟩ = some (.int .i64 (nT t)) ∧ w.cell? ⟨g, j * 3 + 2, none⟩ = some sl' ∧ TRep lo hi w t sl') ∧ KRep lo hi w r a (j + 1)
end
mutual
theorem TRep.keep {lo hi : Nat} {w w' : World} (hk : ∀ g, lo ≤ g → g < hi → w'.heap[g]? = w.heap[g]?) : ∀ (t : TT) (sl : Value), TRep lo hi w t sl → TRep lo hi w' t sl
  | .mk _ _ ks, sl, h => by
    rw [TRep] at h ⊢
    obtain ⟨a, cap, e, hh⟩ := h
    exact ⟨a, cap, e, KRep.keep hk ks a 0 hh⟩
theorem KRep.keep {lo hi : Nat} {w w' : World} (hk : ∀ g, lo ≤ g → g < hi → w'.heap[g]? = w.heap[g]?) : ∀ (ks : List TT) (a : Option Addr) (j : Nat), KRep lo hi w ks a j → KRep lo hi w' ks a j
  | [], _, _, _ => by rw [KRep]; trivial
  | t :: r, a, j, h => by
    rw [KRep] at h ⊢
    obtain ⟨⟨g, sl', h1, h2, h3, h4, h5, h6, h7⟩, h8⟩ := h
    have hg := hk g h2 h3
    exact ⟨⟨g, sl', h1, h2, h3, (cell_heap hg _).trans h4, (cell_heap hg _).trans h5, (cell_heap hg _).trans h6, TRep.keep hk t sl' h7⟩, KRep.keep hk r a (j + 1) h8⟩
end
mutual
theorem TRep.wide {lo hi lo' hi' : Nat} {w : World} (h1 : lo' ≤ lo) (h2 : hi ≤ hi') : ∀ (t : TT) (sl : Value), TRep lo hi w t sl → TRep lo' hi' w t sl
  | .mk _ _ ks, sl, h => by
    rw [TRep] at h ⊢
    obtain ⟨a, cap, e, hh⟩ := h
    exact ⟨a, cap, e, KRep.wide h1 h2 ks a 0 hh⟩
theorem KRep.wide {lo hi lo' hi' : Nat} {w : World} (h1 : lo' ≤ lo) (h2 : hi ≤ hi') : ∀ (ks : List TT) (a : Option Addr) (j : Nat), KRep lo hi w ks a j → KRep lo' hi' w ks a j
  | [], _, _, _ => by rw [KRep]; trivial
  | t :: r, a, j, h => by
    rw [KRep] at h ⊢
    obtain ⟨⟨g, sl', g1, g2, g3, g4, g5, g6, g7⟩, g8⟩ := h
    exact ⟨⟨g, sl', g1, by omega, by omega, g4, g5, g6, TRep.wide h1 h2 t sl' g7⟩, KRep.wide h1 h2 r a (j + 1) g8⟩
end
theorem stK_len : ∀ (ks : List TT) (b : Nat), (stK ks b).length = ks.length
  | [], _ => rfl
  | t :: r, b => by rw [stK, List.length_cons, List.length_cons, stK_len r (b + szT t)]
theorem at_app {A X C : List Nd} {x : Nd} {k : Nat} (hA : A.length = k) : (A ++ (x :: X) ++ C).getD k (0, 0, -1) = x := by
  rw [List.getD_eq_getElem?_getD, List.append_assoc, List.getElem?_append_right (by omega), show k - A.length = 0 by omega]
  rfl
mutual
/-- A tree of its own, as the tree of a row that holds its nodes. -/
theorem tr_of {lo hi : Nat} {w : World} : ∀ (t : TT) (sl : Value) (up : Int) (k : Nat) (L A C : List Nd) (f : Nat), L = A ++ flT t up k ++ C → A.length = k → (∀ x ∈ C, x.2.2 < (k : Int) ∨ ((k + szT t : Nat) : Int) ≤ x.2.2) → szT t ≤ f → TRep lo hi w t sl → TrRep L lo hi f w k sl ∧ kdAt L k = kdT t ∧ nAt L k = nT t
  | .mk kd n ks, sl, up, k, L, A, C, f, hL, hA, hC, hf, h => by
    have hkd : kdAt L k = kd ∧ nAt L k = n := by
      unfold kdAt nAt
      rw [hL, flT, at_app hA]
      exact ⟨rfl, rfl⟩
    refine ⟨?_, hkd.1, hkd.2⟩
    rw [szT] at hf
    obtain ⟨f, rfl⟩ : ∃ f', f = f' + 1 := ⟨f - 1, by omega⟩
    rw [TRep] at h
    obtain ⟨a, cap, e, hh⟩ := h
    have hpos := szT_pos (.mk kd n ks)
    have hK := kids_tree hL hA (fun x hx => by have := hC x hx; omega)
    have H := kr_of ks a 0 k (k + 1) L (A ++ [(kd, n, up)]) C f (by rw [hL, flT]; simp) (by simp; omega) (by omega) (fun x hx => by have := hC x hx; rw [szT] at this; omega) (by omega) hh
    refine ⟨a, cap, by rw [e, hK, stK_len], fun j hj => ?_⟩
    simp only [hK] at hj ⊢
    obtain ⟨g, sl', h1, h2, h3, h4, h5, h6, h7⟩ := H j hj
    rw [Nat.zero_add] at h4 h5 h6
    exact ⟨g, sl', h1, h2, h3, h4, h5, h6, h7⟩
theorem kr_of {lo hi : Nat} {w : World} : ∀ (ks : List TT) (a : Option Addr) (j p b : Nat) (L A C : List Nd) (f : Nat), L = A ++ flK ks p b ++ C → A.length = b → p < b → (∀ x ∈ C, x.2.2 < (b : Int) ∨ ((b + szK ks : Nat) : Int) ≤ x.2.2) → szK ks ≤ f → KRep lo hi w ks a j →
    ∀ i (h : i < (stK ks b).length), ∃ g sl', a = some ⟨g, 0, none⟩ ∧ lo ≤ g ∧ g < hi ∧ w.cell? ⟨g, (j + i) * 3, none⟩ = some (.int .i64 (kdAt L (stK ks b)[i])) ∧ w.cell? ⟨g, (j + i) * 3 + 1, none⟩ = some (.int .i64 (nAt L (stK ks b)[i])) ∧ w.cell? ⟨g, (j + i) * 3 + 2, none⟩ = some sl' ∧ TrRep L lo hi f w (stK ks b)[i] sl'
  | [], _, _, _, _, _, _, _, _, _, _, _, _, _, _, i, h => by simp [stK] at h
  | t :: r, a, j, p, b, L, A, C, f, hL, hA, hp, hC, hf, h, i, hi => by
    rw [KRep] at h
    rw [szK] at hf hC
    obtain ⟨⟨g, sl', h1, h2, h3, h4, h5, h6, h7⟩, h8⟩ := h
    cases i with
    | zero =>
      have H := tr_of t sl' (p : Int) b L A (flK r p (b + szT t) ++ C) f (by rw [hL, flK]; simp) hA (fun x hx => by
        rcases List.mem_append.1 hx with hx | hx
        · rcases flK_ups r p (b + szT t) x hx with h | h <;> omega
        · have := hC x hx; omega) (by omega) h7
      refine ⟨g, sl', h1, h2, h3, ?_, ?_, ?_, ?_⟩
      · rw [Nat.add_zero]; simp only [stK, List.getElem_cons_zero]; rw [H.2.1]; exact h4
      · rw [Nat.add_zero]; simp only [stK, List.getElem_cons_zero]; rw [H.2.2]; exact h5
      · rw [Nat.add_zero]; exact h6
      · simp only [stK, List.getElem_cons_zero]; exact H.1
    | succ i =>
      have H := kr_of r a (j + 1) p (b + szT t) L (A ++ flT t (p : Int) b) C f (by rw [hL, flK]; simp) (by rw [List.length_append, flT_len, hA]) (by omega) (fun x hx => by have := hC x hx; omega) (by omega) h8 i (by simpa [stK] using hi)
      simp only [stK, List.getElem_cons_succ]
      rw [show j + 1 + i = j + (i + 1) by omega] at H
      exact H
end
/-- Of a whole row. -/
theorem tr_whole {lo hi : Nat} {w : World} {t : TT} {sl : Value} (h : TRep lo hi w t sl) : TrRep (flT t (-1) 0) lo hi (flT t (-1) 0).length w 0 sl ∧ kdAt (flT t (-1) 0) 0 = kdT t ∧ nAt (flT t (-1) 0) 0 = nT t :=
  tr_of t sl (-1) 0 _ [] [] _ (by simp) rfl (fun x hx => by cases hx) (by rw [flT_len]; exact Nat.le_refl _) h

end Go.Proofs.YtebendaiokchdaaDoor

namespace Go.Proofs.YtebendaiokchdaaDoor

def treeT (L : List Nd) : Nat → Nat → TT
  | 0, _ => .mk 0 0 []
  | f + 1, k => .mk (kdAt L k) (nAt L k) ((kidsOf L k).map (treeT L f))
/-- The nodes from k on and below e, as they stand in the whole. -/
def seg (L : List Nd) (k e : Nat) : List Nd := (L.drop k).take (e - k)
theorem seg_len {L : List Nd} {k e : Nat} (h1 : k ≤ e) (h2 : e ≤ L.length) : (seg L k e).length = e - k := by
  unfold seg
  rw [List.length_take, List.length_drop]
  omega
theorem seg_app {L : List Nd} {a b c : Nat} (h1 : a ≤ b) (h2 : b ≤ c) : seg L a c = seg L a b ++ seg L b c := by
  unfold seg
  have e : L.drop b = (L.drop a).drop (b - a) := by rw [List.drop_drop]; congr 1; omega
  rw [e, show c - a = (b - a) + (c - b) by omega, List.take_add]
theorem seg_one {L : List Nd} {k : Nat} (hk : k < L.length) : seg L k (k + 1) = [(kdAt L k, nAt L k, upAt L k)] := by
  unfold seg
  rw [← at_node hk, List.drop_eq_getElem_cons hk, show k + 1 - k = 1 by omega]
  rfl
theorem seg_whole (L : List Nd) : seg L 0 L.length = L := by unfold seg; simp
theorem chain_lt {e : Nat} : ∀ (ks : List Nat) (c : Nat), (∀ i (h : i < (c :: ks).length), (c :: ks)[i] < endAt (c :: ks) e i) → c < e
  | [], c, h => h 0 (by simp)
  | d :: ks, c, h => by
    have h1 : c < d := h 0 (by simp)
    have h2 := chain_lt ks d (fun i hi => by
      have := h (i + 1) (by simpa using hi)
      exact this)
    omega
theorem flK_kids {L : List Nd} {f k : Nat} (IH : ∀ c q, isEnd L c q → k < c → flT (treeT L f c) (upAt L c) c = seg L c q) {e : Nat} :
    ∀ (ks : List Nat) (c : Nat), (∀ i (h : i < (c :: ks).length), isEnd L (c :: ks)[i] (endAt (c :: ks) e i) ∧ k < (c :: ks)[i] ∧ upAt L (c :: ks)[i] = (k : Int)) →
      flK ((c :: ks).map (treeT L f)) k c = seg L c e
  | [], c, h => by
    obtain ⟨h1, h2, h3⟩ := h 0 (by simp)
    have h1' : isEnd L c e := h1
    have h2' : k < c := h2
    have h3' : upAt L c = (k : Int) := h3
    have H := IH c e h1' h2'
    rw [h3'] at H
    rw [List.map_cons, List.map_nil, flK, flK, List.append_nil]
    exact H
  | d :: ks, c, h => by
    obtain ⟨h1, h2, h3⟩ := h 0 (by simp)
    have h1' : isEnd L c d := h1
    have h2' : k < c := h2
    have h3' : upAt L c = (k : Int) := h3
    have H := IH c d h1' h2'
    rw [h3'] at H
    have hz : szT (treeT L f c) = d - c := by
      rw [← flT_len (treeT L f c) (k : Int) c, H]
      exact seg_len (Nat.le_of_lt h1'.1) h1'.2.1
    have hcd := h1'.1
    have H2 := flK_kids IH ks d (fun i hi => by
      have := h (i + 1) (by simpa using hi)
      exact this)
    have hde : d ≤ e := Nat.le_of_lt (chain_lt ks d (fun i hi => by
      have := (h (i + 1) (by simpa using hi)).1.1
      exact this))
    rw [List.map_cons, flK, hz, show c + (d - c) = d by omega, H2, H, ← seg_app (Nat.le_of_lt hcd) hde]
theorem flT_tree {L : List Nd} (hG : goodT L = true) : ∀ (f k e : Nat), isEnd L k e → L.length - k ≤ f → flT (treeT L f k) (upAt L k) k = seg L k e
  | 0, k, e, he, hf => by have h1 := he.1; have h2 := he.2.1; omega
  | f + 1, k, e, he, hf => by
    have hU := ups_good hG
    have hkl : k < L.length := by have h1 := he.1; have h2 := he.2.1; omega
    rw [treeT, flT, seg_app (b := k + 1) (by omega) he.1, seg_one hkl]
    congr 1
    cases hK : kidsOf L k with
    | nil =>
      obtain rfl := end_one hU he hK
      unfold seg
      simp [flK]
    | cons c ks =>
      have hc := kid_one hU he hK
      subst hc
      exact flK_kids (fun c q hq hkc => flT_tree hG f c q hq (by have := hq.1; have := hq.2.1; omega)) ks (k + 1) (fun i hi => by
        have h1 := parts_end hU he i (by rw [hK]; exact hi)
        have e3 : (kidsOf L k)[i]'(by rw [hK]; exact hi) = ((k + 1) :: ks)[i] := by simp [hK]
        rw [e3, hK] at h1
        have hm : ((k + 1) :: ks)[i] ∈ kidsOf L k := by rw [hK]; exact List.getElem_mem hi
        unfold kidsOf at hm
        rw [List.mem_filter] at hm
        have h2 := hm.2
        simp at h2
        exact ⟨h1, h2.1, h2.2⟩)
theorem flT_type {L : List Nd} (hG : goodT L = true) : flT (treeT L L.length 0) (-1) 0 = L := by
  have hU := ups_good hG
  obtain ⟨s, hs⟩ := ups_at hU (show 0 < L.length by have := hU.1; omega)
  have h := flT_tree hG L.length 0 L.length (isEnd_whole hU) (by omega)
  rw [up_zero hs, seg_whole] at h
  exact h

end Go.Proofs.YtebendaiokchdaaDoor

namespace Go.Proofs.YtebendaiokchdaaDoor

def nc (c : UInt8) : Bool := (decide (97 ≤ c.toNat) && decide (c.toNat ≤ 122)) || (decide (48 ≤ c.toNat) && decide (c.toNat ≤ 57))
def dgc (c : UInt8) : Bool := decide (48 ≤ c.toNat) && decide (c.toNat ≤ 57)
def dval (l : List UInt8) : Int := l.foldl (fun a c => 10 * a + ((c.toNat : Int) - 48)) 0
/-- Parts one behind the other, as the specification reads them. -/
def rdL (g : List UInt8 → TT × Nat) : Nat → List UInt8 → Nat → List TT → List TT × Nat
  | 0, _, _, acc => (acc, 0)
  | c + 1, r, n, acc =>
    if (g r).2 = 0 ∨ r.length ≤ (g r).2 then (acc, 0)
    else if r.getD (g r).2 0 = 62 then (acc ++ [(g r).1], n + (g r).2 + 1)
    else if r.getD (g r).2 0 = 44 then rdL g c (r.drop ((g r).2 + 1)) (n + (g r).2 + 1) (acc ++ [(g r).1])
    else (acc ++ [(g r).1], 0)
def nLen (s : List UInt8) : Nat := (s.takeWhile nc).length
def nKind (s : List UInt8) : Int := kn (s.take (nLen s))
def dLen (r : List UInt8) : Nat := ((r.take 4).takeWhile dgc).length
/-- What is read of a number in brackets, of a kind. -/
def rdN (k : Int) (r : List UInt8) (n : Nat) : TT × Nat :=
  (.mk k (dval (r.take (dLen r))) [], if dLen r = 0 ∨ r.length ≤ dLen r ∨ r.getD (dLen r) 0 ≠ 62 ∨ dval (r.take (dLen r)) < (shp4 k).2.2.1 then 0 else n + 1 + dLen r + 1)
def rdT : Nat → List UInt8 → TT × Nat
  | 0, s => (.mk (nKind s) 0 [], 0)
  | f + 1, s =>
    if nKind s = 0 then (.mk 0 0 [], 0)
    else if (shp4 (nKind s)).1 = 0 ∧ (shp4 (nKind s)).2.2.2 = 0 then (.mk (nKind s) 0 [], nLen s)
    else if s.length ≤ nLen s ∨ s.getD (nLen s) 0 ≠ 60 then (.mk (nKind s) 0 [], 0)
    else if (shp4 (nKind s)).1 = 0 then rdN (nKind s) (s.drop (nLen s + 1)) (nLen s)
    else (.mk (nKind s) 0 (rdL (rdT f) 9 (s.drop (nLen s + 1)) (nLen s + 1) []).1, (rdL (rdT f) 9 (s.drop (nLen s + 1)) (nLen s + 1) []).2)

theorem nm_nc : ∀ j : Fin 22, (∀ c ∈ nm ((j.val : Nat) : Int), nc c = true) ∧ (j.val ≠ 0 → 1 ≤ (nm ((j.val : Nat) : Int)).length) := by decide +kernel
theorem nm_ncs {x : Int} (h0 : 1 ≤ x) (h1 : x ≤ 21) : (∀ c ∈ nm x, nc c = true) ∧ 1 ≤ (nm x).length := by
  have H := nm_nc ⟨x.toNat, by omega⟩
  simp only [show ((x.toNat : Nat) : Int) = x by omega] at H
  exact ⟨H.1, H.2 (by omega)⟩
theorem dec_dgc : ∀ j : Fin 301, (∀ c ∈ Lib.decDigits j.val, dgc c = true) ∧ dval (Lib.decDigits j.val) = ((j.val : Nat) : Int) ∧ 1 ≤ (Lib.decDigits j.val).length ∧ (Lib.decDigits j.val).length ≤ 3 := by decide +kernel
theorem shp_lo : ∀ j : Fin 22, ((shp4 ((j.val : Nat) : Int)).2.1 = 0 ∨ 1 ≤ (shp4 ((j.val : Nat) : Int)).1) ∧ (withN ((j.val : Nat) : Int) = true → (shp4 ((j.val : Nat) : Int)).1 = 0 ∧ 0 < (shp4 ((j.val : Nat) : Int)).2.2.2) ∧ (shp4 ((j.val : Nat) : Int)).2.1 ≤ 8 ∧ 0 ≤ (shp4 ((j.val : Nat) : Int)).1 := by decide +kernel
theorem takeW_app {p : UInt8 → Bool} : ∀ (w r : List UInt8), (∀ c ∈ w, p c = true) → (r = [] ∨ ∃ d r', r = d :: r' ∧ p d = false) → (w ++ r).takeWhile p = w
  | [], r, _, hr => by
    rcases hr with rfl | ⟨d, r', rfl, hd⟩
    · rfl
    · simp [hd]
  | c :: w, r, h, hr => by
    rw [List.cons_append, List.takeWhile_cons, if_pos (h c (by simp)), takeW_app w r (fun x hx => h x (by simp [hx])) hr]
theorem aft_nc {r : List UInt8} (h : r = [] ∨ ∃ d r', r = d :: r' ∧ (d = 44 ∨ d = 60 ∨ d = 62)) : r = [] ∨ ∃ d r', r = d :: r' ∧ nc d = false := by
  rcases h with h | ⟨d, r', e, hd⟩
  · exact .inl h
  · refine .inr ⟨d, r', e, ?_⟩
    rcases hd with rfl | rfl | rfl <;> decide
/-- What may follow a type's text within another. -/
def Aft3 (r : List UInt8) : Prop := r = [] ∨ ∃ d r', r = d :: r' ∧ (d = 44 ∨ d = 62)
theorem name_read {x : Int} (h0 : 1 ≤ x) (h1 : x ≤ 21) {r : List UInt8} (h : r = [] ∨ ∃ d r', r = d :: r' ∧ (d = 44 ∨ d = 60 ∨ d = 62)) : nLen (nm x ++ r) = (nm x).length ∧ nKind (nm x ++ r) = x := by
  have hl : nLen (nm x ++ r) = (nm x).length := by
    unfold nLen
    rw [takeW_app _ _ (nm_ncs h0 h1).1 (aft_nc h)]
  refine ⟨hl, ?_⟩
  unfold nKind
  rw [hl, List.take_left']
  · exact (nm_of (x := x) (by omega) h1).2.2
  · rfl
theorem getD_app (w r : List UInt8) (d : UInt8) (r' : List UInt8) (h : r = d :: r') : (w ++ r).getD w.length 0 = d := by
  subst h
  rw [List.getD_eq_getElem?_getD, List.getElem?_append_right (by omega), Nat.sub_self]
  rfl
theorem drop_app (w r : List UInt8) (d : UInt8) (r' : List UInt8) (h : r = d :: r') : (w ++ r).drop (w.length + 1) = r' := by
  subst h
  rw [List.drop_append, List.drop_eq_nil_of_le (by omega), List.nil_append, show w.length + 1 - w.length = 1 by omega]
  rfl
/-- Parts' texts are read as their trees. -/
theorem rdL_kids {L : List Nd} {f : Nat} {g : List UInt8 → TT × Nat} {T : Nat → TT} (hpos : ∀ c, 1 ≤ (txt L f c).length ∨ True)
    : ∀ (ks : List Nat) (c cnt n : Nat) (acc : List TT) (r : List UInt8), (∀ d ∈ c :: ks, 1 ≤ (txt L f d).length ∧ ∀ r, Aft3 r → g (txt L f d ++ r) = (T d, (txt L f d).length)) → (c :: ks).length ≤ cnt →
      rdL g cnt (Lib.join ((c :: ks).map (txt L f)) [44] ++ 62 :: r) n acc = (acc ++ (c :: ks).map T, n + (Lib.join ((c :: ks).map (txt L f)) [44]).length + 1)
  | [], c, cnt, n, acc, r, h, hc => by
    obtain ⟨cnt, rfl⟩ : ∃ m, cnt = m + 1 := ⟨cnt - 1, by simp at hc; omega⟩
    obtain ⟨h1, h2⟩ := h c (by simp)
    have h3 := h2 (62 :: r) (.inr ⟨62, r, rfl, .inr rfl⟩)
    rw [List.map_cons, List.map_nil, Lib.join_one, rdL, h3]
    have e1 : ¬ ((txt L f c).length = 0 ∨ (txt L f c ++ 62 :: r).length ≤ (txt L f c).length) := by
      rw [List.length_append, List.length_cons]
      omega
    simp only
    rw [if_neg e1, if_pos (getD_app _ _ 62 r rfl)]
    rfl
  | d :: ks, c, cnt, n, acc, r, h, hc => by
    obtain ⟨cnt, rfl⟩ : ∃ m, cnt = m + 1 := ⟨cnt - 1, by simp at hc; omega⟩
    obtain ⟨h1, h2⟩ := h c (by simp)
    rw [List.map_cons, List.map_cons, join_two]
    have e2 : txt L f c ++ ([44] ++ Lib.join (txt L f d :: ks.map (txt L f)) [44]) ++ 62 :: r = txt L f c ++ 44 :: (Lib.join (txt L f d :: ks.map (txt L f)) [44] ++ (62 :: r)) := by simp
    have h3 := h2 (44 :: (Lib.join (txt L f d :: ks.map (txt L f)) [44] ++ (62 :: r))) (.inr ⟨44, _, rfl, .inl rfl⟩)
    rw [e2, rdL, h3]
    have e1 : ¬ ((txt L f c).length = 0 ∨ (txt L f c ++ 44 :: (Lib.join (txt L f d :: ks.map (txt L f)) [44] ++ (62 :: r))).length ≤ (txt L f c).length) := by
      rw [List.length_append, List.length_cons]
      omega
    have eg : (txt L f c ++ 44 :: (Lib.join (txt L f d :: ks.map (txt L f)) [44] ++ (62 :: r))).getD (txt L f c).length 0 = 44 := getD_app _ _ 44 _ rfl
    simp only
    rw [if_neg e1, eg, if_neg (by decide), if_pos rfl, drop_app _ _ 44 _ rfl]
    have H := rdL_kids hpos ks d cnt (n + (txt L f c).length + 1) (acc ++ [T c]) r (fun x hx => h x (by simp at hx ⊢; exact .inr hx)) (by simp at hc ⊢; omega)
    rw [List.map_cons] at H
    rw [H]
    simp
    omega
/-- How deep a node lies. -/
theorem path_same {U : Nat → Int} : ∀ (a b : List Nat), Path U a → Path U b → a.head? = b.head? → a.length = b.length
  | [], _, h, _, _ => by simp [Path] at h
  | _ :: _, [], _, h, _ => by simp [Path] at h
  | [i], [j], _, _, _ => rfl
  | [i], j :: k :: r, h1, h2, h3 => by
    simp at h3
    subst h3
    simp only [Path] at h1 h2
    obtain ⟨rfl, h4⟩ := h1
    have := h2.1
    omega
  | i :: k :: r, [j], h1, h2, h3 => by
    simp at h3
    subst h3
    simp only [Path] at h1 h2
    obtain ⟨rfl, h4⟩ := h2
    have := h1.1
    omega
  | i :: k :: r, j :: m :: q, h1, h2, h3 => by
    simp at h3
    subst h3
    rw [Path] at h1 h2
    have e : k = m := by have := h1.1; have := h2.1; omega
    subst e
    have := path_same (k :: r) (k :: q) h1.2.2 h2.2.2 rfl
    simp at this ⊢
    exact this
theorem stk_kid {U : Nat → Int} {k c : Nat} {s t : List Nat} (hk : stk U k = some s) (hc : stk U c = some t) (hu : U c = (k : Int)) (hpos : 0 < c) : t.length = s.length + 1 := by
  obtain ⟨c, rfl⟩ : ∃ m, c = m + 1 := ⟨c - 1, by omega⟩
  unfold stk at hc
  cases hm : stk U c with
  | none => rw [hm] at hc; cases hc
  | some m =>
    rw [hm] at hc
    simp only at hc
    split at hc
    · cases hc
    · rename_i hn
      simp only [Option.some.injEq] at hc
      obtain ⟨p1, i, r, p2, p3⟩ := pops_path (U (c + 1)) m (stk_good c m hm).1 (by omega)
      have hg := stk_good k s hk
      have hik : i = k := by rw [hu] at p3; omega
      have := path_same _ _ p1 hg.1 (by rw [p2, hg.2.1, hik]; rfl)
      rw [← hc, List.length_cons, this]

/-- A type's text is read as its tree. -/
theorem rdT_txt {L : List Nd} (hG : goodT L = true) : ∀ (f k e : Nat) (s : List Nat), isEnd L k e → stk (upAt L) k = some s → 9 ≤ f + s.length → ∀ (g : Nat), L.length - k ≤ g → ∀ r, Aft3 r → rdT f (txt L g k ++ r) = (treeT L g k, (txt L g k).length)
  | 0, k, e, s, he, hs, hf, g, hg, r, hr => by have := (stk_good k s hs).2.2.1; omega
  | f + 1, k, e, s, he, hs, hf, g, hg, r, hr => by
    have hU := ups_good hG
    have hkl : k < L.length := by have h1 := he.1; have h2 := he.2.1; omega
    obtain ⟨g, rfl⟩ : ∃ m, g = m + 1 := ⟨g - 1, by omega⟩
    obtain ⟨⟨k1, k2⟩, k3, k4⟩ := node_n hG hkl
    have hnode : nodeOk (L.getD k (0, 0, -1)) ((kidsOf L k).length : Int) = true := by
      have h := hG
      unfold goodT at h
      simp at h
      have := nodesOk_le L L.length (k + 1) h.2 (by omega)
      rw [nodesOk_succ] at this
      simp at this
      exact this.2
    unfold nodeOk at hnode
    simp only [Bool.and_eq_true, decide_eq_true_eq] at hnode
    obtain ⟨⟨⟨⟨⟨_, _⟩, n3⟩, n4⟩, n5⟩, n6⟩ := hnode
    have n3' : (shp4 (kdAt L k)).1 ≤ ((kidsOf L k).length : Int) := n3
    have n4' : ((kidsOf L k).length : Int) ≤ (shp4 (kdAt L k)).2.1 := n4
    have n5' : (shp4 (kdAt L k)).2.2.1 ≤ nAt L k := n5
    have hsl := shp_lo ⟨(kdAt L k).toNat, by omega⟩
    simp only [show (((kdAt L k).toNat : Nat) : Int) = kdAt L k by omega] at hsl
    obtain ⟨s1, s2, s3, s4⟩ := hsl
    have hk0 : ¬ kdAt L k = 0 := by omega
    cases hK : kidsOf L k with
    | nil =>
      rw [hK] at n3' n4'
      have hlo : (shp4 (kdAt L k)).1 = 0 := by simp at n3'; omega
      have et0 : treeT L (g + 1) k = .mk (kdAt L k) (nAt L k) [] := by rw [treeT, hK]; rfl
      cases hw : withN (kdAt L k) with
      | false =>
        have hz := node_zero hG hkl hw
        have et : txt L (g + 1) k = nm (kdAt L k) := by rw [txt, hK, hw]; simp
        obtain ⟨r1, r2⟩ := name_read k1 k2 (r := r) (by
          rcases hr with h | ⟨d, r', e, hd⟩
          · exact .inl h
          · exact .inr ⟨d, r', e, by rcases hd with h | h <;> simp [h]⟩)
        rw [et, et0, rdT, r1, r2, if_neg hk0, if_pos ⟨hlo, k4 hw⟩, hz]
      | true =>
        obtain ⟨n0, n1, _⟩ := k3 hw
        have et : txt L (g + 1) k = nm (kdAt L k) ++ (60 :: (Lib.decDigits (nAt L k).toNat ++ [62])) := by rw [txt, hK, hw]; simp
        have e2 : txt L (g + 1) k ++ r = nm (kdAt L k) ++ (60 :: (Lib.decDigits (nAt L k).toNat ++ (62 :: r))) := by rw [et]; simp
        obtain ⟨r1, r2⟩ := name_read k1 k2 (r := 60 :: (Lib.decDigits (nAt L k).toNat ++ (62 :: r))) (.inr ⟨60, _, rfl, by simp⟩)
        obtain ⟨d1, d2, d3, d4⟩ := dec_dgc ⟨(nAt L k).toNat, by omega⟩
        simp only at d1 d2 d3 d4
        have hs2 := (s2 hw).2
        have hdl : dLen (Lib.decDigits (nAt L k).toNat ++ (62 :: r)) = (Lib.decDigits (nAt L k).toNat).length := by
          unfold dLen
          have e3 : (Lib.decDigits (nAt L k).toNat ++ (62 :: r)).take 4 = Lib.decDigits (nAt L k).toNat ++ (62 :: r).take (4 - (Lib.decDigits (nAt L k).toNat).length) := by
            rw [List.take_append, List.take_of_length_le (by omega)]
          rw [e3]
          obtain ⟨m, hm⟩ : ∃ m, 4 - (Lib.decDigits (nAt L k).toNat).length = m + 1 := ⟨3 - (Lib.decDigits (nAt L k).toNat).length, by omega⟩
          rw [hm, List.take_succ_cons, takeW_app _ _ d1 (.inr ⟨62, _, rfl, by decide⟩)]
        rw [e2, et0, rdT, r1, r2, if_neg hk0, if_neg (fun h => by omega)]
        have hle : ¬ ((nm (kdAt L k) ++ (60 :: (Lib.decDigits (nAt L k).toNat ++ (62 :: r)))).length ≤ (nm (kdAt L k)).length ∨ (nm (kdAt L k) ++ (60 :: (Lib.decDigits (nAt L k).toNat ++ (62 :: r)))).getD (nm (kdAt L k)).length 0 ≠ 60) := by
          rw [getD_app _ _ 60 _ rfl, List.length_append, List.length_cons]
          rintro (h | h)
          · omega
          · exact h rfl
        rw [if_neg hle, if_pos hlo, drop_app _ _ 60 _ rfl]
        unfold rdN
        rw [hdl, List.take_left' rfl, d2, show (((nAt L k).toNat : Nat) : Int) = nAt L k by omega]
        have hle2 : ¬ ((Lib.decDigits (nAt L k).toNat).length = 0 ∨ (Lib.decDigits (nAt L k).toNat ++ (62 :: r)).length ≤ (Lib.decDigits (nAt L k).toNat).length ∨ (Lib.decDigits (nAt L k).toNat ++ (62 :: r)).getD (Lib.decDigits (nAt L k).toNat).length 0 ≠ 62 ∨ nAt L k < (shp4 (kdAt L k)).2.2.1) := by
          rw [getD_app _ _ 62 _ rfl, List.length_append, List.length_cons]
          rintro (h | h | h | h)
          · omega
          · omega
          · exact h rfl
          · omega
        rw [if_neg hle2, et]
        simp only [List.length_append, List.length_cons, List.length_nil]
        congr 1
        omega
    | cons c ks =>
      rw [hK] at n3' n4'
      simp only [List.length_cons] at n4' n3'
      have hw : withN (kdAt L k) = false := by
        cases hw : withN (kdAt L k) with
        | false => rfl
        | true => have := (k3 hw).2.2; rw [hK] at this; simp at this
      have hz := node_zero hG hkl hw
      have hlo : ¬ (shp4 (kdAt L k)).1 = 0 := by omega
      have et0 : treeT L (g + 1) k = .mk (kdAt L k) (nAt L k) ((c :: ks).map (treeT L g)) := by rw [treeT, hK]
      have et : txt L (g + 1) k = nm (kdAt L k) ++ (60 :: (Lib.join ((c :: ks).map (txt L g)) [44] ++ [62])) := by rw [txt, hK]; simp
      have e2 : txt L (g + 1) k ++ r = nm (kdAt L k) ++ (60 :: (Lib.join ((c :: ks).map (txt L g)) [44] ++ (62 :: r))) := by rw [et]; simp
      obtain ⟨r1, r2⟩ := name_read k1 k2 (r := 60 :: (Lib.join ((c :: ks).map (txt L g)) [44] ++ (62 :: r))) (.inr ⟨60, _, rfl, by simp⟩)
      rw [e2, et0, rdT, r1, r2, if_neg hk0, if_neg (fun h => hlo h.1)]
      have hle : ¬ ((nm (kdAt L k) ++ (60 :: (Lib.join ((c :: ks).map (txt L g)) [44] ++ (62 :: r)))).length ≤ (nm (kdAt L k)).length ∨ (nm (kdAt L k) ++ (60 :: (Lib.join ((c :: ks).map (txt L g)) [44] ++ (62 :: r)))).getD (nm (kdAt L k)).length 0 ≠ 60) := by
        rw [getD_app _ _ 60 _ rfl, List.length_append, List.length_cons]
        rintro (h | h)
        · omega
        · exact h rfl
      rw [if_neg hle, if_neg hlo, drop_app _ _ 60 _ rfl]
      have H := rdL_kids (L := L) (f := g) (g := rdT f) (T := treeT L g) (fun _ => .inr trivial) ks c 9 ((nm (kdAt L k)).length + 1) [] r (fun d hd => by
        have hm : d ∈ kidsOf L k := by rw [hK]; exact hd
        obtain ⟨hkd, hdl⟩ := kids_mem hm
        obtain ⟨q, hq⟩ := end_ofT hU hdl
        obtain ⟨t, ht⟩ := ups_at hU hdl
        have hud : upAt L d = (k : Int) := by
          unfold kidsOf at hm
          rw [List.mem_filter] at hm
          have h2 := hm.2
          simp at h2
          exact h2.2
        have hdep := stk_kid hs ht hud (by omega)
        refine ⟨?_, fun r hr => rdT_txt hG f d q t hq ht (by omega) g (by omega) r hr⟩
        obtain ⟨g, rfl⟩ : ∃ m, g = m + 1 := ⟨g - 1, by omega⟩
        have hn := (nm_ncs (node_n hG hdl).1.1 (node_n hG hdl).1.2).2
        rw [txt, List.length_append]
        omega) (by simp; omega)
      rw [H, et, hz]
      simp only [List.length_append, List.length_cons, List.length_nil, List.nil_append]
      congr 1
      omega
theorem rdT_type {L : List Nd} (hG : goodT L = true) : rdT 8 (txt L L.length 0) = (treeT L L.length 0, (txt L L.length 0).length) := by
  have hU := ups_good hG
  obtain ⟨s, hs⟩ := ups_at hU (show 0 < L.length by have := hU.1; omega)
  have h := rdT_txt hG 8 0 L.length s (isEnd_whole hU) hs (by
    have : s = [0] := by
      unfold stk at hs
      split at hs
      · exact (Option.some.inj hs).symm
      · cases hs
    rw [this]; simp) L.length (by omega) [] (.inl rfl)
  rw [List.append_nil] at h
  exact h

end Go.Proofs.YtebendaiokchdaaDoor

namespace Go.Proofs.YtebendaiokchdaaDoor
open Go.ChangeShapes Go.WideShapes Go.ChangeAt Go.RowKit Go.PlainAid

theorem KRep.get {lo hi : Nat} {w : World} : ∀ (ks : List TT) (a : Option Addr) (j : Nat), KRep lo hi w ks a j → ∀ m (h : m < ks.length), ∃ g sl', a = some ⟨g, 0, none⟩ ∧ lo ≤ g ∧ g < hi ∧ w.cell? ⟨g, (j + m) * 3, none⟩ = some (.int .i64 (kdT ks[m])) ∧ w.cell? ⟨g, (j + m) * 3 + 1, none⟩ = some (.int .i64 (nT ks[m])) ∧ w.cell? ⟨g, (j + m) * 3 + 2, none⟩ = some sl' ∧ TRep lo hi w ks[m] sl'
  | [], _, _, _, m, h => by simp at h
  | t :: r, a, j, h, m, hm => by
    rw [KRep] at h
    obtain ⟨h1, h2⟩ := h
    cases m with
    | zero => simpa using h1
    | succ m =>
      have := KRep.get r a (j + 1) h2 m (by simpa using hm)
      rw [show j + 1 + m = j + (m + 1) by omega] at this
      simpa using this
theorem flK_snoc : ∀ (a : List TT) (t : TT) (p b : Nat), flK (a ++ [t]) p b = flK a p b ++ flT t (p : Int) (b + szK a)
  | [], t, p, b => by simp [flK, szK]
  | x :: a, t, p, b => by
    rw [List.cons_append, flK, flK, flK_snoc a t p (b + szT x), szK, List.append_assoc]
    congr 3
    omega
theorem szK_take (ks : List TT) : ∀ m, szK (ks.take m) ≤ szK ks := by
  induction ks with
  | nil => intro m; simp
  | cons t r ih =>
    intro m
    cases m with
    | zero => simp [szK]
    | succ m =>
      have := ih m
      rw [List.take_succ_cons, szK, szK]
      omega
theorem szT_at : ∀ (ks : List TT) (m : Nat) (h : m < ks.length), szK (ks.take m) + szT ks[m] ≤ szK ks
  | t :: r, 0, _ => by simp [szK]
  | t :: r, m + 1, h => by
    have := szT_at r m (by simpa using h)
    rw [List.take_succ_cons, szK, szK]
    simp only [List.getElem_cons_succ]
    omega
theorem trep_one {lo hi : Nat} {w : World} {t : TT} {sl : Value} (h : TRep lo hi w t sl) : ∃ a n c, sl = .slice a n c := by
  cases t
  rw [TRep] at h
  obtain ⟨a, cap, e, _⟩ := h
  exact ⟨a, _, cap, e⟩

theorem ar1 {l2 l st z sk : Nat} (h2 : l2 = l + 1 + st) (hsz : st + z ≤ sk) (hl : l + (1 + sk) ≤ 2000000) : l2 + z ≤ 2000000 := by omega
theorem ar2 {st z sk n : Nat} (hsz : st + z ≤ sk) (h : 1 + sk ≤ n + 1) : z ≤ n := by omega
theorem ar3 {m k : Nat} (h : m < k) : (m : Int) < (k : Int) ∧ m + 1 ≤ k := by omega
theorem ar4 {m k : Nat} (h : m < k) (hk : k ≤ 2000000) : m ≤ 2000000 := by omega
theorem ar5 {m k : Nat} (h1 : m ≤ k) (h2 : k ≤ m) : m = k ∧ ¬ (m : Int) < (k : Int) := by omega
theorem ar6 {m k : Nat} (h : m < k) : k - (intOf (Value.int .i64 ((m : Int) + 1))).toNat < k - (intOf (Value.int .i64 (m : Int))).toNat := by simp [intOf]; omega
theorem kidsle : ∀ l : List TT, l.length ≤ szK l
  | [] => Nat.le_refl _
  | t :: r => by rw [szK, List.length_cons]; have := szT_pos t; have := kidsle r; omega
theorem ar7 {k sk l : Nat} (h : k ≤ sk) (h2 : l + (1 + sk) ≤ 2000000) : k ≤ 2000000 := by omega
set_option maxRecDepth 100000 in
set_option maxHeartbeats 3200000 in
theorem specFlatT : ∀ (n : Nat) (t : TT), szT t ≤ n → ∀ (B lo hi : Nat) (w : World) (v : Value) (L : List Nd) (up : Int) (sl : Value), NdO B w v L → B ≤ w.heap.size → hi ≤ B → TRep lo hi w t sl → L.length + szT t ≤ 2000000 →
    Calls Tryd.prog 34 #[v, .agg #[.int .i64 (kdT t), .int .i64 (nT t), sl], .int .i64 up] w fun e w' => ∃ v', e = .returned v' ∧ NdO B w' v' (L ++ flT t up L.length) ∧ Below B w w'
  | 0, t, hn => by have := szT_pos t; omega
  | n + 1, .mk kd nn ks, hn => by
    intro B lo hi w v L up sl hO hB hhi hT hl
    rw [TRep] at hT
    obtain ⟨a, cap, rfl, hK⟩ := hT
    rw [szT] at hn hl
    obtain ⟨a0, c0, rfl⟩ := ownsRow_shape hO
    obtain ⟨y, hy⟩ : ∃ y, w.heap.size = y := ⟨_, rfl⟩
    obtain ⟨W, hW⟩ : ∃ W, w.alloc (.cells #[.int .i64 kd, .int .i64 nn, .slice a ks.length cap] 40) = W := ⟨_, rfl⟩
    obtain ⟨X, hX⟩ : ∃ X, W.alloc (.cells #[.int .i64 kd, .int .i64 nn, .int .i64 up] 33) = X := ⟨_, rfl⟩
    have hbW : W.heap[y]? = some (.cells #[.int .i64 kd, .int .i64 nn, .slice a ks.length cap] 40 (0, 0)) := by rw [← hW, ← hy]; exact heap_alloc_new _ _
    have hWs : W.heap.size = y + 1 := by rw [← hW, ← hy]; simp
    obtain ⟨z, hz⟩ : ∃ z, W.heap.size = z := ⟨_, rfl⟩
    have hbX : X.heap[z]? = some (.cells #[.int .i64 kd, .int .i64 nn, .int .i64 up] 33 (0, 0)) := by rw [← hX, ← hz]; exact heap_alloc_new _ _
    have hyX : X.heap[y]? = some (.cells #[.int .i64 kd, .int .i64 nn, .slice a ks.length cap] 40 (0, 0)) := by rw [← hX]; exact (Below.heap_alloc _ _ _ (by omega)).trans hbW
    have HOX : Hid (NdO B X (.slice a0 L.length c0) L) := by unfold Hid; rw [← hX, ← hW]; exact (hO.alloc _).alloc _
    have HBX : Hid (Below B w X ∧ B ≤ X.heap.size) := by
      unfold Hid; rw [← hX, ← hW]
      refine ⟨((Below.refl _ _).alloc hB _).alloc (by simp; omega) _, by simp; omega⟩
    have HYX : Hid (X.heap[y]? = some (.cells #[.int .i64 kd, .int .i64 nn, .slice a ks.length cap] 40 (0, 0)) ∧ X.heap[z]? = some (.cells #[.int .i64 kd, .int .i64 nn, .int .i64 up] 33 (0, 0)) ∧ w.heap.size = y) := ⟨hyX, hbX, hy⟩
    have HK : Hid (KRep lo hi w ks a 0 ∧ hi ≤ B) := ⟨hK, hhi⟩
    have HL : Hid (1 + szK ks ≤ n + 1 ∧ L.length + (1 + szK ks) ≤ 2000000 ∧ B ≤ w.heap.size ∧ ∀ g, (Value.slice a0 L.length c0).ownBlock = some g → g < w.heap.size) := ⟨hn, hl, hB, fun g hg => (hO.lt g hg).2⟩
    have r0 := (cell_of_block hbW 0).trans (show _ = some (Value.int .i64 kd) from rfl)
    have r1 := (cell_of_block hbW 1).trans (show _ = some (Value.int .i64 nn) from rfl)
    clear hO hK hn hl hB hhi hbW hbX hyX hWs
    show Calls Tryd.prog 34 #[.slice a0 L.length c0, .agg #[.int .i64 kd, .int .i64 nn, .slice a ks.length cap], .int .i64 up] w _
    go_enter Tryd.func34, Tryd.ntmps34
    go_wp2_with (at_builtin; refine wpl_appNd _ rfl _ _ rfl B _ L rfl HOX.out z 0 1 [(kd, nn, up)] rfl ?c1 ?c2 ?c3 ?_)
    case c1 =>
      intro j u hu
      have hb := HYX.out.2.1
      have hj : j = 0 ∨ j = 1 ∨ j = 2 := by
        have := (List.getElem?_eq_some_iff.1 hu).1
        simp [ndv] at this
        omega
      rcases hj with rfl | rfl | rfl
      · simp [ndv] at hu; subst hu; exact (cell_of_block hb 0).trans rfl
      · simp [ndv] at hu; subst hu; exact (cell_of_block hb 1).trans rfl
      · simp [ndv] at hu; subst hu; exact (cell_of_block hb 2).trans rfl
    case c2 => have := HL.out.2.1; simp; omega
    case c3 => exact HBX.out.2
    intro v3 w3 hO3 hg3
    obtain ⟨a3, c3, e3⟩ := ownsRow_shape hO3
    subst e3
    have HB3 : Hid (Below B w w3) := HBX.out.1.trans ((Below.refl _ _).grown hg3 HBX.out.2 (fun q hq => (HOX.out.lt q hq).1))
    have hy3 : w3.heap[y]? = some (.cells #[.int .i64 kd, .int .i64 nn, .slice a ks.length cap] 40 (0, 0)) := (hg3.block y (lt_of_block HYX.out.1) (fun e => by
      have h1 := HL.out.2.2.2 y e.symm
      have h2 := HYX.out.2.2
      omega)).trans HYX.out.1
    have q2 := (cell_of_block hy3 2).trans (show _ = some (Value.slice a ks.length cap) from rfl)
    obtain ⟨n3, hn3⟩ : ∃ x, (L ++ [(kd, nn, up)]).length = x := ⟨_, rfl⟩
    have HO3 : Hid (NdO B w3 (.slice a3 n3 c3) (L ++ [(kd, nn, up)])) := by rw [← hn3]; exact hO3
    rw [hn3]
    clear r0 r1 hX hW hy hz hn3 HOX HBX hO3 hg3 hy3
    have HN1 : Hid (∀ k : Nat, k ≤ 2000000 → wrap64 ((k : Int) + 1) = (k : Int) + 1) := fun k hk => by unfold wrap64; omega
    have HKL : Hid (ks.length ≤ 2000000) := ar7 (kidsle ks) HL.out.2.1
    have IH := fun (t : TT) (h : szT t ≤ n) => specFlatT n t h
    go_wp2
    go_loopw [0, 24] (fun v i wr => ∃ m : Nat, m ≤ ks.length ∧ i = .int .i64 (m : Int) ∧ Hid (NdO B wr v (L ++ (kd, nn, up) :: flK (ks.take m) L.length (L.length + 1))) ∧ Hid (Below B w wr)) (fun _ i _ => ks.length - (intOf i).toNat)
    case atStart => exact ⟨0, by omega, rfl, by unfold Hid; rw [List.take_zero, flK]; exact HO3.out, HB3.out⟩
    case round =>
      obtain ⟨m, hm, rfl, HO, HB⟩ := hrel
      obtain ⟨a5, c5, e5⟩ := ownsRow_shape HO.out
      subst e5
      rcases Nat.lt_or_ge m ks.length with hlt | hge
      · obtain ⟨g, sl', rfl, g1, g2, d0, d1, d2, dt⟩ := KRep.get ks _ 0 HK.out.1 m hlt
        rw [Nat.zero_add] at d0 d1 d2
        have hgB : g < B := Nat.lt_of_lt_of_le g2 HK.out.2
        have x0 := (HB.out.cell (p := ⟨g, m * 3, none⟩) hgB).trans d0
        have x1 := (HB.out.cell (p := ⟨g, m * 3 + 1, none⟩) hgB).trans d1
        have x2 := (HB.out.cell (p := ⟨g, m * 3 + 2, none⟩) hgB).trans d2
        obtain ⟨a6, n6, c6, e6⟩ := trep_one dt
        subst e6
        have hsz := szT_at ks m hlt
        have hz6 : szT ks[m] ≤ n := ar2 hsz HL.out.1
        have HT6 : Hid (ks.take (m + 1) = ks.take m ++ [ks[m]]) := (List.take_append_getElem hlt).symm
        obtain ⟨t, htm⟩ : ∃ t, ks[m]'hlt = t := ⟨_, rfl⟩
        rw [htm] at dt hsz hz6 x0 x1 HT6
        obtain ⟨L2, hL2⟩ : ∃ L2, L ++ (kd, nn, up) :: flK (ks.take m) L.length (L.length + 1) = L2 := ⟨_, rfl⟩
        have hl2 : L2.length = L.length + 1 + szK (ks.take m) := by rw [← hL2, List.length_append, List.length_cons, flK_len]; omega
        have HSN : Hid (L2 ++ flT t (L.length : Int) L2.length = L ++ (kd, nn, up) :: flK (ks.take (m + 1)) L.length (L.length + 1)) := by
          unfold Hid
          rw [HT6.out, flK_snoc, hl2, ← hL2, List.append_assoc, List.cons_append]
        have HOL : Hid (NdO B wr (.slice a5 L2.length c5) L2) := by have h := HO.out; rw [hL2] at h; exact h
        have HC : Hid (∀ o, Calls Tryd.prog 34 #[.slice a5 L2.length c5, .agg #[.int .i64 (kdT t), .int .i64 (nT t), .slice a6 n6 c6], .int .i64 (L.length : Int)] (wr.alloc o) fun e w' => ∃ v', e = .returned v' ∧ NdO B w' v' (L2 ++ flT t (L.length : Int) L2.length) ∧ Below B (wr.alloc o) w') := fun o =>
          IH t hz6 B lo hi (wr.alloc o) _ L2 (L.length : Int) _ (HOL.out.alloc _) (Nat.le_trans (Nat.le_trans HL.out.2.2.1 HB.out.size) (by simp)) HK.out.2 (TRep.keep (fun q q1 q2 => (Below.heap_alloc _ _ _ (Nat.lt_of_lt_of_le (Nat.lt_of_lt_of_le q2 HK.out.2) (Nat.le_trans HL.out.2.2.1 HB.out.size))).trans (HB.out.block q (Nat.lt_of_lt_of_le q2 HK.out.2))) t _ dt) (ar1 hl2 hsz HL.out.2.1)
        obtain ⟨kt, hkt⟩ : ∃ x, kdT t = x := ⟨_, rfl⟩
        obtain ⟨nt, hnt⟩ : ∃ x, nT t = x := ⟨_, rfl⟩
        rw [hkt] at x0 HC
        rw [hnt] at x1 HC
        have hmi := (ar3 hlt).1
        have hwm := HN1.out m (ar4 hlt HKL.out)
        rw [hL2]
        clear IH dt hsz hz6 hl2 hL2 HO HT6 hkt hnt htm d0 d1 d2
        go_wp2_with (go_at_call 34; refine (HC.out _).mono ?_; rintro e w5 ⟨v5, rfl, hO5, hb5⟩; clear HC)
        have HO5 : Hid (NdO B w5 v5 (L ++ (kd, nn, up) :: flK (ks.take (m + 1)) L.length (L.length + 1))) := by unfold Hid; rw [← HSN.out]; exact hO5
        have HB5 : Hid (Below B w w5) := HB.out.trans ((bel_alloc (Below.refl _ _) _ |>.mono (Nat.le_trans HL.out.2.2.1 HB.out.size)).trans hb5)
        go_roundw
        case rel => exact ⟨m + 1, (ar3 hlt).2, by go_num, HO5.out, HB5.out⟩
        case measure => first | exact ar6 hlt | (rw [hwm]; exact ar6 hlt)
      · have hme := (ar5 hm hge).1
        obtain ⟨L2, hL2⟩ : ∃ L2, L ++ (kd, nn, up) :: flK (ks.take m) L.length (L.length + 1) = L2 := ⟨_, rfl⟩
        have HOE : Hid (NdO B wr (.slice a5 L2.length c5) (L ++ flT (.mk kd nn ks) up L.length)) := by
          have h := HO.out
          unfold Hid
          rw [hL2] at h
          rw [flT]
          rw [hme, List.take_length] at hL2
          rw [hL2]
          exact h
        have hmi := (ar5 hm hge).2
        rw [hL2]
        clear IH HO hL2 hme
        go_wp2
        go_ret
        exact ⟨_, rfl, HOE.out, HB.out⟩

end Go.Proofs.YtebendaiokchdaaDoor

namespace Go.Proofs.YtebendaiokchdaaDoor
open Go.ChangeShapes Go.WideShapes Go.ChangeAt Go.RowKit Go.PlainAid

/-- A row of trees of one's own, their parts in blocks from B on, apart from the row. -/
def KO (B : Nat) (w : World) (cur : Value) (acc : List TT) : Prop := ∃ xs, w.ownsRow B 40 3 cur acc.length xs ∧
  ∀ i (h : i < acc.length), ∃ lo hi sl', B ≤ lo ∧ hi ≤ w.heap.size ∧ xs[i * 3]? = some (.int .i64 (kdT acc[i])) ∧ xs[i * 3 + 1]? = some (.int .i64 (nT acc[i])) ∧ xs[i * 3 + 2]? = some sl' ∧ TRep lo hi w acc[i] sl' ∧ (∀ g, cur.ownBlock = some g → ¬ (lo ≤ g ∧ g < hi))
theorem KO.nil (B : Nat) (w : World) : KO B w (.slice none 0 0) [] := ⟨[], World.ownsRow_nil _ _ _ _, fun i h => by simp at h⟩
theorem KO.keep {B : Nat} {w w' : World} {cur : Value} {acc : List TT} (h : KO B w cur acc) (hs : w.heap.size ≤ w'.heap.size) (hk : ∀ g, B ≤ g → g < w.heap.size → w'.heap[g]? = w.heap[g]?) : KO B w' cur acc := by
  obtain ⟨xs, h1, h2⟩ := h
  refine ⟨xs, own_keep h1 fun g hg => ?_, fun i hi => ?_⟩
  · obtain ⟨cu, hcu, hb⟩ := own_at h1 hg
    exact hk g hb (lt_of_block hcu)
  · obtain ⟨lo, hh, sl', l1, l2, x1, x2, x3, tr, hne⟩ := h2 i hi
    exact ⟨lo, hh, sl', l1, Nat.le_trans l2 hs, x1, x2, x3, tr.keep (fun g g1 g2 => hk g (by omega) (by omega)), hne⟩
theorem KO.shape {B : Nat} {w : World} {cur : Value} {acc : List TT} (h : KO B w cur acc) : ∃ a cap, cur = .slice a acc.length cap := by
  obtain ⟨xs, h1, _⟩ := h
  exact ownsRow_shape h1
theorem KO.lt {B : Nat} {w : World} {cur : Value} {acc : List TT} (h : KO B w cur acc) : ∀ g, cur.ownBlock = some g → B ≤ g ∧ g < w.heap.size := fun g hg => by
  obtain ⟨xs, h1, _⟩ := h
  obtain ⟨cu, hcu, hb⟩ := own_at h1 hg
  exact ⟨hb, lt_of_block hcu⟩
theorem krep_of {lo hi : Nat} {w : World} : ∀ (ks : List TT) (a : Option Addr) (j : Nat), (∀ m (h : m < ks.length), ∃ g sl', a = some ⟨g, 0, none⟩ ∧ lo ≤ g ∧ g < hi ∧ w.cell? ⟨g, (j + m) * 3, none⟩ = some (.int .i64 (kdT ks[m])) ∧ w.cell? ⟨g, (j + m) * 3 + 1, none⟩ = some (.int .i64 (nT ks[m])) ∧ w.cell? ⟨g, (j + m) * 3 + 2, none⟩ = some sl' ∧ TRep lo hi w ks[m] sl') → KRep lo hi w ks a j
  | [], _, _, _ => by rw [KRep]; trivial
  | t :: r, a, j, h => by
    rw [KRep]
    refine ⟨by have := h 0 (by simp); rw [Nat.add_zero] at this; exact this, krep_of r a (j + 1) fun m hm => ?_⟩
    have := h (m + 1) (by simpa using hm)
    rw [show j + 1 + m = j + (m + 1) by omega]
    exact this
theorem KO.rep {B : Nat} {w : World} {cur : Value} {acc : List TT} {k n : Int} (h : KO B w cur acc) : TRep B w.heap.size w (.mk k n acc) cur := by
  obtain ⟨a, cap, rfl⟩ := h.shape
  have hlt := h.lt
  obtain ⟨xs, h1, h2⟩ := h
  rw [TRep]
  refine ⟨a, cap, rfl, krep_of acc a 0 fun i hi => ?_⟩
  obtain ⟨lo, hh, sl', l1, l2, x1, x2, x3, tr, hne⟩ := h2 i hi
  obtain ⟨g, c, e, _⟩ := own_pos h1 (by omega)
  simp at e
  obtain ⟨rfl, _⟩ := e
  have hl := h1.1
  obtain ⟨g1, g2⟩ := hlt g rfl
  rw [Nat.zero_add]
  exact ⟨g, sl', rfl, g1, g2, (h1.cellAt _ (by omega)).trans x1, (h1.cellAt _ (by omega)).trans x2, (h1.cellAt _ (by omega)).trans x3, TRep.wide l1 l2 _ _ tr⟩
theorem wpl_appT (W : World) {ops : Array Oper} {rest : List Oper} {o : Oper} {a : Act} {Q : Exit → Act → World → Prop} (hgd : o.guard = none) (s x : Operand)
    (ho : o.op = .call { callee := .builtin .append, args := #[s, x], argTypes := #[38, 38] })
    (B : Nat) (v : Value) (acc : List TT) (hs : a.eval s = v) (h : KO B W v acc) (gs c : Nat) (t : TT) (sl : Value) (hx : a.eval x = .slice (some ⟨gs, 0, none⟩) 1 c) (hc : W.heap[gs]? = some (.cells #[.int .i64 (kdT t), .int .i64 (nT t), sl] 40 (0, 0)))
    (lo hi : Nat) (hT : TRep lo hi W t sl) (hlo : B ≤ lo) (hhi : hi ≤ W.heap.size) (hne : ∀ g, v.ownBlock = some g → ¬ (lo ≤ g ∧ g < hi)) (hl : acc.length ≤ 100000) (hb : B ≤ W.heap.size)
    (hk : ∀ v' w', KO B w' v' (acc ++ [t]) → W.grownBy w' v.ownBlock → wpList Tryd.prog ops Q rest (a.put o.dst v') w') : wpList Tryd.prog ops Q (o :: rest) a W := by
  obtain ⟨i0, i0i, i00, i01, i02⟩ := info_parts Tryd.infoTr
  obtain ⟨xs, h1, h2⟩ := h
  have hone : sl.oneCell' = true := by obtain ⟨a, n, c, rfl⟩ := trep_one hT; rfl
  refine wpList_append_lies W hgd s x 38 ho B 40 i0 (.agg #[.int .i64 0, .int .i64 0, .slice none 0 0]) 3 40 Tryd.underlying38 i0i i00 i01 i02 rfl (by decide) v acc.length xs hs h1 ⟨gs, 0, none⟩ 1 c [.int .i64 (kdT t), .int .i64 (nT t), sl] hx rfl (fun j u hu => ?_) (by intro u hu; simp at hu; rcases hu with rfl | rfl | rfl; rfl; rfl; exact hone) (by decide) (by unfold maxLen; omega) (by omega) hb W.heap.size rfl fun g cap w' hown hgrow hg hgs => ?_
  · rw [Addr.add_lit, Nat.zero_add]
    match j, hu with
    | 0, hu => simp at hu; subst hu; exact (cell_of_block hc 0).trans rfl
    | 1, hu => simp at hu; subst hu; exact (cell_of_block hc 1).trans rfl
    | 2, hu => simp at hu; subst hu; exact (cell_of_block hc 2).trans rfl
    | j + 3, hu => simp at hu
  · have hl3 : xs.length = acc.length * 3 := h1.1
    refine hk _ w' ⟨xs ++ [.int .i64 (kdT t), .int .i64 (nT t), sl], by rw [List.length_append]; exact hown, fun i hi2 => ?_⟩ hgrow
    have hsz := hgrow.size
    rcases Nat.lt_or_ge i acc.length with hlt | hge
    · obtain ⟨lo', hh, sl', l1, l2, x1, x2, x3, tr, hne'⟩ := h2 i hlt
      rw [List.getElem_append_left hlt]
      refine ⟨lo', hh, sl', l1, by omega, (row3_left hl3 hlt 0 (by omega)).trans x1, (row3_left hl3 hlt 1 (by omega)).trans x2, (row3_left hl3 hlt 2 (by omega)).trans x3, tr.keep (fun q q1 q2 => hgrow.block q (by omega) (fun e => hne' q e.symm ⟨q1, q2⟩)), ?_⟩
      intro q hq
      simp [Value.ownBlock] at hq
      subst hq
      rcases hg with e | e
      · exact hne' _ e
      · omega
    · have hie : i = acc.length := by simp at hi2; omega
      subst hie
      obtain ⟨x1, x2, x3⟩ := row3_right (x := .int .i64 (kdT t)) (y := .int .i64 (nT t)) (z := sl) hl3
      rw [List.getElem_append_right (by omega)]
      simp only [Nat.sub_self, List.getElem_cons_zero]
      refine ⟨lo, hi, sl, hlo, by omega, x1, x2, x3, hT.keep (fun q q1 q2 => hgrow.block q (by omega) (fun e => hne q e.symm ⟨q1, q2⟩)), ?_⟩
      intro q hq
      simp [Value.ownBlock] at hq
      subst hq
      rcases hg with e | e
      · exact hne _ e
      · omega

theorem appU {B lo g5 : Nat} {Z U : World} {cur sl : Value} {acc : List TT} {t : TT} {gU : Nat} (hg : Z.heap.size = gU) (hU : Z.alloc (.cells #[.int .i64 (kdT t), .int .i64 (nT t), sl] 40) = U) (h1 : KO B Z cur acc) (h2 : TRep lo g5 Z t sl) (h3 : g5 ≤ Z.heap.size) :
    KO B U cur acc ∧ U.heap[gU]? = some (.cells #[.int .i64 (kdT t), .int .i64 (nT t), sl] 40 (0, 0)) ∧ TRep lo g5 U t sl ∧ U.heap.size = gU + 1 ∧ ∀ q, q < Z.heap.size → U.heap[q]? = Z.heap[q]? := by
  subst hU hg
  have hk : ∀ q, q < Z.heap.size → (Z.alloc (.cells #[.int .i64 (kdT t), .int .i64 (nT t), sl] 40)).heap[q]? = Z.heap[q]? := fun q hq => Below.heap_alloc _ _ _ hq
  exact ⟨h1.keep (by simp) (fun q _ hq => hk q hq), heap_alloc_new _ _, h2.keep (fun q _ q2 => hk q (by omega)), by simp, hk⟩
theorem afterApp {r y : Nat} {w Z U w7 W8 : World} {nk : Int} {a a7 : Option Addr} {al cap l7 c7 : Nat} {acc : List TT} {t1 : TT} {ob : Obj} (hry : r < y) (hyZ : Z.heap[y]? = some (.cells #[.int .i64 nk, .int .i64 0, .slice a al cap] 40 (0, 0))) (hrZ : Z.heap[r]? = some ob) (hkU : ∀ q, q < Z.heap.size → U.heap[q]? = Z.heap[q]?) (hsU : Z.heap.size ≤ U.heap.size) (hK : KO (y + 1) U (.slice a al cap) acc) (hB : Below r w Z)
    (hK7 : KO (y + 1) w7 (.slice a7 l7 c7) (acc ++ [t1])) (hg7 : U.grownBy w7 (Value.slice a al cap).ownBlock) (hos : Below r Z U) (hW : w7.setCell ⟨y, 2, none⟩ (.slice a7 l7 c7) = W8) :
    w7.heap[y]? = some (.cells #[.int .i64 nk, .int .i64 0, .slice a al cap] 40 (0, 0)) ∧ Hid (KO (y + 1) W8 (.slice a7 l7 c7) (acc ++ [t1]) ∧ Below r w W8) ∧ W8.heap[y]? = some (.cells #[.int .i64 nk, .int .i64 0, .slice a7 l7 c7] 40 (0, 0)) ∧ W8.heap[r]? = some ob := by
  have hyl := lt_of_block hyZ
  have h7 : ∀ q, q ≤ y → w7.heap[q]? = Z.heap[q]? := fun q hq => (hg7.block q (by omega) (fun e => by have := (hK.lt q e.symm).1; omega)).trans (hkU q (by omega))
  have hy7 := (h7 y (Nat.le_refl _)).trans hyZ
  have hb7 : Below r w w7 := (hB.trans hos).grown hg7 (by omega) (fun q hq => by have := (hK.lt q hq).1; omega)
  subst hW
  refine ⟨hy7, ⟨hK7.keep (by simp) (fun q q1 _ => heap_setCell_other _ _ _ _ (by simp; omega)), hb7.setCell (by simp; omega) _⟩, ?_, (heap_setCell_other _ _ _ _ (by simp; omega)).trans ((h7 r (by omega)).trans hrZ)⟩
  rw [heap_setCell_same _ _ _ _ _ _ hy7]
  rfl
theorem rdL_le {g : List UInt8 → TT × Nat} : ∀ (c : Nat) (r : List UInt8) (n : Nat) (acc : List TT), (rdL g c r n acc).2 ≤ n + r.length
  | 0, _, _, _ => Nat.zero_le _
  | c + 1, r, n, acc => by
    rw [rdL]
    split
    · exact Nat.zero_le _
    · rename_i h
      split
      · simp only; omega
      · split
        · have := rdL_le (g := g) c (r.drop ((g r).2 + 1)) (n + (g r).2 + 1) (acc ++ [(g r).1])
          rw [List.length_drop] at this
          omega
        · exact Nat.zero_le _
theorem rdT_le (f : Nat) (s : List UInt8) : (rdT f s).2 ≤ s.length := by
  have h0 : nLen s ≤ s.length := (List.takeWhile_prefix nc (l := s)).length_le
  cases f with
  | zero => exact Nat.zero_le _
  | succ f =>
    rw [rdT]
    split
    · exact Nat.zero_le _
    · split
      · exact h0
      · split
        · exact Nat.zero_le _
        · rename_i h
          have hl : (s.drop (nLen s + 1)).length = s.length - (nLen s + 1) := List.length_drop
          split
          · unfold rdN
            simp only
            split
            · exact Nat.zero_le _
            · omega
          · have := rdL_le (g := rdT f) 9 (s.drop (nLen s + 1)) (nLen s + 1) []
            simp only
            omega

end Go.Proofs.YtebendaiokchdaaDoor
