/-
  Types read from texts: a plain model of the program's reading; a type's text leaves its nodes. Plain facts.
-/
import Derived.Test.YtebendaiokchdaaDoorYTx2
import Derived.Lib.AtoiAll
namespace Go.Proofs.YtebendaiokchdaaDoor

/-- What strconv.Atoi makes of a word, where it is a number. -/
def na (w : List UInt8) : Option Int := match Lib.atoiAll w with | .ok v => some v | _ => none
/-- The kind of this name, 0 where there is none. -/
def kn (w : List UInt8) : Int := ((krow.findIdx fun r => r.1 == w) : Nat) % 22
/-- A new node behind the others, or a number into the one that it stands in. -/
def rwM (L : List Nd) (a : Int) (w : List UInt8) : List Nd :=
  match (if 0 ≤ a then na w else none) with
  | some n => L.modify a.toNat (fun x => (x.1, n, x.2.2))
  | none => if kn w = 0 then L else L ++ [(kn w, 0, a)]
def isD (c : UInt8) : Bool := c == 60 || (c == 44 || c == 62)
def nxA (c : UInt8) (L : List Nd) (a : Int) : Int := if c = 60 then (L.length : Int) - 1 else if c = 62 ∧ 0 ≤ a then upAt L a.toNat else a
/-- The nodes that a text leaves behind others, within node a, a word being begun. -/
def nd2 : List UInt8 → List UInt8 → List Nd → Int → List Nd
  | [], v, L, a => rwM L a v
  | c :: r, v, L, a => if isD c = true then nd2 r [] (rwM L a v) (nxA c (rwM L a v) a) else nd2 r (v ++ [c]) L a

theorem rw_nil (L : List Nd) (a : Int) : rwM L a [] = L := by
  have h1 : na [] = none := by decide
  have h2 : kn [] = 0 := by decide
  unfold rwM
  rw [h1, h2]
  simp
theorem nd2_word : ∀ (w r v : List UInt8) (L : List Nd) (a : Int), (∀ c ∈ w, isD c = false) → nd2 (w ++ r) v L a = nd2 r (v ++ w) L a
  | [], r, v, L, a, _ => by simp
  | c :: w, r, v, L, a, h => by
    have h1 := h c (by simp)
    rw [List.cons_append, nd2, h1]
    simp only [Bool.false_eq_true, if_false]
    rw [nd2_word w r (v ++ [c]) L a (fun x hx => h x (by simp [hx]))]
    simp
theorem nd2_at {d : UInt8} (hd : isD d = true) (r v : List UInt8) (L : List Nd) (a : Int) : nd2 (d :: r) v L a = nd2 r [] (rwM L a v) (nxA d (rwM L a v) a) := by
  rw [nd2, if_pos hd]
/-- What follows a word: nothing, or a sign. -/
def Aft2 (r : List UInt8) : Prop := r = [] ∨ ∃ d r', r = d :: r' ∧ isD d = true
theorem nd2_flush {r : List UInt8} (h : Aft2 r) (v : List UInt8) (L : List Nd) (a : Int) : nd2 r v L a = nd2 r [] (rwM L a v) a := by
  rcases h with rfl | ⟨d, r', rfl, hd⟩
  · rw [nd2, nd2, rw_nil]
  · rw [nd2_at hd, nd2_at hd, rw_nil]
theorem nd2_whole {w r : List UInt8} (hw : ∀ c ∈ w, isD c = false) (h : Aft2 r) (L : List Nd) (a : Int) : nd2 (w ++ r) [] L a = nd2 r [] (rwM L a w) a := by
  rw [nd2_word w r [] L a hw, List.nil_append, nd2_flush h]
theorem nm_facts : ∀ j : Fin 22, (∀ c ∈ nm ((j.val : Nat) : Int), isD c = false) ∧ na (nm ((j.val : Nat) : Int)) = none ∧ kn (nm ((j.val : Nat) : Int)) = ((j.val : Nat) : Int) := by decide +kernel
theorem nm_of {x : Int} (h0 : 0 ≤ x) (h1 : x ≤ 21) : (∀ c ∈ nm x, isD c = false) ∧ na (nm x) = none ∧ kn (nm x) = x := by
  have H := nm_facts ⟨x.toNat, by omega⟩
  simp only [show ((x.toNat : Nat) : Int) = x by omega] at H
  exact H
theorem dec_facts : ∀ j : Fin 301, (∀ c ∈ Lib.decDigits j.val, isD c = false) ∧ na (Lib.decDigits j.val) = some ((j.val : Nat) : Int) := by decide +kernel
theorem rw_name {x : Int} (h0 : 1 ≤ x) (h1 : x ≤ 21) (L : List Nd) (a : Int) : rwM L a (nm x) = L ++ [(x, 0, a)] := by
  obtain ⟨_, h2, h3⟩ := nm_of (x := x) (by omega) h1
  unfold rwM
  rw [h2, h3]
  have : ¬ x = 0 := by omega
  simp [this]
theorem rw_num {n : Int} (h0 : 0 ≤ n) (h1 : n ≤ 300) (L : List Nd) (a : Int) (ha : 0 ≤ a) : rwM L a (Lib.decDigits n.toNat) = L.modify a.toNat (fun x => (x.1, n, x.2.2)) := by
  have h2 := (dec_facts ⟨n.toNat, by omega⟩).2
  simp only [show ((n.toNat : Nat) : Int) = n by omega] at h2
  unfold rwM
  rw [if_pos ha, h2]
theorem up_zero {U : Nat → Int} {s : List Nat} (h : stk U 0 = some s) : U 0 = -1 := by
  unfold stk at h
  split at h
  · assumption
  · cases h
theorem node_zero {L : List Nd} (h : goodT L = true) {k : Nat} (hk : k < L.length) (hw : withN (kdAt L k) = false) : nAt L k = 0 := by
  have h0 := (node_n h hk).2.2 hw
  have hg : nodeOk (L.getD k (0, 0, -1)) ((kidsOf L k).length : Int) = true := by
    unfold goodT at h
    simp at h
    have := nodesOk_le L L.length (k + 1) h.2 (by omega)
    rw [nodesOk_succ] at this
    simp at this
    exact this.2
  unfold nodeOk at hg
  simp only [Bool.and_eq_true, decide_eq_true_eq] at hg
  have h1 : nAt L k ≤ (shp4 (kdAt L k)).2.2.2 := hg.2
  have h2 : (shp4 (kdAt L k)).2.2.1 ≤ nAt L k := hg.1.2
  have h3 : 0 ≤ (shp4 (kdAt L k)).2.2.1 := by
    unfold shp4
    repeat' split
    all_goals decide
  omega
theorem at_node {L : List Nd} {k : Nat} (hk : k < L.length) : L[k] = (kdAt L k, nAt L k, upAt L k) := by
  unfold kdAt nAt upAt
  rw [List.getD_eq_getElem?_getD, List.getElem?_eq_getElem hk]
  rfl
theorem take_node {L : List Nd} {k : Nat} (hk : k < L.length) : L.take (k + 1) = L.take k ++ [(kdAt L k, nAt L k, upAt L k)] := by
  rw [← at_node hk, List.take_append_getElem]
theorem upAt_take {L : List Nd} {k m : Nat} (hk : k < m) : upAt (L.take m) k = upAt L k := by
  unfold upAt
  rw [List.getD_eq_getElem?_getD, List.getD_eq_getElem?_getD, List.getElem?_take_of_lt hk]
theorem join_two (x y : List UInt8) (r : List (List UInt8)) (s : List UInt8) : Lib.join (x :: y :: r) s = x ++ (s ++ Lib.join (y :: r) s) := by
  rw [Lib.join_cons, Lib.join_cons]
  simp [Lib.joinTail]
/-- Where the next node is no part of it, it is a node alone. -/
theorem end_one {L : List Nd} (hU : ups L) {k e : Nat} (he : isEnd L k e) (h0 : kidsOf L k = []) : e = k + 1 := by
  rcases Nat.lt_or_ge (k + 1) e with h | h
  · exfalso
    have h1 := he.2.2.1 (k + 1) (by omega) h
    have h2 := he.2.1
    obtain ⟨s, hs⟩ := ups_at hU (show k + 1 < L.length by omega)
    have h3 := up_lt hs (by omega)
    have : k + 1 ∈ kidsOf L k := by
      unfold kidsOf
      rw [List.mem_filter]
      exact ⟨List.mem_range.2 (by omega), by simp; omega⟩
    rw [h0] at this
    cases this
  · have := he.1; omega
theorem kid_one {L : List Nd} (hU : ups L) {k e c : Nat} {r : List Nat} (he : isEnd L k e) (h0 : kidsOf L k = c :: r) : c = k + 1 := by
  have hc : c ∈ kidsOf L k := by rw [h0]; simp
  have hce := kids_in hU he c hc
  have hkc : k < c ∧ c < L.length ∧ upAt L c = (k : Int) := by
    unfold kidsOf at hc
    rw [List.mem_filter] at hc
    have h1 := List.mem_range.1 hc.1
    have h2 := hc.2
    simp at h2
    exact ⟨h2.1, h1, h2.2⟩
  rcases Nat.lt_or_ge (k + 1) c with h | h
  · exfalso
    have h1 := he.2.2.1 (k + 1) (by omega) (by omega)
    obtain ⟨s, hs⟩ := ups_at hU (show k + 1 < L.length by omega)
    have h3 := up_lt hs (by omega)
    have hm : k + 1 ∈ kidsOf L k := by
      unfold kidsOf
      rw [List.mem_filter]
      exact ⟨List.mem_range.2 (by omega), by simp; omega⟩
    have hp : (kidsOf L k).Pairwise (· < ·) := List.pairwise_lt_range.filter _
    rw [h0] at hm hp
    have h5 := (List.pairwise_cons.1 hp).1
    rcases List.mem_cons.1 hm with h6 | h6
    · omega
    · have := h5 _ h6; omega
  · omega
/-- The parts of a node, told one behind the other. -/
theorem nd2_kids {L : List Nd} {f k e : Nat} (hke : k < e) (hel : e ≤ L.length)
    (IH : ∀ c q, isEnd L c q → k < c → ∀ r, Aft2 r → nd2 (txt L f c ++ r) [] (L.take c) (upAt L c) = nd2 r [] (L.take q) (upAt L c)) :
    ∀ (ks : List Nat) (c : Nat), (∀ i (h : i < (c :: ks).length), isEnd L (c :: ks)[i] (endAt (c :: ks) e i) ∧ k < (c :: ks)[i] ∧ upAt L (c :: ks)[i] = (k : Int)) →
      ∀ r, nd2 (Lib.join ((c :: ks).map (txt L f)) [44] ++ (62 :: r)) [] (L.take c) (k : Int) = nd2 r [] (L.take e) (upAt L k)
  | [], c, h, r => by
    obtain ⟨h1, h2, h3⟩ := h 0 (by simp)
    have ee : endAt [c] e 0 = e := rfl
    rw [ee] at h1
    have h1' : isEnd L c e := h1
    have h2' : k < c := h2
    have h3' : upAt L c = (k : Int) := h3
    have H := IH c e h1' h2' (62 :: r) (.inr ⟨62, r, rfl, by decide⟩)
    rw [h3'] at H
    rw [List.map_cons, List.map_nil, Lib.join_one, H, nd2_at (by decide), rw_nil]
    have hn : nxA 62 (L.take e) (k : Int) = upAt L k := by
      unfold nxA
      rw [if_neg (by decide), if_pos ⟨rfl, by omega⟩, Int.toNat_natCast, upAt_take hke]
    rw [hn]
  | d :: ks, c, h, r => by
    obtain ⟨h1, h2, h3⟩ := h 0 (by simp)
    have ee : endAt (c :: d :: ks) e 0 = d := rfl
    rw [ee] at h1
    have h1' : isEnd L c d := h1
    have h2' : k < c := h2
    have h3' : upAt L c = (k : Int) := h3
    rw [List.map_cons, List.map_cons, join_two]
    have H := IH c d h1' h2' (44 :: (Lib.join (txt L f d :: ks.map (txt L f)) [44] ++ (62 :: r))) (.inr ⟨44, _, rfl, by decide⟩)
    rw [h3'] at H
    have e2 : txt L f c ++ ([44] ++ Lib.join (txt L f d :: ks.map (txt L f)) [44]) ++ 62 :: r = txt L f c ++ 44 :: (Lib.join (txt L f d :: ks.map (txt L f)) [44] ++ (62 :: r)) := by simp
    rw [e2, H, nd2_at (by decide), rw_nil]
    have hn : nxA 44 (L.take d) (k : Int) = (k : Int) := by
      unfold nxA
      rw [if_neg (by decide), if_neg (fun h => absurd h.1 (by decide))]
    rw [hn]
    have H2 := nd2_kids hke hel IH ks d (fun i hi => by
      have := h (i + 1) (by simpa using hi)
      have e3 : endAt (c :: d :: ks) e (i + 1) = endAt (d :: ks) e i := rfl
      rw [e3] at this
      exact this) r
    rw [List.map_cons] at H2
    exact H2
/-- A type's text leaves its nodes. -/
theorem nd2_txt {L : List Nd} (hG : goodT L = true) : ∀ (f k e : Nat), isEnd L k e → L.length - k ≤ f → ∀ r, Aft2 r → nd2 (txt L f k ++ r) [] (L.take k) (upAt L k) = nd2 r [] (L.take e) (upAt L k)
  | 0, k, e, he, hf, r, hr => by have h1 := he.1; have h2 := he.2.1; omega
  | f + 1, k, e, he, hf, r, hr => by
    have hU := ups_good hG
    have hkl : k < L.length := by have h1 := he.1; have h2 := he.2.1; omega
    obtain ⟨⟨k1, k2⟩, k3, _⟩ := node_n hG hkl
    have hd := (nm_of (x := kdAt L k) (by omega) k2).1
    have hlen : (L.take k).length = k := by simp; omega
    cases hK : kidsOf L k with
    | nil =>
      obtain rfl := end_one hU he hK
      cases hw : withN (kdAt L k) with
      | false =>
        have hz := node_zero hG hkl hw
        have et : txt L (f + 1) k = nm (kdAt L k) := by rw [txt, hK, hw]; simp
        rw [et, nd2_whole hd hr, rw_name k1 k2, take_node hkl, hz]
      | true =>
        obtain ⟨n0, n1, _⟩ := k3 hw
        have et : txt L (f + 1) k = nm (kdAt L k) ++ ([60] ++ Lib.decDigits (nAt L k).toNat ++ [62]) := by rw [txt, hK, hw]; simp
        have e2 : txt L (f + 1) k ++ r = nm (kdAt L k) ++ (60 :: (Lib.decDigits (nAt L k).toNat ++ (62 :: r))) := by rw [et]; simp
        have hdd : ∀ c ∈ Lib.decDigits (nAt L k).toNat, isD c = false := (dec_facts ⟨(nAt L k).toNat, by omega⟩).1
        rw [e2, nd2_whole hd (.inr ⟨60, _, rfl, by decide⟩), rw_name k1 k2, nd2_at (by decide), rw_nil]
        have h60 : nxA 60 (L.take k ++ [(kdAt L k, 0, upAt L k)]) (upAt L k) = (k : Int) := by
          unfold nxA
          rw [if_pos rfl, List.length_append, hlen]
          simp
        rw [h60, nd2_whole hdd (.inr ⟨62, _, rfl, by decide⟩), rw_num n0 n1 _ _ (by omega), nd2_at (by decide), rw_nil]
        have hm : (L.take k ++ [(kdAt L k, 0, upAt L k)]).modify ((k : Int)).toNat (fun x => (x.1, nAt L k, x.2.2)) = L.take (k + 1) := by
          rw [take_node hkl, Int.toNat_natCast]
          have hmod : ∀ (A : List Nd) (x y : Nd) (g : Nd → Nd), g x = y → (A ++ [x]).modify A.length g = A ++ [y] := by
            intro A x y g hg
            induction A with
            | nil => simp [hg]
            | cons a A ih => rw [List.cons_append, List.length_cons, List.modify_succ_cons, ih, List.cons_append]
          have h := hmod (L.take k) (kdAt L k, 0, upAt L k) (kdAt L k, nAt L k, upAt L k) (fun x => (x.1, nAt L k, x.2.2)) rfl
          rw [hlen] at h
          exact h
        rw [hm]
        have h62 : nxA 62 (L.take (k + 1)) (k : Int) = upAt L k := by
          unfold nxA
          rw [if_neg (by decide), if_pos ⟨rfl, by omega⟩, Int.toNat_natCast, upAt_take (by omega)]
        rw [h62]
    | cons c ks =>
      have hw : withN (kdAt L k) = false := by
        cases hw : withN (kdAt L k) with
        | false => rfl
        | true => have := (k3 hw).2.2; rw [hK] at this; simp at this
      have hz := node_zero hG hkl hw
      have hc := kid_one hU he hK
      subst hc
      have e2 : txt L (f + 1) k ++ r = nm (kdAt L k) ++ (60 :: (Lib.join (((k + 1) :: ks).map (txt L f)) [44] ++ (62 :: r))) := by rw [txt, hK]; simp
      rw [e2, nd2_whole hd (.inr ⟨60, _, rfl, by decide⟩), rw_name k1 k2, nd2_at (by decide), rw_nil]
      have h60 : nxA 60 (L.take k ++ [(kdAt L k, 0, upAt L k)]) (upAt L k) = (k : Int) := by
        unfold nxA
        rw [if_pos rfl, List.length_append, hlen]
        simp
      have hta : L.take k ++ [(kdAt L k, 0, upAt L k)] = L.take (k + 1) := by rw [take_node hkl, hz]
      rw [h60, hta]
      exact nd2_kids he.1 he.2.1 (fun c q hq hkc r hr => nd2_txt hG f c q hq (by have := hq.1; have := hq.2.1; omega) r hr) ks (k + 1) (fun i hi => by
        have h1 := parts_end hU he i (by rw [hK]; exact hi)
        have e3 : (kidsOf L k)[i]'(by rw [hK]; exact hi) = ((k + 1) :: ks)[i] := by simp [hK]
        rw [e3, hK] at h1
        have hm : ((k + 1) :: ks)[i] ∈ kidsOf L k := by rw [hK]; exact List.getElem_mem hi
        unfold kidsOf at hm
        rw [List.mem_filter] at hm
        have h2 := hm.2
        simp at h2
        exact ⟨h1, h2.1, h2.2⟩) r
/-- All of a type's text leaves all of it. -/
theorem nd2_type {L : List Nd} (hG : goodT L = true) : nd2 (txt L L.length 0) [] [] (-1) = L := by
  have hU := ups_good hG
  have h := nd2_txt hG L.length 0 L.length (isEnd_whole hU) (by omega) [] (.inl rfl)
  obtain ⟨s, hs⟩ := ups_at hU (show 0 < L.length by have := hU.1; omega)
  have h0 : upAt L 0 = -1 := up_zero hs
  rw [List.append_nil, List.take_zero, h0, List.take_length, nd2, rw_nil] at h
  exact h

end Go.Proofs.YtebendaiokchdaaDoor
