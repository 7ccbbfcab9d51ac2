/-
  The core types of a type: a plain model.
-/
import Derived.Test.YtljnciclbjcinaaGreatDoorYPw
namespace Go.Proofs.YtljnciclbjcinaaGreatDoor

def joinT (a b : Int) : Int := if a = b then a else if a = 126 ∨ b = 126 then 126 else 127
/-- What both have at a place is joined, the rest stays. -/
def joinR (A B : List Int) : List Int := List.zipWith joinT A B ++ A.drop B.length ++ B.drop A.length
theorem joinR_len (A B : List Int) : (joinR A B).length = max A.length B.length := by
  unfold joinR
  simp only [List.length_append, List.length_zipWith, List.length_drop]
  omega
theorem joinR_nil (A : List Int) : joinR A [] = A := by simp [joinR]

def flat (L : List Nd) : Nat → Nat → List Int
  | 0, _ => []
  | f + 1, k =>
    if kdAt L k = 8 ∨ kdAt L k = 9 then [126]
    else if kdAt L k = 10 then [125]
    else if kdAt L k = 12 ∨ kdAt L k = 13 then [127, 127]
    else if kdAt L k = 14 then (kidsOf L k).flatMap (flat L f)
    else if kdAt L k = 15 ∨ kdAt L k = 17 ∨ kdAt L k = 18 then 127 :: (kidsOf L k).foldl (fun acc c => joinR acc (flat L f c)) []
    else [127]

theorem good_node {L : List Nd} (h : goodT L = true) {k : Nat} (hk : k < L.length) : nodeOk (L.getD k (0, 0, -1)) ((kidsOf L k).length : Int) = true := by
  unfold goodT at h
  simp at h
  have := nodesOk_le L L.length (k + 1) h.2 (by omega)
  rw [nodesOk_succ] at this
  simp at this
  exact this.2
/-- Kinds that have parts have some. -/
theorem good_kids {L : List Nd} (h : goodT L = true) {k : Nat} (hk : k < L.length) (hx : kdAt L k = 13 ∨ kdAt L k = 14 ∨ kdAt L k = 15 ∨ kdAt L k = 17 ∨ kdAt L k = 18) : 0 < (kidsOf L k).length := by
  have := good_node h hk
  unfold nodeOk at this
  simp at this
  obtain ⟨⟨⟨⟨⟨_, _⟩, h3⟩, _⟩, _⟩, _⟩ := this
  have e : (L.getD k (0, 0, -1)).1 = kdAt L k := rfl
  have e2 : (L[k]?.getD (0, 0, -1)).fst = kdAt L k := by rw [← e, List.getD_eq_getElem?_getD]
  rw [e2] at h3
  rcases hx with hx | hx | hx | hx | hx <;> (rw [hx] at h3; simp [shp4] at h3; omega)
theorem good_kind {L : List Nd} (h : goodT L = true) {k : Nat} (hk : k < L.length) : 1 ≤ kdAt L k ∧ kdAt L k ≤ 21 := by
  have := good_node h hk
  unfold nodeOk at this
  simp at this
  obtain ⟨⟨⟨⟨⟨h1, h2⟩, h3⟩, _⟩, _⟩, _⟩ := this
  have e2 : (L[k]?.getD (0, 0, -1)).fst = kdAt L k := by unfold kdAt; rw [List.getD_eq_getElem?_getD]
  rw [e2] at h1 h2
  exact ⟨h1, h2⟩

theorem flat_pos {L : List Nd} (h : goodT L = true) : ∀ (f k : Nat), k < L.length → L.length - k ≤ f → flat L f k ≠ []
  | 0, k, hk, hf => by omega
  | f + 1, k, hk, hf => by
    unfold flat
    split
    · simp
    split
    · simp
    split
    · simp
    split
    · rename_i hx
      have := good_kids h hk (Or.inr (Or.inl hx))
      intro e
      rw [List.flatMap_eq_nil_iff] at e
      have hm := List.getElem_mem this
      have hkm := kids_mem hm
      exact flat_pos h f _ hkm.2 (by omega) (e _ hm)
    split
    · simp
    · simp

/-- Sums over parts that lie one behind the other. -/
theorem sum_seg (g : Nat → Nat) : ∀ (ks : List Nat) (q : Nat), (∀ i (h : i < ks.length), ks[i] < endAt ks q i ∧ g ks[i] ≤ 2 * (endAt ks q i - ks[i])) → ∀ c r, ks = c :: r → (ks.map g).sum ≤ 2 * (q - c) ∧ c < q
  | [], _, _, c, r, h => by simp at h
  | [d], q, hh, c, r, h => by
    simp at h
    have := hh 0 (by simp)
    have e : endAt [d] q 0 = q := rfl
    rw [e] at this
    simp at this ⊢
    rw [← h.1]
    omega
  | d :: d' :: r', q, hh, c, r, h => by
    simp at h
    obtain ⟨rfl, _⟩ := h
    have h0 := hh 0 (by simp)
    have e : endAt (d :: d' :: r') q 0 = d' := rfl
    rw [e] at h0
    have ih := sum_seg g (d' :: r') q (fun i hi => hh (i + 1) (by simpa using hi)) d' r' rfl
    have e2 : ((d :: d' :: r').map g).sum = g d + ((d' :: r').map g).sum := by simp
    rw [e2]
    simp at h0
    omega

theorem flatMap_len (g : Nat → List Int) (ks : List Nat) : (ks.flatMap g).length = (ks.map fun c => (g c).length).sum := by
  induction ks with
  | nil => rfl
  | cons a r ih => simp [ih]
theorem fold_len (g : Nat → List Int) (b : Nat) : ∀ (ks : List Nat) (acc : List Int), acc.length ≤ b → (∀ c ∈ ks, (g c).length ≤ b) → (ks.foldl (fun acc c => joinR acc (g c)) acc).length ≤ b
  | [], acc, h, _ => h
  | c :: r, acc, h, hh => by
    refine fold_len g b r _ ?_ (fun c' h' => hh c' (List.mem_cons_of_mem _ h'))
    rw [joinR_len]
    have := hh c (by simp)
    omega
theorem flat_len {L : List Nd} (hU : ups L) : ∀ (f p e : Nat), isEnd L p e → (flat L f p).length ≤ 2 * (e - p)
  | 0, p, e, _ => by simp [flat]
  | f + 1, p, e, he => by
    have hpe := he.1
    have hk : ∀ i (h : i < (kidsOf L p).length), (kidsOf L p)[i] < endAt (kidsOf L p) e i ∧ (flat L f (kidsOf L p)[i]).length ≤ 2 * (endAt (kidsOf L p) e i - (kidsOf L p)[i]) := fun i h => by
      have h1 := parts_end hU he i h
      exact ⟨h1.1, flat_len hU f _ _ h1⟩
    unfold flat
    split
    · simp; omega
    split
    · simp; omega
    split
    · simp; omega
    split
    · rw [flatMap_len]
      cases hK : kidsOf L p with
      | nil => simp
      | cons c r =>
        have := sum_seg (fun c => (flat L f c).length) (kidsOf L p) e hk c r hK
        have hc := (kids_mem (show c ∈ kidsOf L p by rw [hK]; simp)).1
        rw [hK] at this
        omega
    split
    · rw [List.length_cons]
      have : ((kidsOf L p).foldl (fun acc c => joinR acc (flat L f c)) []).length ≤ 2 * (e - p - 1) := by
        refine fold_len (flat L f) _ _ _ (by simp) (fun c hc => ?_)
        obtain ⟨i, hi, rfl⟩ := List.getElem_of_mem hc
        have h1 := hk i hi
        have h2 := (kids_mem (List.getElem_mem hi)).1
        have h3 : endAt (kidsOf L p) e i ≤ e := by
          have hs := parts_end hU he i hi
          unfold endAt
          by_cases h4 : i + 1 < (kidsOf L p).length
          · rw [List.getD_eq_getElem?_getD, List.getElem?_eq_getElem h4, Option.getD_some]
            exact Nat.le_of_lt (kids_in hU he _ (List.getElem_mem h4))
          · rw [List.getD_eq_getElem?_getD, List.getElem?_eq_none (by omega), Option.getD_none]
            exact Nat.le_refl _
        omega
      omega
    · simp; omega

/-- Joined up to a place. -/
def joinTo (A B : List Int) (m : Nat) : List Int := List.zipWith joinT (A.take m) (B.take m) ++ A.drop m
theorem joinTo_zero (A B : List Int) : joinTo A B 0 = A := by simp [joinTo]
theorem joinTo_len {A B : List Int} {m : Nat} (h1 : m ≤ A.length) (h2 : m ≤ B.length) : (joinTo A B m).length = A.length := by
  unfold joinTo; simp; omega
theorem joinTo_get {A B : List Int} {m : Nat} (h1 : m < A.length) (h2 : m < B.length) : (joinTo A B m)[m]? = some A[m] := by
  unfold joinTo
  rw [List.getElem?_append_right (by simp; omega)]
  simp only [List.length_zipWith, List.length_take, List.getElem?_drop]
  rw [show m + (m - min (min m A.length) (min m B.length)) = m by omega]
  exact List.getElem?_eq_getElem h1
theorem joinTo_succ {A B : List Int} {m : Nat} (h1 : m < A.length) (h2 : m < B.length) : (joinTo A B m).set m (joinT A[m] B[m]) = joinTo A B (m + 1) := by
  unfold joinTo
  have hl : (List.zipWith joinT (A.take m) (B.take m)).length = m := by simp; omega
  rw [List.set_append_right _ _ (by omega), hl, Nat.sub_self]
  rw [List.take_succ_eq_append_getElem h1, List.take_succ_eq_append_getElem h2, List.zipWith_append (by simp; omega)]
  simp
  rw [List.drop_eq_getElem_cons h1]
  rfl
theorem zw_l (g : Int → Int → Int) : ∀ (A B : List Int), List.zipWith g (A.take B.length) B = List.zipWith g A B
  | [], B => by simp
  | a :: A, [] => by simp
  | a :: A, b :: B => by simp [zw_l g A B]
theorem zw_r (g : Int → Int → Int) : ∀ (A B : List Int), List.zipWith g A (B.take A.length) = List.zipWith g A B
  | [], B => by simp
  | a :: A, [] => by simp
  | a :: A, b :: B => by simp [zw_r g A B]
theorem joinTo_end {A B : List Int} (h : B.length ≤ A.length) : joinTo A B B.length = joinR A B := by
  unfold joinTo joinR
  rw [List.take_length, List.drop_eq_nil_of_le (i := A.length) h, List.append_nil]
  congr 1
  exact zw_l joinT A B
theorem joinTo_more {A B : List Int} (h : A.length ≤ B.length) : joinTo A B A.length ++ B.drop A.length = joinR A B := by
  unfold joinTo joinR
  rw [List.take_length, List.drop_eq_nil_of_le (i := A.length) (Nat.le_refl _), List.append_nil, List.drop_eq_nil_of_le (i := B.length) h, List.append_nil]
  congr 1
  exact zw_r joinT A B

end Go.Proofs.YtljnciclbjcinaaGreatDoor
