/-
  The core types of a type: the specification's side.
-/
import Derived.Test.YthoenaoanikppaaDoorYFl4
import Derived.Test.YthoenaoanikppaaDoorYCs
namespace Go.Proofs.YthoenaoanikppaaDoor
open Go.ChangeShapes Go.WideShapes Go.ChangeAt Go.RowKit

/-- Joined up to a place, with what goes on there. -/
def jn (A D : List Int) (j : Nat) : List Int := joinTo A D (min j A.length) ++ (D.take j).drop A.length
theorem jn_zero (A D : List Int) : jn A D 0 = A := by simp [jn, joinTo_zero]
theorem jn_len {A D : List Int} {j : Nat} (h : j ≤ D.length) : (jn A D j).length = max A.length j := by
  unfold jn
  rw [List.length_append, joinTo_len (by omega) (by omega), List.length_drop, List.length_take]
  omega
theorem jn_get {A D : List Int} {j : Nat} (h1 : j < A.length) (h2 : j < D.length) : (jn A D j)[j]? = some A[j] := by
  unfold jn
  rw [show min j A.length = j by omega, List.getElem?_append_left (by rw [joinTo_len (by omega) (by omega)]; exact h1)]
  exact joinTo_get h1 h2
theorem jn_set {A D : List Int} {j : Nat} (h1 : j < A.length) (h2 : j < D.length) : (jn A D j).set j (joinT A[j] D[j]) = jn A D (j + 1) := by
  unfold jn
  rw [show min j A.length = j by omega, show min (j + 1) A.length = j + 1 by omega]
  rw [List.drop_eq_nil_of_le (by simp; omega), List.drop_eq_nil_of_le (by simp; omega), List.append_nil, List.append_nil]
  exact joinTo_succ h1 h2
theorem jn_app {A D : List Int} {j : Nat} (h1 : A.length ≤ j) (h2 : j < D.length) : jn A D j ++ [D[j]] = jn A D (j + 1) := by
  unfold jn
  rw [show min j A.length = A.length by omega, show min (j + 1) A.length = A.length by omega]
  rw [List.take_succ_eq_append_getElem h2, List.drop_append_of_le_length (by simp; omega), List.append_assoc]
theorem jn_end (A D : List Int) : jn A D D.length = joinR A D := by
  unfold jn
  rw [List.take_length]
  rcases Nat.lt_or_ge D.length A.length with h | h
  · rw [show min D.length A.length = D.length by omega, joinTo_end (by omega), List.drop_eq_nil_of_le (by omega), List.append_nil]
  · rw [show min D.length A.length = A.length by omega]
    exact joinTo_more h

def gcase (L : List Nd) (f : Nat) : Option Nat → List Int
  | none => []
  | some c => flat L f c
def accC (L : List Nd) (f : Nat) (cs : List (Option Nat)) : List Int := cs.foldl (fun acc o => joinR acc (gcase L f o)) []
theorem accC_succ (L : List Nd) (f : Nat) {cs : List (Option Nat)} {m : Nat} (h : m < cs.length) : accC L f (cs.take (m + 1)) = joinR (accC L f (cs.take m)) (gcase L f cs[m]) := by
  unfold accC
  rw [List.take_succ_eq_append_getElem h, List.foldl_append]; rfl
theorem accC_map (L : List Nd) (f : Nat) : ∀ (K : List Nat) (acc : List Int), (K.map some).foldl (fun acc o => joinR acc (gcase L f o)) acc = K.foldl (fun acc c => joinR acc (flat L f c)) acc
  | [], _ => rfl
  | _ :: r, _ => accC_map L f r _
theorem accC_cases (L : List Nd) (f k : Nat) : accC L f (casesOf L k) = (kidsOf L k).foldl (fun acc c => joinR acc (flat L f c)) [] := by
  unfold accC casesOf
  split
  · show (List.map some (kidsOf L k)).foldl _ (joinR [] []) = _
    rw [accC_map]; rfl
  · rw [accC_map]
theorem accC_len {L : List Nd} (f b : Nat) : ∀ (cs : List (Option Nat)), (∀ o ∈ cs, (gcase L f o).length ≤ b) → (accC L f cs).length ≤ b := by
  intro cs h
  unfold accC
  suffices hh : ∀ (cs : List (Option Nat)) (acc : List Int), acc.length ≤ b → (∀ o ∈ cs, (gcase L f o).length ≤ b) → (cs.foldl (fun acc o => joinR acc (gcase L f o)) acc).length ≤ b from hh cs [] (by simp) h
  intro cs
  induction cs with
  | nil => intro acc h _; exact h
  | cons a r ih =>
    intro acc h hh
    refine ih _ ?_ (fun o ho => hh o (List.mem_cons_of_mem _ ho))
    rw [joinR_len]
    have := hh a (by simp)
    omega

theorem own_lit (W : World) (B g : Nat) (l : List Int) (hg : g = W.heap.size) (hB : B ≤ g) (hl : l.length ≤ 1000) : (W.alloc (.cells (iy l).toArray 3)).ownsRow B 3 1 (.slice (some ⟨g, 0, none⟩) l.length l.length) l.length (iy l) :=
  ⟨by rw [iy_len]; omega, Or.inr ⟨g, l.length, (iy l).toArray, rfl, hB, by rw [hg]; exact heap_alloc_new _ _, Nat.le_refl _, by unfold maxLen; omega, by simp [iy_len], by
    show List.take (l.length * 1) (iy l) = iy l
    rw [Nat.mul_one, ← iy_len, List.take_length]⟩⟩

def CoreTold (L : List Nd) (f k : Nat) : Prop := ∀ (w : World) (lo hi : Nat) (sl : Value), TrRep L lo hi f w k sl → hi ≤ w.heap.size →
  Calls Tryd.prog 19 #[.agg #[.int .i64 (kdAt L k), .int .i64 (nAt L k), sl]] w fun r w' => ∃ v, r = .returned v ∧ w'.ownsRow w.heap.size 3 1 v (flat L f k).length (iy (flat L f k)) ∧ Below w.heap.size w w'

set_option maxRecDepth 100000 in
set_option maxHeartbeats 3200000 in
theorem specCore_none (w : World) : Calls Tryd.prog 19 #[.agg #[.int .i64 0, .int .i64 0, .slice none 0 0]] w fun r w' => ∃ v, r = .returned v ∧ w'.ownsRow w.heap.size 3 1 v ([] : List Int).length (iy []) ∧ Below w.heap.size w w' := by
  go_enter Tryd.func19, Tryd.ntmps19
  go_wp2
  go_ret
  exact ⟨_, rfl, World.ownsRow_nil _ _ _ _, (Below.refl _ _).alloc (Nat.le_refl _) _⟩

set_option maxRecDepth 100000 in
set_option maxHeartbeats 3200000 in
theorem specCore_leaf (L : List Nd) (f k : Nat) (hk : 1 ≤ kdAt L k ∧ kdAt L k ≤ 21) (hx : kdAt L k ≠ 14 ∧ kdAt L k ≠ 15 ∧ kdAt L k ≠ 17 ∧ kdAt L k ≠ 18) : CoreTold L (f + 1) k := by
  intro w lo hi sl htr hhi
  obtain ⟨a, c, rfl, _⟩ := htr
  have hF : Hid (flat L (f + 1) k = (if kdAt L k = 8 ∨ kdAt L k = 9 then [126] else if kdAt L k = 10 then [125] else if kdAt L k = 12 ∨ kdAt L k = 13 then [127, 127] else [127])) := by
    unfold Hid
    conv => lhs; unfold flat
    rw [if_neg (show ¬ kdAt L k = 14 from hx.1), if_neg (show ¬ (kdAt L k = 15 ∨ kdAt L k = 17 ∨ kdAt L k = 18) by omega)]
  rw [hF.out]
  clear hF
  obtain ⟨x, hxe⟩ : ∃ x, kdAt L k = x := ⟨_, rfl⟩
  obtain ⟨y, hye⟩ : ∃ y, nAt L k = y := ⟨_, rfl⟩
  rw [hxe] at hk hx ⊢
  rw [hye]
  clear hxe hye
  have hx2 : x = 1 ∨ x = 2 ∨ x = 3 ∨ x = 4 ∨ x = 5 ∨ x = 6 ∨ x = 7 ∨ x = 8 ∨ x = 9 ∨ x = 10 ∨ x = 11 ∨ x = 12 ∨ x = 13 ∨ x = 16 ∨ x = 19 ∨ x = 20 ∨ x = 21 := by omega
  clear hk hx
  rcases hx2 with rfl | rfl | rfl | rfl | rfl | rfl | rfl | rfl | rfl | rfl | rfl | rfl | rfl | rfl | rfl | rfl | rfl
  all_goals
    go_enter Tryd.func19, Tryd.ntmps19
    go_wp2
    go_ret
    refine ⟨_, rfl, ?_, ((Below.refl _ _).alloc (Nat.le_refl _) _).alloc (by simp) _⟩
    first
      | exact own_lit _ _ _ [127] (by simp) (by omega) (by simp)
      | exact own_lit _ _ _ [126] (by simp) (by omega) (by simp)
      | exact own_lit _ _ _ [125] (by simp) (by omega) (by simp)
      | exact own_lit _ _ _ [127, 127] (by simp) (by omega) (by simp)

end Go.Proofs.YthoenaoanikppaaDoor
