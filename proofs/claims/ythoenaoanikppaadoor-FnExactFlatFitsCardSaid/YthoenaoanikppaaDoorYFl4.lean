/-
  The core types of a type: the program's side.
-/
import Derived.Test.YthoenaoanikppaaDoorYFl3
namespace Go.Proofs.YthoenaoanikppaaDoor
open Go.ChangeShapes Go.WideShapes Go.ChangeAt Go.RowKit

theorem own_base {w : World} {B B' : Nat} {e : TypeId} {s n : Nat} {v : Value} {xs : List Value} (h : w.ownsRow B e s v n xs) (hb : B' ≤ B) : w.ownsRow B' e s v n xs := by
  refine ⟨h.1, ?_⟩
  rcases h.2 with h0 | ⟨g, cap, cur, e1, e2, e3⟩
  · exact Or.inl h0
  · exact Or.inr ⟨g, cap, cur, e1, by omega, e3⟩
theorem take_flat_le (g : Nat → List Int) (K : List Nat) (m : Nat) : ((K.take m).flatMap g).length ≤ (K.flatMap g).length := by
  conv => rhs; rw [← List.take_append_drop m K, List.flatMap_append, List.length_append]
  omega
theorem take_flat_succ (g : Nat → List Int) {K : List Nat} {m : Nat} (h : m < K.length) : (K.take (m + 1)).flatMap g = (K.take m).flatMap g ++ g K[m] := by
  rw [List.take_succ_eq_append_getElem h, List.flatMap_append]; simp
theorem take_fold_succ (g : Nat → List Int) {K : List Nat} {m : Nat} (h : m < K.length) : (K.take (m + 1)).foldl (fun acc c => joinR acc (g c)) [] = joinR ((K.take m).foldl (fun acc c => joinR acc (g c)) []) (g K[m]) := by
  rw [List.take_succ_eq_append_getElem h, List.foldl_append]; rfl
theorem endAt_le {L : List Nd} (hU : ups L) {p e : Nat} (he : isEnd L p e) (i : Nat) (hi : i < (kidsOf L p).length) : endAt (kidsOf L p) e i ≤ e := by
  unfold endAt
  by_cases h4 : i + 1 < (kidsOf L p).length
  · rw [List.getD_eq_getElem?_getD, List.getElem?_eq_getElem h4, Option.getD_some]
    exact Nat.le_of_lt (kids_in hU he _ (List.getElem_mem h4))
  · rw [List.getD_eq_getElem?_getD, List.getElem?_eq_none (by omega), Option.getD_none]
    exact Nat.le_refl _
theorem kid_flat_len {L : List Nd} (hU : ups L) (f : Nat) {p e : Nat} (he : isEnd L p e) : ∀ c ∈ kidsOf L p, (flat L f c).length ≤ 80 := fun c hc => by
  obtain ⟨i, hi, rfl⟩ := List.getElem_of_mem hc
  have h1 := flat_len hU f _ _ (parts_end hU he i hi)
  have h2 := endAt_le hU he i hi
  have h3 := he.2.1
  have h4 := hU.2.1
  omega
theorem fold_flat_len {L : List Nd} (hU : ups L) (f : Nat) {p e : Nat} (he : isEnd L p e) (m : Nat) : (((kidsOf L p).take m).foldl (fun acc c => joinR acc (flat L f c)) []).length ≤ 80 :=
  fold_len (flat L f) 80 _ _ (by simp) (fun c hc => kid_flat_len hU f he c (List.mem_of_mem_take hc))

/-- What is told of a type in nodes of its own. -/
def FlatTold (L : List Nd) (f p e : Nat) : Prop := ∀ (w : World) (b off cap : Nat), b < w.heap.size → ndAt w b off (segL L p e) →
  Calls Tryd.prog 20 #[.slice (some ⟨b, off, none⟩) (segL L p e).length cap] w fun r w' => ∃ v, r = .returned v ∧ w'.ownsRow w.heap.size 3 1 v (flat L f p).length (iy (flat L f p)) ∧ Below w.heap.size w w'

set_option maxRecDepth 100000 in
set_option maxHeartbeats 3200000 in
theorem implFlat_leaf (L : List Nd) (f p e : Nat) (he : isEnd L p e) (hk : 1 ≤ kdAt L p ∧ kdAt L p ≤ 21) (hx : kdAt L p ≠ 14 ∧ kdAt L p ≠ 15 ∧ kdAt L p ≠ 17 ∧ kdAt L p ≠ 18) : FlatTold L (f + 1) p e := by
  intro w b off cap hb hL
  have hlen := segL_len (L := L) he.1
  have hpe := he.1
  have c0 := (hL 0 (by omega)).1
  rw [segL_zero] at c0
  simp only [Nat.zero_mul, Nat.add_zero] at c0
  obtain ⟨n, hn⟩ : ∃ n, (segL L p e).length = n := ⟨_, rfl⟩
  have hn0 : (0 : Int) < n := by omega
  rw [hn]
  have hF : Hid (flat L (f + 1) p = (if kdAt L p = 8 ∨ kdAt L p = 9 then [126] else if kdAt L p = 10 then [125] else if kdAt L p = 12 ∨ kdAt L p = 13 then [127, 127] else [127])) := by
    unfold Hid
    conv => lhs; unfold flat
    rw [if_neg (show ¬ kdAt L p = 14 from hx.1), if_neg (show ¬ (kdAt L p = 15 ∨ kdAt L p = 17 ∨ kdAt L p = 18) by omega)]
  rw [hF.out]
  clear hF hL hlen hn he hpe
  obtain ⟨x, hxe⟩ : ∃ x, kdAt L p = x := ⟨_, rfl⟩
  rw [hxe] at c0 hk hx ⊢
  clear hxe
  have hx2 : x = 1 ∨ x = 2 ∨ x = 3 ∨ x = 4 ∨ x = 5 ∨ x = 6 ∨ x = 7 ∨ x = 8 ∨ x = 9 ∨ x = 10 ∨ x = 11 ∨ x = 12 ∨ x = 13 ∨ x = 16 ∨ x = 19 ∨ x = 20 ∨ x = 21 := by omega
  clear hk hx
  rcases hx2 with rfl | rfl | rfl | rfl | rfl | rfl | rfl | rfl | rfl | rfl | rfl | rfl | rfl | rfl | rfl | rfl | rfl
  all_goals
    go_enter Tryd.func20, Tryd.ntmps20
    go_wp2
    go_ret
    refine ⟨_, rfl, ⟨rfl, Or.inr ⟨w.heap.size, _, _, rfl, Nat.le_refl _, heap_alloc_new _ _, by simp, by unfold maxLen; omega, rfl, rfl⟩⟩, (Below.refl _ _).alloc (Nat.le_refl _) _⟩

end Go.Proofs.YthoenaoanikppaaDoor
