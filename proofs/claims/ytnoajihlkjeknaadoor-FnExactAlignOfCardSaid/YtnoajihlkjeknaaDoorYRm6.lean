/-
  Rooms of types: the specification's side, whole; and two small functions of the program.
-/
import Derived.Test.YtnoajihlkjeknaaDoorYRm5
namespace Go.Proofs.YtnoajihlkjeknaaDoor
open Go.ChangeShapes Go.WideShapes Go.ChangeAt Go.RowKit

theorem good_optR {L : List Nd} (h : goodT L = true) {k : Nat} (hk : k < L.length) (hx : kdAt L k = 17) : (kidsOf L k).length = 1 := by
  have := good_node h hk
  unfold nodeOk at this
  simp at this
  obtain ⟨⟨⟨⟨⟨_, _⟩, h3⟩, h4⟩, _⟩, _⟩ := this
  have e2 : (L[k]?.getD (0, 0, -1)).fst = kdAt L k := by unfold kdAt; rw [List.getD_eq_getElem?_getD]
  rw [e2, hx] at h3 h4
  simp [shp4] at h3 h4
  omega

theorem end_ofR {L : List Nd} (hU : ups L) {k : Nat} (hk : k < L.length) : ∃ e, isEnd L k e := by
  have key : ∀ d, k + 1 + d ≤ L.length → (∀ j, k < j → j < k + 1 + d → (k : Int) ≤ upAt L j) → ∃ e, isEnd L k e := by
    intro d
    induction hd : L.length - (k + 1 + d) generalizing d with
    | zero =>
      intro h1 h2
      exact ⟨L.length, by omega, Nat.le_refl _, fun j g1 g2 => h2 j g1 (by omega), Or.inl rfl⟩
    | succ n ih =>
      intro h1 h2
      by_cases hu : upAt L (k + 1 + d) < (k : Int)
      · exact ⟨k + 1 + d, by omega, h1, h2, Or.inr hu⟩
      · refine ih (d + 1) (by omega) (by omega) (fun j g1 g2 => ?_)
        by_cases e : j = k + 1 + d
        · subst e; omega
        · exact h2 j g1 (by omega)
  have := hU.1
  exact key 0 (by omega) (fun j g1 g2 => by omega)


theorem specRoom (L : List Nd) (hG : goodT L = true) : ∀ (f k : Nat), k < L.length → L.length - k ≤ f → RoomTold L f k
  | 0, k, hk, hf => by omega
  | f + 1, k, hk, hf => by
    obtain ⟨e, he⟩ := end_ofR (ups_good hG) hk
    have ih := specRoom L hG f
    by_cases h14 : kdAt L k = 14
    · exact specRoom_rec L hG f k e he hf h14 ih
    · by_cases hv : kdAt L k = 15 ∨ kdAt L k = 17 ∨ kdAt L k = 18
      · exact specRoom_var L hG f k e he hf hv (good_optR hG hk) ih
      · exact specRoom_leaf L f k (good_kind hG hk) ⟨h14, fun h => hv (Or.inl h), fun h => hv (Or.inr (Or.inl h)), fun h => hv (Or.inr (Or.inr h))⟩

set_option maxRecDepth 100000 in
set_option maxHeartbeats 1600000 in
theorem implFlags (n : Int) (w : World) : Calls Tryd.prog 72 #[.int .i64 n] w fun e w' => e = .returned (.agg #[.int .i64 ((leafR 16 n).1 : Int), .int .i64 ((leafR 16 n).2 : Int)]) ∧ Below w.heap.size w w' := by
  by_cases h8 : n ≤ 8
  · have e : Hid (leafR 16 n = (1, 1)) := by unfold Hid leafR; rw [if_pos rfl, if_pos h8]
    rw [e.out]
    go_enter Tryd.func72, Tryd.ntmps72
    go_wp2
    refine bodyPost_ret ?_ rfl ⟨rfl, (Below.refl _ _).alloc (Nat.le_refl _) _⟩
    simp [results, Tryd.results72, go_sem]
  · by_cases h9 : n ≤ 16
    · have e : Hid (leafR 16 n = (2, 2)) := by unfold Hid leafR; rw [if_pos rfl, if_neg h8, if_pos h9]
      rw [e.out]
      go_enter Tryd.func72, Tryd.ntmps72
      go_wp2
      refine bodyPost_ret ?_ rfl ⟨rfl, (Below.refl _ _).alloc (Nat.le_refl _) _⟩
      simp [results, Tryd.results72, go_sem]
    · have e : Hid (leafR 16 n = (4, 4)) := by unfold Hid leafR; rw [if_pos rfl, if_neg h8, if_neg h9]
      rw [e.out]
      go_enter Tryd.func72, Tryd.ntmps72
      go_wp2
      refine bodyPost_ret ?_ rfl ⟨rfl, (Below.refl _ _).alloc (Nat.le_refl _) _⟩
      simp [results, Tryd.results72, go_sem]

set_option maxRecDepth 100000 in
set_option maxHeartbeats 1600000 in
theorem implEnum (n : Int) (w : World) : Calls Tryd.prog 73 #[.int .i64 n] w fun e w' => e = .returned (.agg #[.int .i64 ((leafR 19 n).1 : Int), .int .i64 ((leafR 19 n).2 : Int)]) ∧ Below w.heap.size w w' := by
  by_cases h8 : n ≤ 256
  · have e : Hid (leafR 19 n = (1, 1)) := by unfold Hid leafR; rw [if_neg (by decide), if_pos rfl, if_pos h8]
    rw [e.out]
    go_enter Tryd.func73, Tryd.ntmps73
    go_wp2
    refine bodyPost_ret ?_ rfl ⟨rfl, (Below.refl _ _).alloc (Nat.le_refl _) _⟩
    simp [results, Tryd.results73, go_sem]
  · have e : Hid (leafR 19 n = (2, 2)) := by unfold Hid leafR; rw [if_neg (by decide), if_pos rfl, if_neg h8]
    rw [e.out]
    go_enter Tryd.func73, Tryd.ntmps73
    go_wp2
    refine bodyPost_ret ?_ rfl ⟨rfl, (Below.refl _ _).alloc (Nat.le_refl _) _⟩
    simp [results, Tryd.results73, go_sem]

end Go.Proofs.YtnoajihlkjeknaaDoor
