/-
  Rooms of types: the specification's side.
-/
import Derived.Test.YtnoajihlkjeknaaDoorYRm2
namespace Go.Proofs.YtnoajihlkjeknaaDoor
open Go.ChangeShapes Go.WideShapes Go.ChangeAt Go.RowKit

def RoomTold (L : List Nd) (f k : Nat) : Prop := ∀ (w : World) (lo hi : Nat) (sl : Value), TrRep L lo hi f w k sl → hi ≤ w.heap.size →
  Calls Tryd.prog 31 #[.agg #[.int .i64 (kdAt L k), .int .i64 (nAt L k), sl]] w fun r w' => r = .returned (.tuple #[.int .i64 ((rm L f k).1 : Int), .int .i64 ((rm L f k).2 : Int)]) ∧ Below w.heap.size w w'

set_option maxRecDepth 100000 in
set_option maxHeartbeats 3200000 in
theorem specRoom_none (w : World) : Calls Tryd.prog 31 #[.agg #[.int .i64 0, .int .i64 0, .slice none 0 0]] w fun r w' => r = .returned (.tuple #[.int .i64 ((0 : Nat) : Int), .int .i64 ((1 : Nat) : Int)]) ∧ Below w.heap.size w w' := by
  go_enter Tryd.func31, Tryd.ntmps31
  go_wp2
  refine bodyPost_ret ?_ rfl ⟨rfl, (Below.refl _ _).alloc (Nat.le_refl _) _⟩
  simp [results, Tryd.results31, go_sem]

set_option maxRecDepth 100000 in
set_option maxHeartbeats 6400000 in
theorem specRoom_leaf (L : List Nd) (f k : Nat) (hk : 1 ≤ kdAt L k ∧ kdAt L k ≤ 21) (hx : kdAt L k ≠ 14 ∧ kdAt L k ≠ 15 ∧ kdAt L k ≠ 17 ∧ kdAt L k ≠ 18) : RoomTold L (f + 1) k := by
  intro w lo hi sl htr hhi
  obtain ⟨a, c, rfl, _⟩ := htr
  have hF : Hid (rm L (f + 1) k = leafR (kdAt L k) (nAt L k)) := by
    unfold Hid
    conv => lhs; unfold rm
    rw [if_neg (show ¬ kdAt L k = 14 from hx.1), if_neg (show ¬ (kdAt L k = 15 ∨ kdAt L k = 17 ∨ kdAt L k = 18) by omega)]
  rw [hF.out]
  clear hF
  obtain ⟨x, hxe⟩ : ∃ x, kdAt L k = x := ⟨_, rfl⟩
  obtain ⟨y, hye⟩ : ∃ y, nAt L k = y := ⟨_, rfl⟩
  rw [hxe] at hk hx ⊢
  rw [hye]
  clear hxe hye
  have hba := fun o => (Below.refl w.heap.size w).alloc (Nat.le_refl _) o
  by_cases h16 : x = 16
  · subst h16
    clear hk hx
    by_cases h8 : y ≤ 8
    · have e : Hid (leafR 16 y = (1, 1)) := by unfold Hid leafR; rw [if_pos rfl, if_pos h8]
      rw [e.out]
      go_enter Tryd.func31, Tryd.ntmps31
      go_wp2
      refine bodyPost_ret ?_ rfl ⟨rfl, hba _⟩
      simp [results, Tryd.results31, go_sem]
    · by_cases h9 : y ≤ 16
      · have e : Hid (leafR 16 y = (2, 2)) := by unfold Hid leafR; rw [if_pos rfl, if_neg h8, if_pos h9]
        rw [e.out]
        go_enter Tryd.func31, Tryd.ntmps31
        go_wp2
        refine bodyPost_ret ?_ rfl ⟨rfl, hba _⟩
        simp [results, Tryd.results31, go_sem]
      · have e : Hid (leafR 16 y = (4, 4)) := by unfold Hid leafR; rw [if_pos rfl, if_neg h8, if_neg h9]
        rw [e.out]
        go_enter Tryd.func31, Tryd.ntmps31
        go_wp2
        refine bodyPost_ret ?_ rfl ⟨rfl, hba _⟩
        simp [results, Tryd.results31, go_sem]
  by_cases h19 : x = 19
  · subst h19
    clear hk hx h16
    by_cases h8 : y ≤ 256
    · have e : Hid (leafR 19 y = (1, 1)) := by unfold Hid leafR; rw [if_neg (by decide), if_pos rfl, if_pos h8]
      rw [e.out]
      go_enter Tryd.func31, Tryd.ntmps31
      go_wp2
      refine bodyPost_ret ?_ rfl ⟨rfl, hba _⟩
      simp [results, Tryd.results31, go_sem]
    · have e : Hid (leafR 19 y = (2, 2)) := by unfold Hid leafR; rw [if_neg (by decide), if_pos rfl, if_neg h8]
      rw [e.out]
      go_enter Tryd.func31, Tryd.ntmps31
      go_wp2
      refine bodyPost_ret ?_ rfl ⟨rfl, hba _⟩
      simp [results, Tryd.results31, go_sem]
  have hx2 : x = 1 ∨ x = 2 ∨ x = 3 ∨ x = 4 ∨ x = 5 ∨ x = 6 ∨ x = 7 ∨ x = 8 ∨ x = 9 ∨ x = 10 ∨ x = 11 ∨ x = 12 ∨ x = 13 ∨ x = 20 ∨ x = 21 := by omega
  clear hk hx h16 h19
  rcases hx2 with rfl | rfl | rfl | rfl | rfl | rfl | rfl | rfl | rfl | rfl | rfl | rfl | rfl | rfl | rfl
  all_goals
    go_enter Tryd.func31, Tryd.ntmps31
    go_wp2
    refine bodyPost_ret ?_ rfl ⟨rfl, hba _⟩
    simp [results, Tryd.results31, go_sem, leafR]

end Go.Proofs.YtnoajihlkjeknaaDoor
