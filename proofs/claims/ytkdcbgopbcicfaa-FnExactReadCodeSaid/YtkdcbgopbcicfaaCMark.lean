/-
  The walks of the marks that a law lays into instructions, and of the look for them.
-/
import Derived.Test.YtkdcbgopbcicfaaCReadS
namespace Go.Proofs.Ytkdcbgopbcicfaa
open Go.ChangeShapes Go.WideShapes Go.ChangeAt Go.RowKit Go.PlainAid

/-- The marks of n instructions. -/
def marks (n : Nat) : List (Int × Int) := (List.range n).map fun (i : Nat) => (1 + 2 * (i : Int), 1 + 2 * (i : Int) + 1)
theorem marks_len (n : Nat) : (marks n).length = n := by simp [marks]
theorem marks_at (n i : Nat) (h : i < (marks n).length) : (marks n)[i] = (1 + 2 * (i : Int), 1 + 2 * (i : Int) + 1) := by simp [marks]

set_option maxRecDepth 100000 in
set_option maxHeartbeats 1600000 in
theorem mark_any (a : Option Addr) (g n cap : Nat) (arr : Array Value) (w : World) (hn : n ≤ 200) (ha : Hid (0 < n → a = some ⟨g, 0, none⟩ ∧ w.heap[g]? = some (.cells arr 25 (0, 0)) ∧ n * 2 ≤ arr.size)) :
    Calls Try.prog 18 #[.slice a n cap, .int .i64 1] w fun e w' => e = .returned (.int .i64 (1 + 2 * (n : Int))) ∧ Below g w w' ∧ (0 < n → insAt w' g 0 (marks n)) ∧ (n = 0 → w' = w) := by
  go_enter Try.func18, Try.ntmps18
  go_wp2
  go_loopw [1, 5] (fun m i wr => ∃ k : Nat, k ≤ n ∧ i = .int .i64 k ∧ m = .int .i64 (1 + 2 * (k : Int)) ∧ Hid (0 < n → ∃ cur : Array Value, wr.heap[g]? = some (.cells cur 25 (0, 0)) ∧ n * 2 ≤ cur.size ∧ ∀ j, j < k → cur[j * 2]? = some (.int .i64 (1 + 2 * (j : Int))) ∧ cur[j * 2 + 1]? = some (.int .i64 (1 + 2 * (j : Int) + 1))) ∧ Below g w wr ∧ Hid (n = 0 → wr = w)) (fun _ i _ => n - (intOf i).toNat)
  case atStart => exact ⟨0, by omega, rfl, rfl, fun h => ⟨arr, (ha.out h).2.1, (ha.out h).2.2, fun j hj => absurd hj (by omega)⟩, Below.refl _ _, fun _ => rfl⟩
  case round =>
    obtain ⟨k, hk, rfl, rfl, hcur, hnx, hno⟩ := hrel
    by_cases hlt : k < n
    · obtain ⟨rfl, _, _⟩ := ha.out (by omega)
      obtain ⟨cur, hc, hcs, hA⟩ := hcur.out (by omega)
      have hgl := lt_of_block hc
      obtain ⟨o0, ho0⟩ : ∃ o, cur[k * 2]? = some o := ⟨_, Array.getElem?_eq_getElem (by omega)⟩
      obtain ⟨o1, ho1⟩ : ∃ o, cur[k * 2 + 1]? = some o := ⟨_, Array.getElem?_eq_getElem (by omega)⟩
      have d0 := (cell_of_block hc (k * 2)).trans ho0
      have f0 := free_of_block hc (k * 2)
      have hc1 : (wr.setCell ⟨g, k * 2, none⟩ (.int .i64 (1 + 2 * (k : Int)))).heap[g]? = some (.cells (cur.setIfInBounds (k * 2) (.int .i64 (1 + 2 * (k : Int)))) 25 (0, 0)) := heap_setCell_same _ _ _ _ _ _ hc
      have d1 := (cell_of_block hc1 (k * 2 + 1)).trans ((Array.getElem?_setIfInBounds_ne (by omega)).trans ho1)
      have f1 := free_of_block hc1 (k * 2 + 1)
      have HC1 : Hid ((wr.setCell ⟨g, k * 2, none⟩ (.int .i64 (1 + 2 * (k : Int)))).heap[g]? = some (.cells (cur.setIfInBounds (k * 2) (.int .i64 (1 + 2 * (k : Int)))) 25 (0, 0))) := hc1
      have HA : Hid (∀ j, j < k → cur[j * 2]? = some (.int .i64 (1 + 2 * (j : Int))) ∧ cur[j * 2 + 1]? = some (.int .i64 (1 + 2 * (j : Int) + 1))) := hA
      clear hc hA hc1
      go_wp2
      go_roundw
      case rel =>
        refine ⟨k + 1, by omega, by go_num, by go_num, fun _ => ⟨_, heap_setCell_same _ _ _ _ _ _ HC1.out, by simpa using hcs, ?_⟩, ?_, fun h => absurd h (by omega)⟩
        · intro j hj
          by_cases e : j = k
          · subst e
            exact ⟨by rw [Array.getElem?_setIfInBounds_ne (by omega), Array.getElem?_setIfInBounds_self_of_lt (by omega)], by rw [Array.getElem?_setIfInBounds_self_of_lt (by simp; omega)]⟩
          · have h := HA.out j (by omega)
            exact ⟨by rw [Array.getElem?_setIfInBounds_ne (by omega), Array.getElem?_setIfInBounds_ne (by omega)]; exact h.1, by rw [Array.getElem?_setIfInBounds_ne (by omega), Array.getElem?_setIfInBounds_ne (by omega)]; exact h.2⟩
        · exact (hnx.setCell (Nat.le_refl _) _).setCell (Nat.le_refl _) _
      case measure => simp [intOf]; omega
    · obtain rfl : k = n := by omega
      go_wp2
      go_ret
      refine ⟨rfl, hnx, fun h => ?_, hno.out⟩
      obtain ⟨cur, hc, hcs, hA⟩ := hcur.out h
      intro i hi
      rw [marks_len] at hi
      rw [Nat.zero_add, cell_of_block hc, cell_of_block hc, marks_at]
      exact hA i hi

set_option maxRecDepth 100000 in
set_option maxHeartbeats 1600000 in
theorem held_any (a : Option Addr) (g n cap : Nat) (w : World) (hn : n ≤ 200) (ha : Hid (0 < n → a = some ⟨g, 0, none⟩ ∧ g < w.heap.size ∧ insAt w g 0 (marks n))) :
    Calls Try.prog 19 #[.slice a n cap, .int .i64 1] w fun e w' => e = .returned (.int .i64 (1 + 2 * (n : Int))) ∧ Below w.heap.size w w' := by
  go_enter Try.func19, Try.ntmps19
  go_wp2
  go_loopw [1, 5] (fun m i wr => ∃ k : Nat, k ≤ n ∧ i = .int .i64 k ∧ m = .int .i64 (1 + 2 * (k : Int)) ∧ Below w.heap.size w wr) (fun _ i _ => n - (intOf i).toNat)
  case atStart => exact ⟨0, by omega, rfl, rfl, Below.refl _ _⟩
  case round =>
    obtain ⟨k, hk, rfl, rfl, hnx⟩ := hrel
    by_cases hlt : k < n
    · obtain ⟨rfl, hgl, hM⟩ := ha.out (by omega)
      have hc := hM k (by rw [marks_len]; omega)
      rw [marks_at, Nat.zero_add] at hc
      have d0 : wr.cell? ⟨g, k * 2, none⟩ = some (.int .i64 (1 + 2 * (k : Int))) := (hnx.cell (by exact hgl)).trans hc.1
      have d1 : wr.cell? ⟨g, k * 2 + 1, none⟩ = some (.int .i64 (1 + 2 * (k : Int) + 1)) := (hnx.cell (by exact hgl)).trans hc.2
      clear hc hM
      go_wp2
      go_roundw
      case rel => exact ⟨k + 1, by omega, by go_num, by go_num, hnx⟩
      case measure => simp [intOf]; omega
    · obtain rfl : k = n := by omega
      go_wp2
      go_ret
      exact ⟨rfl, hnx⟩

end Go.Proofs.Ytkdcbgopbcicfaa
