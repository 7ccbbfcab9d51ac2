/-
  Rows of numbers, their marks and the look for them.
-/
import Derived.Test.YtmnceaaehlglmaaInts
import Derived.Test.YtmnceaaehlglmaaOwn
namespace Go.Proofs.Ytmnceaaehlglmaa
open Go.ChangeShapes Go.WideShapes Go.ChangeAt Go.RowKit

/-- Numbers as the values of their cells. -/
def iv (L : List Int) : List Value := L.map fun x => .int .i64 x
theorem iv_app (l m : List Int) : iv l ++ iv m = iv (l ++ m) := by simp [iv]
theorem iv_one (l : List Int) : ∀ u ∈ iv l, u.oneCell' = true := by
  intro u hu; simp only [iv, List.mem_map] at hu; obtain ⟨b, _, rfl⟩ := hu; rfl
theorem ints_of_row {w : World} {B : Nat} {v : Value} {L : List Int} (h : w.ownsRow B 3 1 v L.length (iv L)) : ∃ a cap, v = .slice a L.length cap ∧ Ints w a L := by
  have h' := h
  rcases h'.2 with ⟨rfl, h0⟩ | ⟨g, cap, cur, rfl, _, hb, _⟩
  · obtain rfl : L = [] := List.length_eq_zero_iff.1 h0
    exact ⟨none, 0, rfl, fun h => absurd rfl h⟩
  · refine ⟨_, cap, rfl, fun _ => ⟨g, 0, rfl, lt_of_block hb, fun i hi => ?_⟩⟩
    rw [Nat.zero_add, h.cellAt i (by omega)]
    simp [iv, hi]

/-- The marks of n integers. -/
def marksI (n : Nat) : List Int := (List.range n).map fun (i : Nat) => 1 + (i : Int)
theorem marksI_len (n : Nat) : (marksI n).length = n := by simp [marksI]
theorem marksI_at (n i : Nat) (h : i < (marksI n).length) : (marksI n)[i] = 1 + (i : Int) := by simp [marksI]

set_option maxRecDepth 100000 in
set_option maxHeartbeats 1600000 in
theorem markInts (B : Nat) (v : Value) (L : List Int) (w : World) (hown : w.ownsRow B 3 1 v L.length (iv L)) (hn : L.length ≤ 1000000) :
    Calls Try.prog 18 #[v, .int .i64 1] w fun e w' => e = .returned (.int .i64 (1 + (L.length : Int))) ∧ w'.ownsRow B 3 1 v (marksI L.length).length (iv (marksI L.length)) ∧ Below B w w' := by
  obtain ⟨hl, h⟩ := hown
  obtain ⟨n, hnn⟩ : ∃ n, n = L.length := ⟨_, rfl⟩
  rw [← hnn] at h hn ⊢
  clear hnn hl
  rcases h with ⟨rfl, rfl⟩ | ⟨g, cap, cur, rfl, hB, hb, hc, hm, hcs, _⟩
  · go_enter Try.func18, Try.ntmps18
    go_wp2
    go_loopw [1, 5] (fun m i wr => i = .int .i64 0 ∧ m = .int .i64 1 ∧ wr = w) (fun _ _ _ => 0)
    case atStart => exact ⟨rfl, rfl, rfl⟩
    case round =>
      obtain ⟨rfl, rfl, rfl⟩ := hrel
      go_wp2
      go_ret
      exact ⟨rfl, World.ownsRow_nil _ _ _ _, Below.refl _ _⟩
  · rw [marksI_len]
    go_enter Try.func18, Try.ntmps18
    go_wp2
    go_loopw [1, 5] (fun m i wr => ∃ (k : Nat) (A : Array Value), k ≤ n ∧ i = .int .i64 k ∧ m = .int .i64 (1 + (k : Int)) ∧ wr.heap[g]? = some (.cells A 3 (0, 0)) ∧ A.size = cap * 1 ∧ Hid (∀ j, j < k → A[j]? = some (.int .i64 (1 + (j : Int)))) ∧ Below B w wr) (fun _ i _ => n - (intOf i).toNat)
    case atStart => exact ⟨0, cur, by omega, rfl, rfl, hb, hcs, fun j hj => absurd hj (by omega), Below.refl _ _⟩
    case round =>
      obtain ⟨k, A, hk, rfl, rfl, hA, hAs, hAv, hnx⟩ := hrel
      clear hb
      by_cases hlt : k < n
      · obtain ⟨o0, ho0⟩ : ∃ o, A[k]? = some o := ⟨_, Array.getElem?_eq_getElem (by omega)⟩
        have d0 := (icell_of_block hA k).trans ho0
        have f0 := ifree_of_block hA k
        have HS : Hid (A.size = cap * 1) := hAs
        clear hAs
        go_wp2
        go_roundw
        case rel =>
          refine ⟨k + 1, _, by omega, by go_num, by go_num, heap_setCell_same _ _ _ _ _ _ hA, by simpa using HS.out, ?_, hnx.setCell hB _⟩
          intro j hj
          by_cases e : j = k
          · subst e; rw [Array.getElem?_setIfInBounds_self_of_lt (by rw [HS.out]; omega)]
          · rw [Array.getElem?_setIfInBounds_ne (by omega)]; exact hAv.out j (by omega)
        case measure => simp [intOf]; omega
      · obtain rfl : k = n := by omega
        go_wp2
        go_ret
        refine ⟨rfl, ⟨by simp [iv, marksI_len], .inr ⟨g, cap, A, rfl, hB, hA, hc, hm, hAs, ?_⟩⟩, hnx⟩
        apply List.ext_getElem?
        intro i
        by_cases hi : i < k
        · rw [List.getElem?_take_of_lt (by omega), Array.getElem?_toList, hAv.out i hi]
          simp [iv, marksI, hi]
        · rw [List.getElem?_take_eq_none (by omega)]
          symm
          rw [List.getElem?_eq_none]
          simp [iv, marksI_len]; omega

set_option maxRecDepth 100000 in
set_option maxHeartbeats 1600000 in
theorem heldInts (a : Option Addr) (n cap : Nat) (w : World) (hI : Hid (Ints w a (marksI n))) (hn : n ≤ 1000000) :
    Calls Try.prog 19 #[.slice a n cap, .int .i64 1] w fun e w' => e = .returned (.int .i64 (1 + (n : Int))) ∧ Below w.heap.size w w' := by
  go_enter Try.func19, Try.ntmps19
  go_wp2
  go_loopw [1, 5] (fun m i wr => ∃ k : Nat, k ≤ n ∧ i = .int .i64 k ∧ m = .int .i64 (1 + (k : Int)) ∧ Below w.heap.size w wr) (fun _ i _ => n - (intOf i).toNat)
  case atStart => exact ⟨0, by omega, rfl, rfl, Below.refl _ _⟩
  case round =>
    obtain ⟨k, hk, rfl, rfl, hnx⟩ := hrel
    by_cases hlt : k < n
    · obtain ⟨b, off, rfl, hb, hc⟩ := hI.out.at k (by rw [marksI_len]; exact hlt)
      rw [marksI_at] at hc
      have hc0 : wr.cell? ⟨b, off + k, none⟩ = some (.int .i64 (1 + (k : Int))) := (hnx.cell (by exact hb)).trans hc
      clear hc
      go_wp2
      go_roundw
      case rel => exact ⟨k + 1, by omega, by go_num, by go_num, hnx⟩
      case measure => simp [intOf]; omega
    · obtain rfl : k = n := by omega
      go_wp2
      go_ret
      exact ⟨rfl, hnx⟩

end Go.Proofs.Ytmnceaaehlglmaa
