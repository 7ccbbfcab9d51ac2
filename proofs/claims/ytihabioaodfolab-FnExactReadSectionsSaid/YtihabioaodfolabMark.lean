/-
  The walks of the marks that a law lays into an answer, and of the look for them.
-/
import Derived.Test.YtihabioaodfolabRImpl
import Derived.Test.YtihabioaodfolabSecEq
import Derived.Deep.RegionWith
namespace Go.Proofs.Ytihabioaodfolab
open Go.ChangeShapes Go.WideShapes Go.ChangeAt Go.RowKit Go.PlainAid

def dg (k : Nat) : UInt8 := UInt8.ofNat (48 + k % 10)
/-- The text of a mark. -/
def mtl : Nat → Nat → ByteArray → ByteArray
  | 0, _, o => o
  | f + 1, k, o => if k = 0 then o else mtl f (k / 10) (⟨#[dg k]⟩ ++ o)
def mt (k : Nat) : ByteArray := ⟨#[109]⟩ ++ mtl 20 k ⟨#[]⟩
theorem mtl_end (f : Nat) (o : ByteArray) : mtl f 0 o = o := by cases f <;> simp [mtl]
theorem mtl_more (f k : Nat) (o : ByteArray) (h : 0 < k) : mtl (f + 1) k o = mtl f (k / 10) (⟨#[dg k]⟩ ++ o) := by
  simp only [mtl]; rw [if_neg (by omega)]
theorem digit_string (k : Nat) (N : Nat) (W : World) (hc : W.cell? ⟨N, 0, none⟩ = some (.int .u8 (48 + (k : Int) % 10))) : (convert 45 9 (.slice (some ⟨N, 0, none⟩) 1 1)).run Try.prog W = .ok (.string ⟨#[dg k]⟩) W := by
  have H := run_convert_bytes_back (P := Try.prog) W 45 9 5 ⟨N, 0, none⟩ 1 [dg k] Try.underlying45 Try.underlying5 Try.underlying9 (fun j hj => by
    obtain rfl : j = 0 := by simpa using hj
    simp only [List.getElem_cons_zero, dg, UInt8.toNat_ofNat']
    rw [show (((48 + k % 10) % 2 ^ 8 : Nat) : Int) = 48 + (k : Int) % 10 by omega]
    exact hc)
  exact H

theorem bcell {W w1 : World} (hb : Below W.heap.size W w1) : (∀ b o, b < W.heap.size → w1.cell? ⟨b, o, none⟩ = W.cell? ⟨b, o, none⟩) ∧ (∀ b o, b < W.heap.size → w1.frozen? ⟨b, o, none⟩ = W.frozen? ⟨b, o, none⟩) :=
  ⟨fun b o h => hb.cell (p := ⟨b, o, none⟩) h, fun b o h => hb.frozen (p := ⟨b, o, none⟩) h⟩

set_option maxRecDepth 100000 in
set_option maxHeartbeats 800000 in
theorem markText_any (k : Nat) (h0 : 0 < k) (h1 : k ≤ 1000000) (w : World) :
    Calls Try.prog 20 #[.int .i64 k] w fun e w' => e = .returned (.string (mt k)) ∧ Below w.heap.size w w' := by
  go_enter Try.func20, Try.ntmps20
  go_wp2
  go_loopw [0, 3] (fun a v wr => ∃ (f m : Nat) (o : ByteArray), a = .int .i64 m ∧ v = .string o ∧ m ≤ k ∧ Hid (m < 10 ^ f) ∧ f ≤ 20 ∧ o.size + f ≤ 20 ∧ Hid (mtl f m o = mtl 20 k ⟨#[]⟩) ∧ Below w.heap.size w wr) (fun a _ _ => (intOf a).toNat)
  case atStart => exact ⟨20, k, ⟨#[]⟩, rfl, rfl, Nat.le_refl _, by unfold Hid; omega, by omega, by simp [ByteArray.size], rfl, Below.refl _ _⟩
  case round =>
    obtain ⟨f, m, o, rfl, rfl, hmk, hm, hf, hof, hmt, hnx⟩ := hrel
    have hsz := hnx.size
    by_cases hp : 0 < m
    · have hcv := digit_string m
      go_wp2
      go_roundw
      case rel =>
        have hm' := hm.out
        obtain ⟨g, rfl⟩ : ∃ g, f = g + 1 := ⟨f - 1, by cases f with | zero => simp at hm'; omega | succ f => omega⟩
        refine ⟨g, m / 10, _, by go_num, rfl, by omega, ?_, by omega, ?_, ?_, hnx.alloc hsz _⟩
        · unfold Hid; rw [Nat.pow_succ] at hm'; omega
        · simp only [ByteArray.size_append]; show 1 + o.size + g ≤ 20; omega
        · unfold Hid; rw [← hmt.out, mtl_more g m o hp]
      case measure => simp [intOf]; omega
    · obtain rfl : m = 0 := by omega
      go_wp2
      go_ret
      have h2 := hmt.out
      rw [mtl_end] at h2
      exact ⟨by rw [h2]; rfl, hnx⟩

/-- The marks of n sections. -/
def marks (n : Nat) : List (Int × ByteArray) := (List.range n).map fun (i : Nat) => (1 + 2 * (i : Int), mt (2 + 2 * i))
theorem marks_len (n : Nat) : (marks n).length = n := by simp [marks]
theorem marks_at (n i : Nat) (h : i < (marks n).length) : (marks n)[i] = (1 + 2 * (i : Int), mt (2 + 2 * i)) := by simp [marks]

set_option maxRecDepth 100000 in
set_option maxHeartbeats 1600000 in
theorem mark_any (a : Option Addr) (g n cap : Nat) (arr : Array Value) (w : World) (hn : n ≤ 20) (ha : Hid (0 < n → a = some ⟨g, 0, none⟩ ∧ w.heap[g]? = some (.cells arr 36 (0, 0)) ∧ n * 2 ≤ arr.size)) :
    Calls Try.prog 9 #[.slice a n cap, .int .i64 1] w fun e w' => e = .returned (.int .i64 (1 + 2 * (n : Int))) ∧ Below g w w' ∧ (0 < n → secAt w' g 0 (marks n)) ∧ (n = 0 → w' = w) := by
  go_enter Try.func9, Try.ntmps9
  go_wp2
  go_loopw [1, 5] (fun m i wr => ∃ k : Nat, k ≤ n ∧ i = .int .i64 k ∧ m = .int .i64 (1 + 2 * (k : Int)) ∧ Hid (0 < n → ∃ cur : Array Value, wr.heap[g]? = some (.cells cur 36 (0, 0)) ∧ n * 2 ≤ cur.size ∧ ∀ j, j < k → cur[j * 2]? = some (.int .i64 (1 + 2 * (j : Int))) ∧ cur[j * 2 + 1]? = some (.string (mt (2 + 2 * j)))) ∧ Below g w wr ∧ Hid (n = 0 → wr = w)) (fun _ i _ => n - (intOf i).toNat)
  case atStart => exact ⟨0, by omega, rfl, rfl, fun h => ⟨arr, (ha.out h).2.1, (ha.out h).2.2, fun j hj => absurd hj (by omega)⟩, Below.refl _ _, fun _ => rfl⟩
  case round =>
    obtain ⟨k, hk, rfl, rfl, hcur, hnx, hno⟩ := hrel
    by_cases hlt : k < n
    · obtain ⟨rfl, _, _⟩ := ha.out (by omega)
      obtain ⟨cur, hc, hcs, hA⟩ := hcur.out (by omega)
      have hgl := lt_of_block hc
      obtain ⟨o0, ho0⟩ : ∃ o, cur[k * 2]? = some o := ⟨_, Array.getElem?_eq_getElem (by omega)⟩
      obtain ⟨o1, ho1⟩ : ∃ o, cur[k * 2 + 1]? = some o := ⟨_, Array.getElem?_eq_getElem (by omega)⟩
      have d0 := (cell_of_block hc (k * 2)).trans ho0
      have f0 := free_of_block hc (k * 2)
      have HC : Hid (wr.heap[g]? = some (.cells cur 36 (0, 0))) := hc
      have HA : Hid (∀ j, j < k → cur[j * 2]? = some (.int .i64 (1 + 2 * (j : Int))) ∧ cur[j * 2 + 1]? = some (.string (mt (2 + 2 * j)))) := hA
      have HM : Hid (∀ w : World, Calls Try.prog 20 #[.int .i64 (1 + 2 * (k : Int) + 1)] w fun e w' => e = .returned (.string (mt (2 + 2 * k))) ∧ Below w.heap.size w w') := fun w => by
        have H := markText_any (2 + 2 * k) (by omega) (by omega) w
        rw [show (((2 + 2 * k : Nat)) : Int) = 1 + 2 * (k : Int) + 1 by omega] at H
        exact H
      clear hc hA
      go_wp2_with (go_at_call 20; refine (HM.out _).mono ?_; rintro e w1 ⟨rfl, hb2⟩; have hc1 : w1.heap[g]? = some (.cells (cur.setIfInBounds (k * 2) (.int .i64 (1 + 2 * (k : Int)))) 36 (0, 0)) := (hb2.block g (by simpa using hgl)).trans (heap_setCell_same _ _ _ _ _ _ HC.out); have d1 := (cell_of_block hc1 (k * 2 + 1)).trans ((Array.getElem?_setIfInBounds_ne (by omega)).trans ho1); have f1 := free_of_block hc1 (k * 2 + 1); have HC1 : Hid (w1.heap[g]? = some (.cells (cur.setIfInBounds (k * 2) (.int .i64 (1 + 2 * (k : Int)))) 36 (0, 0))) := hc1; clear hc1)
      go_roundw
      case rel =>
        refine ⟨k + 1, by omega, by go_num, by go_num, fun _ => ⟨_, heap_setCell_same _ _ _ _ _ _ HC1.out, by simpa using hcs, ?_⟩, ?_, fun h => absurd h (by omega)⟩
        · intro j hj
          by_cases e : j = k
          · subst e
            exact ⟨by rw [Array.getElem?_setIfInBounds_ne (by omega), Array.getElem?_setIfInBounds_self_of_lt (by omega)], by rw [Array.getElem?_setIfInBounds_self_of_lt (by simp; omega)]⟩
          · have h := HA.out j (by omega)
            exact ⟨by rw [Array.getElem?_setIfInBounds_ne (by omega), Array.getElem?_setIfInBounds_ne (by omega)]; exact h.1, by rw [Array.getElem?_setIfInBounds_ne (by omega), Array.getElem?_setIfInBounds_ne (by omega)]; exact h.2⟩
        · exact ((hnx.setCell (Nat.le_refl _) _).trans (Below.mono hb2 (by simp; omega))).setCell (Nat.le_refl _) _
      case measure => simp [intOf]; omega
    · obtain rfl : k = n := by omega
      go_wp2
      go_ret
      refine ⟨rfl, hnx, fun h => ?_, hno.out⟩
      obtain ⟨cur, hc, hcs, hA⟩ := hcur.out h
      intro i hi
      rw [marks_len] at hi
      rw [Nat.zero_add, cell_of_block hc, cell_of_block hc, marks_at]
      exact hA i hi

set_option maxRecDepth 100000 in
set_option maxHeartbeats 1600000 in
theorem held_any (a : Option Addr) (g n cap : Nat) (w : World) (hn : n ≤ 20) (ha : Hid (0 < n → a = some ⟨g, 0, none⟩ ∧ g < w.heap.size ∧ secAt w g 0 (marks n))) :
    Calls Try.prog 10 #[.slice a n cap, .int .i64 1] w fun e w' => e = .returned (.int .i64 (1 + 2 * (n : Int))) ∧ Below w.heap.size w w' := by
  go_enter Try.func10, Try.ntmps10
  go_wp2
  go_loopw [1, 5] (fun m i wr => ∃ k : Nat, k ≤ n ∧ i = .int .i64 k ∧ m = .int .i64 (1 + 2 * (k : Int)) ∧ Below w.heap.size w wr) (fun _ i _ => n - (intOf i).toNat)
  case atStart => exact ⟨0, by omega, rfl, rfl, Below.refl _ _⟩
  case round =>
    obtain ⟨k, hk, rfl, rfl, hnx⟩ := hrel
    by_cases hlt : k < n
    · obtain ⟨rfl, hgl, hM⟩ := ha.out (by omega)
      have hc := hM k (by rw [marks_len]; omega)
      rw [marks_at, Nat.zero_add] at hc
      have d0 : wr.cell? ⟨g, k * 2, none⟩ = some (.int .i64 (1 + 2 * (k : Int))) := (hnx.cell (by exact hgl)).trans hc.1
      have d1 : wr.cell? ⟨g, k * 2 + 1, none⟩ = some (.string (mt (2 + 2 * k))) := (hnx.cell (by exact hgl)).trans hc.2
      have HM : Hid (∀ w : World, Calls Try.prog 20 #[.int .i64 (1 + 2 * (k : Int) + 1)] w fun e w' => e = .returned (.string (mt (2 + 2 * k))) ∧ Below w.heap.size w w') := fun w => by
        have H := markText_any (2 + 2 * k) (by omega) (by omega) w
        rw [show (((2 + 2 * k : Nat)) : Int) = 1 + 2 * (k : Int) + 1 by omega] at H
        exact H
      have hgl2 : g < wr.heap.size := Nat.lt_of_lt_of_le hgl hnx.size
      clear hc hM
      go_wp2
      go_region_with (go_at_call 20; refine (HM.out _).mono ?_; rintro e w1 ⟨rfl, hb2⟩; have d2 : w1.cell? ⟨g, k * 2 + 1, none⟩ = some (.string (mt (2 + 2 * k))) := (hb2.cell (p := ⟨g, k * 2 + 1, none⟩) (by simpa using hgl2)).trans (by simpa using d1))
      all_goals
        go_wp2
        go_roundw
        case rel => exact ⟨k + 1, by omega, by go_num, by go_num, by first | exact below2 hnx (by assumption) | exact below2 hnx.drew (by assumption) | exact below2 hnx.drew.drew (by assumption)⟩
        case measure => simp [intOf]; omega
    · obtain rfl : k = n := by omega
      go_wp2
      go_ret
      exact ⟨rfl, hnx⟩

end Go.Proofs.Ytihabioaodfolab
