/-
  A slice of sections in memory, and the walks of what the laws do with it: its size, its copy, its comparison.
-/
import Derived.Test.YthamfkfndehhjabRows
import Derived.WalkKit
import Derived.WalkLawsBesides
import Derived.ProofKit
import Derived.OpenShut
import Derived.Test.YthamfkfndehhjabOwn
namespace Go.Proofs.Ythamfkfndehhjab
open Go.ChangeShapes Go.WideShapes Go.ChangeAt Go.RowKit

/-- The sections L lie from cell 'off' of block b on. -/
def secAt (w : World) (b off : Nat) (L : List (Int × ByteArray)) : Prop :=
  ∀ i (h : i < L.length), w.cell? ⟨b, off + i * 2, none⟩ = some (.int .i64 L[i].1) ∧ w.cell? ⟨b, off + i * 2 + 1, none⟩ = some (.string L[i].2)
/-- How many there are, and how many bytes they hold. -/
def secBulk (L : List (Int × ByteArray)) : Nat := (L.map fun x => x.2.size).sum

theorem secBulk_snoc (L : List (Int × ByteArray)) (k : Nat) (h : k < L.length) : secBulk (L.take (k + 1)) = secBulk (L.take k) + L[k].2.size := by
  unfold secBulk; rw [List.take_succ_eq_append_getElem h, List.map_append, List.sum_append]; simp

set_option maxRecDepth 100000 in
set_option maxHeartbeats 800000 in
theorem szSec (id : Int) (s : ByteArray) (left : Int) (h0 : 0 ≤ left) (h1 : left ≤ 1048576) (hs : s.size ≤ 9223372036854775807) (w : World) :
    Calls Try.prog 9 #[.agg #[.int .i64 id, .string s], .int .i64 left] w fun e w' => e = .returned (.int .i64 (if left < s.size then -1 else left - s.size)) ∧ Below w.heap.size w w' := by
  by_cases h : left < s.size
  · rw [if_pos h]
    go_enter Try.func9, Try.ntmps9
    go_wp2
    go_ret
    exact ⟨rfl, (Below.refl _ _).alloc (Nat.le_refl _) _⟩
  · rw [if_neg h]
    go_enter Try.func9, Try.ntmps9
    go_wp2
    go_ret
    exact ⟨rfl, (Below.refl _ _).alloc (Nat.le_refl _) _⟩

set_option maxRecDepth 100000 in
set_option maxHeartbeats 800000 in
theorem szSecs (a : Option Addr) (b off cap : Nat) (L : List (Int × ByteArray)) (w : World) (ha : Hid (L ≠ [] → a = some ⟨b, off, none⟩ ∧ b < w.heap.size)) (hL : secAt w b off L) (hlen : L.length ≤ 9223372036854775807) (hsz : ∀ i (h : i < L.length), L[i].2.size ≤ 9223372036854775807) :
    Calls Try.prog 4 #[.slice a L.length cap, .int .i64 1048576] w fun e w' => ∃ r : Int, e = .returned (.int .i64 r) ∧ (0 ≤ r → r + L.length + secBulk L = 1048576) ∧ Below w.heap.size w w' := by
  by_cases h0 : L.length ≤ 1048576
  · go_enter Try.func4, Try.ntmps4
    go_wp2
    go_loopw [1, 5] (fun l i wr => ∃ (k : Nat) (r : Int), k ≤ L.length ∧ i = .int .i64 k ∧ l = .int .i64 r ∧ 0 ≤ r ∧ r ≤ 1048576 ∧ Hid (r + L.length + secBulk (L.take k) = 1048576) ∧ Below w.heap.size w wr) (fun _ i _ => L.length - (intOf i).toNat)
    case atStart => exact ⟨0, _, by omega, rfl, rfl, by omega, by omega, by simp [Hid, secBulk], Below.refl _ _⟩
    case round =>
      obtain ⟨k, r, hk, rfl, rfl, hr0, hr1, hr, hnx⟩ := hrel
      by_cases hlt : k < L.length
      · obtain ⟨rfl, hb⟩ := ha.out (fun h => by simp [h] at hlt)
        have hc := hL k hlt
        have hs1 := hsz k hlt
        obtain ⟨x, hx⟩ : ∃ x, x = L[k] := ⟨_, rfl⟩
        rw [← hx] at hc hs1
        obtain ⟨id, s⟩ := x
        have HX : Hid ((id, s) = L[k]) := hx
        clear hx
        simp only at hc hs1
        have hc0 : wr.cell? ⟨b, off + k * 2, none⟩ = some (.int .i64 id) := (hnx.cell (by exact hb)).trans hc.1
        have hc1 : wr.cell? ⟨b, off + k * 2 + 1, none⟩ = some (.string s) := (hnx.cell (by exact hb)).trans hc.2
        clear hc
        have H := szSec id s r hr0 hr1 hs1
        by_cases hn : r < s.size
        · rw [if_pos hn] at H
          go_wp2_with (go_at_call 9; refine (H _).mono ?_; rintro e w' ⟨rfl, hb2⟩; clear H)
          go_ret
          exact ⟨-1, rfl, fun h => absurd h (by omega), below2 hnx (by assumption)⟩
        · rw [if_neg hn] at H
          go_wp2_with (go_at_call 9; refine (H _).mono ?_; rintro e w' ⟨rfl, hb2⟩; clear H)
          go_roundw
          case rel =>
            refine ⟨k + 1, r - s.size, by omega, by go_num, rfl, by omega, by omega, ?_, below2 hnx (by assumption)⟩
            have h1 := secBulk_snoc L k hlt
            rw [← HX.out] at h1
            have h2 := hr.out
            unfold Hid
            simp only at h1
            omega
          case measure => simp [intOf]; omega
      · go_wp2
        go_ret
        have e : L.take k = L := List.take_of_length_le (by omega)
        have h2 := hr.out
        rw [e] at h2
        exact ⟨r, rfl, fun _ => h2, hnx⟩
  · go_enter Try.func4, Try.ntmps4
    go_wp2
    go_ret
    exact ⟨-1, rfl, fun h => absurd h (by omega), Below.refl _ _⟩

set_option maxRecDepth 100000 in
set_option maxHeartbeats 800000 in
theorem toSec (id : Int) (s : ByteArray) (w : World) :
    Calls Try.prog 12 #[.agg #[.int .i64 id, .string s]] w fun e w' => e = .returned (.agg #[.int .i64 id, .string s]) ∧ Below w.heap.size w w' := by
  go_enter Try.func12, Try.ntmps12
  go_wp2
  exact bodyPost_ret (v := .agg #[.int .i64 id, .string s]) (by simp [results, Try.results12, go_sem]) rfl ⟨rfl, (((Below.refl _ _).alloc (Nat.le_refl _) _).alloc (by simp) _).alloc (by simp; omega) _⟩

theorem cell_of_block {w : World} {g : Nat} {arr : Array Value} {t : TypeId} (h : w.heap[g]? = some (.cells arr t (0, 0))) (i : Nat) : w.cell? ⟨g, i, none⟩ = arr[i]? := by
  simp [World.cell?, h]
theorem free_of_block {w : World} {g : Nat} {arr : Array Value} {t : TypeId} (h : w.heap[g]? = some (.cells arr t (0, 0))) (i : Nat) : w.frozen? ⟨g, i, none⟩ = false := by
  simp [World.frozen?, h]

theorem secs_put (L : List (Int × ByteArray)) (arr : Array Value) (k : Nat) (id : Int) (s : ByteArray) (hk : k < L.length) (hs : arr.size = L.length * 2) (hx : (id, s) = L[k])
    (hA : ∀ j (h : j < L.length), j < k → arr[j * 2]? = some (.int .i64 L[j].1) ∧ arr[j * 2 + 1]? = some (.string L[j].2)) :
    ((arr.setIfInBounds (k * 2) (.int .i64 id)).setIfInBounds (k * 2 + 1) (.string s)).size = L.length * 2 ∧
    ∀ j (h : j < L.length), j < k + 1 → ((arr.setIfInBounds (k * 2) (.int .i64 id)).setIfInBounds (k * 2 + 1) (.string s))[j * 2]? = some (.int .i64 L[j].1) ∧ ((arr.setIfInBounds (k * 2) (.int .i64 id)).setIfInBounds (k * 2 + 1) (.string s))[j * 2 + 1]? = some (.string L[j].2) := by
  refine ⟨by simpa using hs, fun j hj hjk => ?_⟩
  by_cases e : j = k
  · subst e
    rw [← hx]
    constructor
    · rw [Array.getElem?_setIfInBounds_ne (by omega), Array.getElem?_setIfInBounds_self_of_lt (by omega)]
    · rw [Array.getElem?_setIfInBounds_self_of_lt (by simp; omega)]
  · have h := hA j hj (by omega)
    constructor
    · rw [Array.getElem?_setIfInBounds_ne (by omega), Array.getElem?_setIfInBounds_ne (by omega)]; exact h.1
    · rw [Array.getElem?_setIfInBounds_ne (by omega), Array.getElem?_setIfInBounds_ne (by omega)]; exact h.2

theorem Try.info34 : (Try.prog.info? 34).map (fun i => (i.zero, i.size, i.bytes)) = some (some (.agg #[.int .i64 0, .string ⟨#[]⟩]), 2, 24) := by kernel_rfl

set_option maxRecDepth 100000 in
set_option maxHeartbeats 800000 in
theorem toSecs (a : Option Addr) (b off cap : Nat) (L : List (Int × ByteArray)) (w : World) (ha : Hid (L ≠ [] → a = some ⟨b, off, none⟩ ∧ b < w.heap.size)) (hL : secAt w b off L) (hlen : L.length ≤ 1048576) :
    Calls Try.prog 6 #[.slice a L.length cap] w fun e w' => e = .returned (.slice (some ⟨w.heap.size, 0, none⟩) L.length L.length) ∧ w.heap.size < w'.heap.size ∧ secAt w' w.heap.size 0 L ∧ Below w.heap.size w w' := by
  obtain ⟨i0, hi, hz0, hz1, hz2⟩ := info_parts Try.info34
  obtain ⟨M, hM⟩ : ∃ M, M = madeCells (Value.agg #[.int .i64 0, .string ⟨#[]⟩]).cells (((L.length : Nat) : Int).toNat * i0.size) := ⟨_, rfl⟩
  have hMs : M.size = L.length * 2 := by rw [hM, size_madeCells, hz1]; simp
  have hmk : ∀ W : World, (Instr.makeSlice 26 (.int .i64 (L.length : Int)) (.int .i64 (L.length : Int))).run Try.prog W = .ok (.slice (some ⟨W.heap.size, 0, none⟩) L.length L.length) (W.alloc (.cells M 34)) := fun W => by
    have h := run_make (P := Try.prog) W 26 34 i0 _ Try.underlying26 hi hz0 .i64 .i64 (L.length : Int) (L.length : Int) (by omega) (by omega) (by rw [hz2]; omega) (by omega)
    rw [← hM] at h
    simpa using h
  clear hM
  go_enter Try.func6, Try.ntmps6
  go_wp2
  go_loopw [4] (fun i wr => ∃ (k : Nat) (arr : Array Value), k ≤ L.length ∧ i = .int .i64 k ∧ wr.heap[w.heap.size]? = some (.cells arr 34 (0, 0)) ∧ arr.size = L.length * 2 ∧ Hid (∀ j (h : j < L.length), j < k → arr[j * 2]? = some (.int .i64 L[j].1) ∧ arr[j * 2 + 1]? = some (.string L[j].2)) ∧ Below w.heap.size w wr) (fun i _ => L.length - (intOf i).toNat)
  case atStart => exact ⟨0, M, by omega, rfl, heap_alloc_new _ _, hMs, fun j _ h => absurd h (by omega), (Below.refl _ _).alloc (Nat.le_refl _) _⟩
  case round =>
    clear hmk hMs
    obtain ⟨k, arr, hk, rfl, harr, hsz, hA, hnx⟩ := hrel
    have hgl := lt_of_block harr
    by_cases hlt : k < L.length
    · obtain ⟨rfl, hb⟩ := ha.out (fun h => by simp [h] at hlt)
      have hc := hL k hlt
      obtain ⟨x, hx⟩ : ∃ x, x = L[k] := ⟨_, rfl⟩
      rw [← hx] at hc
      obtain ⟨id, s⟩ := x
      have HX : Hid ((id, s) = L[k]) := hx
      clear hx
      simp only at hc
      have hc0 : wr.cell? ⟨b, off + k * 2, none⟩ = some (.int .i64 id) := (hnx.cell (by exact hb)).trans hc.1
      have hc1 : wr.cell? ⟨b, off + k * 2 + 1, none⟩ = some (.string s) := (hnx.cell (by exact hb)).trans hc.2
      clear hc
      have HS : Hid (arr.size = L.length * 2) := hsz
      obtain ⟨o0, ho0⟩ : ∃ o, arr[k * 2]? = some o := ⟨_, Array.getElem?_eq_getElem (by omega)⟩
      obtain ⟨o1, ho1⟩ : ∃ o, arr[k * 2 + 1]? = some o := ⟨_, Array.getElem?_eq_getElem (by omega)⟩
      clear hsz
      have H := toSec id s
      go_wp2_with (go_at_call 12; refine (H _).mono ?_; rintro e w1 ⟨rfl, hb2⟩; clear H; have harr1 := (hb2.block _ hgl).trans harr; have d0 := (cell_of_block harr1 (k * 2)).trans ho0; have d1 := (cell_of_block harr1 (k * 2 + 1)).trans ho1; have f0 := free_of_block harr1 (k * 2); have f1 := free_of_block harr1 (k * 2 + 1))
      go_roundw
      case rel =>
        obtain ⟨p1, p2⟩ := secs_put L arr k id s hlt HS.out HX.out hA.out
        exact ⟨k + 1, _, by omega, by go_num, heap_setCell_same _ _ _ _ _ _ (heap_setCell_same _ _ _ _ _ _ harr1), p1, p2, ((hnx.trans (hb2.mono hnx.size)).setCell (Nat.le_refl _) _).setCell (Nat.le_refl _) _⟩
      case measure => simp [intOf]; omega
    · go_wp2
      go_ret
      refine ⟨rfl, hgl, fun j hj => ?_, hnx⟩
      have hj2 := hA.out j hj (by omega)
      rw [Nat.zero_add, cell_of_block harr, cell_of_block harr]
      exact hj2

end Go.Proofs.Ythamfkfndehhjab
