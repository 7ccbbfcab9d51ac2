/-
  Tables are marked, and the marks are looked for.
-/
import Derived.Test.YtfblofcmjplfhaaTB9
namespace Go.Proofs.Ytfblofcmjplfhaa
open Go.ChangeShapes Go.WideShapes Go.ChangeAt Go.RowKit

/-- The marks of a handle, from the number q on. -/
def mkH (q : Int) : Hd := ⟨q % 3 == 0, q + 1, q + 2, (q + 3) % 3 == 0, q + 4, q + 5⟩
def marksH (n : Nat) : List Hd := (List.range n).map fun (i : Nat) => mkH (1 + 6 * (i : Int))
theorem marksH_len (n : Nat) : (marksH n).length = n := by simp [marksH]
theorem marksH_at (n i : Nat) (h : i < (marksH n).length) : (marksH n)[i] = mkH (1 + 6 * (i : Int)) := by simp [marksH]
def marksK (k : Int) (n : Nat) : List Int := (List.range n).map fun (i : Nat) => k + (i : Int)
theorem marksK_len (k : Int) (n : Nat) : (marksK k n).length = n := by simp [marksK]
theorem marksK_at (k : Int) (n i : Nat) (h : i < (marksK k n).length) : (marksK k n)[i] = k + (i : Int) := by simp [marksK]
theorem grown_more {w w' : World} {g i : Nat} {u : Value} (h : w.grownBy w' (some g)) : w.grownBy (w'.setCell ⟨g, i, none⟩ u) (some g) := h.trans (grown_set w' g i u)

set_option maxRecDepth 100000 in
set_option maxHeartbeats 1600000 in
theorem markHds (B : Nat) (v : Value) (S : List Hd) (w : World) (hown : w.ownsRow B 38 6 v S.length (hv S)) (hn : S.length ≤ 1048576) :
    Calls Try.prog 42 #[v, .int .i64 1] w fun e w' => e = .returned (.int .i64 (1 + 6 * (S.length : Int))) ∧ Hid (w'.ownsRow B 38 6 v S.length (hv (marksH S.length))) ∧ Hid (w.grownBy w' v.ownBlock) ∧ w'.heap.size = w.heap.size := by
  obtain ⟨hl, h⟩ := hown
  obtain ⟨n, hnn⟩ : ∃ n, n = S.length := ⟨_, rfl⟩
  rw [← hnn] at h hn ⊢
  clear hnn hl
  rcases h with ⟨rfl, rfl⟩ | ⟨g, cap, cur, rfl, hB, hb, hc, hm, hcs, _⟩
  · go_enter Try.func42, Try.ntmps42
    go_wp2
    go_loopw [1, 5] (fun m i wr => i = .int .i64 0 ∧ m = .int .i64 1 ∧ wr = w) (fun _ _ _ => 0)
    case atStart => exact ⟨rfl, rfl, rfl⟩
    case round =>
      obtain ⟨rfl, rfl, rfl⟩ := hrel
      go_wp2
      go_ret
      exact ⟨rfl, World.ownsRow_nil _ _ _ _, World.grownBy.refl _ _, rfl⟩
  · go_enter Try.func42, Try.ntmps42
    go_wp2
    have HC : Hid (n ≤ cap ∧ cap ≤ maxLen) := ⟨hc, hm⟩
    clear hm hc
    go_loopw [1, 5] (fun m i wr => ∃ (k : Nat) (A : Array Value), k ≤ n ∧ i = .int .i64 k ∧ m = .int .i64 (1 + 6 * (k : Int)) ∧ wr.heap[g]? = some (.cells A 38 (0, 0)) ∧ Hid (A.size = cap * 6) ∧ Hid (LaidTo A (hv (marksH n)) (k * 6)) ∧ Hid (w.grownBy wr (some g)) ∧ Hid (wr.heap.size = w.heap.size)) (fun _ i _ => n - (intOf i).toNat)
    case atStart => exact ⟨0, cur, by omega, rfl, rfl, hb, hcs, fun j hj => absurd hj (by omega), World.grownBy.refl _ _, rfl⟩
    case round =>
      obtain ⟨k, A, hk, rfl, rfl, hA, hAs, hAv, hgr, hsz⟩ := hrel
      clear hb hcs
      by_cases hlt : k < n
      · obtain ⟨o0, ho0⟩ : ∃ o, A[k * 6]? = some o := ⟨_, Array.getElem?_eq_getElem (by have := hAs.out; have := HC.out.1; omega)⟩
        obtain ⟨o1, ho1⟩ : ∃ o, A[k * 6 + 1]? = some o := ⟨_, Array.getElem?_eq_getElem (by have := hAs.out; have := HC.out.1; omega)⟩
        obtain ⟨o2, ho2⟩ : ∃ o, A[k * 6 + 2]? = some o := ⟨_, Array.getElem?_eq_getElem (by have := hAs.out; have := HC.out.1; omega)⟩
        obtain ⟨o3, ho3⟩ : ∃ o, A[k * 6 + 3]? = some o := ⟨_, Array.getElem?_eq_getElem (by have := hAs.out; have := HC.out.1; omega)⟩
        obtain ⟨o4, ho4⟩ : ∃ o, A[k * 6 + 4]? = some o := ⟨_, Array.getElem?_eq_getElem (by have := hAs.out; have := HC.out.1; omega)⟩
        obtain ⟨o5, ho5⟩ : ∃ o, A[k * 6 + 5]? = some o := ⟨_, Array.getElem?_eq_getElem (by have := hAs.out; have := HC.out.1; omega)⟩
        have d0 := (cell_of_block hA (k * 6)).trans ho0
        have d1 := (cell_of_block hA (k * 6 + 1)).trans ho1
        have d2 := (cell_of_block hA (k * 6 + 2)).trans ho2
        have d3 := (cell_of_block hA (k * 6 + 3)).trans ho3
        have d4 := (cell_of_block hA (k * 6 + 4)).trans ho4
        have d5 := (cell_of_block hA (k * 6 + 5)).trans ho5
        have f0 := free_of_block hA (k * 6)
        have f1 := free_of_block hA (k * 6 + 1)
        have f2 := free_of_block hA (k * 6 + 2)
        have f3 := free_of_block hA (k * 6 + 3)
        have f4 := free_of_block hA (k * 6 + 4)
        have f5 := free_of_block hA (k * 6 + 5)
        obtain ⟨q, hq⟩ : ∃ q : Int, 1 + 6 * (k : Int) = q := ⟨_, rfl⟩
        have hqb : 0 ≤ q ∧ q ≤ 10000000 := by omega
        have HQ : Hid (1 + 6 * (k : Int) = q) := hq
        rw [hq]
        clear hq ho0 ho1 ho2 ho3 ho4 ho5
        go_wp2
        go_roundw
        case rel =>
          obtain ⟨q0, q1, q2⟩ := put6_at A k (by have := hAs.out; have := HC.out.1; omega) (.bool (q % 3 == 0)) (.int .i64 (q + 1)) (.int .i64 (q + 1 + 1)) (.bool ((q + 1 + 1 + 1) % 3 == 0)) (.int .i64 (q + 1 + 1 + 1 + 1)) (.int .i64 (q + 1 + 1 + 1 + 1 + 1)) _ rfl
          refine ⟨k + 1, _, by omega, by go_num, by have h := HQ.out; rw [show q + 1 + 1 + 1 + 1 + 1 + 1 = 1 + 6 * ((k + 1 : Nat) : Int) by omega], heap_setCell_same _ _ _ _ _ _ (heap_setCell_same _ _ _ _ _ _ (heap_setCell_same _ _ _ _ _ _ (heap_setCell_same _ _ _ _ _ _ (heap_setCell_same _ _ _ _ _ _ (heap_setCell_same _ _ _ _ _ _ hA))))), q0.trans hAs.out, ?_, grown_more (grown_more (grown_more (grown_more (grown_more (grown_more hgr.out))))), by unfold Hid; simpa using hsz.out⟩
          refine hAv.out.more (by rw [marksH_len]; exact hlt) (fun j hj => ?_) q2
          rw [q1 j hj, marksH_at, HQ.out]
          have e1 : q + 1 + 1 = q + 2 := by omega
          have e2 : q + 2 + 1 = q + 3 := by omega
          have e3 : q + 3 + 1 = q + 4 := by omega
          have e4 : q + 4 + 1 = q + 5 := by omega
          rw [e1, e2, e3, e4]
          rfl
        case measure => simp [intOf]; omega
      · obtain rfl : k = n := by omega
        go_wp2
        go_ret
        exact ⟨rfl, hAv.out.whole (by rw [hv_len, marksH_len]) hAs.out HC.out.1 HC.out.2 hA hB, hgr, hsz.out⟩

set_option maxRecDepth 100000 in
set_option maxHeartbeats 1600000 in
theorem heldHds (a : Option Addr) (n cap : Nat) (w : World) (hI : Hid (Hds w a (marksH n))) (hn : n ≤ 1048576) :
    Calls Try.prog 44 #[.slice a n cap, .int .i64 1] w fun e w' => e = .returned (.int .i64 (1 + 6 * (n : Int))) ∧ Below w.heap.size w w' := by
  go_enter Try.func44, Try.ntmps44
  go_wp2
  go_loopw [1, 5] (fun m i wr => ∃ k : Nat, k ≤ n ∧ i = .int .i64 k ∧ m = .int .i64 (1 + 6 * (k : Int)) ∧ Below w.heap.size w wr) (fun _ i _ => n - (intOf i).toNat)
  case atStart => exact ⟨0, by omega, rfl, rfl, Below.refl _ _⟩
  case round =>
    obtain ⟨k, hk, rfl, rfl, hnx⟩ := hrel
    by_cases hlt : k < n
    · obtain ⟨b, off, rfl, hb, hc⟩ := hI.out.at k (by rw [marksH_len]; exact hlt)
      rw [marksH_at] at hc
      obtain ⟨q, hq⟩ : ∃ q : Int, 1 + 6 * (k : Int) = q := ⟨_, rfl⟩
      have hqb : 0 ≤ q ∧ q ≤ 10000000 := by omega
      have HQ : Hid (1 + 6 * (k : Int) = q) := hq
      rw [hq] at hc ⊢
      clear hq
      obtain ⟨c0, c1, c2, c3, c4, c5⟩ := hc.kept (w' := wr) (fun j => hnx.cell (p := ⟨b, j, none⟩) hb)
      simp only [mkH] at c0 c1 c2 c3 c4 c5
      have e1 : q + 2 = q + 1 + 1 := by omega
      have e2 : q + 3 = q + 1 + 1 + 1 := by omega
      have e3 : q + 4 = q + 1 + 1 + 1 + 1 := by omega
      have e4 : q + 5 = q + 1 + 1 + 1 + 1 + 1 := by omega
      rw [e1] at c2
      rw [e2] at c3
      rw [e3] at c4
      rw [e4] at c5
      clear hc e1 e2 e3 e4
      obtain ⟨t0, h0⟩ : ∃ t, (q % 3 == 0) = t := ⟨_, rfl⟩
      obtain ⟨t1, h1⟩ : ∃ t, ((q + 1 + 1 + 1) % 3 == 0) = t := ⟨_, rfl⟩
      rw [h0] at c0
      rw [h1] at c3
      have n0 : (!(t0 == t0)) = false := by cases t0 <;> rfl
      have n1 : (!(t1 == t1)) = false := by cases t1 <;> rfl
      go_wp2
      go_roundw
      case rel => exact ⟨k + 1, by omega, by go_num, by have h := HQ.out; rw [show q + 1 + 1 + 1 + 1 + 1 + 1 = 1 + 6 * ((k + 1 : Nat) : Int) by omega], hnx⟩
      case measure => simp [intOf]; omega
    · obtain rfl : k = n := by omega
      go_wp2
      go_ret
      exact ⟨rfl, hnx⟩

set_option maxRecDepth 100000 in
set_option maxHeartbeats 1600000 in
theorem markIntsK (B : Nat) (v : Value) (F : List Int) (k0 : Int) (w : World) (hown : w.ownsRow B 3 1 v F.length (iv F)) (hn : F.length ≤ 1048576) (h0 : 0 ≤ k0) (h1 : k0 ≤ 10000000) :
    Calls Try.prog 43 #[v, .int .i64 k0] w fun e w' => e = .returned (.int .i64 (k0 + (F.length : Int))) ∧ Hid (w'.ownsRow B 3 1 v F.length (iv (marksK k0 F.length))) ∧ Hid (w.grownBy w' v.ownBlock) ∧ w'.heap.size = w.heap.size := by
  obtain ⟨hl, h⟩ := hown
  obtain ⟨n, hnn⟩ : ∃ n, n = F.length := ⟨_, rfl⟩
  rw [← hnn] at h hn ⊢
  clear hnn hl
  rcases h with ⟨rfl, rfl⟩ | ⟨g, cap, cur, rfl, hB, hb, hc, hm, hcs, _⟩
  · go_enter Try.func43, Try.ntmps43
    go_wp2
    go_loopw [1, 5] (fun m i wr => i = .int .i64 0 ∧ m = .int .i64 k0 ∧ wr = w) (fun _ _ _ => 0)
    case atStart => exact ⟨rfl, rfl, rfl⟩
    case round =>
      obtain ⟨rfl, rfl, rfl⟩ := hrel
      go_wp2
      go_ret
      exact ⟨by simp, World.ownsRow_nil _ _ _ _, World.grownBy.refl _ _, rfl⟩
  · go_enter Try.func43, Try.ntmps43
    go_wp2
    have HC : Hid (n ≤ cap ∧ cap ≤ maxLen) := ⟨hc, hm⟩
    clear hm hc
    go_loopw [1, 5] (fun m i wr => ∃ (k : Nat) (A : Array Value), k ≤ n ∧ i = .int .i64 k ∧ m = .int .i64 (k0 + (k : Int)) ∧ wr.heap[g]? = some (.cells A 3 (0, 0)) ∧ Hid (A.size = cap * 1) ∧ Hid (LaidTo A (iv (marksK k0 n)) k) ∧ Hid (w.grownBy wr (some g)) ∧ Hid (wr.heap.size = w.heap.size)) (fun _ i _ => n - (intOf i).toNat)
    case atStart => exact ⟨0, cur, by omega, rfl, by simp, hb, hcs, fun j hj => absurd hj (by omega), World.grownBy.refl _ _, rfl⟩
    case round =>
      obtain ⟨k, A, hk, rfl, rfl, hA, hAs, hAv, hgr, hsz⟩ := hrel
      clear hb hcs
      by_cases hlt : k < n
      · obtain ⟨o0, ho0⟩ : ∃ o, A[k]? = some o := ⟨_, Array.getElem?_eq_getElem (by have := hAs.out; have := HC.out.1; omega)⟩
        have d0 := (cell_of_block hA k).trans ho0
        have f0 := free_of_block hA k
        obtain ⟨q, hq⟩ : ∃ q : Int, k0 + (k : Int) = q := ⟨_, rfl⟩
        have hqb : 0 ≤ q ∧ q ≤ 20000000 := by omega
        have HQ : Hid (k0 + (k : Int) = q) := hq
        rw [hq]
        clear hq ho0
        go_wp2
        go_roundw
        case rel =>
          refine ⟨k + 1, _, by omega, by go_num, by have h := HQ.out; rw [show q + 1 = k0 + ((k + 1 : Nat) : Int) by omega], heap_setCell_same _ _ _ _ _ _ hA, by unfold Hid; simpa using hAs.out, ?_, grown_more hgr.out, by unfold Hid; simpa using hsz.out⟩
          intro j hj
          by_cases e : j = k
          · subst e; rw [Array.getElem?_setIfInBounds_self_of_lt (by have := hAs.out; have := HC.out.1; omega), ← HQ.out]; simp [iv, marksK, hlt]
          · rw [Array.getElem?_setIfInBounds_ne (by omega)]; exact hAv.out j (by omega)
        case measure => simp [intOf]; omega
      · obtain rfl : k = n := by omega
        go_wp2
        go_ret
        exact ⟨rfl, LaidTo.whole (n := k) (sz := 1) (by rw [Nat.mul_one]; exact hAv.out) (by rw [iv_len, marksK_len, Nat.mul_one]) hAs.out HC.out.1 HC.out.2 hA hB, hgr, hsz.out⟩

set_option maxRecDepth 100000 in
set_option maxHeartbeats 1600000 in
theorem heldIntsK (a : Option Addr) (n cap : Nat) (k0 : Int) (w : World) (hI : Hid (Ints w a (marksK k0 n))) (hn : n ≤ 1048576) (h0 : 0 ≤ k0) (h1 : k0 ≤ 10000000) :
    Calls Try.prog 45 #[.slice a n cap, .int .i64 k0] w fun e w' => e = .returned (.int .i64 (k0 + (n : Int))) ∧ Below w.heap.size w w' := by
  go_enter Try.func45, Try.ntmps45
  go_wp2
  go_loopw [1, 5] (fun m i wr => ∃ k : Nat, k ≤ n ∧ i = .int .i64 k ∧ m = .int .i64 (k0 + (k : Int)) ∧ Below w.heap.size w wr) (fun _ i _ => n - (intOf i).toNat)
  case atStart => exact ⟨0, by omega, rfl, by simp, Below.refl _ _⟩
  case round =>
    obtain ⟨k, hk, rfl, rfl, hnx⟩ := hrel
    by_cases hlt : k < n
    · obtain ⟨b, off, rfl, hb, hc⟩ := hI.out.at k (by rw [marksK_len]; exact hlt)
      rw [marksK_at] at hc
      have hc0 : wr.cell? ⟨b, off + k, none⟩ = some (.int .i64 (k0 + (k : Int))) := (hnx.cell (by exact hb)).trans hc
      clear hc
      obtain ⟨q, hq⟩ : ∃ q : Int, k0 + (k : Int) = q := ⟨_, rfl⟩
      have hqb : 0 ≤ q ∧ q ≤ 20000000 := by omega
      have HQ : Hid (k0 + (k : Int) = q) := hq
      rw [hq] at hc0 ⊢
      clear hq
      go_wp2
      go_roundw
      case rel => exact ⟨k + 1, by omega, by go_num, by have h := HQ.out; rw [show q + 1 = k0 + ((k + 1 : Nat) : Int) by omega], hnx⟩
      case measure => simp [intOf]; omega
    · obtain rfl : k = n := by omega
      go_wp2
      go_ret
      exact ⟨rfl, hnx⟩

end Go.Proofs.Ytfblofcmjplfhaa
