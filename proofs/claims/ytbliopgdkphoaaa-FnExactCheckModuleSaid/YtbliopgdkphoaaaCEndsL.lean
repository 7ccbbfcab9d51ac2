/-
  The laws on the ends of a body and on how deep it goes.
-/
import Derived.Test.YtbliopgdkphoaaaCOut6
import Derived.Test.YtbliopgdkphoaaaCMarkI
import Derived.Test.YtbliopgdkphoaaaCOpen
namespace Go.Proofs.Ytbliopgdkphoaaa
open Go.ChangeShapes Go.WideShapes Go.ChangeAt Go.RowKit

set_option maxRecDepth 100000 in
set_option maxHeartbeats 800000 in
theorem toInsB (a : Option Addr) (b off cap : Nat) (L : List (Int × Int)) (w : World) (ha : Hid (L ≠ [] → a = some ⟨b, off, none⟩ ∧ b < w.heap.size)) (hL : insAt w b off L) (hlen : L.length ≤ 1048576) :
    Calls Try.prog 98 #[.slice a L.length cap] w fun e w' => e = .returned (.slice (some ⟨w.heap.size, 0, none⟩) L.length L.length) ∧ w.heap.size < w'.heap.size ∧ insAt w' w.heap.size 0 L ∧ (∃ arr, w'.heap[w.heap.size]? = some (.cells arr 110 (0, 0)) ∧ arr.size = L.length * 2) ∧ Below w.heap.size w w' := by
  obtain ⟨i0, hi, hz0, hz1, hz2⟩ := info_parts Try.info110
  obtain ⟨M, hM⟩ : ∃ M, M = madeCells (Value.agg #[.int .i64 0, .int .i64 0]).cells (((L.length : Nat) : Int).toNat * i0.size) := ⟨_, rfl⟩
  have hMs : M.size = L.length * 2 := by rw [hM, size_madeCells, hz1]; simp
  have hmk : ∀ W : World, (Instr.makeSlice 73 (.int .i64 (L.length : Int)) (.int .i64 (L.length : Int))).run Try.prog W = .ok (.slice (some ⟨W.heap.size, 0, none⟩) L.length L.length) (W.alloc (.cells M 110)) := fun W => by
    have h := run_make (P := Try.prog) W 73 110 i0 _ Try.underlying73 hi hz0 .i64 .i64 (L.length : Int) (L.length : Int) (by omega) (by omega) (by rw [hz2]; omega) (by omega)
    rw [← hM] at h
    simpa using h
  clear hM
  go_enter Try.func98, Try.ntmps98
  go_wp2
  go_loopw [4] (fun i wr => ∃ (k : Nat) (arr : Array Value), k ≤ L.length ∧ i = .int .i64 k ∧ wr.heap[w.heap.size]? = some (.cells arr 110 (0, 0)) ∧ arr.size = L.length * 2 ∧ Hid (∀ j (h : j < L.length), j < k → arr[j * 2]? = some (.int .i64 L[j].1) ∧ arr[j * 2 + 1]? = some (.int .i64 L[j].2)) ∧ Below w.heap.size w wr) (fun i _ => L.length - (intOf i).toNat)
  case atStart => exact ⟨0, M, by omega, rfl, heap_alloc_new _ _, hMs, fun j _ h => absurd h (by omega), (Below.refl _ _).alloc (Nat.le_refl _) _⟩
  case round =>
    clear hmk hMs
    obtain ⟨k, arr, hk, rfl, harr, hsz, hA, hnx⟩ := hrel
    have hgl := lt_of_block harr
    by_cases hlt : k < L.length
    · obtain ⟨rfl, hb⟩ := ha.out (fun h => by simp [h] at hlt)
      have hc := hL k hlt
      obtain ⟨x, hx⟩ : ∃ x, x = L[k] := ⟨_, rfl⟩
      rw [← hx] at hc
      obtain ⟨id, s⟩ := x
      have HX : Hid ((id, s) = L[k]) := hx
      clear hx
      simp only at hc
      have hc0 : wr.cell? ⟨b, off + k * 2, none⟩ = some (.int .i64 id) := (hnx.cell (by exact hb)).trans hc.1
      have hc1 : wr.cell? ⟨b, off + k * 2 + 1, none⟩ = some (.int .i64 s) := (hnx.cell (by exact hb)).trans hc.2
      clear hc
      have HS : Hid (arr.size = L.length * 2) := hsz
      obtain ⟨o0, ho0⟩ : ∃ o, arr[k * 2]? = some o := ⟨_, Array.getElem?_eq_getElem (by omega)⟩
      obtain ⟨o1, ho1⟩ : ∃ o, arr[k * 2 + 1]? = some o := ⟨_, Array.getElem?_eq_getElem (by omega)⟩
      clear hsz
      have H := toIns1 id s
      go_wp2_with (go_at_call 119; refine (H _).mono ?_; rintro e w1 ⟨rfl, hb2⟩; clear H; have harr1 := (hb2.block _ hgl).trans harr; have d0 := (cell_of_block harr1 (k * 2)).trans ho0; have d1 := (cell_of_block harr1 (k * 2 + 1)).trans ho1; have f0 := free_of_block harr1 (k * 2); have f1 := free_of_block harr1 (k * 2 + 1))
      go_roundw
      case rel =>
        obtain ⟨p1, p2⟩ := ins_put L arr k id s hlt HS.out HX.out hA.out
        exact ⟨k + 1, _, by omega, by go_num, heap_setCell_same _ _ _ _ _ _ (heap_setCell_same _ _ _ _ _ _ harr1), p1, p2, ((hnx.trans (hb2.mono hnx.size)).setCell (Nat.le_refl _) _).setCell (Nat.le_refl _) _⟩
      case measure => simp [intOf]; omega
    · go_wp2
      go_ret
      refine ⟨rfl, hgl, fun j hj => ?_, ⟨arr, harr, hsz⟩, hnx⟩
      have hj2 := hA.out j hj (by omega)
      rw [Nat.zero_add, cell_of_block harr, cell_of_block harr]
      exact hj2

set_option maxRecDepth 100000 in
set_option maxHeartbeats 1600000 in
theorem mark_far (a : Option Addr) (g n cap : Nat) (arr : Array Value) (w : World) (hn : n ≤ 1048576) (ha : Hid (0 < n → a = some ⟨g, 0, none⟩ ∧ w.heap[g]? = some (.cells arr 110 (0, 0)) ∧ n * 2 ≤ arr.size)) :
    Calls Try.prog 84 #[.slice a n cap, .int .i64 1] w fun e w' => e = .returned (.int .i64 (1 + 2 * (n : Int))) ∧ Below g w w' ∧ (∀ q, q ≠ g → w'.heap[q]? = w.heap[q]?) ∧ w'.heap.size = w.heap.size := by
  go_enter Try.func84, Try.ntmps84
  go_wp2
  go_loopw [1, 5] (fun m i wr => ∃ k : Nat, k ≤ n ∧ i = .int .i64 k ∧ m = .int .i64 (1 + 2 * (k : Int)) ∧ Hid (0 < n → ∃ cur : Array Value, wr.heap[g]? = some (.cells cur 110 (0, 0)) ∧ n * 2 ≤ cur.size) ∧ Below g w wr ∧ Hid ((∀ q, q ≠ g → wr.heap[q]? = w.heap[q]?) ∧ wr.heap.size = w.heap.size)) (fun _ i _ => n - (intOf i).toNat)
  case atStart => exact ⟨0, by omega, rfl, rfl, fun h => ⟨arr, (ha.out h).2.1, (ha.out h).2.2⟩, Below.refl _ _, ⟨fun _ _ => rfl, rfl⟩⟩
  case round =>
    obtain ⟨k, hk, rfl, rfl, hcur, hnx, hno⟩ := hrel
    by_cases hlt : k < n
    · obtain ⟨rfl, _, _⟩ := ha.out (by omega)
      obtain ⟨cur, hc, hcs⟩ := hcur.out (by omega)
      have hgl := lt_of_block hc
      obtain ⟨o0, ho0⟩ : ∃ o, cur[k * 2]? = some o := ⟨_, Array.getElem?_eq_getElem (by omega)⟩
      obtain ⟨o1, ho1⟩ : ∃ o, cur[k * 2 + 1]? = some o := ⟨_, Array.getElem?_eq_getElem (by omega)⟩
      have d0 := (cell_of_block hc (k * 2)).trans ho0
      have f0 := free_of_block hc (k * 2)
      have hc1 : (wr.setCell ⟨g, k * 2, none⟩ (.int .i64 (1 + 2 * (k : Int)))).heap[g]? = some (.cells (cur.setIfInBounds (k * 2) (.int .i64 (1 + 2 * (k : Int)))) 110 (0, 0)) := heap_setCell_same _ _ _ _ _ _ hc
      have d1 := (cell_of_block hc1 (k * 2 + 1)).trans ((Array.getElem?_setIfInBounds_ne (by omega)).trans ho1)
      have f1 := free_of_block hc1 (k * 2 + 1)
      have HC1 : Hid ((wr.setCell ⟨g, k * 2, none⟩ (.int .i64 (1 + 2 * (k : Int)))).heap[g]? = some (.cells (cur.setIfInBounds (k * 2) (.int .i64 (1 + 2 * (k : Int)))) 110 (0, 0))) := hc1
      clear hc hc1
      go_wp2
      go_roundw
      case rel =>
        refine ⟨k + 1, by omega, by go_num, by go_num, fun _ => ⟨_, heap_setCell_same _ _ _ _ _ _ HC1.out, by simpa using hcs⟩, (hnx.setCell (Nat.le_refl _) _).setCell (Nat.le_refl _) _, ⟨fun q hq => ?_, by simpa using hno.out.2⟩⟩
        rw [heap_setCell_other _ _ _ _ hq, heap_setCell_other _ _ _ _ hq]; exact hno.out.1 q hq
      case measure => simp [intOf]; omega
    · obtain rfl : k = n := by omega
      go_wp2
      go_ret
      exact ⟨rfl, hnx, hno.out.1, hno.out.2⟩

theorem specEnds (a : Option Addr) (b off cap : Nat) (L : List (Int × Int)) (w : World) (ha : Hid (L ≠ [] → a = some ⟨b, off, none⟩ ∧ b < w.heap.size)) (hL : insAt w b off L) (hlen : L.length ≤ 1048576) :
    Calls Try.prog 73 #[.slice a L.length cap] w fun e w' => Told w L e w' := by
  by_cases hg : (allG L && decide (L.length ≤ 200)) = true
  · by_cases h0 : L = []
    · exact specEnds_bad a b off cap L w ha hL hlen (Or.inr h0)
    · have h2 := hg
      simp only [Bool.and_eq_true, decide_eq_true_eq] at h2
      exact specEnds_good a b off cap L w ha hL (List.length_pos_iff.2 h0) h2.2 hg
  · exact specEnds_bad a b off cap L w ha hL hlen (Or.inl (by simpa using hg))
theorem implOutline (a : Option Addr) (b off cap : Nat) (L : List (Int × Int)) (w : World) (ha : Hid (L ≠ [] → a = some ⟨b, off, none⟩ ∧ b < w.heap.size)) (hL : insAt w b off L) (hf : fits L) (hlen : L.length ≤ 1048576) :
    Calls Try.prog 79 #[.slice a L.length cap] w fun e w' => ToldO w L e w' := by
  by_cases hg : (allG L && decide (L.length ≤ 200)) = true
  · by_cases h0 : L = []
    · exact outline_bad a b off cap L w ha hL hf hlen (Or.inr h0)
    · obtain ⟨rfl, hb⟩ := ha.out h0
      obtain ⟨m, hm⟩ : ∃ m, L.length = m + 1 := ⟨L.length - 1, by have := List.length_pos_iff.2 h0; omega⟩
      by_cases hop : (L[m]'(by omega)).1 = 11
      · exact outline_good b off cap L w hb hL hf hg m hm hop
      · exact outline_last b off cap L w hb hL hf hg m hm hop
  · exact outline_bad a b off cap L w ha hL hf hlen (Or.inl (by simpa using hg))

def endsOf (L : List (Int × Int)) : List Int := (((eo L).map (·.1)).getD []).map fun (k : Nat) => (k : Int)
def deepOf (L : List (Int × Int)) : Int := ((((eo L).map (·.2)).getD 0 : Nat) : Int)
theorem nv_iv (E : List Nat) : nv E = iv (E.map fun (k : Nat) => (k : Int)) := by simp [nv, iv]
theorem ends_row {w w' : World} {L : List (Int × Int)} {v : Value} {E : List Nat} {D : Nat} (h : eo L = some (E, D)) (ho : w'.ownsRow w.heap.size 3 1 v E.length (nv E)) : w'.ownsRow w.heap.size 3 1 v (endsOf L).length (iv (endsOf L)) := by
  unfold endsOf
  rw [h]
  simp only [Option.map_some, Option.getD_some]
  rw [nv_iv] at ho
  simpa using ho
theorem ends_len (L : List (Int × Int)) : (endsOf L).length ≤ 200 := by
  unfold endsOf eo
  split
  · rename_i hg
    simp only [Bool.and_eq_true, decide_eq_true_eq] at hg
    rcases h : bodyOf (ops L) with _ | ⟨E, D⟩
    · simp
    · have : E = bkE 0 (ops L) := by
        unfold bodyOf at h
        split at h
        · simp only [Option.some.injEq, Prod.mk.injEq] at h; exact h.1.symm
        · simp at h
      subst this
      simp only [Option.map_some, Option.getD_some, List.length_map, bkE_len]
      simp [ops]; exact hg.2
  · simp
def EndsTold (L : List (Int × Int)) (w : World) (r : Ending) (w' : World) : Prop := ∃ v, r = .returned (.tuple #[v, .bool (eo L).isSome]) ∧ w'.ownsRow w.heap.size 3 1 v (endsOf L).length (iv (endsOf L)) ∧ Below w.heap.size w w'

end Go.Proofs.Ytbliopgdkphoaaa
