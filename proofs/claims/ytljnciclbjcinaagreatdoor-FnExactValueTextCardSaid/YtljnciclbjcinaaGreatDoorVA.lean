/-
  A slice of values in memory, and the walks of what the laws do with it: its size, its copy, its comparison; what is read of one that comes in.
-/
import Derived.Test.YtljnciclbjcinaaGreatDoorYTy
import Derived.Test.YtljnciclbjcinaaGreatDoorYPl
import Derived.Test.YtljnciclbjcinaaGreatDoorYTr
import Derived.Deep.DeepCutAuto
import Derived.Test.YtljnciclbjcinaaGreatDoorQChain2
import Derived.Test.YtljnciclbjcinaaGreatDoorYGd5
namespace Go.Proofs.YtljnciclbjcinaaGreatDoor
open Go.ChangeShapes Go.WideShapes Go.ChangeAt Go.RowKit Go.Deep

abbrev Vn := Int × ByteArray × Int

/-- The values L lie from cell 'off' of block b on. -/
def vlAt (w : World) (b off : Nat) (L : List Vn) : Prop :=
  ∀ i (h : i < L.length), w.cell? ⟨b, off + i * 3, none⟩ = some (.int .i64 L[i].1) ∧ w.cell? ⟨b, off + i * 3 + 1, none⟩ = some (.string L[i].2.1) ∧ w.cell? ⟨b, off + i * 3 + 2, none⟩ = some (.int .i64 L[i].2.2)

theorem vlAt.below {w w' : World} {b off : Nat} {L : List Vn} (h : vlAt w b off L) {B : Nat} (hb : Below B w w') (hl : b < B) : vlAt w' b off L := fun i hi => by
  obtain ⟨h0, h1, h2⟩ := h i hi
  exact ⟨(hb.cell (p := ⟨b, off + i * 3, none⟩) hl).trans h0, (hb.cell (p := ⟨b, off + i * 3 + 1, none⟩) hl).trans h1, (hb.cell (p := ⟨b, off + i * 3 + 2, none⟩) hl).trans h2⟩

theorem w64v {x : Int} (h0 : -9223372036854775808 ≤ x) (h1 : x ≤ 9223372036854775807) : wrap64 x = x := by unfold wrap64; omega

set_option maxRecDepth 2000000 in
set_option maxHeartbeats 800000 in
theorem szNdsR (a : Option Addr) (cap : Nat) (n : Nat) (w : World) (hn : n ≤ 9223372036854775807) :
    Calls Tryz.prog 5 #[.slice a n cap, .int .i64 1048576] w fun e w' => ∃ r : Int, e = .returned (.int .i64 r) ∧ (-1 ≤ r ∧ r ≤ 1048576) ∧ (0 ≤ r → n ≤ 1048576) ∧ w' = w := by
  obtain ⟨N, hN⟩ : ∃ N : Int, (n : Int) = N := ⟨_, rfl⟩
  by_cases h0 : N ≤ 1048576
  · go_enter Tryz.func5, Tryz.ntmps5
    go_wp2
    go_ret
    exact ⟨_, rfl, by omega, fun _ => by omega, rfl⟩
  · go_enter Tryz.func5, Tryz.ntmps5
    go_wp2
    go_ret
    exact ⟨_, rfl, by omega, fun h => absurd h (by omega), rfl⟩

set_option maxRecDepth 100000 in
set_option maxHeartbeats 800000 in
theorem szVal1 (x z l : Int) (s : ByteArray) (w : World) (hs : s.size ≤ 9223372036854775807) (hl : 0 ≤ l ∧ l ≤ 1048576) :
    Calls Tryz.prog 18 #[.agg #[.int .i64 x, .string s, .int .i64 z], .int .i64 l] w fun e w' => ∃ r : Int, e = .returned (.int .i64 r) ∧ (-1 ≤ r ∧ r ≤ 1048576) ∧ (0 ≤ r → s.size ≤ 1048576) ∧ Below w.heap.size w w' := by
  obtain ⟨N, hN⟩ : ∃ N : Int, (s.size : Int) = N := ⟨_, rfl⟩
  have hN0 : 0 ≤ N := by omega
  have hN9 : N ≤ 9223372036854775807 := by omega
  have HN : Hid ((s.size : Int) = N) := hN
  clear hs
  by_cases h0 : N ≤ l
  · have hw : wrap64 (l - N) = l - N := w64v (by omega) (by omega)
    have hlt : ¬ (l - N < 0) := by omega
    go_enter Tryz.func18, Tryz.ntmps18
    go_wp2
    go_ret
    exact ⟨_, rfl, by omega, fun _ => by have := HN.out; omega, by (repeat (first | refine Below.alloc ?_ (by first | (simp; done) | (simp; omega)) _ | refine Below.setCell ?_ (by first | (simp; done) | (simp; omega)) _ | refine bel_dN ?_ _ | refine Below.drew ?_ | exact Below.refl _ _))⟩
  · have hw : wrap64 (l - N) = l - N := w64v (by omega) (by omega)
    have hlt : l - N < 0 := by omega
    go_enter Tryz.func18, Tryz.ntmps18
    go_wp2
    go_ret
    exact ⟨_, rfl, by omega, fun h => absurd h (by omega), by (repeat (first | refine Below.alloc ?_ (by first | (simp; done) | (simp; omega)) _ | refine Below.setCell ?_ (by first | (simp; done) | (simp; omega)) _ | refine bel_dN ?_ _ | refine Below.drew ?_ | exact Below.refl _ _))⟩

set_option maxRecDepth 2000000 in
set_option maxHeartbeats 1600000 in
theorem szVals (a : Option Addr) (b off cap : Nat) (L : List Vn) (l : Int) (w : World) (ha : Hid (L ≠ [] → a = some ⟨b, off, none⟩ ∧ b < w.heap.size)) (hL : vlAt w b off L) (hn : L.length ≤ 9223372036854775807) (hfs : Hid (∀ x ∈ L, x.2.1.size ≤ 9223372036854775807)) (hl : 0 ≤ l ∧ l ≤ 1048576) :
    Calls Tryz.prog 6 #[.slice a L.length cap, .int .i64 l] w fun e w' => ∃ r : Int, e = .returned (.int .i64 r) ∧ (-1 ≤ r ∧ r ≤ 1048576) ∧ (0 ≤ r → L.length ≤ 1048576 ∧ ∀ x ∈ L, x.2.1.size ≤ 1048576) ∧ Below w.heap.size w w' := by
  obtain ⟨N, hN⟩ : ∃ N : Int, (L.length : Int) = N := ⟨_, rfl⟩
  by_cases h0 : N ≤ l
  · have hlen : L.length ≤ 1048576 := by omega
    have hw : wrap64 (l - N) = l - N := w64v (by omega) (by omega)
    have hlt : ¬ (l - N < 0) := by omega
    have hb9 : 0 ≤ l - N ∧ l - N ≤ 1048576 := by omega
    obtain ⟨l2, hl2⟩ : ∃ x, l - N = x := ⟨_, rfl⟩
    rw [hl2] at hw hlt hb9
    have HN : Hid ((L.length : Int) = N) := hN
    go_enter Tryz.func6, Tryz.ntmps6
    go_wp2
    go_loopw [1, 5] (fun v i wr => ∃ (k : Nat) (lv : Int), k ≤ L.length ∧ i = .int .i64 k ∧ v = .int .i64 lv ∧ (0 ≤ lv ∧ lv ≤ 1048576) ∧ Hid (∀ x ∈ L.take k, x.2.1.size ≤ 1048576) ∧ Below w.heap.size w wr) (fun _ i _ => L.length - (intOf i).toNat)
    case atStart => exact ⟨0, l2, by omega, rfl, rfl, hb9, fun x hx => by simp at hx, Below.refl _ _⟩
    case round =>
      obtain ⟨k, lv, hk, rfl, rfl, hlv, hA, hnx⟩ := hrel
      clear hw hlt hl2 hb9
      by_cases hlt : k < L.length
      · obtain ⟨rfl, hb⟩ := ha.out (fun h => by simp [h] at hlt)
        have hltN : (k : Int) < N := by have := HN.out; omega
        have hc := hL k hlt
        have hsz := hfs.out L[k] (List.getElem_mem hlt)
        obtain ⟨x, hx⟩ : ∃ x, x = L[k] := ⟨_, rfl⟩
        rw [← hx] at hc hsz
        have HS : Hid (L.take (k + 1) = L.take k ++ [x]) := by unfold Hid; rw [List.take_succ_eq_append_getElem hlt, hx]
        obtain ⟨x, y, z⟩ := x
        clear hx
        simp only at hc hsz
        have hc0 : wr.cell? ⟨b, off + k * 3, none⟩ = some (.int .i64 x) := (hnx.cell (by exact hb)).trans hc.1
        have hc1 : wr.cell? ⟨b, off + k * 3 + 1, none⟩ = some (.string y) := (hnx.cell (by exact hb)).trans hc.2.1
        have hc2 : wr.cell? ⟨b, off + k * 3 + 2, none⟩ = some (.int .i64 z) := (hnx.cell (by exact hb)).trans hc.2.2
        clear hc
        have H := szVal1 x z lv y wr hsz hlv
        go_wp2_with fail
        refine H.mono ?_
        rintro e w1 ⟨r, rfl, hr, hr2, hb1⟩
        clear H hc0 hc1 hc2
        by_cases hneg : r < 0
        · go_wp2
          go_ret
          exact ⟨_, rfl, by omega, fun h => absurd h (by omega), below2 hnx hb1⟩
        · have hr0 : 0 ≤ r := by omega
          go_wp2
          go_roundw
          case rel =>
            refine ⟨k + 1, r, by omega, by go_num, rfl, ⟨hr0, hr.2⟩, ?_, below2 hnx hb1⟩
            unfold Hid
            rw [HS.out]
            intro q hq
            rcases List.mem_append.1 hq with hq | hq
            · exact hA.out q hq
            · simp at hq; subst hq; exact hr2 hr0
          case measure => simp [intOf]; omega
      · obtain rfl : k = L.length := by omega
        rw [List.take_length] at hA
        go_wp2
        go_ret
        exact ⟨_, rfl, by omega, fun _ => ⟨hlen, hA.out⟩, hnx⟩
  · have hw : wrap64 (l - N) = l - N := w64v (by omega) (by omega)
    have hlt : l - N < 0 := by omega
    go_enter Tryz.func6, Tryz.ntmps6
    go_wp2
    go_ret
    exact ⟨_, rfl, by omega, fun h => absurd h (by omega), Below.refl _ _⟩

set_option maxRecDepth 100000 in
set_option maxHeartbeats 800000 in
theorem toVal1 (k : Int) (n : ByteArray) (u : Int) (w : World) :
    Calls Tryz.prog 24 #[.agg #[.int .i64 k, .string n, .int .i64 u]] w fun e w' => e = .returned (.agg #[.int .i64 k, .string n, .int .i64 u]) ∧ Below w.heap.size w w' := by
  go_enter Tryz.func24, Tryz.ntmps24
  go_wp2
  exact bodyPost_ret (v := .agg #[.int .i64 k, .string n, .int .i64 u]) (by simp [results, Tryz.results24, go_sem]) rfl ⟨rfl, by (repeat (first | refine Below.alloc ?_ (by first | (simp; done) | (simp; omega)) _ | refine Below.setCell ?_ (by first | (simp; done) | (simp; omega)) _ | refine bel_dN ?_ _ | refine Below.drew ?_ | exact Below.refl _ _))⟩

theorem vl_put (L : List Vn) (arr : Array Value) (k : Nat) (x : Int) (y : ByteArray) (z : Int) (hk : k < L.length) (hs : arr.size = L.length * 3) (hx : (x, y, z) = L[k])
    (hA : ∀ j (h : j < L.length), j < k → arr[j * 3]? = some (.int .i64 L[j].1) ∧ arr[j * 3 + 1]? = some (.string L[j].2.1) ∧ arr[j * 3 + 2]? = some (.int .i64 L[j].2.2)) :
    ((((arr.setIfInBounds (k * 3) (.int .i64 x)).setIfInBounds (k * 3 + 1) (.string y))).setIfInBounds (k * 3 + 2) (.int .i64 z)).size = L.length * 3 ∧
    ∀ j (h : j < L.length), j < k + 1 → ((((arr.setIfInBounds (k * 3) (.int .i64 x)).setIfInBounds (k * 3 + 1) (.string y))).setIfInBounds (k * 3 + 2) (.int .i64 z))[j * 3]? = some (.int .i64 L[j].1) ∧
      ((((arr.setIfInBounds (k * 3) (.int .i64 x)).setIfInBounds (k * 3 + 1) (.string y))).setIfInBounds (k * 3 + 2) (.int .i64 z))[j * 3 + 1]? = some (.string L[j].2.1) ∧
      ((((arr.setIfInBounds (k * 3) (.int .i64 x)).setIfInBounds (k * 3 + 1) (.string y))).setIfInBounds (k * 3 + 2) (.int .i64 z))[j * 3 + 2]? = some (.int .i64 L[j].2.2) := by
  refine ⟨by simpa using hs, fun j hj hjk => ?_⟩
  by_cases e : j = k
  · subst e
    rw [← hx]
    refine ⟨?_, ?_, ?_⟩
    · rw [Array.getElem?_setIfInBounds_ne (by omega), Array.getElem?_setIfInBounds_ne (by omega), Array.getElem?_setIfInBounds_self_of_lt (by omega)]
    · rw [Array.getElem?_setIfInBounds_ne (by omega), Array.getElem?_setIfInBounds_self_of_lt (by simp; omega)]
    · rw [Array.getElem?_setIfInBounds_self_of_lt (by simp; omega)]
  · have h := hA j hj (by omega)
    refine ⟨?_, ?_, ?_⟩
    · rw [Array.getElem?_setIfInBounds_ne (by omega), Array.getElem?_setIfInBounds_ne (by omega), Array.getElem?_setIfInBounds_ne (by omega)]; exact h.1
    · rw [Array.getElem?_setIfInBounds_ne (by omega), Array.getElem?_setIfInBounds_ne (by omega), Array.getElem?_setIfInBounds_ne (by omega)]; exact h.2.1
    · rw [Array.getElem?_setIfInBounds_ne (by omega), Array.getElem?_setIfInBounds_ne (by omega), Array.getElem?_setIfInBounds_ne (by omega)]; exact h.2.2

theorem Tryz.infoVl : (Tryz.prog.info? 57).map (fun i => (i.zero, i.size, i.bytes)) = some (some (.agg #[.int .i64 0, .string ⟨#[]⟩, .int .i64 0]), 3, 32) := by kernel_rfl

set_option maxRecDepth 100000 in
set_option maxHeartbeats 800000 in
theorem toVals (a : Option Addr) (b off cap : Nat) (L : List Vn) (w : World) (ha : Hid (L ≠ [] → a = some ⟨b, off, none⟩ ∧ b < w.heap.size)) (hL : vlAt w b off L) (hlen : L.length ≤ 1048576) :
    Calls Tryz.prog 9 #[.slice a L.length cap] w fun e w' => e = .returned (.slice (some ⟨w.heap.size, 0, none⟩) L.length L.length) ∧ w.heap.size < w'.heap.size ∧ vlAt w' w.heap.size 0 L ∧ (∃ arr, w'.heap[w.heap.size]? = some (.cells arr 57 (0, 0)) ∧ arr.size = L.length * 3) ∧ Below w.heap.size w w' := by
  obtain ⟨i0, hi, hz0, hz1, hz2⟩ := info_parts Tryz.infoVl
  obtain ⟨M, hM⟩ : ∃ M, M = madeCells (Value.agg #[.int .i64 0, .string ⟨#[]⟩, .int .i64 0]).cells (((L.length : Nat) : Int).toNat * i0.size) := ⟨_, rfl⟩
  have hMs : M.size = L.length * 3 := by rw [hM, size_madeCells, hz1]; simp
  have hmk : ∀ W : World, (Instr.makeSlice 30 (.int .i64 (L.length : Int)) (.int .i64 (L.length : Int))).run Tryz.prog W = .ok (.slice (some ⟨W.heap.size, 0, none⟩) L.length L.length) (W.alloc (.cells M 57)) := fun W => by
    have h := run_make (P := Tryz.prog) W 30 57 i0 _ Tryz.underlying30 hi hz0 .i64 .i64 (L.length : Int) (L.length : Int) (by omega) (by omega) (by rw [hz2]; omega) (by omega)
    rw [← hM] at h
    simpa using h
  clear hM
  go_enter Tryz.func9, Tryz.ntmps9
  go_wp2
  go_loopw [4] (fun i wr => ∃ (k : Nat) (arr : Array Value), k ≤ L.length ∧ i = .int .i64 k ∧ wr.heap[w.heap.size]? = some (.cells arr 57 (0, 0)) ∧ arr.size = L.length * 3 ∧ Hid (∀ j (h : j < L.length), j < k → arr[j * 3]? = some (.int .i64 L[j].1) ∧ arr[j * 3 + 1]? = some (.string L[j].2.1) ∧ arr[j * 3 + 2]? = some (.int .i64 L[j].2.2)) ∧ Below w.heap.size w wr) (fun i _ => L.length - (intOf i).toNat)
  case atStart => exact ⟨0, M, by omega, rfl, heap_alloc_new _ _, hMs, fun j _ h => absurd h (by omega), (Below.refl _ _).alloc (Nat.le_refl _) _⟩
  case round =>
    clear hmk hMs
    obtain ⟨k, arr, hk, rfl, harr, hsz, hA, hnx⟩ := hrel
    have hgl := lt_of_block harr
    by_cases hlt : k < L.length
    · obtain ⟨rfl, hb⟩ := ha.out (fun h => by simp [h] at hlt)
      have hc := hL k hlt
      obtain ⟨x, hx⟩ : ∃ x, x = L[k] := ⟨_, rfl⟩
      rw [← hx] at hc
      obtain ⟨x, y, z⟩ := x
      have HX : Hid ((x, y, z) = L[k]) := hx
      clear hx
      simp only at hc
      have hc0 : wr.cell? ⟨b, off + k * 3, none⟩ = some (.int .i64 x) := (hnx.cell (by exact hb)).trans hc.1
      have hc1 : wr.cell? ⟨b, off + k * 3 + 1, none⟩ = some (.string y) := (hnx.cell (by exact hb)).trans hc.2.1
      have hc2 : wr.cell? ⟨b, off + k * 3 + 2, none⟩ = some (.int .i64 z) := (hnx.cell (by exact hb)).trans hc.2.2
      clear hc
      have HS : Hid (arr.size = L.length * 3) := hsz
      obtain ⟨o0, ho0⟩ : ∃ o, arr[k * 3]? = some o := ⟨_, Array.getElem?_eq_getElem (by omega)⟩
      obtain ⟨o1, ho1⟩ : ∃ o, arr[k * 3 + 1]? = some o := ⟨_, Array.getElem?_eq_getElem (by omega)⟩
      obtain ⟨o2, ho2⟩ : ∃ o, arr[k * 3 + 2]? = some o := ⟨_, Array.getElem?_eq_getElem (by omega)⟩
      clear hsz
      have H := toVal1 x y z
      go_wp2_with (go_at_call 24; refine (H _).mono ?_; rintro e w1 ⟨rfl, hb2⟩; clear H; have harr1 := (hb2.block _ hgl).trans harr; have d0 := (cell_of_block harr1 (k * 3)).trans ho0; have d1 := (cell_of_block harr1 (k * 3 + 1)).trans ho1; have d2 := (cell_of_block harr1 (k * 3 + 2)).trans ho2; have f0 := free_of_block harr1 (k * 3); have f1 := free_of_block harr1 (k * 3 + 1); have f2 := free_of_block harr1 (k * 3 + 2))
      go_roundw
      case rel =>
        obtain ⟨p1, p2⟩ := vl_put L arr k x y z hlt HS.out HX.out hA.out
        exact ⟨k + 1, _, by omega, by go_num, heap_setCell_same _ _ _ _ _ _ (heap_setCell_same _ _ _ _ _ _ (heap_setCell_same _ _ _ _ _ _ harr1)), p1, p2, (((hnx.trans (hb2.mono hnx.size)).setCell (Nat.le_refl _) _).setCell (Nat.le_refl _) _).setCell (Nat.le_refl _) _⟩
      case measure => simp [intOf]; omega
    · go_wp2
      go_ret
      refine ⟨rfl, hgl, fun j hj => ?_, ⟨arr, harr, hsz⟩, hnx⟩
      have hj2 := hA.out j hj (by omega)
      rw [Nat.zero_add, cell_of_block harr, cell_of_block harr, cell_of_block harr]
      exact hj2

set_option maxRecDepth 100000 in
set_option maxHeartbeats 800000 in
theorem eqVal1 (x : Int) (y : ByteArray) (z : Int) (w : World) :
    Calls Tryz.prog 28 #[.agg #[.int .i64 x, .string y, .int .i64 z], .agg #[.int .i64 x, .string y, .int .i64 z]] w fun e w' => e = .returned (.bool true) ∧ Below w.heap.size w w' := by
  go_enter Tryz.func28, Tryz.ntmps28
  go_wp2
  go_ret
  exact ⟨rfl, ((Below.refl _ _).alloc (Nat.le_refl _) _).alloc (by simp) _⟩

set_option maxRecDepth 100000 in
set_option maxHeartbeats 1600000 in
theorem eqVals (a a' : Option Addr) (b off cap b' off' cap' : Nat) (L : List Vn) (w : World) (ha : Hid (L ≠ [] → a = some ⟨b, off, none⟩ ∧ b < w.heap.size)) (ha' : Hid (L ≠ [] → a' = some ⟨b', off', none⟩ ∧ b' < w.heap.size))
    (hL : vlAt w b off L) (hL' : vlAt w b' off' L) (hlen : L.length ≤ 9223372036854775807) :
    Calls Tryz.prog 12 #[.slice a L.length cap, .slice a' L.length cap'] w fun e w' => e = .returned (.bool true) ∧ Below w.heap.size w w' := by
  go_enter Tryz.func12, Tryz.ntmps12
  go_wp2
  go_loopw [5] (fun i wr => ∃ (k : Nat), k ≤ L.length ∧ i = .int .i64 k ∧ Below w.heap.size w wr) (fun i _ => L.length - (intOf i).toNat)
  case atStart => exact ⟨0, by omega, rfl, Below.refl _ _⟩
  case round =>
    obtain ⟨k, hk, rfl, hnx⟩ := hrel
    by_cases hlt : k < L.length
    · obtain ⟨rfl, hb⟩ := ha.out (fun h => by simp [h] at hlt)
      obtain ⟨rfl, hb'⟩ := ha'.out (fun h => by simp [h] at hlt)
      have hc := hL k hlt
      have hd := hL' k hlt
      obtain ⟨x, hx⟩ : ∃ x, x = L[k] := ⟨_, rfl⟩
      rw [← hx] at hc hd
      obtain ⟨x, y, z⟩ := x
      clear hx
      simp only at hc hd
      have hc0 : wr.cell? ⟨b, off + k * 3, none⟩ = some (.int .i64 x) := (hnx.cell (by exact hb)).trans hc.1
      have hc1 : wr.cell? ⟨b, off + k * 3 + 1, none⟩ = some (.string y) := (hnx.cell (by exact hb)).trans hc.2.1
      have hc2 : wr.cell? ⟨b, off + k * 3 + 2, none⟩ = some (.int .i64 z) := (hnx.cell (by exact hb)).trans hc.2.2
      have hd0 : wr.cell? ⟨b', off' + k * 3, none⟩ = some (.int .i64 x) := (hnx.cell (by exact hb')).trans hd.1
      have hd1 : wr.cell? ⟨b', off' + k * 3 + 1, none⟩ = some (.string y) := (hnx.cell (by exact hb')).trans hd.2.1
      have hd2 : wr.cell? ⟨b', off' + k * 3 + 2, none⟩ = some (.int .i64 z) := (hnx.cell (by exact hb')).trans hd.2.2
      clear hc hd
      have H := eqVal1 x y z
      go_wp2
      go_region_with (go_at_call 28; refine (H _).mono ?_; rintro e w1 ⟨rfl, hb2⟩)
      all_goals
        go_wp2
        go_roundw
        case rel => exact ⟨k + 1, by omega, by go_num, by first | exact below2 hnx (by assumption) | exact below2 hnx.drew (by assumption) | exact below2 hnx.drew.drew (by assumption) | exact below2 hnx.drew.drew.drew (by assumption)⟩
        case measure => simp [intOf]; omega
    · go_wp2
      go_ret
      exact ⟨rfl, hnx⟩

def fitsV (L : List Vn) : Prop := ∀ x ∈ L, (-9223372036854775808 ≤ x.1 ∧ x.1 ≤ 9223372036854775807) ∧ x.2.1.size ≤ 9223372036854775807 ∧ (-9223372036854775808 ≤ x.2.2 ∧ x.2.2 ≤ 9223372036854775807)

def IsVals (W : World) (a : Option Addr) (L : List Vn) : Prop :=
  ∃ b off, (L ≠ [] → a = some ⟨b, off, none⟩ ∧ b < W.heap.size) ∧ vlAt W b off L ∧ L.length ≤ 9223372036854775807 ∧ fitsV L

theorem vlCells : Tryz.prog.cellsOf 42 = 3 := by kernel_rfl
theorem vlStr : Tryz.prog.cellsOf 9 = 1 := by kernel_rfl

set_option maxRecDepth 100000 in
theorem open_vals {H : Type} {enc : TypeId × Value → H} {W : World} {a : Option Addr} {len cap : Nat} {fuel : Nat} {x : DataW H × List MemPlace}
    (hf : DataW.trod enc Tryz.prog W 0 (fun _ => true) true fuel 23 (Value.slice a len cap).cells.toList = some x) : ∃ L : List Vn, len = L.length ∧ IsVals W a L := by
  rcases open_slice Tryz.underlying23 hf with ⟨hcs, _⟩ | ⟨ad, l, c, m, n, D, Pl, hcs, _, hl, hm, hmm, _, hx⟩
  · simp [Value.cells] at hcs
    obtain ⟨rfl, rfl, rfl⟩ := hcs
    exact ⟨[], rfl, 0, 0, fun h => absurd rfl h, fun i h => absurd h (by simp), by simp, fun x h => absurd h (by simp)⟩
  · simp [Value.cells] at hcs
    obtain ⟨rfl, rfl, rfl⟩ := hcs
    have hm' : m = cap := by simpa using hmm
    subst hm'
    unfold maxLen at hm
    have hv : ∀ i, i < m → ∃ p : Vn, W.cell? (ad.add (i * 3)) = some (.int .i64 p.1) ∧ W.cell? (ad.add (i * 3 + 1)) = some (.string p.2.1) ∧ W.cell? (ad.add (i * 3 + 2)) = some (.int .i64 p.2.2) ∧ ((-9223372036854775808 ≤ p.1 ∧ p.1 ≤ 9223372036854775807) ∧ p.2.1.size ≤ 9223372036854775807 ∧ (-9223372036854775808 ≤ p.2.2 ∧ p.2.2 ≤ 9223372036854775807)) := fun i hi => by
      obtain ⟨cs', h1, h2⟩ := hx i hi
      rw [vlCells] at h1
      obtain ⟨_, hlen, hcell⟩ := World.cells?_some h1
      obtain ⟨xs, k, hk, hxy, _, hxl, hf⟩ := DataW.trod_struct Tryz.underlying42 h2
      match xs, hxl, cs', hlen with
      | [y0, y1, y2], _, [v0, v1, v2], _ =>
        have g0 := hf 0 _ rfl
        have g1 := hf 1 _ rfl
        have g2 := hf 2 _ rfl
        simp [ndInt, vlStr] at g0 g1 g2
        have e0 := hcell 0 (by omega)
        have e1 := hcell 1 (by omega)
        have e2 := hcell 2 (by omega)
        rw [add_add] at e0 e1 e2
        obtain ⟨z0, q0, _, b0⟩ := DataW.trod_int Tryz.underlying3 g0
        obtain ⟨z1, q1, _, b1⟩ := DataW.trod_string Tryz.underlying9 g1
        obtain ⟨z2, q2, _, b2⟩ := DataW.trod_int Tryz.underlying3 g2
        simp at q0 q1 q2
        subst q0 q1 q2
        exact ⟨(z0, z1, z2), by simpa using e0, by simpa using e1, by simpa using e2, bounds_i64 b0, by unfold maxLen at b1; exact b1, bounds_i64 b2⟩
    obtain ⟨f, hfv⟩ := choose_lt hv
    refine ⟨(List.range len).map f, by simp, ?_⟩
    have hfit : fitsV ((List.range len).map f) := fun x hx => by
      obtain ⟨i, hi, rfl⟩ := List.mem_map.1 hx
      exact (hfv i (by have := List.mem_range.1 hi; omega)).2.2.2
    by_cases h0 : len = 0
    · subst h0
      exact ⟨0, 0, fun h => absurd rfl h, fun i h => absurd h (by simp), by simp, hfit⟩
    · obtain ⟨b, off, spot⟩ := ad
      have hc0 := (hfv 0 (by omega)).1
      have hspot : spot = none := by simpa [Addr.add] using World.cell?_spot hc0
      subst hspot
      have hadd : ∀ j, (⟨b, off, none⟩ : Addr).add j = ⟨b, off + j, none⟩ := fun j => by rw [Addr.add_lit]
      refine ⟨b, off, fun _ => ⟨rfl, nd_block (by rw [hadd] at hc0; exact hc0)⟩, fun i hi => ?_, by simp; omega, hfit⟩
      have hi' : i < len := by simpa using hi
      obtain ⟨c0, c1, c2, _⟩ := hfv i (by omega)
      rw [hadd] at c0 c1 c2
      simp only [List.getElem_map, List.getElem_range]
      exact ⟨c0, c1, c2⟩

end Go.Proofs.YtljnciclbjcinaaGreatDoor

namespace Go.Proofs.YtljnciclbjcinaaGreatDoor

/-- Where the nodes within 'at' end, from 'next' on. -/
def nx (U : Nat → Int) (n : Nat) : Nat → Nat → Nat → Nat
  | 0, _, next => next
  | f + 1, at', next => if next < n ∧ U next = (at' : Int) then nx U n f at' (nx U n f next (next + 1)) else next

theorem nx_ge (U : Nat → Int) (n : Nat) : ∀ (f a m : Nat), m ≤ nx U n f a m
  | 0, _, _ => Nat.le_refl _
  | f + 1, a, m => by
    unfold nx
    split
    · have h1 := nx_ge U n f m (m + 1)
      have h2 := nx_ge U n f a (nx U n f m (m + 1))
      omega
    · exact Nat.le_refl _
theorem nx_le (U : Nat → Int) (n : Nat) : ∀ (f a m : Nat), m ≤ n → nx U n f a m ≤ n
  | 0, _, _, h => h
  | f + 1, a, m, h => by
    unfold nx
    split
    · rename_i hc
      exact nx_le U n f a _ (nx_le U n f m (m + 1) (by omega))
    · exact h
theorem nx_fuel (U : Nat → Int) (n : Nat) : ∀ (f f' a m : Nat), n - m ≤ f → n - m ≤ f' → nx U n f a m = nx U n f' a m
  | 0, 0, _, _, _, _ => rfl
  | 0, f' + 1, a, m, h, _ => by
    unfold nx
    rw [if_neg (by omega)]
  | f + 1, 0, a, m, _, h => by
    conv => lhs; unfold nx
    rw [if_neg (by omega)]; rfl
  | f + 1, f' + 1, a, m, h, h' => by
    unfold nx
    split
    · rename_i hc
      have g := nx_ge U n f m (m + 1)
      rw [← nx_fuel U n f f' m (m + 1) (by omega) (by omega)]
      exact nx_fuel U n f f' a _ (by omega) (by omega)
    · rfl

/-- The same, with fuel that serves. -/
def nxt (U : Nat → Int) (n a m : Nat) : Nat := nx U n n a m
theorem nxt_yes {U : Nat → Int} {n a m : Nat} (h : m < n) (hu : U m = (a : Int)) : nxt U n a m = nxt U n a (nxt U n m (m + 1)) := by
  have g := nx_ge U n n m (m + 1)
  unfold nxt
  rw [nx_fuel U n n (n + 1) a m (by omega) (by omega)]
  conv => lhs; unfold nx
  rw [if_pos ⟨h, hu⟩]
theorem nxt_no {U : Nat → Int} {n a m : Nat} (h : ¬ (m < n ∧ U m = (a : Int))) : nxt U n a m = m := by
  unfold nxt
  rw [nx_fuel U n n (n + 1) a m (by omega) (by omega)]
  unfold nx
  rw [if_neg h]
theorem nxt_ge (U : Nat → Int) (n a m : Nat) : m ≤ nxt U n a m := nx_ge U n n a m
theorem nxt_le {U : Nat → Int} {n a m : Nat} (h : m ≤ n) : nxt U n a m ≤ n := nx_le U n n a m h

/-- All that lies within. -/
theorem nx_in (U : Nat → Int) (n : Nat) : ∀ (f a m : Nat), a < m → ∀ j, m ≤ j → j < nx U n f a m → (a : Int) ≤ U j ∧ U j < (j : Int)
  | 0, a, m, _, j, h1, h2 => by unfold nx at h2; omega
  | f + 1, a, m, ha, j, h1, h2 => by
    unfold nx at h2
    split at h2
    · rename_i hc
      by_cases e : j = m
      · subst e; omega
      · by_cases e2 : j < nx U n f m (m + 1)
        · have := nx_in U n f m (m + 1) (by omega) j (by omega) e2
          omega
        · have g := nx_ge U n f m (m + 1)
          exact nx_in U n f a _ (by omega) j (by omega) h2
    · omega

/-- What is around node k, with itself, where all is right up to it. -/
def sv (U : Nat → Int) : Nat → Option (List Nat)
  | 0 => if U 0 = -1 then some [0] else none
  | k + 1 => match sv U k with
    | none => none
    | some s => if (pops (U (k + 1)) s).length = 0 then none else some ((k + 1) :: pops (U (k + 1)) s)
theorem sv_none {U : Nat → Int} : ∀ (m k : Nat), sv U k = none → k ≤ m → sv U m = none
  | 0, k, h, hl => by obtain rfl : k = 0 := by omega
                      exact h
  | m + 1, k, h, hl => by
    by_cases e : k = m + 1
    · subst e; exact h
    · unfold sv; rw [sv_none m k h (by omega)]
theorem sv_up {U : Nat → Int} {k m : Nat} {s : List Nat} (h : sv U m = some s) (hl : k ≤ m) : ∃ t, sv U k = some t := by
  cases e : sv U k with
  | some t => exact ⟨t, rfl⟩
  | none => rw [sv_none m k e hl] at h; simp at h
theorem sv_next {U : Nat → Int} {k : Nat} {s : List Nat} (h : sv U k = some s) : sv U (k + 1) = if (pops (U (k + 1)) s).length = 0 then none else some ((k + 1) :: pops (U (k + 1)) s) := by
  conv => lhs; unfold sv
  rw [h]
theorem pops_mem_of {u : Int} : ∀ {s : List Nat} {j : Nat}, j ∈ pops u s → j ∈ s
  | [], _, h => by simp [pops] at h
  | a :: b, j, h => by
    unfold pops at h
    split at h
    · exact h
    · exact List.mem_cons_of_mem _ (pops_mem_of h)
theorem pops_hit {u : Int} {a : Nat} (ha : (a : Int) = u) (sk : List Nat) : ∀ t : List Nat, (∀ x ∈ t, u ≠ (x : Int)) → pops u (t ++ a :: sk) = a :: sk
  | [], _ => by show pops u (a :: sk) = _; unfold pops; rw [if_pos ha]
  | b :: t, h => by
    show pops u (b :: (t ++ a :: sk)) = _
    unfold pops
    rw [if_neg (fun e => h b (by simp) e.symm)]
    exact pops_hit ha sk t (fun x hx => h x (by simp [hx]))
theorem pops_miss {u : Int} (sk : List Nat) : ∀ t : List Nat, (∀ x ∈ t, u ≠ (x : Int)) → pops u (t ++ sk) = pops u sk
  | [], _ => rfl
  | b :: t, h => by
    show pops u (b :: (t ++ sk)) = _
    conv => lhs; unfold pops
    rw [if_neg (fun e => h b (by simp) e.symm)]
    exact pops_miss sk t (fun x hx => h x (by simp [hx]))
theorem sv_good {U : Nat → Int} : ∀ k s, sv U k = some s → Path U s ∧ s.head? = some k ∧ ∀ j ∈ s, j ≤ k
  | 0, s, h => by
    unfold sv at h
    split at h
    · rename_i h0; simp at h; subst h; exact ⟨⟨rfl, h0⟩, rfl, by simp⟩
    · simp at h
  | k + 1, s, h => by
    obtain ⟨t, ht⟩ := sv_up h (show k ≤ k + 1 by omega)
    rw [sv_next ht] at h
    obtain ⟨p1, p2, p4⟩ := sv_good k t ht
    split at h
    · simp at h
    · rename_i hn
      simp at h
      subst h
      obtain ⟨q, i, r, e, hi⟩ := pops_path (U (k + 1)) t p1 hn
      refine ⟨?_, rfl, ?_⟩
      · rw [e] at q ⊢
        exact ⟨hi.symm, by have := p4 i (pops_mem_of (by rw [e]; simp)); omega, q⟩
      · intro j hj
        rcases List.mem_cons.1 hj with rfl | hj
        · omega
        · have := p4 j (pops_mem_of hj); omega
theorem sv_head {U : Nat → Int} {k : Nat} {s : List Nat} (h : sv U k = some s) : ∃ sk, s = k :: sk ∧ ∀ x ∈ sk, x < k := by
  obtain ⟨p, hh, _⟩ := sv_good k s h
  cases s with
  | nil => simp at hh
  | cons a r =>
    simp at hh
    subst hh
    refine ⟨r, rfl, ?_⟩
    clear h
    have key : ∀ (r : List Nat) (a : Nat), Path U (a :: r) → ∀ x ∈ r, x < a := by
      intro r
      induction r with
      | nil => intro a _ x hx; simp at hx
      | cons i r ih =>
        intro a p x hx
        obtain ⟨_, h2, h3⟩ := p
        rcases List.mem_cons.1 hx with rfl | hx
        · exact h2
        · have := ih i h3 x hx; omega
    exact key r a p

theorem nx_sv {U : Nat → Int} {n : Nat} : ∀ (f a m : Nat) (t sk : List Nat), n - m ≤ f → a < m → m ≤ n → sv U (m - 1) = some (t ++ a :: sk) → (m < n → ∀ x ∈ t, U m ≠ (x : Int)) →
    ∃ t', sv U (nx U n f a m - 1) = some (t' ++ a :: sk) ∧ (nx U n f a m < n → ∀ x ∈ t' ++ [a], U (nx U n f a m) ≠ (x : Int))
  | 0, a, m, t, sk, hf, ha, hm, hs, _ => ⟨t, hs, fun h => by unfold nx at h; omega⟩
  | f + 1, a, m, t, sk, hf, ha, hm, hs, ht => by
    unfold nx
    split
    · rename_i hc
      have hs2 : sv U m = some (m :: a :: sk) := by
        have h := sv_next hs
        rw [show m - 1 + 1 = m by omega, pops_hit hc.2.symm sk t (ht hc.1)] at h
        rw [h, if_neg (by simp)]
      have g := nx_ge U n f m (m + 1)
      have g2 := nx_le U n f m (m + 1) (by omega)
      obtain ⟨t1, h1, h2⟩ := nx_sv (U := U) (n := n) f m (m + 1) [] (a :: sk) (by omega) (by omega) (by omega) (by simpa using hs2) (fun _ x hx => by simp at hx)
      exact nx_sv (U := U) (n := n) f a (nx U n f m (m + 1)) (t1 ++ [m]) sk (by omega) (by omega) g2 (by rw [h1]; simp) h2
    · rename_i hc
      refine ⟨t, hs, fun h x hx => ?_⟩
      rcases List.mem_append.1 hx with hx | hx
      · exact ht h x hx
      · simp at hx; subst hx
        exact fun e => hc ⟨h, e⟩

/-- Which rows of Ups are trees. -/
def shpV (U : Nat → Int) (n : Nat) : Bool := decide (1 ≤ n) && decide (U 0 = -1) && decide (nxt U n 0 1 = n)
theorem shpV_sv {U : Nat → Int} {n : Nat} (hn : 1 ≤ n) : shpV U n = (sv U (n - 1)).isSome := by
  unfold shpV
  simp only [hn, decide_true, Bool.true_and]
  by_cases h0 : U 0 = -1
  · have hs : sv U (1 - 1) = some ([] ++ 0 :: []) := by simp [sv, h0]
    obtain ⟨t', h1, h2⟩ := nx_sv (U := U) (n := n) n 0 1 [] [] (by omega) (by omega) hn hs (fun _ x hx => by simp at hx)
    simp only [h0, decide_true, Bool.true_and]
    unfold nxt
    have g := nx_ge U n n 0 1
    have g2 := nx_le U n n 0 1 hn
    by_cases e : nx U n n 0 1 = n
    · rw [e] at h1
      rw [h1, e]; simp
    · have hx := h2 (by omega)
      have h3 := sv_next h1
      rw [show nx U n n 0 1 - 1 + 1 = nx U n n 0 1 by omega, if_pos] at h3
      · rw [sv_none (n - 1) _ h3 (by omega)]; simp [e]
      · apply Classical.byContradiction
        intro hne
        obtain ⟨j, hj, he⟩ := (pops_mem _ _).1 hne
        exact hx j (by simpa using hj) he.symm
  · rw [sv_none (n - 1) 0 (by unfold sv; rw [if_neg h0]) (by omega)]
    simp [h0]

/-- The parts of node p among the first m nodes. -/
def kto (U : Nat → Int) (p m : Nat) : List Nat := (List.range m).filter fun i => decide (p < i) && decide (U i = (p : Int))
theorem kto_mem {U : Nat → Int} {p m j : Nat} : j ∈ kto U p m ↔ j < m ∧ p < j ∧ U j = (p : Int) := by
  unfold kto; simp
theorem kto_le (U : Nat → Int) (p m : Nat) : (kto U p m).length ≤ m := by
  unfold kto
  exact Nat.le_trans (List.length_filter_le ..) (by simp)
theorem kto_nil (U : Nat → Int) (p : Nat) : kto U p (p + 1) = [] := by
  unfold kto
  rw [List.filter_eq_nil_iff]
  intro a ha
  have := List.mem_range.1 ha
  simp; omega
theorem kto_pass {U : Nat → Int} {p m : Nat} : ∀ d, (∀ j, m ≤ j → j < m + d → U j ≠ (p : Int)) → kto U p (m + d) = kto U p m
  | 0, _ => rfl
  | d + 1, h => by
    rw [← kto_pass d (fun j h1 h2 => h j h1 (by omega))]
    unfold kto
    rw [show m + (d + 1) = (m + d) + 1 by omega, List.range_succ, List.filter_append]
    have := h (m + d) (by omega) (by omega)
    simp [this]
theorem kto_step {U : Nat → Int} {n p m : Nat} (hp : p < m) (hu : U m = (p : Int)) : kto U p (nxt U n m (m + 1)) = kto U p m ++ [m] := by
  have g := nxt_ge U n m (m + 1)
  obtain ⟨d, hd⟩ : ∃ d, nxt U n m (m + 1) = (m + 1) + d := ⟨nxt U n m (m + 1) - (m + 1), by omega⟩
  rw [hd, kto_pass d]
  · unfold kto
    rw [List.range_succ, List.filter_append]
    simp [hp, hu]
  · intro j h1 h2 e
    have := nx_in U n n m (m + 1) (by omega) j h1 (by unfold nxt at hd; omega)
    omega
/-- In a tree no part lies behind the end. -/
theorem kto_all {U : Nat → Int} {n p : Nat} (hs : shpV U n = true) (hp : p < n) : kto U p (nxt U n p (p + 1)) = kto U p n := by
  rw [shpV_sv (by omega)] at hs
  obtain ⟨s, hs⟩ := Option.isSome_iff_exists.1 hs
  obtain ⟨sp, hsp⟩ := sv_up hs (show p ≤ n - 1 by omega)
  obtain ⟨sk, rfl, hsk⟩ := sv_head hsp
  obtain ⟨t', h1, h2⟩ := nx_sv (U := U) (n := n) n p (p + 1) [] sk (by omega) (by omega) (by omega) (by simpa using hsp) (fun _ x hx => by simp at hx)
  have g := nx_ge U n n p (p + 1)
  have g2 := nx_le U n n p (p + 1) (by omega)
  unfold nxt
  obtain ⟨r, hr⟩ : ∃ r, nx U n n p (p + 1) = r := ⟨_, rfl⟩
  rw [hr] at h1 h2 g g2 ⊢
  have key : ∀ d s, r + d < n → sv U (r + d) = some s → p ∉ s ∧ U (r + d) ≠ (p : Int) := by
    intro d
    induction d with
    | zero =>
      intro s hd hs2
      rw [Nat.add_zero] at hd hs2 ⊢
      have h3 := sv_next h1
      rw [show r - 1 + 1 = r by omega, hs2, show t' ++ p :: sk = (t' ++ [p]) ++ sk by simp, pops_miss sk (t' ++ [p]) (h2 (by omega))] at h3
      split at h3
      · simp at h3
      · simp at h3
        refine ⟨?_, h2 (by omega) p (by simp)⟩
        rw [h3]
        intro hm
        rcases List.mem_cons.1 hm with hm | hm
        · omega
        · have := hsk p (pops_mem_of hm); omega
    | succ d ih =>
      intro s hd hs2
      obtain ⟨s0, h0⟩ := sv_up hs (show r + d ≤ n - 1 by omega)
      have hi := ih s0 (by omega) h0
      have h3 := sv_next h0
      rw [show r + d + 1 = r + (d + 1) by omega, hs2] at h3
      split at h3
      · simp at h3
      · rename_i hne
        simp at h3
        refine ⟨?_, fun e => ?_⟩
        · rw [h3]
          intro hm
          rcases List.mem_cons.1 hm with hm | hm
          · omega
          · exact hi.1 (pops_mem_of hm)
        · obtain ⟨j, hj, he⟩ := (pops_mem _ _).1 hne
          have : j = p := by omega
          subst this
          exact hi.1 hj
  obtain ⟨d, hd⟩ : ∃ d, n = r + d := ⟨n - r, by omega⟩
  conv => rhs; rw [hd]
  refine (kto_pass d (fun j g1 g3 => ?_)).symm
  obtain ⟨sj, hj⟩ := sv_up hs (show r + (j - r) ≤ n - 1 by omega)
  have := (key (j - r) sj (by omega) hj).2
  rwa [show r + (j - r) = j by omega] at this

end Go.Proofs.YtljnciclbjcinaaGreatDoor

namespace Go.Proofs.YtljnciclbjcinaaGreatDoor
open Go.ChangeShapes Go.WideShapes Go.ChangeAt Go.RowKit

/-- A row of nodes of four cells, the last one what is known of the node's own parts. -/
def Row4 (c0 c1 c2 : Nat → Value) (T : World → Nat → Value → Prop) (lo hi : Nat) (w : World) (ks : List Nat) (sl : Value) : Prop :=
  ∃ a cap, sl = .slice a ks.length cap ∧ ks.length ≤ cap ∧ ∀ j (h : j < ks.length), ∃ g off sl', a = some ⟨g, off, none⟩ ∧ lo ≤ g ∧ g < hi ∧
    w.cell? ⟨g, off + j * 4, none⟩ = some (c0 ks[j]) ∧ w.cell? ⟨g, off + j * 4 + 1, none⟩ = some (c1 ks[j]) ∧ w.cell? ⟨g, off + j * 4 + 2, none⟩ = some (c2 ks[j]) ∧ w.cell? ⟨g, off + j * 4 + 3, none⟩ = some sl' ∧ T w ks[j] sl'
def R4 (c0 c1 c2 : Nat → Value) (kids : Nat → List Nat) (lo hi : Nat) : Nat → World → Nat → Value → Prop
  | 0 => fun _ _ _ => False
  | f + 1 => fun w k sl => Row4 c0 c1 c2 (R4 c0 c1 c2 kids lo hi f) lo hi w (kids k) sl
theorem R4.keep {c0 c1 c2 : Nat → Value} {kids : Nat → List Nat} {lo hi : Nat} : ∀ {f : Nat} {w w' : World} {k : Nat} {sl : Value}, R4 c0 c1 c2 kids lo hi f w k sl → (∀ g, lo ≤ g → g < hi → w'.heap[g]? = w.heap[g]?) → R4 c0 c1 c2 kids lo hi f w' k sl
  | 0, _, _, _, _, h, _ => h.elim
  | f + 1, w, w', k, sl, h, hk => by
    obtain ⟨a, cap, e, hc, hh⟩ := h
    refine ⟨a, cap, e, hc, fun j hj => ?_⟩
    obtain ⟨g, off, sl', h1, h2, h3, h4, h5, h6, h7, h8⟩ := hh j hj
    have hg := hk g h2 h3
    exact ⟨g, off, sl', h1, h2, h3, (cell_heap hg _).trans h4, (cell_heap hg _).trans h5, (cell_heap hg _).trans h6, (cell_heap hg _).trans h7, R4.keep h8 hk⟩
theorem R4.wide {c0 c1 c2 : Nat → Value} {kids : Nat → List Nat} {lo hi lo' hi' : Nat} (h1 : lo' ≤ lo) (h2 : hi ≤ hi') : ∀ {f : Nat} {w : World} {k : Nat} {sl : Value}, R4 c0 c1 c2 kids lo hi f w k sl → R4 c0 c1 c2 kids lo' hi' f w k sl
  | 0, _, _, _, h => h.elim
  | f + 1, w, k, sl, h => by
    obtain ⟨a, cap, e, hc, hh⟩ := h
    refine ⟨a, cap, e, hc, fun j hj => ?_⟩
    obtain ⟨g, off, sl', g1, g2, g3, g4, g5, g6, g7, g8⟩ := hh j hj
    exact ⟨g, off, sl', g1, by omega, by omega, g4, g5, g6, g7, R4.wide h1 h2 g8⟩
theorem R4.below {c0 c1 c2 : Nat → Value} {kids : Nat → List Nat} {lo hi f B : Nat} {w w' : World} {k : Nat} {sl : Value} (h : R4 c0 c1 c2 kids lo hi f w k sl) (hb : Below B w w') (hh : hi ≤ B) : R4 c0 c1 c2 kids lo hi f w' k sl :=
  h.keep fun g _ h2 => hb.block g (by omega)
theorem R4.form {c0 c1 c2 : Nat → Value} {kids : Nat → List Nat} {lo hi f : Nat} {w : World} {k : Nat} {sl : Value} (h : R4 c0 c1 c2 kids lo hi f w k sl) : ∃ a n c, sl = .slice a n c := by
  cases f with
  | zero => exact h.elim
  | succ f => obtain ⟨a, cap, e, _⟩ := h; exact ⟨_, _, _, e⟩
theorem R4.same {c0 c1 c2 : Nat → Value} {kids kids' : Nat → List Nat} {n : Nat} (hk : ∀ k, k < n → kids k = kids' k) (hm : ∀ k, ∀ j ∈ kids' k, j < n) {lo hi : Nat} : ∀ {f : Nat} {w : World} {k : Nat} {sl : Value}, k < n → R4 c0 c1 c2 kids lo hi f w k sl → R4 c0 c1 c2 kids' lo hi f w k sl
  | 0, _, _, _, _, h => h.elim
  | f + 1, w, k, sl, hkn, h => by
    obtain ⟨a, cap, e, hc, hh⟩ := h
    rw [hk k hkn] at e hc hh
    refine ⟨a, cap, e, hc, fun j hj => ?_⟩
    obtain ⟨g, off, sl', g1, g2, g3, g4, g5, g6, g7, g8⟩ := hh j hj
    exact ⟨g, off, sl', g1, g2, g3, g4, g5, g6, g7, R4.same hk hm (hm k _ (List.getElem_mem hj)) g8⟩

/-- The same of three cells. -/
def Row3 (c0 c1 : Nat → Value) (T : World → Nat → Value → Prop) (lo hi : Nat) (w : World) (ks : List Nat) (sl : Value) : Prop :=
  ∃ a cap, sl = .slice a ks.length cap ∧ ks.length ≤ cap ∧ ∀ j (h : j < ks.length), ∃ g off sl', a = some ⟨g, off, none⟩ ∧ lo ≤ g ∧ g < hi ∧
    w.cell? ⟨g, off + j * 3, none⟩ = some (c0 ks[j]) ∧ w.cell? ⟨g, off + j * 3 + 1, none⟩ = some (c1 ks[j]) ∧ w.cell? ⟨g, off + j * 3 + 2, none⟩ = some sl' ∧ T w ks[j] sl'
def R3 (c0 c1 : Nat → Value) (kids : Nat → List Nat) (lo hi : Nat) : Nat → World → Nat → Value → Prop
  | 0 => fun _ _ _ => False
  | f + 1 => fun w k sl => Row3 c0 c1 (R3 c0 c1 kids lo hi f) lo hi w (kids k) sl
theorem R3.keep {c0 c1 : Nat → Value} {kids : Nat → List Nat} {lo hi : Nat} : ∀ {f : Nat} {w w' : World} {k : Nat} {sl : Value}, R3 c0 c1 kids lo hi f w k sl → (∀ g, lo ≤ g → g < hi → w'.heap[g]? = w.heap[g]?) → R3 c0 c1 kids lo hi f w' k sl
  | 0, _, _, _, _, h, _ => h.elim
  | f + 1, w, w', k, sl, h, hk => by
    obtain ⟨a, cap, e, hc, hh⟩ := h
    refine ⟨a, cap, e, hc, fun j hj => ?_⟩
    obtain ⟨g, off, sl', h1, h2, h3, h4, h5, h6, h7⟩ := hh j hj
    have hg := hk g h2 h3
    exact ⟨g, off, sl', h1, h2, h3, (cell_heap hg _).trans h4, (cell_heap hg _).trans h5, (cell_heap hg _).trans h6, R3.keep h7 hk⟩
theorem R3.wide {c0 c1 : Nat → Value} {kids : Nat → List Nat} {lo hi lo' hi' : Nat} (h1 : lo' ≤ lo) (h2 : hi ≤ hi') : ∀ {f : Nat} {w : World} {k : Nat} {sl : Value}, R3 c0 c1 kids lo hi f w k sl → R3 c0 c1 kids lo' hi' f w k sl
  | 0, _, _, _, h => h.elim
  | f + 1, w, k, sl, h => by
    obtain ⟨a, cap, e, hc, hh⟩ := h
    refine ⟨a, cap, e, hc, fun j hj => ?_⟩
    obtain ⟨g, off, sl', g1, g2, g3, g4, g5, g6, g7⟩ := hh j hj
    exact ⟨g, off, sl', g1, by omega, by omega, g4, g5, g6, R3.wide h1 h2 g7⟩
theorem R3.below {c0 c1 : Nat → Value} {kids : Nat → List Nat} {lo hi f B : Nat} {w w' : World} {k : Nat} {sl : Value} (h : R3 c0 c1 kids lo hi f w k sl) (hb : Below B w w') (hh : hi ≤ B) : R3 c0 c1 kids lo hi f w' k sl :=
  h.keep fun g _ h2 => hb.block g (by omega)
theorem R3.form {c0 c1 : Nat → Value} {kids : Nat → List Nat} {lo hi f : Nat} {w : World} {k : Nat} {sl : Value} (h : R3 c0 c1 kids lo hi f w k sl) : ∃ a n c, sl = .slice a n c := by
  cases f with
  | zero => exact h.elim
  | succ f => obtain ⟨a, cap, e, _⟩ := h; exact ⟨_, _, _, e⟩

def vnAt (V : List Vn) (k : Nat) : Int := (V.getD k (0, ⟨#[]⟩, -1)).1
def vtAt (V : List Vn) (k : Nat) : ByteArray := (V.getD k (0, ⟨#[]⟩, -1)).2.1
def vuAt (V : List Vn) (k : Nat) : Int := (V.getD k (0, ⟨#[]⟩, -1)).2.2
theorem vnAt_get (V : List Vn) (k : Nat) (h : k < V.length) : vnAt V k = V[k].1 := by unfold vnAt; rw [List.getD_eq_getElem?_getD, List.getElem?_eq_getElem h]; rfl
theorem vtAt_get (V : List Vn) (k : Nat) (h : k < V.length) : vtAt V k = V[k].2.1 := by unfold vtAt; rw [List.getD_eq_getElem?_getD, List.getElem?_eq_getElem h]; rfl
theorem vuAt_get (V : List Vn) (k : Nat) (h : k < V.length) : vuAt V k = V[k].2.2 := by unfold vuAt; rw [List.getD_eq_getElem?_getD, List.getElem?_eq_getElem h]; rfl
theorem upAtN_get (V : List Nd) (k : Nat) (h : k < V.length) : upAt V k = V[k].2.2 := by unfold upAt; rw [List.getD_eq_getElem?_getD, List.getElem?_eq_getElem h]; rfl

theorem four_new (w : World) (x y z u : Value) (t : TypeId) (B : Nat) (hB : w.heap.size = B) : ∀ j v, [x, y, z, u][j]? = some v → (w.alloc (.cells #[x, y, z, u] t)).cell? ((⟨B, 0, none⟩ : Addr).add j) = some v := by
  subst hB
  intro j v hj
  match j, hj with
  | 0, hj => simp at hj; subst hj; simp [Addr.add]
  | 1, hj => simp at hj; subst hj; simp [Addr.add]
  | 2, hj => simp at hj; subst hj; simp [Addr.add]
  | 3, hj => simp at hj; subst hj; simp [Addr.add]
theorem row4_left {xs ys : List Value} {m i : Nat} (hl : xs.length = m * 4) (hi : i < m) (r : Nat) (hr : r < 4) : (xs ++ ys)[i * 4 + r]? = xs[i * 4 + r]? := List.getElem?_append_left (by omega)
theorem row4_right {xs : List Value} {m : Nat} {x y z u : Value} (hl : xs.length = m * 4) : (xs ++ [x, y, z, u])[m * 4]? = some x ∧ (xs ++ [x, y, z, u])[m * 4 + 1]? = some y ∧ (xs ++ [x, y, z, u])[m * 4 + 2]? = some z ∧ (xs ++ [x, y, z, u])[m * 4 + 3]? = some u := by
  refine ⟨?_, ?_, ?_, ?_⟩
  · rw [List.getElem?_append_right (by omega), show m * 4 - xs.length = 0 by omega]; rfl
  · rw [List.getElem?_append_right (by omega), show m * 4 + 1 - xs.length = 1 by omega]; rfl
  · rw [List.getElem?_append_right (by omega), show m * 4 + 2 - xs.length = 2 by omega]; rfl
  · rw [List.getElem?_append_right (by omega), show m * 4 + 3 - xs.length = 3 by omega]; rfl
/-- Four cells of a block are written. -/
theorem set4 {W : World} {z : Nat} {t : TypeId} {a0 a1 a2 a3 : Value} (h : W.heap[z]? = some (.cells #[a0, a1, a2, a3] t (0, 0))) (b0 b1 b2 b3 : Value) {G : World} (hG : (((W.setCell ⟨z, 0, none⟩ b0).setCell ⟨z, 1, none⟩ b1).setCell ⟨z, 2, none⟩ b2).setCell ⟨z, 3, none⟩ b3 = G) :
    G.heap[z]? = some (.cells #[b0, b1, b2, b3] t (0, 0)) ∧ (∀ g, g ≠ z → G.heap[g]? = W.heap[g]?) ∧ G.heap.size = W.heap.size ∧ ∀ (B : Nat) (w : World), B ≤ z → Below B w W → Below B w G := by
  subst hG
  refine ⟨?_, fun g hg => ?_, by simp, fun B w hB hb => (((hb.setCell hB _).setCell hB _).setCell hB _).setCell hB _⟩
  · rw [heap_setCell_same _ _ _ _ _ _ (heap_setCell_same _ _ _ _ _ _ (heap_setCell_same _ _ _ _ _ _ (heap_setCell_same _ _ _ _ _ _ h)))]
    rfl
  · exact (heap_setCell_other _ _ _ _ (by simpa using hg)).trans ((heap_setCell_other _ _ _ _ (by simpa using hg)).trans ((heap_setCell_other _ _ _ _ (by simpa using hg)).trans (heap_setCell_other _ _ _ _ (by simpa using hg))))
theorem own_cap {w : World} {base : Nat} {e : TypeId} {size n c : Nat} {a : Option Addr} {xs : List Value} (h : w.ownsRow base e size (.slice a n c) n xs) : n ≤ c := by
  rcases h.2 with ⟨h1, h2⟩ | ⟨g, cap, cur, h1, _, _, h3, _⟩
  · simp at h1; omega
  · simp at h1; omega

end Go.Proofs.YtljnciclbjcinaaGreatDoor

namespace Go.Proofs.YtljnciclbjcinaaGreatDoor
open Go.ChangeShapes Go.WideShapes Go.ChangeAt Go.RowKit

/-- The parts of node k, as the program makes its tree. -/
def kn (U : Nat → Int) (n k : Nat) : List Nat := kto U k (nxt U n k (k + 1))
def RepN (L : List Nd) (lo hi f : Nat) (w : World) (k : Nat) (sl : Value) : Prop := R4 (fun k => .int .i64 (kdAt L k)) (fun k => .int .i64 (nAt L k)) (fun k => .int .i64 (upAt L k)) (kn (upAt L) L.length) lo hi f w k sl

theorem Tryz.infoTN : (Tryz.prog.info? 61).map (fun i => (i.zero, i.size, i.bytes)) = some (some (.agg #[.int .i64 0, .int .i64 0, .int .i64 0, .slice none 0 0]), 4, 48) := by kernel_rfl

theorem upOfN (x : Int) (y : Int) (u : Int) (w : World) : Calls Tryz.prog 189 #[.agg #[.int .i64 x, .int .i64 y, .int .i64 u]] w fun e w' => e = .returned (.int .i64 u) ∧ Below w.heap.size w w' := by
  go_enter Tryz.func189, Tryz.ntmps189
  go_wp2
  go_ret
  exact ⟨rfl, by (repeat (first | refine Below.alloc ?_ (by first | (simp; done) | (simp; omega)) _ | refine Below.setCell ?_ (by first | (simp; done) | (simp; omega)) _ | refine bel_dN ?_ _ | refine Below.drew ?_ | exact Below.refl _ _))⟩

def TreeIN (L : List Nd) (b off cap f k : Nat) : Prop := ∀ w : World, b < w.heap.size → Hid (ndAt w b off L) →
    Calls Tryz.prog 77 #[.slice (some ⟨b, off, none⟩) L.length cap, .int .i64 (k : Int)] w fun e w' => ∃ sl, e = .returned (.tuple #[.agg #[.int .i64 (kdAt L k), .int .i64 (nAt L k), .int .i64 (upAt L k), sl], .int .i64 (nxt (upAt L) L.length k (k + 1) : Int)]) ∧ RepN L w.heap.size w'.heap.size f w' k sl ∧ Below w.heap.size w w'

set_option maxRecDepth 100000 in
set_option maxHeartbeats 3200000 in
theorem implTreeN (L : List Nd) (h100 : L.length ≤ 100) (b off cap : Nat) : ∀ (f k : Nat), k < L.length → L.length - k ≤ f → TreeIN L b off cap f k := by
  intro f
  induction f with
  | zero => intro k hk hf; omega
  | succ f ih =>
    intro k hk hf w hb hL
    obtain ⟨i0, hi, hz0, hz1, hz2⟩ := info_parts Tryz.infoTN
    have IH : Hid (∀ k, k < L.length → L.length - k ≤ f → TreeIN L b off cap f k) := ih
    clear ih
    obtain ⟨c0, c1, c2⟩ := hL.out k hk
    rw [← kdAt_get L k hk] at c0
    rw [← nAt_get L k hk] at c1
    rw [← upAtN_get L k hk] at c2
    obtain ⟨n, hn⟩ : ∃ n, L.length = n := ⟨_, rfl⟩
    obtain ⟨U, hU⟩ : ∃ U, upAt L = U := ⟨_, rfl⟩
    have HUP : Hid (∀ j (h : j < L.length), U j = L[j].2.2) := fun j h => by rw [← hU]; exact upAtN_get L j h
    have HN : Hid (L.length = n) := hn
    have HU : Hid (upAt L = U) := hU
    rw [hn] at hk hf h100 ⊢
    rw [hU]
    obtain ⟨x, hx⟩ : ∃ x, kdAt L k = x := ⟨_, rfl⟩
    obtain ⟨y, hy⟩ : ∃ y, nAt L k = y := ⟨_, rfl⟩
    obtain ⟨u, hu⟩ : ∃ u, upAt L k = u := ⟨_, rfl⟩
    rw [hx] at c0 ⊢
    rw [hy] at c1 ⊢
    rw [hu] at c2
    rw [hU] at hu
    rw [hu]
    clear hx hy hu hU hn
    obtain ⟨E, hE⟩ : ∃ E, nxt U n k (k + 1) = E := ⟨_, rfl⟩
    have HE : Hid (nxt U n k (k + 1) = E) := hE
    rw [hE]
    clear hE
    have hwk : wrap64 ((k : Int) + 1) = (k : Int) + 1 := w64v (by omega) (by omega)
    obtain ⟨z, hz⟩ : ∃ z, w.heap.size + 1 = z := ⟨_, rfl⟩
    have hAL := fun o1 o2 => ((Below.refl w.heap.size w).alloc (Nat.le_refl _) o1).alloc (by simp) o2
    have HAL : Hid (∀ o1 o2, Below w.heap.size w ((w.alloc o1).alloc o2)) := hAL
    clear hAL
    go_enter Tryz.func77, Tryz.ntmps77
    go_wp2
    obtain ⟨W1, hW1⟩ : ∃ W1, W1 = (w.alloc (.cells #[.int .i64 0, .int .i64 0, .int .i64 0, .slice none 0 0] 61)).alloc (.cells #[.int .i64 x, .int .i64 y, .int .i64 u, .slice none 0 0] 61) := ⟨_, rfl⟩
    rw [← hW1]
    have q0 : W1.heap[w.heap.size]? = some (.cells #[.int .i64 0, .int .i64 0, .int .i64 0, .slice none 0 0] 61 (0, 0)) := by rw [hW1]; exact (Below.heap_alloc _ _ _ (by simp)).trans (heap_alloc_new _ _)
    have q1 : W1.heap[z]? = some (.cells #[.int .i64 x, .int .i64 y, .int .i64 u, .slice none 0 0] 61 (0, 0)) := by
      rw [hW1, ← hz]
      have e : w.heap.size + 1 = (w.alloc (.cells #[.int .i64 0, .int .i64 0, .int .i64 0, .slice none 0 0] 61)).heap.size := by simp
      rw [e]
      exact heap_alloc_new _ _
    have q3 : Below w.heap.size w W1 := by rw [hW1]; exact HAL.out _ _
    clear hW1 c0 c1 c2 HAL
    try rw [hz]
    go_loopw [7] (fun i wr => ∃ (m : Nat) (cur : Value) (xs : List Value), k < m ∧ m ≤ n ∧ i = .int .i64 (m : Int) ∧ Hid (nxt U n k m = E) ∧ wr.heap[w.heap.size]? = some (.cells #[.int .i64 0, .int .i64 0, .int .i64 0, .slice none 0 0] 61 (0, 0)) ∧ wr.heap[z]? = some (.cells #[.int .i64 x, .int .i64 y, .int .i64 u, cur] 61 (0, 0)) ∧
      wr.ownsRow (w.heap.size + 2) 61 4 cur (kto U k m).length xs ∧
      Hid (∀ i (h : i < (kto U k m).length), ∃ lo hi sl', w.heap.size + 2 ≤ lo ∧ hi ≤ wr.heap.size ∧ xs[i * 4]? = some (.int .i64 (kdAt L (kto U k m)[i])) ∧ xs[i * 4 + 1]? = some (.int .i64 (nAt L (kto U k m)[i])) ∧ xs[i * 4 + 2]? = some (.int .i64 (upAt L (kto U k m)[i])) ∧ xs[i * 4 + 3]? = some sl' ∧ RepN L lo hi f wr (kto U k m)[i] sl' ∧ (∀ g, cur.ownBlock = some g → ¬ (lo ≤ g ∧ g < hi))) ∧ Below w.heap.size w wr) (fun i _ => n - (intOf i).toNat)
    case atStart =>
      refine ⟨k + 1, .slice none 0 0, [], by omega, by omega, by go_num, HE, q0, q1, ?_, ?_, q3⟩
      · rw [kto_nil]; exact World.ownsRow_nil _ _ _ _
      · intro i h; rw [kto_nil] at h; simp at h
    case round =>
      clear q0 q1 q3 hwk
      obtain ⟨m, cur, xs, hkm, hm, rfl, HM, r0, r1, hrow, hT, hnx⟩ := hrel
      have hsz := hnx.size
      have hzl := lt_of_block r1
      by_cases hgo : m < n ∧ U m = (k : Int)
      · obtain ⟨hlt, hum⟩ := hgo
        have hmL : m < L.length := by rw [HN.out]; exact hlt
        obtain ⟨d0, d1, d2⟩ := hL.out m hmL
        rw [← kdAt_get L m hmL] at d0
        rw [← nAt_get L m hmL] at d1
        rw [← HUP.out m hmL, hum] at d2
        obtain ⟨mx, hmx⟩ : ∃ x, kdAt L m = x := ⟨_, rfl⟩
        obtain ⟨my, hmy⟩ : ∃ y, nAt L m = y := ⟨_, rfl⟩
        rw [hmx] at d0
        rw [hmy] at d1
        have e0 : wr.cell? ⟨b, off + m * 3, none⟩ = some (.int .i64 mx) := (hnx.cell (by exact hb)).trans d0
        have e1 : wr.cell? ⟨b, off + m * 3 + 1, none⟩ = some (.int .i64 my) := (hnx.cell (by exact hb)).trans d1
        have e2 : wr.cell? ⟨b, off + m * 3 + 2, none⟩ = some (.int .i64 (k : Int)) := (hnx.cell (by exact hb)).trans d2
        clear d0 d1 d2
        have hltI : (m : Int) < (n : Int) := by omega
        have hmeth : ∀ w : World, (method 359 54 (.agg #[.int .i64 mx, .int .i64 my, .int .i64 (k : Int)]) "loop.example/g00209/impl.upNode").run Tryz.prog w = .ok (189, .agg #[.int .i64 mx, .int .i64 my, .int .i64 (k : Int)]) w := fun _ => by kernel_rfl
        have HUp := upOfN mx my (k : Int)
        obtain ⟨ca, cc, rfl⟩ := ownsRow_shape hrow
        go_wp2_with fail
        refine (HUp _).mono ?_
        rintro e w1 ⟨rfl, hb1⟩
        clear HUp hmeth e0 e1 e2
        have hb1s := hb1.size
        have hbw := below2 hnx hb1
        have hbwa := fun o => hbw.alloc hbw.size o
        have IHm := fun o => IH.out m (by rw [HN.out]; exact hlt) (by rw [HN.out]; omega) (w1.alloc o) (Nat.lt_of_lt_of_le hb (hbwa o).size) (hL.out.below (hbwa o) hb)
        have IHm' : Hid (∀ o, Calls Tryz.prog 77 #[.slice (some ⟨b, off, none⟩) n cap, .int .i64 (m : Int)] (w1.alloc o) fun e w' => ∃ sl, e = .returned (.tuple #[.agg #[.int .i64 mx, .int .i64 my, .int .i64 (k : Int), sl], .int .i64 (nxt U n m (m + 1) : Int)]) ∧ RepN L (w1.alloc o).heap.size w'.heap.size f w' m sl ∧ Below (w1.alloc o).heap.size (w1.alloc o) w') := fun o => by
          have := IHm o
          rw [HN.out, HU.out, hmx, hmy] at this
          rw [hum] at this
          exact this
        clear IHm
        have hx0 : (w1.alloc (.cells #[.int .i64 0, .int .i64 0, .int .i64 0, .slice none 0 0] 61)).heap[w1.heap.size]? = some (.cells #[.int .i64 0, .int .i64 0, .int .i64 0, .slice none 0 0] 61 (0, 0)) := heap_alloc_new _ _
        have HX : Hid (Below w.heap.size w (w1.alloc (.cells #[.int .i64 0, .int .i64 0, .int .i64 0, .slice none 0 0] 61)) ∧ Below wr.heap.size wr (w1.alloc (.cells #[.int .i64 0, .int .i64 0, .int .i64 0, .slice none 0 0] 61)) ∧ (w1.alloc (.cells #[.int .i64 0, .int .i64 0, .int .i64 0, .slice none 0 0] 61)).heap.size = w1.heap.size + 1) := ⟨hbwa _, hb1.alloc hb1s _, by simp⟩
        clear hbwa hbw
        go_wp2_with fail
        refine (IHm'.out _).mono ?_
        rintro e V1 ⟨sl, rfl, htr, hbV⟩
        obtain ⟨sa, sn, sc, rfl⟩ := R4.form htr
        obtain ⟨hX1, hX2, hX3⟩ := HX.out
        rw [hX3] at htr hbV
        have hVs := hbV.size
        rw [hX3] at hVs
        obtain ⟨q, hq⟩ : ∃ q, w1.heap.size = q := ⟨_, rfl⟩
        rw [hq] at hx0 htr hbV hVs hX3 hb1s
        have hV0 : V1.heap[q]? = some (.cells #[.int .i64 0, .int .i64 0, .int .i64 0, .slice none 0 0] 61 (0, 0)) := (hbV.block q (by omega)).trans hx0
        have hbwV : Below w.heap.size w V1 := hX1.trans (hbV.mono (by omega))
        have hbrV : Below wr.heap.size wr V1 := hX2.trans (hbV.mono (by omega))
        have s0 : V1.heap[w.heap.size]? = some (.cells #[.int .i64 0, .int .i64 0, .int .i64 0, .slice none 0 0] 61 (0, 0)) := (hbrV.block _ (by omega)).trans r0
        have s1 : V1.heap[z]? = some (.cells #[.int .i64 x, .int .i64 y, .int .i64 u, .slice ca (kto U k m).length cc] 61 (0, 0)) := (hbrV.block _ hzl).trans r1
        clear HX IHm' hX1 hX2 hX3 hx0 hbV
        obtain ⟨V2, hV2⟩ : ∃ V2, (((V1.setCell ⟨q, 0, none⟩ (.int .i64 mx)).setCell ⟨q, 1, none⟩ (.int .i64 my)).setCell ⟨q, 2, none⟩ (.int .i64 (k : Int))).setCell ⟨q, 3, none⟩ (.slice sa sn sc) = V2 := ⟨_, rfl⟩
        have hV2q : V2.heap[q]? = some (.cells #[.int .i64 mx, .int .i64 my, .int .i64 (k : Int), .slice sa sn sc] 61 (0, 0)) := by
          rw [← hV2, heap_setCell_same _ _ _ _ _ _ (heap_setCell_same _ _ _ _ _ _ (heap_setCell_same _ _ _ _ _ _ (heap_setCell_same _ _ _ _ _ _ hV0)))]
          rfl
        have hV2o : ∀ g, g ≠ q → V2.heap[g]? = V1.heap[g]? := fun g hg => by
          rw [← hV2]
          exact (heap_setCell_other _ _ _ _ (by simpa using hg)).trans ((heap_setCell_other _ _ _ _ (by simpa using hg)).trans ((heap_setCell_other _ _ _ _ (by simpa using hg)).trans (heap_setCell_other _ _ _ _ (by simpa using hg))))
        have HV2s : Hid (V2.heap.size = V1.heap.size) := by unfold Hid; rw [← hV2]; simp
        have hV2ge : w.heap.size + 2 ≤ V2.heap.size := by have := HV2s.out; omega
        have hbV2 : Below w.heap.size w V2 := by rw [← hV2]; exact (((hbwV.setCell (by simp; omega) _).setCell (by simp; omega) _).setCell (by simp; omega) _).setCell (by simp; omega) _
        have v0 := (cell_of_block hV0 0).trans rfl
        have v1 := (cell_of_block hV0 1).trans rfl
        have v2 := (cell_of_block hV0 2).trans rfl
        have v3 := (cell_of_block hV0 3).trans rfl
        have n0 := free_of_block hV0 0
        have n1 := free_of_block hV0 1
        have n2 := free_of_block hV0 2
        have n3 := free_of_block hV0 3
        try rw [hq]
        go_upto_region 6 with fail
        try rw [hV2]
        clear hV2 v0 v1 v2 v3 n0 n1 n2 n3
        have y0 := (cell_of_block hV2q 0).trans rfl
        have y1 := (cell_of_block hV2q 1).trans rfl
        have y2 := (cell_of_block hV2q 2).trans rfl
        have y3 := (cell_of_block hV2q 3).trans rfl
        have hz2' : V2.heap[z]? = some (.cells #[.int .i64 x, .int .i64 y, .int .i64 u, .slice ca (kto U k m).length cc] 61 (0, 0)) := (hV2o z (by omega)).trans s1
        have y4 := (cell_of_block hz2' 3).trans rfl
        have hcl : ∀ c, (Value.slice ca (kto U k m).length cc).ownBlock = some c → c < wr.heap.size ∧ w.heap.size + 2 ≤ c := fun c hc => by
          obtain ⟨cu, hcu, h2⟩ := own_at hrow hc
          exact ⟨lt_of_block hcu, h2⟩
        have hrow2 : V2.ownsRow (w.heap.size + 2) 61 4 (.slice ca (kto U k m).length cc) (kto U k m).length xs := own_keep hrow fun g hg => by
          have := hcl g hg
          exact (hV2o g (by omega)).trans (hbrV.block g (by omega))
        have hkl := kto_le U k m
        go_wp2_with (at_builtin; refine wpList_append_own_at _ rfl _ _ 59 rfl (w.heap.size + 2) 61 i0 (.agg #[.int .i64 0, .int .i64 0, .int .i64 0, .slice none 0 0]) 4 48 Tryz.underlying59 hi hz0 hz1 hz2 rfl (by decide) _ _ _ rfl (hrow2.alloc _) ⟨V2.heap.size, 0, none⟩ 1 1 [.int .i64 mx, .int .i64 my, .int .i64 (k : Int), .slice sa sn sc] rfl rfl (four_new _ _ _ _ _ _ _ rfl) (by intro u hu; simp at hu; rcases hu with rfl | rfl | rfl | rfl; rfl; rfl; rfl; rfl) (by unfold maxLen; omega) (by omega) (by simp; omega) ?_)
        intro v' w5 hown5 hgrow5 _ hloc
        have hV2s := HV2s.out
        obtain ⟨va, vc, rfl⟩ := ownsRow_shape hown5
        have hKS : Hid (kto U k (nxt U n m (m + 1)) = kto U k m ++ [m]) := kto_step hkm hum
        have hKL : (kto U k (nxt U n m (m + 1))).length = (kto U k m).length + 1 := by rw [hKS.out]; simp
        have hNM : Hid (nxt U n k (nxt U n m (m + 1)) = E) := by unfold Hid; rw [← HM.out, ← nxt_yes hlt hum]
        have hge := nxt_ge U n m (m + 1)
        have hle : nxt U n m (m + 1) ≤ n := nxt_le (by omega)
        have KEEP : ∀ g, g < V2.heap.size → (∀ c, (Value.slice ca (kto U k m).length cc).ownBlock = some c → g ≠ c) → w5.heap[g]? = V2.heap[g]? := fun g hg hne => by
          rw [hgrow5.block g (by simp; omega) (fun e => hne g e.symm rfl)]
          exact Below.heap_alloc _ _ _ hg
        have s5 : w5.heap[z]? = some (.cells #[.int .i64 x, .int .i64 y, .int .i64 u, .slice ca (kto U k m).length cc] 61 (0, 0)) := (KEEP z (by omega) (fun c hc => by have := (hcl c hc).2; omega)).trans hz2'
        have g3 := (cell_of_block s5 3).trans rfl
        have f3 := free_of_block s5 3
        have hW9 : ∀ g, g < V1.heap.size → g ≠ q → g ≠ z → (∀ c, (Value.slice ca (kto U k m).length cc).ownBlock = some c → g ≠ c) → (w5.setCell ⟨z, 3, none⟩ (.slice va ((kto U k m).length + 1) vc)).heap[g]? = V1.heap[g]? := fun g h1 h1' h2 h3 => (heap_setCell_other _ _ _ _ (by simpa using h2)).trans ((KEEP g (by omega) h3).trans (hV2o g h1'))
        have t0 : (w5.setCell ⟨z, 3, none⟩ (.slice va ((kto U k m).length + 1) vc)).heap[w.heap.size]? = some (.cells #[.int .i64 0, .int .i64 0, .int .i64 0, .slice none 0 0] 61 (0, 0)) := (hW9 _ (by omega) (by omega) (by omega) (fun c hc => by have := (hcl c hc).2; omega)).trans s0
        have t1 : (w5.setCell ⟨z, 3, none⟩ (.slice va ((kto U k m).length + 1) vc)).heap[z]? = some (.cells #[.int .i64 x, .int .i64 y, .int .i64 u, .slice va ((kto U k m).length + 1) vc] 61 (0, 0)) := by rw [heap_setCell_same _ _ _ _ _ _ s5]; rfl
        have t2 : (w5.setCell ⟨z, 3, none⟩ (.slice va ((kto U k m).length + 1) vc)).ownsRow (w.heap.size + 2) 61 4 (.slice va ((kto U k m).length + 1) vc) ((kto U k m).length + 1) (xs ++ [.int .i64 mx, .int .i64 my, .int .i64 (k : Int), .slice sa sn sc]) := own_keep hown5 fun g hg => heap_setCell_other _ _ _ _ (by have := ownsRow_block hown5 g hg; simp; omega)
        have t4 : Below w.heap.size w (w5.setCell ⟨z, 3, none⟩ (.slice va ((kto U k m).length + 1) vc)) := ((hbV2.alloc (by omega) _).grown hgrow5 (by simp; omega) (fun c hc => by have := (hcl c hc).2; omega)).setCell (by simp; omega) _
        have t5 : V1.heap.size < (w5.setCell ⟨z, 3, none⟩ (.slice va ((kto U k m).length + 1) vc)).heap.size := by
          have := hgrow5.size
          simp at this ⊢
          omega
        have hlc : ∀ g, (Value.slice va ((kto U k m).length + 1) vc).ownBlock = some g → (Value.slice ca (kto U k m).length cc).ownBlock = some g ∨ g = V2.heap.size + 1 := fun g hg => by
          rcases hloc with e | e
          · left; rw [← e]; exact hg
          · right; rw [hg] at e; simpa using e
        have t6 : Hid (∀ i (h : i < (kto U k (nxt U n m (m + 1))).length), ∃ lo hi sl', w.heap.size + 2 ≤ lo ∧ hi ≤ (w5.setCell ⟨z, 3, none⟩ (.slice va ((kto U k m).length + 1) vc)).heap.size ∧ (xs ++ [.int .i64 mx, .int .i64 my, .int .i64 (k : Int), .slice sa sn sc])[i * 4]? = some (.int .i64 (kdAt L (kto U k (nxt U n m (m + 1)))[i])) ∧ (xs ++ [.int .i64 mx, .int .i64 my, .int .i64 (k : Int), .slice sa sn sc])[i * 4 + 1]? = some (.int .i64 (nAt L (kto U k (nxt U n m (m + 1)))[i])) ∧ (xs ++ [.int .i64 mx, .int .i64 my, .int .i64 (k : Int), .slice sa sn sc])[i * 4 + 2]? = some (.int .i64 (upAt L (kto U k (nxt U n m (m + 1)))[i])) ∧ (xs ++ [.int .i64 mx, .int .i64 my, .int .i64 (k : Int), .slice sa sn sc])[i * 4 + 3]? = some sl' ∧ RepN L lo hi f (w5.setCell ⟨z, 3, none⟩ (.slice va ((kto U k m).length + 1) vc)) (kto U k (nxt U n m (m + 1)))[i] sl' ∧ (∀ g, (Value.slice va ((kto U k m).length + 1) vc).ownBlock = some g → ¬ (lo ≤ g ∧ g < hi))) := fun i hi => by
          rcases Nat.lt_or_ge i (kto U k m).length with h | h
          · have hget : (kto U k (nxt U n m (m + 1)))[i] = (kto U k m)[i] := by
              have e9 := hKS.out
              rw [List.getElem_of_eq e9, List.getElem_append_left h]
            obtain ⟨lo, hh, sl', l1, l2, x1, x2, x3, x4, tr, hne⟩ := hT.out i h
            rw [hget]
            refine ⟨lo, hh, sl', l1, by omega, (row4_left hrow.1 h 0 (by omega)).trans x1, (row4_left hrow.1 h 1 (by omega)).trans x2, (row4_left hrow.1 h 2 (by omega)).trans x3, (row4_left hrow.1 h 3 (by omega)).trans x4, ?_, ?_⟩
            · refine R4.keep tr fun g g1 g2 => ?_
              exact (hW9 g (by omega) (by omega) (by omega) (fun c hc e => hne c hc (by subst e; exact ⟨g1, g2⟩))).trans (hbrV.block g (by omega))
            · intro g hg
              rcases hlc g hg with e | e
              · exact hne g e
              · omega
          · have him' : i = (kto U k m).length := by omega
            subst him'
            have hget : (kto U k (nxt U n m (m + 1)))[(kto U k m).length] = m := by
              have e9 := hKS.out
              rw [List.getElem_of_eq e9]; simp
            obtain ⟨x1, x2, x3, x4⟩ := row4_right (x := .int .i64 mx) (y := .int .i64 my) (z := .int .i64 (k : Int)) (u := .slice sa sn sc) hrow.1
            rw [hget, hmx, hmy, show upAt L m = (k : Int) from (congrFun HU.out m).trans hum]
            refine ⟨q + 1, V1.heap.size, .slice sa sn sc, by omega, by omega, x1, x2, x3, x4, ?_, ?_⟩
            · refine R4.keep htr fun g g1 g2 => ?_
              exact hW9 g g2 (by omega) (by omega) (fun c hc e => by have := (hcl c hc).1; omega)
            · intro g hg
              rcases hlc g hg with e | e
              · have := (hcl g e).1
                omega
              · omega
        rw [← hKL] at t2
        have hmeas : n - nxt U n m (m + 1) < n - m := by omega
        obtain ⟨m2, hm2⟩ : ∃ m2, nxt U n m (m + 1) = m2 := ⟨_, rfl⟩
        rw [hm2] at t2 t6 hNM hge hle hmeas hKL ⊢
        rw [← hKL] at t1
        clear hW9 KEEP hrow2 hcl hT hrow r0 r1 htr s0 s1 s5 hV0 hV2q hz2' y0 y1 y2 y3 y4 hown5 hgrow5 hloc hlc hbV2 hbwV hbrV hm2 hKS HM hmx hmy
        go_wp2
        go_roundw
        case rel => exact ⟨m2, _, _, by omega, hle, by go_num, hNM, t0, by rw [← hKL] ; exact t1, by rw [← hKL]; exact t2, t6, t4⟩
        case measure => simp [intOf]; omega
      · have hEm : m = E := by have := HM.out; rw [nxt_no hgo] at this; exact this
        obtain ⟨ca, cc, rfl⟩ := ownsRow_shape hrow
        have HEND : Hid (∀ W : World, Below wr.heap.size wr W → ((((W.setCell ⟨w.heap.size, 0, none⟩ (.int .i64 x)).setCell ⟨w.heap.size, 1, none⟩ (.int .i64 y)).setCell ⟨w.heap.size, 2, none⟩ (.int .i64 u)).setCell ⟨w.heap.size, 3, none⟩ (.slice ca (kto U k m).length cc)).heap[w.heap.size]? = some (.cells #[.int .i64 x, .int .i64 y, .int .i64 u, .slice ca (kto U k m).length cc] 61 (0, 0)) ∧
            RepN L w.heap.size ((((W.setCell ⟨w.heap.size, 0, none⟩ (.int .i64 x)).setCell ⟨w.heap.size, 1, none⟩ (.int .i64 y)).setCell ⟨w.heap.size, 2, none⟩ (.int .i64 u)).setCell ⟨w.heap.size, 3, none⟩ (.slice ca (kto U k m).length cc)).heap.size (f + 1) ((((W.setCell ⟨w.heap.size, 0, none⟩ (.int .i64 x)).setCell ⟨w.heap.size, 1, none⟩ (.int .i64 y)).setCell ⟨w.heap.size, 2, none⟩ (.int .i64 u)).setCell ⟨w.heap.size, 3, none⟩ (.slice ca (kto U k m).length cc)) k (.slice ca (kto U k m).length cc) ∧ Below w.heap.size w ((((W.setCell ⟨w.heap.size, 0, none⟩ (.int .i64 x)).setCell ⟨w.heap.size, 1, none⟩ (.int .i64 y)).setCell ⟨w.heap.size, 2, none⟩ (.int .i64 u)).setCell ⟨w.heap.size, 3, none⟩ (.slice ca (kto U k m).length cc))) := by
          intro W hW
          have w0 := (hW.block _ (by omega)).trans r0
          have hWs := hW.size
          obtain ⟨G, hG⟩ : ∃ G, ((((W.setCell ⟨w.heap.size, 0, none⟩ (.int .i64 x)).setCell ⟨w.heap.size, 1, none⟩ (.int .i64 y)).setCell ⟨w.heap.size, 2, none⟩ (.int .i64 u)).setCell ⟨w.heap.size, 3, none⟩ (.slice ca (kto U k m).length cc)) = G := ⟨_, rfl⟩
          rw [hG]
          have hGo : ∀ g, g ≠ w.heap.size → G.heap[g]? = W.heap[g]? := fun g hg => by
            rw [← hG]
            exact (heap_setCell_other _ _ _ _ (by simpa using hg)).trans ((heap_setCell_other _ _ _ _ (by simpa using hg)).trans ((heap_setCell_other _ _ _ _ (by simpa using hg)).trans (heap_setCell_other _ _ _ _ (by simpa using hg))))
          have hGs : G.heap.size = W.heap.size := by rw [← hG]; simp
          refine ⟨?_, ?_, ?_⟩
          · rw [← hG, heap_setCell_same _ _ _ _ _ _ (heap_setCell_same _ _ _ _ _ _ (heap_setCell_same _ _ _ _ _ _ (heap_setCell_same _ _ _ _ _ _ w0)))]
            rfl
          · have hkk : kn (upAt L) L.length k = kto U k m := by unfold kn; rw [HU.out, HN.out, HE.out, hEm]
            refine ⟨ca, cc, by rw [hkk], by rw [hkk]; exact own_cap hrow, ?_⟩
            rw [hkk]
            intro j hj
            obtain ⟨lo, hh, sl', l1, l2, x1, x2, x3, x4, tr, _⟩ := hT.out j hj
            obtain ⟨g, c, e, _⟩ := own_pos hrow (by omega)
            simp at e
            obtain ⟨rfl, _⟩ := e
            obtain ⟨cu, hcu, hgb⟩ := own_at hrow (g := g) rfl
            have hgl := lt_of_block hcu
            have hg := (hGo g (by omega)).trans (hW.block g (by omega))
            have hl := hrow.1
            refine ⟨g, 0, sl', rfl, by omega, by omega, (cell_heap hg _).trans (by rw [Nat.zero_add]; exact (hrow.cellAt _ (by omega)).trans x1), (cell_heap hg _).trans (by rw [Nat.zero_add]; exact (hrow.cellAt _ (by omega)).trans x2), (cell_heap hg _).trans (by rw [Nat.zero_add]; exact (hrow.cellAt _ (by omega)).trans x3), (cell_heap hg _).trans (by rw [Nat.zero_add]; exact (hrow.cellAt _ (by omega)).trans x4), ?_⟩
            exact R4.wide (by omega) (by omega) (R4.keep tr fun g g1 g2 => (hGo g (by omega)).trans (hW.block g (by omega)))
          · rw [← hG]
            exact ((((below2 hnx hW).setCell (Nat.le_refl _) _).setCell (Nat.le_refl _) _).setCell (Nat.le_refl _) _).setCell (Nat.le_refl _) _
        have HCE : Hid (∀ W : World, Below wr.heap.size wr W → W.heap[w.heap.size]? = some (.cells #[.int .i64 0, .int .i64 0, .int .i64 0, .slice none 0 0] 61 (0, 0)) ∧ W.heap[z]? = some (.cells #[.int .i64 x, .int .i64 y, .int .i64 u, .slice ca (kto U k m).length cc] 61 (0, 0))) := fun W hW => ⟨(hW.block _ (by omega)).trans r0, (hW.block _ hzl).trans r1⟩
        have HEm : Hid (m = E) := hEm
        clear hEm
        by_cases hlt : m < n
        · have hum : U m ≠ (k : Int) := fun e => hgo ⟨hlt, e⟩
          have hmL : m < L.length := by rw [HN.out]; exact hlt
          obtain ⟨d0, d1, d2⟩ := hL.out m hmL
          rw [← HUP.out m hmL] at d2
          obtain ⟨mx, hmx⟩ : ∃ x, L[m].1 = x := ⟨_, rfl⟩
          obtain ⟨my, hmy⟩ : ∃ y, L[m].2.1 = y := ⟨_, rfl⟩
          obtain ⟨mu, hmu⟩ : ∃ y, U m = y := ⟨_, rfl⟩
          rw [hmx] at d0
          rw [hmy] at d1
          rw [hmu] at d2 hum
          have e0 : wr.cell? ⟨b, off + m * 3, none⟩ = some (.int .i64 mx) := (hnx.cell (by exact hb)).trans d0
          have e1 : wr.cell? ⟨b, off + m * 3 + 1, none⟩ = some (.int .i64 my) := (hnx.cell (by exact hb)).trans d1
          have e2 : wr.cell? ⟨b, off + m * 3 + 2, none⟩ = some (.int .i64 mu) := (hnx.cell (by exact hb)).trans d2
          have humb : (mu == (k : Int)) = false := by simp; exact hum
          clear d0 d1 d2 hmx hmy hmu hgo
          have hltI : (m : Int) < (n : Int) := by omega
          have hmeth : ∀ w : World, (method 359 54 (.agg #[.int .i64 mx, .int .i64 my, .int .i64 mu]) "loop.example/g00209/impl.upNode").run Tryz.prog w = .ok (189, .agg #[.int .i64 mx, .int .i64 my, .int .i64 mu]) w := fun _ => by kernel_rfl
          have HUp := upOfN mx my mu
          obtain ⟨kl, hkl⟩ : ∃ kl, (kto U k m).length = kl := ⟨_, rfl⟩
          rw [hkl] at HEND HCE
          clear r0 r1 hrow hT hkl
          go_wp2_with fail
          refine (HUp _).mono ?_
          rintro e w1 ⟨rfl, hb1⟩
          clear HUp hmeth e0 e1 e2
          obtain ⟨E1, E2, E3⟩ := HEND.out w1 hb1
          obtain ⟨r0, r1⟩ := HCE.out w1 hb1
          have EE : Hid (_ ∧ _) := ⟨E2, E3⟩
          clear E2 E3 HEND HCE hb1
          have d0 := (cell_of_block r1 0).trans rfl
          have d1 := (cell_of_block r1 1).trans rfl
          have d2 := (cell_of_block r1 2).trans rfl
          have d3 := (cell_of_block r1 3).trans rfl
          have e0 := (cell_of_block r0 0).trans rfl
          have e1 := (cell_of_block r0 1).trans rfl
          have e2 := (cell_of_block r0 2).trans rfl
          have e3 := (cell_of_block r0 3).trans rfl
          have f0 := free_of_block r0 0
          have f1 := free_of_block r0 1
          have f2 := free_of_block r0 2
          have f3 := free_of_block r0 3
          have k0 := (cell_of_block E1 0).trans rfl
          have k1 := (cell_of_block E1 1).trans rfl
          have k2 := (cell_of_block E1 2).trans rfl
          have k3 := (cell_of_block E1 3).trans rfl
          clear r0 r1 E1
          obtain rfl := HEm.out
          go_wp2
          exact bodyPost_ret (v := .tuple #[.agg #[.int .i64 x, .int .i64 y, .int .i64 u, .slice ca kl cc], .int .i64 (m : Int)]) (by simp [results, Tryz.results77, go_sem, k0, k1, k2, k3]) rfl ⟨_, rfl, EE.out.1, EE.out.2⟩
        · have hltI : ¬ (m : Int) < (n : Int) := by omega
          obtain ⟨E1, E2, E3⟩ := HEND.out wr (Below.refl _ _)
          have EE : Hid (_ ∧ _) := ⟨E2, E3⟩
          obtain ⟨kl, hkl⟩ : ∃ kl, (kto U k m).length = kl := ⟨_, rfl⟩
          rw [hkl] at E1 EE r1
          clear E2 E3 HEND HCE hkl hrow hT
          have d0 := (cell_of_block r1 0).trans rfl
          have d1 := (cell_of_block r1 1).trans rfl
          have d2 := (cell_of_block r1 2).trans rfl
          have d3 := (cell_of_block r1 3).trans rfl
          have e0 := (cell_of_block r0 0).trans rfl
          have e1 := (cell_of_block r0 1).trans rfl
          have e2 := (cell_of_block r0 2).trans rfl
          have e3 := (cell_of_block r0 3).trans rfl
          have f0 := free_of_block r0 0
          have f1 := free_of_block r0 1
          have f2 := free_of_block r0 2
          have f3 := free_of_block r0 3
          have k0 := (cell_of_block E1 0).trans rfl
          have k1 := (cell_of_block E1 1).trans rfl
          have k2 := (cell_of_block E1 2).trans rfl
          have k3 := (cell_of_block E1 3).trans rfl
          clear r0 r1 E1
          obtain rfl := HEm.out
          go_wp2
          exact bodyPost_ret (v := .tuple #[.agg #[.int .i64 x, .int .i64 y, .int .i64 u, .slice ca kl cc], .int .i64 (m : Int)]) (by simp [results, Tryz.results77, go_sem, k0, k1, k2, k3]) rfl ⟨_, rfl, EE.out.1, EE.out.2⟩

def RepV (L : List Vn) (lo hi f : Nat) (w : World) (k : Nat) (sl : Value) : Prop := R4 (fun k => .int .i64 (vnAt L k)) (fun k => .string (vtAt L k)) (fun k => .int .i64 (vuAt L k)) (kn (vuAt L) L.length) lo hi f w k sl

theorem Tryz.infoTV : (Tryz.prog.info? 64).map (fun i => (i.zero, i.size, i.bytes)) = some (some (.agg #[.int .i64 0, .string ⟨#[]⟩, .int .i64 0, .slice none 0 0]), 4, 56) := by kernel_rfl

theorem upOfV (x : Int) (y : ByteArray) (u : Int) (w : World) : Calls Tryz.prog 190 #[.agg #[.int .i64 x, .string y, .int .i64 u]] w fun e w' => e = .returned (.int .i64 u) ∧ Below w.heap.size w w' := by
  go_enter Tryz.func190, Tryz.ntmps190
  go_wp2
  go_ret
  exact ⟨rfl, by (repeat (first | refine Below.alloc ?_ (by first | (simp; done) | (simp; omega)) _ | refine Below.setCell ?_ (by first | (simp; done) | (simp; omega)) _ | refine bel_dN ?_ _ | refine Below.drew ?_ | exact Below.refl _ _))⟩

def TreeIV (L : List Vn) (b off cap f k : Nat) : Prop := ∀ w : World, b < w.heap.size → Hid (vlAt w b off L) →
    Calls Tryz.prog 66 #[.slice (some ⟨b, off, none⟩) L.length cap, .int .i64 (k : Int)] w fun e w' => ∃ sl, e = .returned (.tuple #[.agg #[.int .i64 (vnAt L k), .string (vtAt L k), .int .i64 (vuAt L k), sl], .int .i64 (nxt (vuAt L) L.length k (k + 1) : Int)]) ∧ RepV L w.heap.size w'.heap.size f w' k sl ∧ Below w.heap.size w w'

set_option maxRecDepth 100000 in
set_option maxHeartbeats 3200000 in
theorem implTreeV (L : List Vn) (h100 : L.length ≤ 100) (b off cap : Nat) : ∀ (f k : Nat), k < L.length → L.length - k ≤ f → TreeIV L b off cap f k := by
  intro f
  induction f with
  | zero => intro k hk hf; omega
  | succ f ih =>
    intro k hk hf w hb hL
    obtain ⟨i0, hi, hz0, hz1, hz2⟩ := info_parts Tryz.infoTV
    have IH : Hid (∀ k, k < L.length → L.length - k ≤ f → TreeIV L b off cap f k) := ih
    clear ih
    obtain ⟨c0, c1, c2⟩ := hL.out k hk
    rw [← vnAt_get L k hk] at c0
    rw [← vtAt_get L k hk] at c1
    rw [← vuAt_get L k hk] at c2
    obtain ⟨n, hn⟩ : ∃ n, L.length = n := ⟨_, rfl⟩
    obtain ⟨U, hU⟩ : ∃ U, vuAt L = U := ⟨_, rfl⟩
    have HUP : Hid (∀ j (h : j < L.length), U j = L[j].2.2) := fun j h => by rw [← hU]; exact vuAt_get L j h
    have HN : Hid (L.length = n) := hn
    have HU : Hid (vuAt L = U) := hU
    rw [hn] at hk hf h100 ⊢
    rw [hU]
    obtain ⟨x, hx⟩ : ∃ x, vnAt L k = x := ⟨_, rfl⟩
    obtain ⟨y, hy⟩ : ∃ y, vtAt L k = y := ⟨_, rfl⟩
    obtain ⟨u, hu⟩ : ∃ u, vuAt L k = u := ⟨_, rfl⟩
    rw [hx] at c0 ⊢
    rw [hy] at c1 ⊢
    rw [hu] at c2
    rw [hU] at hu
    rw [hu]
    clear hx hy hu hU hn
    obtain ⟨E, hE⟩ : ∃ E, nxt U n k (k + 1) = E := ⟨_, rfl⟩
    have HE : Hid (nxt U n k (k + 1) = E) := hE
    rw [hE]
    clear hE
    have hwk : wrap64 ((k : Int) + 1) = (k : Int) + 1 := w64v (by omega) (by omega)
    obtain ⟨z, hz⟩ : ∃ z, w.heap.size + 1 = z := ⟨_, rfl⟩
    have hAL := fun o1 o2 => ((Below.refl w.heap.size w).alloc (Nat.le_refl _) o1).alloc (by simp) o2
    have HAL : Hid (∀ o1 o2, Below w.heap.size w ((w.alloc o1).alloc o2)) := hAL
    clear hAL
    go_enter Tryz.func66, Tryz.ntmps66
    go_wp2
    obtain ⟨W1, hW1⟩ : ∃ W1, W1 = (w.alloc (.cells #[.int .i64 0, .string ⟨#[]⟩, .int .i64 0, .slice none 0 0] 64)).alloc (.cells #[.int .i64 x, .string y, .int .i64 u, .slice none 0 0] 64) := ⟨_, rfl⟩
    rw [← hW1]
    have q0 : W1.heap[w.heap.size]? = some (.cells #[.int .i64 0, .string ⟨#[]⟩, .int .i64 0, .slice none 0 0] 64 (0, 0)) := by rw [hW1]; exact (Below.heap_alloc _ _ _ (by simp)).trans (heap_alloc_new _ _)
    have q1 : W1.heap[z]? = some (.cells #[.int .i64 x, .string y, .int .i64 u, .slice none 0 0] 64 (0, 0)) := by
      rw [hW1, ← hz]
      have e : w.heap.size + 1 = (w.alloc (.cells #[.int .i64 0, .string ⟨#[]⟩, .int .i64 0, .slice none 0 0] 64)).heap.size := by simp
      rw [e]
      exact heap_alloc_new _ _
    have q3 : Below w.heap.size w W1 := by rw [hW1]; exact HAL.out _ _
    clear hW1 c0 c1 c2 HAL
    try rw [hz]
    go_loopw [7] (fun i wr => ∃ (m : Nat) (cur : Value) (xs : List Value), k < m ∧ m ≤ n ∧ i = .int .i64 (m : Int) ∧ Hid (nxt U n k m = E) ∧ wr.heap[w.heap.size]? = some (.cells #[.int .i64 0, .string ⟨#[]⟩, .int .i64 0, .slice none 0 0] 64 (0, 0)) ∧ wr.heap[z]? = some (.cells #[.int .i64 x, .string y, .int .i64 u, cur] 64 (0, 0)) ∧
      wr.ownsRow (w.heap.size + 2) 64 4 cur (kto U k m).length xs ∧
      Hid (∀ i (h : i < (kto U k m).length), ∃ lo hi sl', w.heap.size + 2 ≤ lo ∧ hi ≤ wr.heap.size ∧ xs[i * 4]? = some (.int .i64 (vnAt L (kto U k m)[i])) ∧ xs[i * 4 + 1]? = some (.string (vtAt L (kto U k m)[i])) ∧ xs[i * 4 + 2]? = some (.int .i64 (vuAt L (kto U k m)[i])) ∧ xs[i * 4 + 3]? = some sl' ∧ RepV L lo hi f wr (kto U k m)[i] sl' ∧ (∀ g, cur.ownBlock = some g → ¬ (lo ≤ g ∧ g < hi))) ∧ Below w.heap.size w wr) (fun i _ => n - (intOf i).toNat)
    case atStart =>
      refine ⟨k + 1, .slice none 0 0, [], by omega, by omega, by go_num, HE, q0, q1, ?_, ?_, q3⟩
      · rw [kto_nil]; exact World.ownsRow_nil _ _ _ _
      · intro i h; rw [kto_nil] at h; simp at h
    case round =>
      clear q0 q1 q3 hwk
      obtain ⟨m, cur, xs, hkm, hm, rfl, HM, r0, r1, hrow, hT, hnx⟩ := hrel
      have hsz := hnx.size
      have hzl := lt_of_block r1
      by_cases hgo : m < n ∧ U m = (k : Int)
      · obtain ⟨hlt, hum⟩ := hgo
        have hmL : m < L.length := by rw [HN.out]; exact hlt
        obtain ⟨d0, d1, d2⟩ := hL.out m hmL
        rw [← vnAt_get L m hmL] at d0
        rw [← vtAt_get L m hmL] at d1
        rw [← HUP.out m hmL, hum] at d2
        obtain ⟨mx, hmx⟩ : ∃ x, vnAt L m = x := ⟨_, rfl⟩
        obtain ⟨my, hmy⟩ : ∃ y, vtAt L m = y := ⟨_, rfl⟩
        rw [hmx] at d0
        rw [hmy] at d1
        have e0 : wr.cell? ⟨b, off + m * 3, none⟩ = some (.int .i64 mx) := (hnx.cell (by exact hb)).trans d0
        have e1 : wr.cell? ⟨b, off + m * 3 + 1, none⟩ = some (.string my) := (hnx.cell (by exact hb)).trans d1
        have e2 : wr.cell? ⟨b, off + m * 3 + 2, none⟩ = some (.int .i64 (k : Int)) := (hnx.cell (by exact hb)).trans d2
        clear d0 d1 d2
        have hltI : (m : Int) < (n : Int) := by omega
        have hmeth : ∀ w : World, (method 359 57 (.agg #[.int .i64 mx, .string my, .int .i64 (k : Int)]) "loop.example/g00209/impl.upNode").run Tryz.prog w = .ok (190, .agg #[.int .i64 mx, .string my, .int .i64 (k : Int)]) w := fun _ => by kernel_rfl
        have HUp := upOfV mx my (k : Int)
        obtain ⟨ca, cc, rfl⟩ := ownsRow_shape hrow
        go_wp2_with fail
        refine (HUp _).mono ?_
        rintro e w1 ⟨rfl, hb1⟩
        clear HUp hmeth e0 e1 e2
        have hb1s := hb1.size
        have hbw := below2 hnx hb1
        have hbwa := fun o => hbw.alloc hbw.size o
        have IHm := fun o => IH.out m (by rw [HN.out]; exact hlt) (by rw [HN.out]; omega) (w1.alloc o) (Nat.lt_of_lt_of_le hb (hbwa o).size) (hL.out.below (hbwa o) hb)
        have IHm' : Hid (∀ o, Calls Tryz.prog 66 #[.slice (some ⟨b, off, none⟩) n cap, .int .i64 (m : Int)] (w1.alloc o) fun e w' => ∃ sl, e = .returned (.tuple #[.agg #[.int .i64 mx, .string my, .int .i64 (k : Int), sl], .int .i64 (nxt U n m (m + 1) : Int)]) ∧ RepV L (w1.alloc o).heap.size w'.heap.size f w' m sl ∧ Below (w1.alloc o).heap.size (w1.alloc o) w') := fun o => by
          have := IHm o
          rw [HN.out, HU.out, hmx, hmy] at this
          rw [hum] at this
          exact this
        clear IHm
        have hx0 : (w1.alloc (.cells #[.int .i64 0, .string ⟨#[]⟩, .int .i64 0, .slice none 0 0] 64)).heap[w1.heap.size]? = some (.cells #[.int .i64 0, .string ⟨#[]⟩, .int .i64 0, .slice none 0 0] 64 (0, 0)) := heap_alloc_new _ _
        have HX : Hid (Below w.heap.size w (w1.alloc (.cells #[.int .i64 0, .string ⟨#[]⟩, .int .i64 0, .slice none 0 0] 64)) ∧ Below wr.heap.size wr (w1.alloc (.cells #[.int .i64 0, .string ⟨#[]⟩, .int .i64 0, .slice none 0 0] 64)) ∧ (w1.alloc (.cells #[.int .i64 0, .string ⟨#[]⟩, .int .i64 0, .slice none 0 0] 64)).heap.size = w1.heap.size + 1) := ⟨hbwa _, hb1.alloc hb1s _, by simp⟩
        clear hbwa hbw
        go_wp2_with fail
        refine (IHm'.out _).mono ?_
        rintro e V1 ⟨sl, rfl, htr, hbV⟩
        obtain ⟨sa, sn, sc, rfl⟩ := R4.form htr
        obtain ⟨hX1, hX2, hX3⟩ := HX.out
        rw [hX3] at htr hbV
        have hVs := hbV.size
        rw [hX3] at hVs
        obtain ⟨q, hq⟩ : ∃ q, w1.heap.size = q := ⟨_, rfl⟩
        rw [hq] at hx0 htr hbV hVs hX3 hb1s
        have hV0 : V1.heap[q]? = some (.cells #[.int .i64 0, .string ⟨#[]⟩, .int .i64 0, .slice none 0 0] 64 (0, 0)) := (hbV.block q (by omega)).trans hx0
        have hbwV : Below w.heap.size w V1 := hX1.trans (hbV.mono (by omega))
        have hbrV : Below wr.heap.size wr V1 := hX2.trans (hbV.mono (by omega))
        have s0 : V1.heap[w.heap.size]? = some (.cells #[.int .i64 0, .string ⟨#[]⟩, .int .i64 0, .slice none 0 0] 64 (0, 0)) := (hbrV.block _ (by omega)).trans r0
        have s1 : V1.heap[z]? = some (.cells #[.int .i64 x, .string y, .int .i64 u, .slice ca (kto U k m).length cc] 64 (0, 0)) := (hbrV.block _ hzl).trans r1
        clear HX IHm' hX1 hX2 hX3 hx0 hbV
        obtain ⟨V2, hV2⟩ : ∃ V2, (((V1.setCell ⟨q, 0, none⟩ (.int .i64 mx)).setCell ⟨q, 1, none⟩ (.string my)).setCell ⟨q, 2, none⟩ (.int .i64 (k : Int))).setCell ⟨q, 3, none⟩ (.slice sa sn sc) = V2 := ⟨_, rfl⟩
        have hV2q : V2.heap[q]? = some (.cells #[.int .i64 mx, .string my, .int .i64 (k : Int), .slice sa sn sc] 64 (0, 0)) := by
          rw [← hV2, heap_setCell_same _ _ _ _ _ _ (heap_setCell_same _ _ _ _ _ _ (heap_setCell_same _ _ _ _ _ _ (heap_setCell_same _ _ _ _ _ _ hV0)))]
          rfl
        have hV2o : ∀ g, g ≠ q → V2.heap[g]? = V1.heap[g]? := fun g hg => by
          rw [← hV2]
          exact (heap_setCell_other _ _ _ _ (by simpa using hg)).trans ((heap_setCell_other _ _ _ _ (by simpa using hg)).trans ((heap_setCell_other _ _ _ _ (by simpa using hg)).trans (heap_setCell_other _ _ _ _ (by simpa using hg))))
        have HV2s : Hid (V2.heap.size = V1.heap.size) := by unfold Hid; rw [← hV2]; simp
        have hV2ge : w.heap.size + 2 ≤ V2.heap.size := by have := HV2s.out; omega
        have hbV2 : Below w.heap.size w V2 := by rw [← hV2]; exact (((hbwV.setCell (by simp; omega) _).setCell (by simp; omega) _).setCell (by simp; omega) _).setCell (by simp; omega) _
        have v0 := (cell_of_block hV0 0).trans rfl
        have v1 := (cell_of_block hV0 1).trans rfl
        have v2 := (cell_of_block hV0 2).trans rfl
        have v3 := (cell_of_block hV0 3).trans rfl
        have n0 := free_of_block hV0 0
        have n1 := free_of_block hV0 1
        have n2 := free_of_block hV0 2
        have n3 := free_of_block hV0 3
        try rw [hq]
        go_upto_region 6 with fail
        try rw [hV2]
        clear hV2 v0 v1 v2 v3 n0 n1 n2 n3
        have y0 := (cell_of_block hV2q 0).trans rfl
        have y1 := (cell_of_block hV2q 1).trans rfl
        have y2 := (cell_of_block hV2q 2).trans rfl
        have y3 := (cell_of_block hV2q 3).trans rfl
        have hz2' : V2.heap[z]? = some (.cells #[.int .i64 x, .string y, .int .i64 u, .slice ca (kto U k m).length cc] 64 (0, 0)) := (hV2o z (by omega)).trans s1
        have y4 := (cell_of_block hz2' 3).trans rfl
        have hcl : ∀ c, (Value.slice ca (kto U k m).length cc).ownBlock = some c → c < wr.heap.size ∧ w.heap.size + 2 ≤ c := fun c hc => by
          obtain ⟨cu, hcu, h2⟩ := own_at hrow hc
          exact ⟨lt_of_block hcu, h2⟩
        have hrow2 : V2.ownsRow (w.heap.size + 2) 64 4 (.slice ca (kto U k m).length cc) (kto U k m).length xs := own_keep hrow fun g hg => by
          have := hcl g hg
          exact (hV2o g (by omega)).trans (hbrV.block g (by omega))
        have hkl := kto_le U k m
        go_wp2_with (at_builtin; refine wpList_append_own_at _ rfl _ _ 62 rfl (w.heap.size + 2) 64 i0 (.agg #[.int .i64 0, .string ⟨#[]⟩, .int .i64 0, .slice none 0 0]) 4 56 Tryz.underlying62 hi hz0 hz1 hz2 rfl (by decide) _ _ _ rfl (hrow2.alloc _) ⟨V2.heap.size, 0, none⟩ 1 1 [.int .i64 mx, .string my, .int .i64 (k : Int), .slice sa sn sc] rfl rfl (four_new _ _ _ _ _ _ _ rfl) (by intro u hu; simp at hu; rcases hu with rfl | rfl | rfl | rfl; rfl; rfl; rfl; rfl) (by unfold maxLen; omega) (by omega) (by simp; omega) ?_)
        intro v' w5 hown5 hgrow5 _ hloc
        have hV2s := HV2s.out
        obtain ⟨va, vc, rfl⟩ := ownsRow_shape hown5
        have hKS : Hid (kto U k (nxt U n m (m + 1)) = kto U k m ++ [m]) := kto_step hkm hum
        have hKL : (kto U k (nxt U n m (m + 1))).length = (kto U k m).length + 1 := by rw [hKS.out]; simp
        have hNM : Hid (nxt U n k (nxt U n m (m + 1)) = E) := by unfold Hid; rw [← HM.out, ← nxt_yes hlt hum]
        have hge := nxt_ge U n m (m + 1)
        have hle : nxt U n m (m + 1) ≤ n := nxt_le (by omega)
        have KEEP : ∀ g, g < V2.heap.size → (∀ c, (Value.slice ca (kto U k m).length cc).ownBlock = some c → g ≠ c) → w5.heap[g]? = V2.heap[g]? := fun g hg hne => by
          rw [hgrow5.block g (by simp; omega) (fun e => hne g e.symm rfl)]
          exact Below.heap_alloc _ _ _ hg
        have s5 : w5.heap[z]? = some (.cells #[.int .i64 x, .string y, .int .i64 u, .slice ca (kto U k m).length cc] 64 (0, 0)) := (KEEP z (by omega) (fun c hc => by have := (hcl c hc).2; omega)).trans hz2'
        have g3 := (cell_of_block s5 3).trans rfl
        have f3 := free_of_block s5 3
        have hW9 : ∀ g, g < V1.heap.size → g ≠ q → g ≠ z → (∀ c, (Value.slice ca (kto U k m).length cc).ownBlock = some c → g ≠ c) → (w5.setCell ⟨z, 3, none⟩ (.slice va ((kto U k m).length + 1) vc)).heap[g]? = V1.heap[g]? := fun g h1 h1' h2 h3 => (heap_setCell_other _ _ _ _ (by simpa using h2)).trans ((KEEP g (by omega) h3).trans (hV2o g h1'))
        have t0 : (w5.setCell ⟨z, 3, none⟩ (.slice va ((kto U k m).length + 1) vc)).heap[w.heap.size]? = some (.cells #[.int .i64 0, .string ⟨#[]⟩, .int .i64 0, .slice none 0 0] 64 (0, 0)) := (hW9 _ (by omega) (by omega) (by omega) (fun c hc => by have := (hcl c hc).2; omega)).trans s0
        have t1 : (w5.setCell ⟨z, 3, none⟩ (.slice va ((kto U k m).length + 1) vc)).heap[z]? = some (.cells #[.int .i64 x, .string y, .int .i64 u, .slice va ((kto U k m).length + 1) vc] 64 (0, 0)) := by rw [heap_setCell_same _ _ _ _ _ _ s5]; rfl
        have t2 : (w5.setCell ⟨z, 3, none⟩ (.slice va ((kto U k m).length + 1) vc)).ownsRow (w.heap.size + 2) 64 4 (.slice va ((kto U k m).length + 1) vc) ((kto U k m).length + 1) (xs ++ [.int .i64 mx, .string my, .int .i64 (k : Int), .slice sa sn sc]) := own_keep hown5 fun g hg => heap_setCell_other _ _ _ _ (by have := ownsRow_block hown5 g hg; simp; omega)
        have t4 : Below w.heap.size w (w5.setCell ⟨z, 3, none⟩ (.slice va ((kto U k m).length + 1) vc)) := ((hbV2.alloc (by omega) _).grown hgrow5 (by simp; omega) (fun c hc => by have := (hcl c hc).2; omega)).setCell (by simp; omega) _
        have t5 : V1.heap.size < (w5.setCell ⟨z, 3, none⟩ (.slice va ((kto U k m).length + 1) vc)).heap.size := by
          have := hgrow5.size
          simp at this ⊢
          omega
        have hlc : ∀ g, (Value.slice va ((kto U k m).length + 1) vc).ownBlock = some g → (Value.slice ca (kto U k m).length cc).ownBlock = some g ∨ g = V2.heap.size + 1 := fun g hg => by
          rcases hloc with e | e
          · left; rw [← e]; exact hg
          · right; rw [hg] at e; simpa using e
        have t6 : Hid (∀ i (h : i < (kto U k (nxt U n m (m + 1))).length), ∃ lo hi sl', w.heap.size + 2 ≤ lo ∧ hi ≤ (w5.setCell ⟨z, 3, none⟩ (.slice va ((kto U k m).length + 1) vc)).heap.size ∧ (xs ++ [.int .i64 mx, .string my, .int .i64 (k : Int), .slice sa sn sc])[i * 4]? = some (.int .i64 (vnAt L (kto U k (nxt U n m (m + 1)))[i])) ∧ (xs ++ [.int .i64 mx, .string my, .int .i64 (k : Int), .slice sa sn sc])[i * 4 + 1]? = some (.string (vtAt L (kto U k (nxt U n m (m + 1)))[i])) ∧ (xs ++ [.int .i64 mx, .string my, .int .i64 (k : Int), .slice sa sn sc])[i * 4 + 2]? = some (.int .i64 (vuAt L (kto U k (nxt U n m (m + 1)))[i])) ∧ (xs ++ [.int .i64 mx, .string my, .int .i64 (k : Int), .slice sa sn sc])[i * 4 + 3]? = some sl' ∧ RepV L lo hi f (w5.setCell ⟨z, 3, none⟩ (.slice va ((kto U k m).length + 1) vc)) (kto U k (nxt U n m (m + 1)))[i] sl' ∧ (∀ g, (Value.slice va ((kto U k m).length + 1) vc).ownBlock = some g → ¬ (lo ≤ g ∧ g < hi))) := fun i hi => by
          rcases Nat.lt_or_ge i (kto U k m).length with h | h
          · have hget : (kto U k (nxt U n m (m + 1)))[i] = (kto U k m)[i] := by
              have e9 := hKS.out
              rw [List.getElem_of_eq e9, List.getElem_append_left h]
            obtain ⟨lo, hh, sl', l1, l2, x1, x2, x3, x4, tr, hne⟩ := hT.out i h
            rw [hget]
            refine ⟨lo, hh, sl', l1, by omega, (row4_left hrow.1 h 0 (by omega)).trans x1, (row4_left hrow.1 h 1 (by omega)).trans x2, (row4_left hrow.1 h 2 (by omega)).trans x3, (row4_left hrow.1 h 3 (by omega)).trans x4, ?_, ?_⟩
            · refine R4.keep tr fun g g1 g2 => ?_
              exact (hW9 g (by omega) (by omega) (by omega) (fun c hc e => hne c hc (by subst e; exact ⟨g1, g2⟩))).trans (hbrV.block g (by omega))
            · intro g hg
              rcases hlc g hg with e | e
              · exact hne g e
              · omega
          · have him' : i = (kto U k m).length := by omega
            subst him'
            have hget : (kto U k (nxt U n m (m + 1)))[(kto U k m).length] = m := by
              have e9 := hKS.out
              rw [List.getElem_of_eq e9]; simp
            obtain ⟨x1, x2, x3, x4⟩ := row4_right (x := .int .i64 mx) (y := .string my) (z := .int .i64 (k : Int)) (u := .slice sa sn sc) hrow.1
            rw [hget, hmx, hmy, show vuAt L m = (k : Int) from (congrFun HU.out m).trans hum]
            refine ⟨q + 1, V1.heap.size, .slice sa sn sc, by omega, by omega, x1, x2, x3, x4, ?_, ?_⟩
            · refine R4.keep htr fun g g1 g2 => ?_
              exact hW9 g g2 (by omega) (by omega) (fun c hc e => by have := (hcl c hc).1; omega)
            · intro g hg
              rcases hlc g hg with e | e
              · have := (hcl g e).1
                omega
              · omega
        rw [← hKL] at t2
        have hmeas : n - nxt U n m (m + 1) < n - m := by omega
        obtain ⟨m2, hm2⟩ : ∃ m2, nxt U n m (m + 1) = m2 := ⟨_, rfl⟩
        rw [hm2] at t2 t6 hNM hge hle hmeas hKL ⊢
        rw [← hKL] at t1
        clear hW9 KEEP hrow2 hcl hT hrow r0 r1 htr s0 s1 s5 hV0 hV2q hz2' y0 y1 y2 y3 y4 hown5 hgrow5 hloc hlc hbV2 hbwV hbrV hm2 hKS HM hmx hmy
        go_wp2
        go_roundw
        case rel => exact ⟨m2, _, _, by omega, hle, by go_num, hNM, t0, by rw [← hKL] ; exact t1, by rw [← hKL]; exact t2, t6, t4⟩
        case measure => simp [intOf]; omega
      · have hEm : m = E := by have := HM.out; rw [nxt_no hgo] at this; exact this
        obtain ⟨ca, cc, rfl⟩ := ownsRow_shape hrow
        have HEND : Hid (∀ W : World, Below wr.heap.size wr W → ((((W.setCell ⟨w.heap.size, 0, none⟩ (.int .i64 x)).setCell ⟨w.heap.size, 1, none⟩ (.string y)).setCell ⟨w.heap.size, 2, none⟩ (.int .i64 u)).setCell ⟨w.heap.size, 3, none⟩ (.slice ca (kto U k m).length cc)).heap[w.heap.size]? = some (.cells #[.int .i64 x, .string y, .int .i64 u, .slice ca (kto U k m).length cc] 64 (0, 0)) ∧
            RepV L w.heap.size ((((W.setCell ⟨w.heap.size, 0, none⟩ (.int .i64 x)).setCell ⟨w.heap.size, 1, none⟩ (.string y)).setCell ⟨w.heap.size, 2, none⟩ (.int .i64 u)).setCell ⟨w.heap.size, 3, none⟩ (.slice ca (kto U k m).length cc)).heap.size (f + 1) ((((W.setCell ⟨w.heap.size, 0, none⟩ (.int .i64 x)).setCell ⟨w.heap.size, 1, none⟩ (.string y)).setCell ⟨w.heap.size, 2, none⟩ (.int .i64 u)).setCell ⟨w.heap.size, 3, none⟩ (.slice ca (kto U k m).length cc)) k (.slice ca (kto U k m).length cc) ∧ Below w.heap.size w ((((W.setCell ⟨w.heap.size, 0, none⟩ (.int .i64 x)).setCell ⟨w.heap.size, 1, none⟩ (.string y)).setCell ⟨w.heap.size, 2, none⟩ (.int .i64 u)).setCell ⟨w.heap.size, 3, none⟩ (.slice ca (kto U k m).length cc))) := by
          intro W hW
          have w0 := (hW.block _ (by omega)).trans r0
          have hWs := hW.size
          obtain ⟨G, hG⟩ : ∃ G, ((((W.setCell ⟨w.heap.size, 0, none⟩ (.int .i64 x)).setCell ⟨w.heap.size, 1, none⟩ (.string y)).setCell ⟨w.heap.size, 2, none⟩ (.int .i64 u)).setCell ⟨w.heap.size, 3, none⟩ (.slice ca (kto U k m).length cc)) = G := ⟨_, rfl⟩
          rw [hG]
          have hGo : ∀ g, g ≠ w.heap.size → G.heap[g]? = W.heap[g]? := fun g hg => by
            rw [← hG]
            exact (heap_setCell_other _ _ _ _ (by simpa using hg)).trans ((heap_setCell_other _ _ _ _ (by simpa using hg)).trans ((heap_setCell_other _ _ _ _ (by simpa using hg)).trans (heap_setCell_other _ _ _ _ (by simpa using hg))))
          have hGs : G.heap.size = W.heap.size := by rw [← hG]; simp
          refine ⟨?_, ?_, ?_⟩
          · rw [← hG, heap_setCell_same _ _ _ _ _ _ (heap_setCell_same _ _ _ _ _ _ (heap_setCell_same _ _ _ _ _ _ (heap_setCell_same _ _ _ _ _ _ w0)))]
            rfl
          · have hkk : kn (vuAt L) L.length k = kto U k m := by unfold kn; rw [HU.out, HN.out, HE.out, hEm]
            refine ⟨ca, cc, by rw [hkk], by rw [hkk]; exact own_cap hrow, ?_⟩
            rw [hkk]
            intro j hj
            obtain ⟨lo, hh, sl', l1, l2, x1, x2, x3, x4, tr, _⟩ := hT.out j hj
            obtain ⟨g, c, e, _⟩ := own_pos hrow (by omega)
            simp at e
            obtain ⟨rfl, _⟩ := e
            obtain ⟨cu, hcu, hgb⟩ := own_at hrow (g := g) rfl
            have hgl := lt_of_block hcu
            have hg := (hGo g (by omega)).trans (hW.block g (by omega))
            have hl := hrow.1
            refine ⟨g, 0, sl', rfl, by omega, by omega, (cell_heap hg _).trans (by rw [Nat.zero_add]; exact (hrow.cellAt _ (by omega)).trans x1), (cell_heap hg _).trans (by rw [Nat.zero_add]; exact (hrow.cellAt _ (by omega)).trans x2), (cell_heap hg _).trans (by rw [Nat.zero_add]; exact (hrow.cellAt _ (by omega)).trans x3), (cell_heap hg _).trans (by rw [Nat.zero_add]; exact (hrow.cellAt _ (by omega)).trans x4), ?_⟩
            exact R4.wide (by omega) (by omega) (R4.keep tr fun g g1 g2 => (hGo g (by omega)).trans (hW.block g (by omega)))
          · rw [← hG]
            exact ((((below2 hnx hW).setCell (Nat.le_refl _) _).setCell (Nat.le_refl _) _).setCell (Nat.le_refl _) _).setCell (Nat.le_refl _) _
        have HCE : Hid (∀ W : World, Below wr.heap.size wr W → W.heap[w.heap.size]? = some (.cells #[.int .i64 0, .string ⟨#[]⟩, .int .i64 0, .slice none 0 0] 64 (0, 0)) ∧ W.heap[z]? = some (.cells #[.int .i64 x, .string y, .int .i64 u, .slice ca (kto U k m).length cc] 64 (0, 0))) := fun W hW => ⟨(hW.block _ (by omega)).trans r0, (hW.block _ hzl).trans r1⟩
        have HEm : Hid (m = E) := hEm
        clear hEm
        by_cases hlt : m < n
        · have hum : U m ≠ (k : Int) := fun e => hgo ⟨hlt, e⟩
          have hmL : m < L.length := by rw [HN.out]; exact hlt
          obtain ⟨d0, d1, d2⟩ := hL.out m hmL
          rw [← HUP.out m hmL] at d2
          obtain ⟨mx, hmx⟩ : ∃ x, L[m].1 = x := ⟨_, rfl⟩
          obtain ⟨my, hmy⟩ : ∃ y, L[m].2.1 = y := ⟨_, rfl⟩
          obtain ⟨mu, hmu⟩ : ∃ y, U m = y := ⟨_, rfl⟩
          rw [hmx] at d0
          rw [hmy] at d1
          rw [hmu] at d2 hum
          have e0 : wr.cell? ⟨b, off + m * 3, none⟩ = some (.int .i64 mx) := (hnx.cell (by exact hb)).trans d0
          have e1 : wr.cell? ⟨b, off + m * 3 + 1, none⟩ = some (.string my) := (hnx.cell (by exact hb)).trans d1
          have e2 : wr.cell? ⟨b, off + m * 3 + 2, none⟩ = some (.int .i64 mu) := (hnx.cell (by exact hb)).trans d2
          have humb : (mu == (k : Int)) = false := by simp; exact hum
          clear d0 d1 d2 hmx hmy hmu hgo
          have hltI : (m : Int) < (n : Int) := by omega
          have hmeth : ∀ w : World, (method 359 57 (.agg #[.int .i64 mx, .string my, .int .i64 mu]) "loop.example/g00209/impl.upNode").run Tryz.prog w = .ok (190, .agg #[.int .i64 mx, .string my, .int .i64 mu]) w := fun _ => by kernel_rfl
          have HUp := upOfV mx my mu
          obtain ⟨kl, hkl⟩ : ∃ kl, (kto U k m).length = kl := ⟨_, rfl⟩
          rw [hkl] at HEND HCE
          clear r0 r1 hrow hT hkl
          go_wp2_with fail
          refine (HUp _).mono ?_
          rintro e w1 ⟨rfl, hb1⟩
          clear HUp hmeth e0 e1 e2
          obtain ⟨E1, E2, E3⟩ := HEND.out w1 hb1
          obtain ⟨r0, r1⟩ := HCE.out w1 hb1
          have EE : Hid (_ ∧ _) := ⟨E2, E3⟩
          clear E2 E3 HEND HCE hb1
          have d0 := (cell_of_block r1 0).trans rfl
          have d1 := (cell_of_block r1 1).trans rfl
          have d2 := (cell_of_block r1 2).trans rfl
          have d3 := (cell_of_block r1 3).trans rfl
          have e0 := (cell_of_block r0 0).trans rfl
          have e1 := (cell_of_block r0 1).trans rfl
          have e2 := (cell_of_block r0 2).trans rfl
          have e3 := (cell_of_block r0 3).trans rfl
          have f0 := free_of_block r0 0
          have f1 := free_of_block r0 1
          have f2 := free_of_block r0 2
          have f3 := free_of_block r0 3
          have k0 := (cell_of_block E1 0).trans rfl
          have k1 := (cell_of_block E1 1).trans rfl
          have k2 := (cell_of_block E1 2).trans rfl
          have k3 := (cell_of_block E1 3).trans rfl
          clear r0 r1 E1
          obtain rfl := HEm.out
          go_wp2
          exact bodyPost_ret (v := .tuple #[.agg #[.int .i64 x, .string y, .int .i64 u, .slice ca kl cc], .int .i64 (m : Int)]) (by simp [results, Tryz.results66, go_sem, k0, k1, k2, k3]) rfl ⟨_, rfl, EE.out.1, EE.out.2⟩
        · have hltI : ¬ (m : Int) < (n : Int) := by omega
          obtain ⟨E1, E2, E3⟩ := HEND.out wr (Below.refl _ _)
          have EE : Hid (_ ∧ _) := ⟨E2, E3⟩
          obtain ⟨kl, hkl⟩ : ∃ kl, (kto U k m).length = kl := ⟨_, rfl⟩
          rw [hkl] at E1 EE r1
          clear E2 E3 HEND HCE hkl hrow hT
          have d0 := (cell_of_block r1 0).trans rfl
          have d1 := (cell_of_block r1 1).trans rfl
          have d2 := (cell_of_block r1 2).trans rfl
          have d3 := (cell_of_block r1 3).trans rfl
          have e0 := (cell_of_block r0 0).trans rfl
          have e1 := (cell_of_block r0 1).trans rfl
          have e2 := (cell_of_block r0 2).trans rfl
          have e3 := (cell_of_block r0 3).trans rfl
          have f0 := free_of_block r0 0
          have f1 := free_of_block r0 1
          have f2 := free_of_block r0 2
          have f3 := free_of_block r0 3
          have k0 := (cell_of_block E1 0).trans rfl
          have k1 := (cell_of_block E1 1).trans rfl
          have k2 := (cell_of_block E1 2).trans rfl
          have k3 := (cell_of_block E1 3).trans rfl
          clear r0 r1 E1
          obtain rfl := HEm.out
          go_wp2
          exact bodyPost_ret (v := .tuple #[.agg #[.int .i64 x, .string y, .int .i64 u, .slice ca kl cc], .int .i64 (m : Int)]) (by simp [results, Tryz.results66, go_sem, k0, k1, k2, k3]) rfl ⟨_, rfl, EE.out.1, EE.out.2⟩

end Go.Proofs.YtljnciclbjcinaaGreatDoor

namespace Go.Proofs.YtljnciclbjcinaaGreatDoor
open Go.ChangeShapes Go.WideShapes Go.ChangeAt Go.RowKit

theorem stk_sv {U : Nat → Int} : ∀ (k : Nat) (s : List Nat), stk U k = some s → sv U k = some s
  | 0, s, h => h
  | k + 1, s, h => by
    obtain ⟨t, ht⟩ := stk_up h (show k ≤ k + 1 by omega)
    have h1 := stk_sv k t ht
    unfold stk at h
    rw [ht] at h
    simp only at h
    rw [sv_next h1]
    split at h
    · simp at h
    · rename_i hn
      rw [if_neg (fun e => hn (Or.inl e))]
      exact h
theorem ups_good12 {L : List Nd} (h : goodT L = true) : 1 ≤ L.length ∧ L.length ≤ 40 ∧ ∃ s, stk (upAt L) (L.length - 1) = some s := by
  unfold goodT at h
  simp at h
  obtain ⟨⟨⟨a, b⟩, c⟩, d⟩ := h
  exact ⟨by omega, b, Option.isSome_iff_exists.1 c⟩
theorem good_shp {L : List Nd} (hG : goodT L = true) : shpV (upAt L) L.length = true := by
  obtain ⟨h1, _, s, hs⟩ := ups_good12 hG
  rw [shpV_sv h1, stk_sv _ _ hs]; rfl

/-- The parts of a value. -/
def kV (V : List Vn) (k : Nat) : List Nat := kto (vuAt V) k V.length
def RN (L : List Nd) (lo hi f : Nat) (w : World) (k : Nat) (sl : Value) : Prop := R4 (fun k => .int .i64 (kdAt L k)) (fun k => .int .i64 (nAt L k)) (fun k => .int .i64 (upAt L k)) (kidsOf L) lo hi f w k sl
def RV (V : List Vn) (lo hi f : Nat) (w : World) (k : Nat) (sl : Value) : Prop := R4 (fun k => .int .i64 (vnAt V k)) (fun k => .string (vtAt V k)) (fun k => .int .i64 (vuAt V k)) (kV V) lo hi f w k sl
theorem repN_RN {L : List Nd} (h : shpV (upAt L) L.length = true) {lo hi f : Nat} {w : World} {k : Nat} {sl : Value} (hk : k < L.length) (hr : RepN L lo hi f w k sl) : RN L lo hi f w k sl :=
  R4.same (n := L.length) (fun _ hj => kto_all h hj) (fun _ _ hi => (kto_mem.1 hi).1) hk hr
theorem repV_RV {V : List Vn} (h : shpV (vuAt V) V.length = true) {lo hi f : Nat} {w : World} {k : Nat} {sl : Value} (hk : k < V.length) (hr : RepV V lo hi f w k sl) : RV V lo hi f w k sl :=
  R4.same (n := V.length) (fun _ hj => kto_all h hj) (fun _ _ hi => (kto_mem.1 hi).1) hk hr

theorem treeAt0N (L : List Nd) (h100 : L.length ≤ 100) (h0 : 0 < L.length) (b off cap : Nat) (w : World) (hb : b < w.heap.size) (hL : Hid (ndAt w b off L)) :
    Calls Tryz.prog 77 #[.slice (some ⟨b, off, none⟩) L.length cap, .int .i64 0] w fun e w' => ∃ (x : Int) (y : Int) (u : Int) (sa : Option Addr) (sn sc : Nat), e = .returned (.tuple #[.agg #[.int .i64 x, .int .i64 y, .int .i64 u, .slice sa sn sc], .int .i64 (nxt (upAt L) L.length 0 1 : Int)]) ∧
      (x = kdAt L 0 ∧ y = nAt L 0 ∧ u = upAt L 0 ∧ RepN L w.heap.size w'.heap.size L.length w' 0 (.slice sa sn sc)) ∧ Below w.heap.size w w' := by
  refine (implTreeN L h100 b off cap L.length 0 h0 (by omega) w hb hL).mono ?_
  rintro e w' ⟨sl, rfl, h1, h2⟩
  obtain ⟨sa, sn, sc, rfl⟩ := R4.form h1
  exact ⟨_, _, _, sa, sn, sc, rfl, ⟨rfl, rfl, rfl, h1⟩, h2⟩

set_option maxRecDepth 100000 in
set_option maxHeartbeats 1600000 in
theorem implTreeOfN (a : Option Addr) (b off cap : Nat) (L : List Nd) (w : World) (ha : Hid (L ≠ [] → a = some ⟨b, off, none⟩ ∧ b < w.heap.size)) (hL : Hid (ndAt w b off L)) (hlen : L.length ≤ 100) :
    Calls Tryz.prog 56 #[.slice a L.length cap] w fun e w' => ∃ (x : Int) (y : Int) (u : Int) (sa : Option Addr) (sn sc : Nat), e = .returned (.tuple #[.agg #[.int .i64 x, .int .i64 y, .int .i64 u, .slice sa sn sc], .bool (shpV (upAt L) L.length)]) ∧
      Hid (shpV (upAt L) L.length = true → x = kdAt L 0 ∧ y = nAt L 0 ∧ u = upAt L 0 ∧ RN L w.heap.size w'.heap.size L.length w' 0 (.slice sa sn sc)) ∧ Below w.heap.size w w' := by
  obtain ⟨R, hR⟩ : ∃ R, Hid (shpV (upAt L) L.length = R) := ⟨_, rfl⟩
  rw [hR.out]
  by_cases h0 : L.length = 0
  · obtain rfl : R = false := by rw [← hR.out]; unfold shpV; simp [h0]
    rw [h0]
    go_enter Tryz.func56, Tryz.ntmps56
    go_wp2
    refine bodyPost_ret (v := .tuple #[.agg #[.int .i64 0, .int .i64 0, .int .i64 0, .slice none 0 0], .bool false]) (by simp [results, Tryz.results56, go_sem]) rfl ⟨0, 0, 0, none, 0, 0, rfl, fun h => by simp at h, ?_⟩
    (repeat (first | refine Below.alloc ?_ (by first | (simp; done) | (simp; omega)) _ | refine Below.setCell ?_ (by first | (simp; done) | (simp; omega)) _ | refine bel_dN ?_ _ | refine Below.drew ?_ | exact Below.refl _ _))
  · have hpos : 0 < L.length := by omega
    obtain ⟨rfl, hb⟩ := ha.out (fun h => by simp [h] at h0)
    obtain ⟨c0, c1, c2⟩ := hL.out 0 hpos
    simp only [Nat.zero_mul, Nat.add_zero] at c0 c1 c2
    have HU0 : Hid (upAt L 0 = L[0].2.2) := upAtN_get L 0 hpos
    obtain ⟨mx, hmx⟩ : ∃ x, L[0].1 = x := ⟨_, rfl⟩
    obtain ⟨my, hmy⟩ : ∃ y, L[0].2.1 = y := ⟨_, rfl⟩
    obtain ⟨mu, hmu⟩ : ∃ y, L[0].2.2 = y := ⟨_, rfl⟩
    rw [hmx] at c0
    rw [hmy] at c1
    rw [hmu] at c2 HU0
    clear hmx hmy hmu
    have hmeth : ∀ w : World, (method 359 54 (.agg #[.int .i64 mx, .int .i64 my, .int .i64 mu]) "loop.example/g00209/impl.upNode").run Tryz.prog w = .ok (189, .agg #[.int .i64 mx, .int .i64 my, .int .i64 mu]) w := fun _ => by kernel_rfl
    have HUp := upOfN mx my mu
    have h00 : ((L.length : Int) == 0) = false := by rw [beq_eq_false_iff_ne]; omega
    have HAT : Hid (∀ W, Below w.heap.size w W → Calls Tryz.prog 77 #[.slice (some ⟨b, off, none⟩) L.length cap, .int .i64 0] W fun e w' => ∃ (x : Int) (y : Int) (u : Int) (sa : Option Addr) (sn sc : Nat), e = .returned (.tuple #[.agg #[.int .i64 x, .int .i64 y, .int .i64 u, .slice sa sn sc], .int .i64 (nxt (upAt L) L.length 0 1 : Int)]) ∧
      (x = kdAt L 0 ∧ y = nAt L 0 ∧ u = upAt L 0 ∧ RepN L W.heap.size w'.heap.size L.length w' 0 (.slice sa sn sc)) ∧ Below W.heap.size W w') := fun W hW => treeAt0N L hlen hpos b off cap W (Nat.lt_of_lt_of_le hb hW.size) (hL.out.below hW hb)
    obtain ⟨n, hn⟩ : ∃ n, L.length = n := ⟨_, rfl⟩
    have HN : Hid (L.length = n) := hn
    rw [hn] at h00 hpos HAT hR hlen ⊢
    clear hn h0
    have hal : ∀ o, Below w.heap.size w (w.alloc o) := fun o => (Below.refl _ _).alloc (Nat.le_refl _) o
    have HZ : Hid (∀ o, (w.alloc o).heap.size = w.heap.size + 1 ∧ Below w.heap.size w (w.alloc o)) := fun o => ⟨by simp, hal o⟩
    clear hal
    by_cases hu : mu = -1
    · subst hu
      go_enter Tryz.func56, Tryz.ntmps56
      go_wp2_with fail
      refine (HUp _).mono ?_
      rintro e w1 ⟨rfl, hb1⟩
      clear HUp hmeth c0 c1 c2
      have r0 : w1.heap[w.heap.size]? = some (.cells #[.int .i64 0, .int .i64 0, .int .i64 0, .slice none 0 0] 61 (0, 0)) := (hb1.block _ (by rw [(HZ.out _).1]; omega)).trans (heap_alloc_new _ _)
      have hbw : Below w.heap.size w w1 := (HZ.out _).2.trans (hb1.mono (by rw [(HZ.out _).1]; omega))
      have HAT1 := HAT.out w1 hbw
      have hl1 := lt_of_block r0
      clear hb1 HAT
      go_wp2_with fail
      refine HAT1.mono ?_
      rintro e w2 ⟨x, y, u, sa, sn, sc, rfl, hrep, hb2⟩
      clear HAT1
      have r2 := (hb2.block _ hl1).trans r0
      have hbw2 := below2 hbw hb2
      have hl2 : w.heap.size < w2.heap.size := Nat.lt_of_lt_of_le hl1 hb2.size
      obtain ⟨E, hE⟩ : ∃ E, nxt (upAt L) n 0 1 = E := ⟨_, rfl⟩
      rw [hE]
      have HRE : Hid (R = ((E : Int) == (n : Int))) := by
        unfold Hid
        rw [← hR.out]
        unfold shpV
        rw [HU0.out, hE]
        have h1 : (1 : Nat) ≤ n := hpos
        simp [h1]
        by_cases e9 : E = n
        · simp [e9]
        · have : ¬ (E : Int) = (n : Int) := by omega
          simp [e9, this]
      obtain ⟨B, hB⟩ : ∃ B, ((E : Int) == (n : Int)) = B := ⟨_, rfl⟩
      rw [hB] at HRE
      have HREP : Hid (R = true → x = kdAt L 0 ∧ y = nAt L 0 ∧ u = upAt L 0 ∧ RN L w1.heap.size w2.heap.size n w2 0 (.slice sa sn sc)) := fun h => by
        have hs : shpV (upAt L) L.length = true := by rw [HN.out, hR.out]; exact h
        exact ⟨hrep.1, hrep.2.1, hrep.2.2.1, repN_RN hs (by rw [HN.out]; exact hpos) hrep.2.2.2⟩
      clear hrep hE
      obtain ⟨H, hH⟩ : ∃ H, w2.alloc (.cells #[.int .i64 x, .int .i64 y, .int .i64 u, .slice sa sn sc] 61) = H := ⟨_, rfl⟩
      have rH : H.heap[w.heap.size]? = some (.cells #[.int .i64 0, .int .i64 0, .int .i64 0, .slice none 0 0] 61 (0, 0)) := by rw [← hH]; exact (Below.heap_alloc _ _ _ hl2).trans r2
      have rH2 : H.heap[w2.heap.size]? = some (.cells #[.int .i64 x, .int .i64 y, .int .i64 u, .slice sa sn sc] 61 (0, 0)) := by rw [← hH]; exact heap_alloc_new _ _
      have bH : Below w.heap.size w H := by rw [← hH]; exact hbw2.alloc hbw2.size _
      have bH2 : Below w2.heap.size w2 H := by rw [← hH]; exact (Below.refl _ _).alloc (Nat.le_refl _) _
      obtain ⟨G, hG⟩ : ∃ G : World, (((H.setCell ⟨w.heap.size, 0, none⟩ (.int .i64 x)).setCell ⟨w.heap.size, 1, none⟩ (.int .i64 y)).setCell ⟨w.heap.size, 2, none⟩ (.int .i64 u)).setCell ⟨w.heap.size, 3, none⟩ (.slice sa sn sc) = G := ⟨_, rfl⟩
      obtain ⟨rG, hGo, hGs, hGb⟩ := set4 rH _ _ _ _ hG
      have HFIN : Hid (Below w.heap.size w G ∧ (R = true → x = kdAt L 0 ∧ y = nAt L 0 ∧ u = upAt L 0 ∧ RN L w.heap.size G.heap.size n G 0 (.slice sa sn sc))) := by
        refine ⟨hGb _ _ (Nat.le_refl _) bH, fun h => ?_⟩
        obtain ⟨a1, a2, a3, a4⟩ := HREP.out h
        refine ⟨a1, a2, a3, R4.wide hbw.size (by have := bH2.size; omega) (R4.keep a4 fun g g1 g2 => ?_)⟩
        exact (hGo g (by omega)).trans (bH2.block g g2)
      have e0 := (cell_of_block rH 0).trans rfl
      have e1 := (cell_of_block rH 1).trans rfl
      have e2 := (cell_of_block rH 2).trans rfl
      have e3 := (cell_of_block rH 3).trans rfl
      have f0 := free_of_block rH 0
      have f1 := free_of_block rH 1
      have f2 := free_of_block rH 2
      have f3 := free_of_block rH 3
      have m0 := (cell_of_block rH2 0).trans rfl
      have m1 := (cell_of_block rH2 1).trans rfl
      have m2 := (cell_of_block rH2 2).trans rfl
      have m3 := (cell_of_block rH2 3).trans rfl
      have k0 := (cell_of_block rG 0).trans rfl
      have k1 := (cell_of_block rG 1).trans rfl
      have k2 := (cell_of_block rG 2).trans rfl
      have k3 := (cell_of_block rG 3).trans rfl
      clear rH rH2 rG hGo hGs hGb bH bH2 hbw2 r2
      go_wp2
      refine bodyPost_ret (v := .tuple #[.agg #[.int .i64 x, .int .i64 y, .int .i64 u, .slice sa sn sc], .bool R]) ?_ rfl ⟨x, y, u, sa, sn, sc, rfl, HFIN.out.2, HFIN.out.1⟩
      rw [HRE.out]
      simp [results, Tryz.results56, go_sem, k0, k1, k2, k3]
    · have hub : (mu == -1) = false := by simp; exact hu
      obtain rfl : R = false := by
        rw [← hR.out]; unfold shpV; rw [HU0.out]; simp [hu]
      go_enter Tryz.func56, Tryz.ntmps56
      go_wp2_with fail
      refine (HUp _).mono ?_
      rintro e w1 ⟨rfl, hb1⟩
      clear HUp hmeth c0 c1 c2
      have r0 : w1.heap[w.heap.size]? = some (.cells #[.int .i64 0, .int .i64 0, .int .i64 0, .slice none 0 0] 61 (0, 0)) := (hb1.block _ (by rw [(HZ.out _).1]; omega)).trans (heap_alloc_new _ _)
      have hbw : Below w.heap.size w w1 := (HZ.out _).2.trans (hb1.mono (by rw [(HZ.out _).1]; omega))
      have e0 := (cell_of_block r0 0).trans rfl
      have e1 := (cell_of_block r0 1).trans rfl
      have e2 := (cell_of_block r0 2).trans rfl
      have e3 := (cell_of_block r0 3).trans rfl
      have f0 := free_of_block r0 0
      have f1 := free_of_block r0 1
      have f2 := free_of_block r0 2
      have f3 := free_of_block r0 3
      obtain ⟨G, hG⟩ : ∃ G : World, (((w1.setCell ⟨w.heap.size, 0, none⟩ (.int .i64 0)).setCell ⟨w.heap.size, 1, none⟩ (.int .i64 0)).setCell ⟨w.heap.size, 2, none⟩ (.int .i64 0)).setCell ⟨w.heap.size, 3, none⟩ (.slice none 0 0) = G := ⟨_, rfl⟩
      obtain ⟨rG, _, _, hGb⟩ := set4 r0 _ _ _ _ hG
      have bG := hGb _ _ (Nat.le_refl _) hbw
      have k0 := (cell_of_block rG 0).trans rfl
      have k1 := (cell_of_block rG 1).trans rfl
      have k2 := (cell_of_block rG 2).trans rfl
      have k3 := (cell_of_block rG 3).trans rfl
      clear rG hGb r0
      go_wp2
      exact bodyPost_ret (v := .tuple #[.agg #[.int .i64 0, .int .i64 0, .int .i64 0, .slice none 0 0], .bool false]) (by simp [results, Tryz.results56, go_sem, k0, k1, k2, k3]) rfl ⟨0, 0, 0, none, 0, 0, rfl, fun h => by simp at h, bG⟩

theorem treeAt0V (L : List Vn) (h100 : L.length ≤ 100) (h0 : 0 < L.length) (b off cap : Nat) (w : World) (hb : b < w.heap.size) (hL : Hid (vlAt w b off L)) :
    Calls Tryz.prog 66 #[.slice (some ⟨b, off, none⟩) L.length cap, .int .i64 0] w fun e w' => ∃ (x : Int) (y : ByteArray) (u : Int) (sa : Option Addr) (sn sc : Nat), e = .returned (.tuple #[.agg #[.int .i64 x, .string y, .int .i64 u, .slice sa sn sc], .int .i64 (nxt (vuAt L) L.length 0 1 : Int)]) ∧
      (x = vnAt L 0 ∧ y = vtAt L 0 ∧ u = vuAt L 0 ∧ RepV L w.heap.size w'.heap.size L.length w' 0 (.slice sa sn sc)) ∧ Below w.heap.size w w' := by
  refine (implTreeV L h100 b off cap L.length 0 h0 (by omega) w hb hL).mono ?_
  rintro e w' ⟨sl, rfl, h1, h2⟩
  obtain ⟨sa, sn, sc, rfl⟩ := R4.form h1
  exact ⟨_, _, _, sa, sn, sc, rfl, ⟨rfl, rfl, rfl, h1⟩, h2⟩

set_option maxRecDepth 100000 in
set_option maxHeartbeats 1600000 in
theorem implTreeOfV (a : Option Addr) (b off cap : Nat) (L : List Vn) (w : World) (ha : Hid (L ≠ [] → a = some ⟨b, off, none⟩ ∧ b < w.heap.size)) (hL : Hid (vlAt w b off L)) (hlen : L.length ≤ 100) :
    Calls Tryz.prog 43 #[.slice a L.length cap] w fun e w' => ∃ (x : Int) (y : ByteArray) (u : Int) (sa : Option Addr) (sn sc : Nat), e = .returned (.tuple #[.agg #[.int .i64 x, .string y, .int .i64 u, .slice sa sn sc], .bool (shpV (vuAt L) L.length)]) ∧
      Hid (shpV (vuAt L) L.length = true → x = vnAt L 0 ∧ y = vtAt L 0 ∧ u = vuAt L 0 ∧ RV L w.heap.size w'.heap.size L.length w' 0 (.slice sa sn sc)) ∧ Below w.heap.size w w' := by
  obtain ⟨R, hR⟩ : ∃ R, Hid (shpV (vuAt L) L.length = R) := ⟨_, rfl⟩
  rw [hR.out]
  by_cases h0 : L.length = 0
  · obtain rfl : R = false := by rw [← hR.out]; unfold shpV; simp [h0]
    rw [h0]
    go_enter Tryz.func43, Tryz.ntmps43
    go_wp2
    refine bodyPost_ret (v := .tuple #[.agg #[.int .i64 0, .string ⟨#[]⟩, .int .i64 0, .slice none 0 0], .bool false]) (by simp [results, Tryz.results43, go_sem]) rfl ⟨0, ⟨#[]⟩, 0, none, 0, 0, rfl, fun h => by simp at h, ?_⟩
    (repeat (first | refine Below.alloc ?_ (by first | (simp; done) | (simp; omega)) _ | refine Below.setCell ?_ (by first | (simp; done) | (simp; omega)) _ | refine bel_dN ?_ _ | refine Below.drew ?_ | exact Below.refl _ _))
  · have hpos : 0 < L.length := by omega
    obtain ⟨rfl, hb⟩ := ha.out (fun h => by simp [h] at h0)
    obtain ⟨c0, c1, c2⟩ := hL.out 0 hpos
    simp only [Nat.zero_mul, Nat.add_zero] at c0 c1 c2
    have HU0 : Hid (vuAt L 0 = L[0].2.2) := vuAt_get L 0 hpos
    obtain ⟨mx, hmx⟩ : ∃ x, L[0].1 = x := ⟨_, rfl⟩
    obtain ⟨my, hmy⟩ : ∃ y, L[0].2.1 = y := ⟨_, rfl⟩
    obtain ⟨mu, hmu⟩ : ∃ y, L[0].2.2 = y := ⟨_, rfl⟩
    rw [hmx] at c0
    rw [hmy] at c1
    rw [hmu] at c2 HU0
    clear hmx hmy hmu
    have hmeth : ∀ w : World, (method 359 57 (.agg #[.int .i64 mx, .string my, .int .i64 mu]) "loop.example/g00209/impl.upNode").run Tryz.prog w = .ok (190, .agg #[.int .i64 mx, .string my, .int .i64 mu]) w := fun _ => by kernel_rfl
    have HUp := upOfV mx my mu
    have h00 : ((L.length : Int) == 0) = false := by rw [beq_eq_false_iff_ne]; omega
    have HAT : Hid (∀ W, Below w.heap.size w W → Calls Tryz.prog 66 #[.slice (some ⟨b, off, none⟩) L.length cap, .int .i64 0] W fun e w' => ∃ (x : Int) (y : ByteArray) (u : Int) (sa : Option Addr) (sn sc : Nat), e = .returned (.tuple #[.agg #[.int .i64 x, .string y, .int .i64 u, .slice sa sn sc], .int .i64 (nxt (vuAt L) L.length 0 1 : Int)]) ∧
      (x = vnAt L 0 ∧ y = vtAt L 0 ∧ u = vuAt L 0 ∧ RepV L W.heap.size w'.heap.size L.length w' 0 (.slice sa sn sc)) ∧ Below W.heap.size W w') := fun W hW => treeAt0V L hlen hpos b off cap W (Nat.lt_of_lt_of_le hb hW.size) (hL.out.below hW hb)
    obtain ⟨n, hn⟩ : ∃ n, L.length = n := ⟨_, rfl⟩
    have HN : Hid (L.length = n) := hn
    rw [hn] at h00 hpos HAT hR hlen ⊢
    clear hn h0
    have hal : ∀ o, Below w.heap.size w (w.alloc o) := fun o => (Below.refl _ _).alloc (Nat.le_refl _) o
    have HZ : Hid (∀ o, (w.alloc o).heap.size = w.heap.size + 1 ∧ Below w.heap.size w (w.alloc o)) := fun o => ⟨by simp, hal o⟩
    clear hal
    by_cases hu : mu = -1
    · subst hu
      go_enter Tryz.func43, Tryz.ntmps43
      go_wp2_with fail
      refine (HUp _).mono ?_
      rintro e w1 ⟨rfl, hb1⟩
      clear HUp hmeth c0 c1 c2
      have r0 : w1.heap[w.heap.size]? = some (.cells #[.int .i64 0, .string ⟨#[]⟩, .int .i64 0, .slice none 0 0] 64 (0, 0)) := (hb1.block _ (by rw [(HZ.out _).1]; omega)).trans (heap_alloc_new _ _)
      have hbw : Below w.heap.size w w1 := (HZ.out _).2.trans (hb1.mono (by rw [(HZ.out _).1]; omega))
      have HAT1 := HAT.out w1 hbw
      have hl1 := lt_of_block r0
      clear hb1 HAT
      go_wp2_with fail
      refine HAT1.mono ?_
      rintro e w2 ⟨x, y, u, sa, sn, sc, rfl, hrep, hb2⟩
      clear HAT1
      have r2 := (hb2.block _ hl1).trans r0
      have hbw2 := below2 hbw hb2
      have hl2 : w.heap.size < w2.heap.size := Nat.lt_of_lt_of_le hl1 hb2.size
      obtain ⟨E, hE⟩ : ∃ E, nxt (vuAt L) n 0 1 = E := ⟨_, rfl⟩
      rw [hE]
      have HRE : Hid (R = ((E : Int) == (n : Int))) := by
        unfold Hid
        rw [← hR.out]
        unfold shpV
        rw [HU0.out, hE]
        have h1 : (1 : Nat) ≤ n := hpos
        simp [h1]
        by_cases e9 : E = n
        · simp [e9]
        · have : ¬ (E : Int) = (n : Int) := by omega
          simp [e9, this]
      obtain ⟨B, hB⟩ : ∃ B, ((E : Int) == (n : Int)) = B := ⟨_, rfl⟩
      rw [hB] at HRE
      have HREP : Hid (R = true → x = vnAt L 0 ∧ y = vtAt L 0 ∧ u = vuAt L 0 ∧ RV L w1.heap.size w2.heap.size n w2 0 (.slice sa sn sc)) := fun h => by
        have hs : shpV (vuAt L) L.length = true := by rw [HN.out, hR.out]; exact h
        exact ⟨hrep.1, hrep.2.1, hrep.2.2.1, repV_RV hs (by rw [HN.out]; exact hpos) hrep.2.2.2⟩
      clear hrep hE
      obtain ⟨H, hH⟩ : ∃ H, w2.alloc (.cells #[.int .i64 x, .string y, .int .i64 u, .slice sa sn sc] 64) = H := ⟨_, rfl⟩
      have rH : H.heap[w.heap.size]? = some (.cells #[.int .i64 0, .string ⟨#[]⟩, .int .i64 0, .slice none 0 0] 64 (0, 0)) := by rw [← hH]; exact (Below.heap_alloc _ _ _ hl2).trans r2
      have rH2 : H.heap[w2.heap.size]? = some (.cells #[.int .i64 x, .string y, .int .i64 u, .slice sa sn sc] 64 (0, 0)) := by rw [← hH]; exact heap_alloc_new _ _
      have bH : Below w.heap.size w H := by rw [← hH]; exact hbw2.alloc hbw2.size _
      have bH2 : Below w2.heap.size w2 H := by rw [← hH]; exact (Below.refl _ _).alloc (Nat.le_refl _) _
      obtain ⟨G, hG⟩ : ∃ G : World, (((H.setCell ⟨w.heap.size, 0, none⟩ (.int .i64 x)).setCell ⟨w.heap.size, 1, none⟩ (.string y)).setCell ⟨w.heap.size, 2, none⟩ (.int .i64 u)).setCell ⟨w.heap.size, 3, none⟩ (.slice sa sn sc) = G := ⟨_, rfl⟩
      obtain ⟨rG, hGo, hGs, hGb⟩ := set4 rH _ _ _ _ hG
      have HFIN : Hid (Below w.heap.size w G ∧ (R = true → x = vnAt L 0 ∧ y = vtAt L 0 ∧ u = vuAt L 0 ∧ RV L w.heap.size G.heap.size n G 0 (.slice sa sn sc))) := by
        refine ⟨hGb _ _ (Nat.le_refl _) bH, fun h => ?_⟩
        obtain ⟨a1, a2, a3, a4⟩ := HREP.out h
        refine ⟨a1, a2, a3, R4.wide hbw.size (by have := bH2.size; omega) (R4.keep a4 fun g g1 g2 => ?_)⟩
        exact (hGo g (by omega)).trans (bH2.block g g2)
      have e0 := (cell_of_block rH 0).trans rfl
      have e1 := (cell_of_block rH 1).trans rfl
      have e2 := (cell_of_block rH 2).trans rfl
      have e3 := (cell_of_block rH 3).trans rfl
      have f0 := free_of_block rH 0
      have f1 := free_of_block rH 1
      have f2 := free_of_block rH 2
      have f3 := free_of_block rH 3
      have m0 := (cell_of_block rH2 0).trans rfl
      have m1 := (cell_of_block rH2 1).trans rfl
      have m2 := (cell_of_block rH2 2).trans rfl
      have m3 := (cell_of_block rH2 3).trans rfl
      have k0 := (cell_of_block rG 0).trans rfl
      have k1 := (cell_of_block rG 1).trans rfl
      have k2 := (cell_of_block rG 2).trans rfl
      have k3 := (cell_of_block rG 3).trans rfl
      clear rH rH2 rG hGo hGs hGb bH bH2 hbw2 r2
      go_wp2
      refine bodyPost_ret (v := .tuple #[.agg #[.int .i64 x, .string y, .int .i64 u, .slice sa sn sc], .bool R]) ?_ rfl ⟨x, y, u, sa, sn, sc, rfl, HFIN.out.2, HFIN.out.1⟩
      rw [HRE.out]
      simp [results, Tryz.results43, go_sem, k0, k1, k2, k3]
    · have hub : (mu == -1) = false := by simp; exact hu
      obtain rfl : R = false := by
        rw [← hR.out]; unfold shpV; rw [HU0.out]; simp [hu]
      go_enter Tryz.func43, Tryz.ntmps43
      go_wp2_with fail
      refine (HUp _).mono ?_
      rintro e w1 ⟨rfl, hb1⟩
      clear HUp hmeth c0 c1 c2
      have r0 : w1.heap[w.heap.size]? = some (.cells #[.int .i64 0, .string ⟨#[]⟩, .int .i64 0, .slice none 0 0] 64 (0, 0)) := (hb1.block _ (by rw [(HZ.out _).1]; omega)).trans (heap_alloc_new _ _)
      have hbw : Below w.heap.size w w1 := (HZ.out _).2.trans (hb1.mono (by rw [(HZ.out _).1]; omega))
      have e0 := (cell_of_block r0 0).trans rfl
      have e1 := (cell_of_block r0 1).trans rfl
      have e2 := (cell_of_block r0 2).trans rfl
      have e3 := (cell_of_block r0 3).trans rfl
      have f0 := free_of_block r0 0
      have f1 := free_of_block r0 1
      have f2 := free_of_block r0 2
      have f3 := free_of_block r0 3
      obtain ⟨G, hG⟩ : ∃ G : World, (((w1.setCell ⟨w.heap.size, 0, none⟩ (.int .i64 0)).setCell ⟨w.heap.size, 1, none⟩ (.string ⟨#[]⟩)).setCell ⟨w.heap.size, 2, none⟩ (.int .i64 0)).setCell ⟨w.heap.size, 3, none⟩ (.slice none 0 0) = G := ⟨_, rfl⟩
      obtain ⟨rG, _, _, hGb⟩ := set4 r0 _ _ _ _ hG
      have bG := hGb _ _ (Nat.le_refl _) hbw
      have k0 := (cell_of_block rG 0).trans rfl
      have k1 := (cell_of_block rG 1).trans rfl
      have k2 := (cell_of_block rG 2).trans rfl
      have k3 := (cell_of_block rG 3).trans rfl
      clear rG hGb r0
      go_wp2
      exact bodyPost_ret (v := .tuple #[.agg #[.int .i64 0, .string ⟨#[]⟩, .int .i64 0, .slice none 0 0], .bool false]) (by simp [results, Tryz.results43, go_sem, k0, k1, k2, k3]) rfl ⟨0, ⟨#[]⟩, 0, none, 0, 0, rfl, fun h => by simp at h, bG⟩

end Go.Proofs.YtljnciclbjcinaaGreatDoor

namespace Go.Proofs.YtljnciclbjcinaaGreatDoor
open Go.ChangeShapes Go.WideShapes Go.ChangeAt Go.RowKit

def S3 (L : List Nd) (lo hi f : Nat) (w : World) (k : Nat) (sl : Value) : Prop := R3 (fun k => .int .i64 (kdAt L k)) (fun k => .int .i64 (nAt L k)) (kidsOf L) lo hi f w k sl
def S3v (V : List Vn) (lo hi f : Nat) (w : World) (k : Nat) (sl : Value) : Prop := R3 (fun k => .int .i64 (vnAt V k)) (fun k => .string (vtAt V k)) (kV V) lo hi f w k sl

set_option maxRecDepth 100000 in
set_option maxHeartbeats 6400000 in
theorem specTreeC (L : List Nd) (h40 : L.length ≤ 40) (b off cap : Nat) : ∀ (f k : Nat), k < L.length → L.length - k ≤ f → ∀ w : World, b < w.heap.size → ndAt w b off L →
    Calls Tryz.prog 21 #[.slice (some ⟨b, off, none⟩) L.length cap, .int .i64 (k : Int)] w fun e w' => ∃ sl, e = .returned (.agg #[.int .i64 (kdAt L k), .int .i64 (nAt L k), sl]) ∧ S3 L w.heap.size w'.heap.size f w' k sl ∧ Below w.heap.size w w' := by
  intro f
  induction f with
  | zero => intro k hk hf; omega
  | succ f ih =>
    intro k hk hf w hb hL
    obtain ⟨i0, hi, hz0, hz1, hz2⟩ := info_parts Tryz.infoTr
    have IH : Hid (∀ j, j < L.length → L.length - j ≤ f → ∀ w : World, b < w.heap.size → ndAt w b off L →
      Calls Tryz.prog 21 #[.slice (some ⟨b, off, none⟩) L.length cap, .int .i64 (j : Int)] w fun e w' => ∃ sl, e = .returned (.agg #[.int .i64 (kdAt L j), .int .i64 (nAt L j), sl]) ∧ S3 L w.heap.size w'.heap.size f w' j sl ∧ Below w.heap.size w w') := ih
    clear ih
    have HL : Hid (ndAt w b off L) := hL
    obtain ⟨c0, c1, _⟩ := hL k hk
    rw [← kdAt_get L k hk] at c0
    rw [← nAt_get L k hk] at c1
    clear hL
    obtain ⟨x, hx⟩ : ∃ x, kdAt L k = x := ⟨_, rfl⟩
    obtain ⟨y, hy⟩ : ∃ y, nAt L k = y := ⟨_, rfl⟩
    rw [hx] at c0 ⊢
    rw [hy] at c1 ⊢
    go_enter Tryz.func21, Tryz.ntmps21
    go_wp2
    go_region
    obtain ⟨W1, hW1⟩ : ∃ W1, W1 = ((w.alloc (.cells #[.int .i64 0, .int .i64 0, .slice none 0 0] 47)).alloc (.cells #[.int .i64 x, .int .i64 y, .slice none 0 0] 47)).drew := ⟨_, rfl⟩
    rw [← hW1]
    have q0 : W1.heap[w.heap.size]? = some (.cells #[.int .i64 0, .int .i64 0, .slice none 0 0] 47 (0, 0)) := by rw [hW1]; exact (Below.heap_alloc _ _ _ (by simp)).trans (heap_alloc_new _ _)
    have q1 : W1.heap[w.heap.size + 1]? = some (.cells #[.int .i64 x, .int .i64 y, .slice none 0 0] 47 (0, 0)) := by
      rw [hW1]
      have e : w.heap.size + 1 = (w.alloc (.cells #[.int .i64 0, .int .i64 0, .slice none 0 0] 47)).heap.size := by simp
      rw [e]
      exact heap_alloc_new _ _
    have q2 : W1.heap.size = w.heap.size + 2 := by rw [hW1]; simp
    have q3 : Below w.heap.size w W1 := by rw [hW1]; exact ((((Below.refl _ _).alloc (Nat.le_refl _) _).alloc (by simp) _)).drew
    clear hW1 c0 c1
    have HQ := specParts b off cap L W1 (by omega) (HL.out.below q3 hb) (by omega) k hk
    go_wp2_with fail
    refine HQ.mono ?_
    rintro e w2 ⟨vk, rfl, hown, hb2⟩
    clear HQ
    obtain ⟨z, hz⟩ : ∃ z, w.heap.size + 1 = z := ⟨_, rfl⟩
    have r0 : w2.heap[w.heap.size]? = some (.cells #[.int .i64 0, .int .i64 0, .slice none 0 0] 47 (0, 0)) := (hb2.block _ (by omega)).trans q0
    have r1 : w2.heap[z]? = some (.cells #[.int .i64 x, .int .i64 y, .slice none 0 0] 47 (0, 0)) := by rw [← hz]; exact (hb2.block _ (by omega)).trans q1
    have r3 := below2 q3 hb2
    have hkb : ∀ g, vk.ownBlock = some g → w.heap.size + 2 ≤ g := fun g hg => by have := ownsRow_block hown g hg; omega
    obtain ⟨K, hK⟩ : ∃ K, kidsOf L k = K := ⟨_, rfl⟩
    have hKL : K.length ≤ 40 := by rw [← hK]; exact Nat.le_trans (kids_le L k) h40
    have hKm : Hid (∀ j ∈ K, k < j ∧ j < L.length) := fun j hj => kids_mem (by rw [hK]; exact hj)
    rw [hK] at hown
    obtain ⟨ka, kc, rfl⟩ := ownsRow_shape hown
    have HKB : Hid (∀ g, (Value.slice ka K.length kc).ownBlock = some g → w.heap.size + 2 ≤ g) := hkb
    clear q0 q1 q2 q3 hkb hb2
    rw [hz]
    go_wp2
    go_loopw [23] (fun i wr => ∃ (m : Nat) (cur : Value) (xs : List Value), m ≤ K.length ∧ i = .int .i64 (m : Int) ∧ wr.heap[w.heap.size]? = some (.cells #[.int .i64 0, .int .i64 0, .slice none 0 0] 47 (0, 0)) ∧ wr.heap[z]? = some (.cells #[.int .i64 x, .int .i64 y, cur] 47 (0, 0)) ∧
      wr.ownsRow (w.heap.size + 2) 47 3 cur m xs ∧ wr.ownsRow (w.heap.size + 2) 3 1 (.slice ka K.length kc) K.length (nv K) ∧
      Hid (∀ i (h : i < K.length), i < m → ∃ lo hi sl', w.heap.size + 2 ≤ lo ∧ hi ≤ wr.heap.size ∧ xs[i * 3]? = some (.int .i64 (kdAt L K[i])) ∧ xs[i * 3 + 1]? = some (.int .i64 (nAt L K[i])) ∧ xs[i * 3 + 2]? = some sl' ∧ S3 L lo hi f wr K[i] sl' ∧ (∀ g, cur.ownBlock = some g → ¬ (lo ≤ g ∧ g < hi))) ∧ Below w.heap.size w wr) (fun i _ => K.length - (intOf i).toNat)
    case atStart =>
      refine ⟨0, .slice none 0 0, [], by omega, rfl, r0, r1, World.ownsRow_nil _ _ _ _, ⟨hown.1, ?_⟩, fun i _ h => absurd h (by omega), r3⟩
      rcases hown.2 with h | ⟨g, cap', cur, e1, e2, e3⟩
      · exact Or.inl h
      · exact Or.inr ⟨g, cap', cur, e1, HKB.out g (by rw [e1]; rfl), e3⟩
    case round =>
      clear r0 r1 r3 hown
      obtain ⟨m, cur, xs, hm, rfl, r0, r1, hrow, hown, hT, hnx⟩ := hrel
      have hsz := hnx.size
      have hzl := lt_of_block r1
      by_cases hlt : m < K.length
      · obtain ⟨gk, rfl, hgk⟩ : ∃ gk, ka = some ⟨gk, 0, none⟩ ∧ gk < wr.heap.size := by
          obtain ⟨g, c, e, _⟩ := own_pos hown (by omega)
          simp at e
          obtain ⟨cu, hcu, _⟩ := own_at hown (g := g) (by rw [e.1]; rfl)
          exact ⟨g, e.1, lt_of_block hcu⟩
        have hcm : wr.cell? ⟨gk, m, none⟩ = some (.int .i64 (K[m] : Int)) := (hown.cellAt m (by omega)).trans (by simp [nv, hlt])
        obtain ⟨hj1, hj2⟩ := hKm.out K[m] (List.getElem_mem hlt)
        obtain ⟨j, hj⟩ : ∃ j, K[m] = j := ⟨_, rfl⟩
        rw [hj] at hcm hj1 hj2
        have HJ : Hid (K[m] = j) := hj
        clear hj
        have hjf : L.length - j ≤ f := by omega
        obtain ⟨ca, cc, rfl⟩ := ownsRow_shape hrow
        go_wp2_with fail
        refine wa_begin (by kernel_rfl) ?_
        refine wa_take 0 (some 27) (.pointer (some ⟨z, 2, none⟩)) rfl rfl (by kernel_rfl) (by kernel_rfl) (by kernel_rfl) (fun _ _ _ h => h) (by rfl) (fun w' => by first | rfl | (go_simp; done)) ?_
        simp only [Act.put, List.setIfInBounds_toArray, List.set_cons_zero, List.set_cons_succ]
        refine wa_take 2 (some 29) (.slice (some ⟨b, off, none⟩) L.length cap) rfl rfl (by kernel_rfl) (by kernel_rfl) (by kernel_rfl) (fun _ _ _ h => h) (by rfl) (fun w' => by first | rfl | (go_simp; done)) ?_
        simp only [Act.put, List.setIfInBounds_toArray, List.set_cons_zero, List.set_cons_succ]
        refine wa_take 3 (some 30) (.int .i64 (j : Int)) rfl rfl (by kernel_rfl) (by kernel_rfl) (by kernel_rfl) (fun _ _ _ h => h) (by rfl) (fun w' => by first | rfl | (go_simp; done)) ?_
        simp only [Act.put, List.setIfInBounds_toArray, List.set_cons_zero, List.set_cons_succ]
        refine wa_first 1 (some 28) (.slice ca m cc) (fun w' => w'.heap[z]? = some (.cells #[.int .i64 x, .int .i64 y, .slice ca m cc] 47 (0, 0))) rfl rfl (by kernel_rfl) (by kernel_rfl) (by kernel_rfl) (fun _ _ _ h => h) (by rfl) (fun w' hS => by have q := (cell_of_block hS 2).trans rfl; first | rfl | (go_simp; done)) r1 ?_
        simp only [Act.put, List.setIfInBounds_toArray, List.set_cons_zero, List.set_cons_succ]
        refine wb_call 4 (some 31) 21 #[.slice (some ⟨b, off, none⟩) L.length cap, .int .i64 (j : Int)] (by kernel_rfl) (by kernel_rfl) rfl rfl (by rfl) (by kernel_rfl) ?_
        refine (IH.out j hj2 hjf wr.drew (Nat.lt_of_lt_of_le hb hsz) (HL.out.below hnx.drew hb)).mono ?_
        rintro e V1 ⟨sl, rfl, htr, hb1⟩
        have hb1' : Below wr.heap.size wr V1 := ⟨hb1.os, hb1.tape, hb1.output, hb1.size, hb1.block⟩
        have hV1 := hb1'.size
        have s1 : V1.heap[z]? = some (.cells #[.int .i64 x, .int .i64 y, .slice ca m cc] 47 (0, 0)) := (hb1'.block z hzl).trans r1
        refine ⟨_, rfl, s1, ?_⟩
        simp only [Act.put, List.setIfInBounds_toArray, List.set_cons_zero, List.set_cons_succ]
        have s2 : (V1.alloc (.cells #[.int .i64 (kdAt L j), .int .i64 (nAt L j), sl] 47)).heap[z]? = some (.cells #[.int .i64 x, .int .i64 y, .slice ca m cc] 47 (0, 0)) := (Below.heap_alloc _ _ _ (lt_of_block s1)).trans s1
        refine wb_val 5 (some 32) (.slice (some ⟨V1.heap.size, 0, none⟩) 1 1) (V1.alloc (.cells #[.int .i64 (kdAt L j), .int .i64 (nAt L j), sl] 47)) (by kernel_rfl) (by kernel_rfl) rfl rfl (by rfl) (by first | rfl | go_simp) s2 ?_
        simp only [Act.put, List.setIfInBounds_toArray, List.set_cons_zero, List.set_cons_succ]
        have hrow1 : (V1.alloc (.cells #[.int .i64 (kdAt L j), .int .i64 (nAt L j), sl] 47)).ownsRow (w.heap.size + 2) 47 3 (.slice ca m cc) m xs := (own_keep hrow fun g hg => by
          obtain ⟨cu, hcu, _⟩ := own_at hrow hg
          exact hb1'.block g (lt_of_block hcu)).alloc _
        have hcl : ∀ c, (Value.slice ca m cc).ownBlock = some c → c < wr.heap.size ∧ w.heap.size + 2 ≤ c := fun c hc => by
          obtain ⟨cu, hcu, h2⟩ := own_at hrow hc
          exact ⟨lt_of_block hcu, h2⟩
        obtain ⟨v', w5, hrun, hown5, hgrow5, _, hloc⟩ := run_append_own_at (P := Tryz.prog) (V1.alloc (.cells #[.int .i64 (kdAt L j), .int .i64 (nAt L j), sl] 47)) (w.heap.size + 2) 45 45 47 i0 (.agg #[.int .i64 0, .int .i64 0, .slice none 0 0]) 3 40 Tryz.underlying45 hi hz0 hz1 hz2 rfl (by decide) _ _ _ hrow1 ⟨V1.heap.size, 0, none⟩ 1 1 [.int .i64 (kdAt L j), .int .i64 (nAt L j), sl] rfl (tri_new _ _ _ _ _) (by intro u hu; simp at hu; rcases hu with rfl | rfl | rfl; rfl; rfl; obtain ⟨_, _, _, rfl⟩ := R3.form htr; rfl) (by unfold maxLen; omega) (by omega) (by simp; omega)
        obtain ⟨va, vc, rfl⟩ := ownsRow_shape hown5
        have KEEP : ∀ g, g < V1.heap.size → (∀ c, (Value.slice ca m cc).ownBlock = some c → g ≠ c) → w5.heap[g]? = V1.heap[g]? := fun g hg hne => by
          rw [hgrow5.block g (by simp; omega) (fun e => hne g e.symm rfl)]
          exact Below.heap_alloc _ _ _ hg
        refine wb_leave_val 6 (some 33) (.slice va (m + 1) vc) w5 (by kernel_rfl) (by kernel_rfl) rfl rfl (by rfl) (by simp [execOp, resolve, invoke, builtin, Act.eval, hrun, Result.andThen]) ?_
        simp only [Act.put, List.setIfInBounds_toArray, List.set_cons_zero, List.set_cons_succ]
        have s5 : w5.heap[z]? = some (.cells #[.int .i64 x, .int .i64 y, .slice ca m cc] 47 (0, 0)) := (KEEP z (by omega) (fun c hc => by have := (hcl c hc).2; omega)).trans s1
        have g2 := (cell_of_block s5 2).trans rfl
        have f2 := free_of_block s5 2
        refine wa_val 7 (some 34) (.pointer (some ⟨z, 2, none⟩)) w5 (by kernel_rfl) rfl rfl (by rfl) (by first | rfl | go_simp) ?_
        simp only [Act.put, List.setIfInBounds_toArray, List.set_cons_zero, List.set_cons_succ]
        refine wa_store 8 none (w5.setCell ⟨z, 2, none⟩ (.slice va (m + 1) vc)) (by kernel_rfl) rfl rfl (by rfl) (by first | rfl | (go_simp; done)) ?_
        simp only [Act.put]
        refine wa_done (by kernel_rfl) ?_
        have hW9 : ∀ g, g < V1.heap.size → g ≠ z → (∀ c, (Value.slice ca m cc).ownBlock = some c → g ≠ c) → (w5.setCell ⟨z, 2, none⟩ (.slice va (m + 1) vc)).heap[g]? = V1.heap[g]? := fun g h1 h2 h3 => (heap_setCell_other _ _ _ _ (by simpa using h2)).trans (KEEP g h1 h3)
        have t0 : (w5.setCell ⟨z, 2, none⟩ (.slice va (m + 1) vc)).heap[w.heap.size]? = some (.cells #[.int .i64 0, .int .i64 0, .slice none 0 0] 47 (0, 0)) := (hW9 _ (by omega) (by omega) (fun c hc => by have := (hcl c hc).2; omega)).trans ((hb1'.block _ (by omega)).trans r0)
        have t1 : (w5.setCell ⟨z, 2, none⟩ (.slice va (m + 1) vc)).heap[z]? = some (.cells #[.int .i64 x, .int .i64 y, .slice va (m + 1) vc] 47 (0, 0)) := by rw [heap_setCell_same _ _ _ _ _ _ s5]; rfl
        have t2 : (w5.setCell ⟨z, 2, none⟩ (.slice va (m + 1) vc)).ownsRow (w.heap.size + 2) 47 3 (.slice va (m + 1) vc) (m + 1) (xs ++ [.int .i64 (kdAt L j), .int .i64 (nAt L j), sl]) := own_keep hown5 fun g hg => heap_setCell_other _ _ _ _ (by have := ownsRow_block hown5 g hg; simp; omega)
        have t3 : (w5.setCell ⟨z, 2, none⟩ (.slice va (m + 1) vc)).ownsRow (w.heap.size + 2) 3 1 (.slice (some ⟨gk, 0, none⟩) K.length kc) K.length (nv K) := own_keep hown fun g hg => by
          obtain ⟨cu, hcu, h2⟩ := own_at hown hg
          refine (hW9 g (by have := lt_of_block hcu; omega) (by omega) (fun c hc e => ?_)).trans (hb1'.block g (lt_of_block hcu))
          subst e
          obtain ⟨cu', hcu', _⟩ := own_at hrow hc
          exact apart_types hcu' hcu (by decide) rfl
        have t4 : Below w.heap.size w (w5.setCell ⟨z, 2, none⟩ (.slice va (m + 1) vc)) := (((below2 hnx hb1').alloc (by omega) _).grown hgrow5 (by simp; omega) (fun c hc => by have := (hcl c hc).2; omega)).setCell (by simp; omega) _
        have t5 : V1.heap.size < (w5.setCell ⟨z, 2, none⟩ (.slice va (m + 1) vc)).heap.size := by
          have := hgrow5.size
          simp at this ⊢
          omega
        have t6 : Hid (∀ i (h : i < K.length), i < m + 1 → ∃ lo hi sl', w.heap.size + 2 ≤ lo ∧ hi ≤ (w5.setCell ⟨z, 2, none⟩ (.slice va (m + 1) vc)).heap.size ∧ (xs ++ [.int .i64 (kdAt L j), .int .i64 (nAt L j), sl])[i * 3]? = some (.int .i64 (kdAt L K[i])) ∧ (xs ++ [.int .i64 (kdAt L j), .int .i64 (nAt L j), sl])[i * 3 + 1]? = some (.int .i64 (nAt L K[i])) ∧ (xs ++ [.int .i64 (kdAt L j), .int .i64 (nAt L j), sl])[i * 3 + 2]? = some sl' ∧ S3 L lo hi f (w5.setCell ⟨z, 2, none⟩ (.slice va (m + 1) vc)) K[i] sl' ∧ (∀ g, (Value.slice va (m + 1) vc).ownBlock = some g → ¬ (lo ≤ g ∧ g < hi))) := fun i hi him => by
          rcases Nat.lt_or_ge i m with h | h
          · obtain ⟨lo, hh, sl', l1, l2, x1, x2, x3, tr, hne⟩ := hT.out i hi h
            refine ⟨lo, hh, sl', l1, by omega, (row3_left hrow.1 h 0 (by omega)).trans x1, (row3_left hrow.1 h 1 (by omega)).trans x2, (row3_left hrow.1 h 2 (by omega)).trans x3, ?_, ?_⟩
            · refine R3.keep tr fun g g1 g2 => ?_
              exact (hW9 g (by omega) (by omega) (fun c hc e => hne c hc (by subst e; exact ⟨g1, g2⟩))).trans (hb1'.block g (by omega))
            · intro g hg
              rcases hloc with e | e
              · exact hne g (by rw [← e]; exact hg)
              · rw [hg] at e
                simp at e
                omega
          · have him' : i = m := by omega
            subst him'
            obtain ⟨x1, x2, x3⟩ := row3_right (x := .int .i64 (kdAt L j)) (y := .int .i64 (nAt L j)) (z := sl) hrow.1
            refine ⟨wr.heap.size, V1.heap.size, sl, by omega, by omega, by rw [HJ.out]; exact x1, by rw [HJ.out]; exact x2, x3, ?_, ?_⟩
            · rw [HJ.out]
              refine R3.keep htr fun g g1 g2 => ?_
              have g1' : wr.heap.size ≤ g := g1
              exact hW9 g g2 (by omega) (fun c hc e => by have := (hcl c hc).1; omega)
            · intro g hg
              rcases hloc with e | e
              · have := (hcl g (by rw [← e]; exact hg)).1
                omega
              · rw [hg] at e
                simp at e
                omega
        clear hW9 KEEP s1 s2 s5 g2 f2 hrun hown5 hgrow5 hloc hrow1 hcl htr hb1 hb1' hT hrow hown r0 r1 hcm
        go_wp2
        go_roundw
        case rel => exact ⟨m + 1, _, _, by omega, by go_num, t0, t1, t2, t3, t6, t4⟩
        case measure => simp [intOf]; omega
      · obtain rfl : m = K.length := by omega
        obtain ⟨ca, cc, rfl⟩ := ownsRow_shape hrow
        have d0 := (cell_of_block r1 0).trans rfl
        have d1 := (cell_of_block r1 1).trans rfl
        have d2 := (cell_of_block r1 2).trans rfl
        have e0 := (cell_of_block r0 0).trans rfl
        have e1 := (cell_of_block r0 1).trans rfl
        have e2 := (cell_of_block r0 2).trans rfl
        have f0 := free_of_block r0 0
        have f1 := free_of_block r0 1
        have f2 := free_of_block r0 2
        have Z9 : (((wr.setCell ⟨w.heap.size, 0, none⟩ (.int .i64 x)).setCell ⟨w.heap.size, 1, none⟩ (.int .i64 y)).setCell ⟨w.heap.size, 2, none⟩ (.slice ca K.length cc)).heap[w.heap.size]? = some (.cells #[.int .i64 x, .int .i64 y, .slice ca K.length cc] 47 (0, 0)) := by
          rw [heap_setCell_same _ _ _ _ _ _ (heap_setCell_same _ _ _ _ _ _ (heap_setCell_same _ _ _ _ _ _ r0))]
          rfl
        have k0 := (cell_of_block Z9 0).trans rfl
        have k1 := (cell_of_block Z9 1).trans rfl
        have k2 := (cell_of_block Z9 2).trans rfl
        have HO : ∀ g, g ≠ w.heap.size → (((wr.setCell ⟨w.heap.size, 0, none⟩ (.int .i64 x)).setCell ⟨w.heap.size, 1, none⟩ (.int .i64 y)).setCell ⟨w.heap.size, 2, none⟩ (.slice ca K.length cc)).heap[g]? = wr.heap[g]? := fun g hg => (heap_setCell_other _ _ _ _ (by simpa using hg)).trans ((heap_setCell_other _ _ _ _ (by simpa using hg)).trans (heap_setCell_other _ _ _ _ (by simpa using hg)))
        have HR : Hid (S3 L w.heap.size (((wr.setCell ⟨w.heap.size, 0, none⟩ (.int .i64 x)).setCell ⟨w.heap.size, 1, none⟩ (.int .i64 y)).setCell ⟨w.heap.size, 2, none⟩ (.slice ca K.length cc)).heap.size (f + 1) (((wr.setCell ⟨w.heap.size, 0, none⟩ (.int .i64 x)).setCell ⟨w.heap.size, 1, none⟩ (.int .i64 y)).setCell ⟨w.heap.size, 2, none⟩ (.slice ca K.length cc)) k (.slice ca K.length cc)) := by
          refine ⟨ca, cc, by rw [hK], by rw [hK]; exact own_cap hrow, ?_⟩
          rw [hK]
          intro j hj
          obtain ⟨lo, hh, sl', l1, l2, x1, x2, x3, tr, _⟩ := hT.out j hj hj
          obtain ⟨g, c, e, _⟩ := own_pos hrow (by omega)
          simp at e
          obtain ⟨rfl, _⟩ := e
          obtain ⟨cu, hcu, hgb⟩ := own_at hrow (g := g) rfl
          have hgl := lt_of_block hcu
          have hg := HO g (by omega)
          have hl := hrow.1
          refine ⟨g, 0, sl', rfl, by omega, by simpa using hgl, (cell_heap hg _).trans (by rw [Nat.zero_add]; exact (hrow.cellAt _ (by omega)).trans x1), (cell_heap hg _).trans (by rw [Nat.zero_add]; exact (hrow.cellAt _ (by omega)).trans x2), (cell_heap hg _).trans (by rw [Nat.zero_add]; exact (hrow.cellAt _ (by omega)).trans x3), ?_⟩
          exact R3.wide (by omega) (by simpa using l2) (R3.keep tr fun g g1 g2 => HO g (by omega))
        clear HO Z9 hT hrow hown
        go_wp2
        exact bodyPost_ret (v := .agg #[.int .i64 x, .int .i64 y, .slice ca K.length cc]) (by simp [results, Tryz.results21, go_sem, k0, k1, k2]) rfl ⟨_, rfl, HR.out, ((hnx.setCell (Nat.le_refl _) _).setCell (Nat.le_refl _) _).setCell (Nat.le_refl _) _⟩



end Go.Proofs.YtljnciclbjcinaaGreatDoor

namespace Go.Proofs.YtljnciclbjcinaaGreatDoor
open Go.ChangeShapes Go.WideShapes Go.ChangeAt Go.RowKit

theorem Tryz.infoTrV : (Tryz.prog.info? 51).map (fun i => (i.zero, i.size, i.bytes)) = some (some (.agg #[.int .i64 0, .string ⟨#[]⟩, .slice none 0 0]), 3, 48) := by kernel_rfl

set_option maxRecDepth 100000 in
set_option maxHeartbeats 800000 in
theorem specTreeV (L : List Vn) (h100 : L.length ≤ 100) (b off cap : Nat) : ∀ (f k : Nat), k < L.length → L.length - k ≤ f → ∀ w : World, b < w.heap.size → vlAt w b off L →
    Calls Tryz.prog 22 #[.slice (some ⟨b, off, none⟩) L.length cap, .int .i64 (k : Int)] w fun e w' => ∃ sl, e = .returned (.agg #[.int .i64 (vnAt L k), .string (vtAt L k), sl]) ∧ S3v L w.heap.size w'.heap.size f w' k sl ∧ Below w.heap.size w w' := by
  intro f
  induction f with
  | zero => intro k hk hf; omega
  | succ f ih =>
    intro k hk hf w hb hL
    obtain ⟨i0, hi, hz0, hz1, hz2⟩ := info_parts Tryz.infoTrV
    have IH : Hid (∀ j, j < L.length → L.length - j ≤ f → ∀ w : World, b < w.heap.size → vlAt w b off L →
      Calls Tryz.prog 22 #[.slice (some ⟨b, off, none⟩) L.length cap, .int .i64 (j : Int)] w fun e w' => ∃ sl, e = .returned (.agg #[.int .i64 (vnAt L j), .string (vtAt L j), sl]) ∧ S3v L w.heap.size w'.heap.size f w' j sl ∧ Below w.heap.size w w') := ih
    clear ih
    have HL : Hid (vlAt w b off L) := hL
    obtain ⟨c0, c1, _⟩ := hL k hk
    rw [← vnAt_get L k hk] at c0
    rw [← vtAt_get L k hk] at c1
    clear hL
    obtain ⟨x, hx⟩ : ∃ x, vnAt L k = x := ⟨_, rfl⟩
    obtain ⟨y, hy⟩ : ∃ y, vtAt L k = y := ⟨_, rfl⟩
    rw [hx] at c0 ⊢
    rw [hy] at c1 ⊢
    go_enter Tryz.func22, Tryz.ntmps22
    go_wp2
    go_region
    obtain ⟨W1, hW1⟩ : ∃ W1, W1 = ((w.alloc (.cells #[.int .i64 0, .string ⟨#[]⟩, .slice none 0 0] 51)).alloc (.cells #[.int .i64 x, .string y, .slice none 0 0] 51)).drew := ⟨_, rfl⟩
    rw [← hW1]
    have q0 : W1.heap[w.heap.size]? = some (.cells #[.int .i64 0, .string ⟨#[]⟩, .slice none 0 0] 51 (0, 0)) := by rw [hW1]; exact (Below.heap_alloc _ _ _ (by simp)).trans (heap_alloc_new _ _)
    have q1 : W1.heap[w.heap.size + 1]? = some (.cells #[.int .i64 x, .string y, .slice none 0 0] 51 (0, 0)) := by
      rw [hW1]
      have e : w.heap.size + 1 = (w.alloc (.cells #[.int .i64 0, .string ⟨#[]⟩, .slice none 0 0] 51)).heap.size := by simp
      rw [e]
      exact heap_alloc_new _ _
    have q2 : W1.heap.size = w.heap.size + 2 := by rw [hW1]; simp
    have q3 : Below w.heap.size w W1 := by rw [hW1]; exact ((((Below.refl _ _).alloc (Nat.le_refl _) _).alloc (by simp) _)).drew
    clear hW1 c0 c1
    obtain ⟨z, hz⟩ : ∃ z, w.heap.size + 1 = z := ⟨_, rfl⟩
    have r0 := q0
    have r1 : W1.heap[z]? = some (.cells #[.int .i64 x, .string y, .slice none 0 0] 51 (0, 0)) := by rw [← hz]; exact q1
    have r3 := q3
    obtain ⟨n, hn⟩ : ∃ n, L.length = n := ⟨_, rfl⟩
    obtain ⟨U, hU⟩ : ∃ U, vuAt L = U := ⟨_, rfl⟩
    have HUP : Hid (∀ j (h : j < L.length), U j = L[j].2.2) := fun j h => by rw [← hU]; exact vuAt_get L j h
    have HN : Hid (L.length = n) := hn
    have HU : Hid (vuAt L = U) := hU
    have hwk : wrap64 ((k : Int) + 1) = (k : Int) + 1 := w64v (by omega) (by omega)
    rw [hn] at hk hf h100 IH ⊢
    have HF : Hid (n - k ≤ f + 1) := hf
    clear hn hU q0 q1 q2 q3 hf hx hy
    rw [hz]
    go_wp2
    go_loopw [6] (fun i wr => ∃ (m : Nat) (cur : Value) (xs : List Value), k < m ∧ m ≤ n ∧ i = .int .i64 (m : Int) ∧ wr.heap[w.heap.size]? = some (.cells #[.int .i64 0, .string ⟨#[]⟩, .slice none 0 0] 51 (0, 0)) ∧ wr.heap[z]? = some (.cells #[.int .i64 x, .string y, cur] 51 (0, 0)) ∧
      wr.ownsRow (w.heap.size + 2) 51 3 cur (kto U k m).length xs ∧
      Hid (∀ i (h : i < (kto U k m).length), ∃ lo hi sl', w.heap.size + 2 ≤ lo ∧ hi ≤ wr.heap.size ∧ xs[i * 3]? = some (.int .i64 (vnAt L (kto U k m)[i])) ∧ xs[i * 3 + 1]? = some (.string (vtAt L (kto U k m)[i])) ∧ xs[i * 3 + 2]? = some sl' ∧ S3v L lo hi f wr (kto U k m)[i] sl' ∧ (∀ g, cur.ownBlock = some g → ¬ (lo ≤ g ∧ g < hi))) ∧ Below w.heap.size w wr) (fun i _ => n - (intOf i).toNat)
    case atStart =>
      refine ⟨k + 1, .slice none 0 0, [], by omega, by omega, by go_num, r0, r1, ?_, ?_, r3⟩
      · rw [kto_nil]; exact World.ownsRow_nil _ _ _ _
      · intro i h; rw [kto_nil] at h; simp at h
    case round =>
      clear r0 r1 r3 hwk
      obtain ⟨m, cur, xs, hkm, hm, rfl, r0, r1, hrow, hT, hnx⟩ := hrel
      have hsz := hnx.size
      have hzl := lt_of_block r1
      have hkl := kto_le U k m
      by_cases hlt : m < n
      · have hmL : m < L.length := by rw [HN.out]; exact hlt
        obtain ⟨_, _, d2⟩ := HL.out m hmL
        rw [← HUP.out m hmL] at d2
        have c2 : wr.cell? ⟨b, off + m * 3 + 2, none⟩ = some (.int .i64 (U m)) := (hnx.cell (by exact hb)).trans d2
        clear d2
        have hltI : (m : Int) < (n : Int) := by omega
        by_cases hum : U m = (k : Int)
        · rw [hum] at c2
          have hKS : Hid (kto U k (m + 1) = kto U k m ++ [m]) := by
            unfold Hid kto
            rw [List.range_succ, List.filter_append]
            simp [hkm, hum]
          have HJF : Hid (n - m ≤ f) := by have := HF.out; unfold Hid; omega
          obtain ⟨ca, cc, rfl⟩ := ownsRow_shape hrow
          obtain ⟨kl, hkl9⟩ : ∃ kl, (kto U k m).length = kl := ⟨_, rfl⟩
          go_wp2_with fail
          refine wa_begin (by kernel_rfl) ?_
          refine wa_take 0 (some 33) (.pointer (some ⟨z, 2, none⟩)) rfl rfl (by kernel_rfl) (by kernel_rfl) (by kernel_rfl) (fun _ _ _ h => h) (by rfl) (fun w' => by first | rfl | (go_simp; done)) ?_
          simp only [Act.put, List.setIfInBounds_toArray, List.set_cons_zero, List.set_cons_succ]
          refine wa_take 2 (some 35) (.slice (some ⟨b, off, none⟩) n cap) rfl rfl (by kernel_rfl) (by kernel_rfl) (by kernel_rfl) (fun _ _ _ h => h) (by rfl) (fun w' => by first | rfl | (go_simp; done)) ?_
          simp only [Act.put, List.setIfInBounds_toArray, List.set_cons_zero, List.set_cons_succ]
          refine wa_take 3 (some 36) (.int .i64 (m : Int)) rfl rfl (by kernel_rfl) (by kernel_rfl) (by kernel_rfl) (fun _ _ _ h => h) (by rfl) (fun w' => by first | rfl | (go_simp; done)) ?_
          simp only [Act.put, List.setIfInBounds_toArray, List.set_cons_zero, List.set_cons_succ]
          refine wa_first 1 (some 34) (.slice ca (kto U k m).length cc) (fun w' => w'.heap[z]? = some (.cells #[.int .i64 x, .string y, .slice ca (kto U k m).length cc] 51 (0, 0))) rfl rfl (by kernel_rfl) (by kernel_rfl) (by kernel_rfl) (fun _ _ _ h => h) (by rfl) (fun w' hS => by have q := (cell_of_block hS 2).trans rfl; first | rfl | (go_simp; done)) r1 ?_
          simp only [Act.put, List.setIfInBounds_toArray, List.set_cons_zero, List.set_cons_succ]
          refine wb_call 4 (some 37) 22 #[.slice (some ⟨b, off, none⟩) n cap, .int .i64 (m : Int)] (by kernel_rfl) (by kernel_rfl) rfl rfl (by rfl) (by kernel_rfl) ?_
          refine (IH.out m hlt HJF.out wr.drew (Nat.lt_of_lt_of_le hb hsz) (HL.out.below hnx.drew hb)).mono ?_
          rintro e V1 ⟨sl, rfl, htr, hb1⟩
          have hb1' : Below wr.heap.size wr V1 := ⟨hb1.os, hb1.tape, hb1.output, hb1.size, hb1.block⟩
          have hV1 := hb1'.size
          have s1 : V1.heap[z]? = some (.cells #[.int .i64 x, .string y, .slice ca (kto U k m).length cc] 51 (0, 0)) := (hb1'.block z hzl).trans r1
          refine ⟨_, rfl, s1, ?_⟩
          simp only [Act.put, List.setIfInBounds_toArray, List.set_cons_zero, List.set_cons_succ]
          have s2 : (V1.alloc (.cells #[.int .i64 (vnAt L m), .string (vtAt L m), sl] 51)).heap[z]? = some (.cells #[.int .i64 x, .string y, .slice ca (kto U k m).length cc] 51 (0, 0)) := (Below.heap_alloc _ _ _ (lt_of_block s1)).trans s1
          refine wb_val 5 (some 38) (.slice (some ⟨V1.heap.size, 0, none⟩) 1 1) (V1.alloc (.cells #[.int .i64 (vnAt L m), .string (vtAt L m), sl] 51)) (by kernel_rfl) (by kernel_rfl) rfl rfl (by rfl) (by first | rfl | go_simp) s2 ?_
          simp only [Act.put, List.setIfInBounds_toArray, List.set_cons_zero, List.set_cons_succ]
          have hrow1 : (V1.alloc (.cells #[.int .i64 (vnAt L m), .string (vtAt L m), sl] 51)).ownsRow (w.heap.size + 2) 51 3 (.slice ca (kto U k m).length cc) (kto U k m).length xs := (own_keep hrow fun g hg => by
            obtain ⟨cu, hcu, _⟩ := own_at hrow hg
            exact hb1'.block g (lt_of_block hcu)).alloc _
          have hcl : ∀ c, (Value.slice ca (kto U k m).length cc).ownBlock = some c → c < wr.heap.size ∧ w.heap.size + 2 ≤ c := fun c hc => by
            obtain ⟨cu, hcu, h2⟩ := own_at hrow hc
            exact ⟨lt_of_block hcu, h2⟩
          obtain ⟨v', w5, hrun, hown5, hgrow5, _, hloc⟩ := run_append_own_at (P := Tryz.prog) (V1.alloc (.cells #[.int .i64 (vnAt L m), .string (vtAt L m), sl] 51)) (w.heap.size + 2) 49 49 51 i0 (.agg #[.int .i64 0, .string ⟨#[]⟩, .slice none 0 0]) 3 48 Tryz.underlying49 hi hz0 hz1 hz2 rfl (by decide) _ _ _ hrow1 ⟨V1.heap.size, 0, none⟩ 1 1 [.int .i64 (vnAt L m), .string (vtAt L m), sl] rfl (tri_new _ _ _ _ _) (by intro u hu; simp at hu; rcases hu with rfl | rfl | rfl; rfl; rfl; obtain ⟨_, _, _, rfl⟩ := R3.form htr; rfl) (by unfold maxLen; omega) (by omega) (by simp; omega)
          obtain ⟨va, vc, rfl⟩ := ownsRow_shape hown5
          have KEEP : ∀ g, g < V1.heap.size → (∀ c, (Value.slice ca (kto U k m).length cc).ownBlock = some c → g ≠ c) → w5.heap[g]? = V1.heap[g]? := fun g hg hne => by
            rw [hgrow5.block g (by simp; omega) (fun e => hne g e.symm rfl)]
            exact Below.heap_alloc _ _ _ hg
          refine wb_leave_val 6 (some 39) (.slice va ((kto U k m).length + 1) vc) w5 (by kernel_rfl) (by kernel_rfl) rfl rfl (by rfl) (by simp [execOp, resolve, invoke, builtin, Act.eval, hrun, Result.andThen]) ?_
          simp only [Act.put, List.setIfInBounds_toArray, List.set_cons_zero, List.set_cons_succ]
          have s5 : w5.heap[z]? = some (.cells #[.int .i64 x, .string y, .slice ca (kto U k m).length cc] 51 (0, 0)) := (KEEP z (by omega) (fun c hc => by have := (hcl c hc).2; omega)).trans s1
          have g2 := (cell_of_block s5 2).trans rfl
          have f2 := free_of_block s5 2
          refine wa_val 7 (some 40) (.pointer (some ⟨z, 2, none⟩)) w5 (by kernel_rfl) rfl rfl (by rfl) (by first | rfl | go_simp) ?_
          simp only [Act.put, List.setIfInBounds_toArray, List.set_cons_zero, List.set_cons_succ]
          refine wa_store 8 none (w5.setCell ⟨z, 2, none⟩ (.slice va ((kto U k m).length + 1) vc)) (by kernel_rfl) rfl rfl (by rfl) (by first | rfl | (go_simp; done)) ?_
          simp only [Act.put]
          refine wa_done (by kernel_rfl) ?_
          have hW9 : ∀ g, g < V1.heap.size → g ≠ z → (∀ c, (Value.slice ca (kto U k m).length cc).ownBlock = some c → g ≠ c) → (w5.setCell ⟨z, 2, none⟩ (.slice va ((kto U k m).length + 1) vc)).heap[g]? = V1.heap[g]? := fun g h1 h2 h3 => (heap_setCell_other _ _ _ _ (by simpa using h2)).trans (KEEP g h1 h3)
          have t0 : (w5.setCell ⟨z, 2, none⟩ (.slice va ((kto U k m).length + 1) vc)).heap[w.heap.size]? = some (.cells #[.int .i64 0, .string ⟨#[]⟩, .slice none 0 0] 51 (0, 0)) := (hW9 _ (by omega) (by omega) (fun c hc => by have := (hcl c hc).2; omega)).trans ((hb1'.block _ (by omega)).trans r0)
          have t1 : (w5.setCell ⟨z, 2, none⟩ (.slice va ((kto U k m).length + 1) vc)).heap[z]? = some (.cells #[.int .i64 x, .string y, .slice va ((kto U k m).length + 1) vc] 51 (0, 0)) := by rw [heap_setCell_same _ _ _ _ _ _ s5]; rfl
          have t2 : (w5.setCell ⟨z, 2, none⟩ (.slice va ((kto U k m).length + 1) vc)).ownsRow (w.heap.size + 2) 51 3 (.slice va ((kto U k m).length + 1) vc) ((kto U k m).length + 1) (xs ++ [.int .i64 (vnAt L m), .string (vtAt L m), sl]) := own_keep hown5 fun g hg => heap_setCell_other _ _ _ _ (by have := ownsRow_block hown5 g hg; simp; omega)
          have t4 : Below w.heap.size w (w5.setCell ⟨z, 2, none⟩ (.slice va ((kto U k m).length + 1) vc)) := (((below2 hnx hb1').alloc (by omega) _).grown hgrow5 (by simp; omega) (fun c hc => by have := (hcl c hc).2; omega)).setCell (by simp; omega) _
          have t5 : V1.heap.size < (w5.setCell ⟨z, 2, none⟩ (.slice va ((kto U k m).length + 1) vc)).heap.size := by
            have := hgrow5.size
            simp at this ⊢
            omega
          have t6 : Hid (∀ i (h : i < (kto U k (m + 1)).length), ∃ lo hi sl', w.heap.size + 2 ≤ lo ∧ hi ≤ (w5.setCell ⟨z, 2, none⟩ (.slice va ((kto U k m).length + 1) vc)).heap.size ∧ (xs ++ [.int .i64 (vnAt L m), .string (vtAt L m), sl])[i * 3]? = some (.int .i64 (vnAt L (kto U k (m + 1))[i])) ∧ (xs ++ [.int .i64 (vnAt L m), .string (vtAt L m), sl])[i * 3 + 1]? = some (.string (vtAt L (kto U k (m + 1))[i])) ∧ (xs ++ [.int .i64 (vnAt L m), .string (vtAt L m), sl])[i * 3 + 2]? = some sl' ∧ S3v L lo hi f (w5.setCell ⟨z, 2, none⟩ (.slice va ((kto U k m).length + 1) vc)) (kto U k (m + 1))[i] sl' ∧ (∀ g, (Value.slice va ((kto U k m).length + 1) vc).ownBlock = some g → ¬ (lo ≤ g ∧ g < hi))) := fun i hi => by
            rcases Nat.lt_or_ge i (kto U k m).length with h | h
            · have hget : (kto U k (m + 1))[i] = (kto U k m)[i] := by
                have e9 := hKS.out
                rw [List.getElem_of_eq e9, List.getElem_append_left h]
              obtain ⟨lo, hh, sl', l1, l2, x1, x2, x3, tr, hne⟩ := hT.out i h
              rw [hget]
              refine ⟨lo, hh, sl', l1, by omega, (row3_left hrow.1 h 0 (by omega)).trans x1, (row3_left hrow.1 h 1 (by omega)).trans x2, (row3_left hrow.1 h 2 (by omega)).trans x3, ?_, ?_⟩
              · refine R3.keep tr fun g g1 g2 => ?_
                exact (hW9 g (by omega) (by omega) (fun c hc e => hne c hc (by subst e; exact ⟨g1, g2⟩))).trans (hb1'.block g (by omega))
              · intro g hg
                rcases hloc with e | e
                · exact hne g (by rw [← e]; exact hg)
                · rw [hg] at e
                  simp at e
                  omega
            · have hKL2 : (kto U k (m + 1)).length = (kto U k m).length + 1 := by rw [hKS.out]; simp
              have him' : i = (kto U k m).length := by omega
              subst him'
              have hget : (kto U k (m + 1))[(kto U k m).length] = m := by
                have e9 := hKS.out
                rw [List.getElem_of_eq e9]; simp
              obtain ⟨x1, x2, x3⟩ := row3_right (x := .int .i64 (vnAt L m)) (y := .string (vtAt L m)) (z := sl) hrow.1
              rw [hget]
              refine ⟨wr.heap.size, V1.heap.size, sl, by omega, by omega, x1, x2, x3, ?_, ?_⟩
              · refine R3.keep htr fun g g1 g2 => ?_
                have g1' : wr.heap.size ≤ g := g1
                exact hW9 g g2 (by omega) (fun c hc e => by have := (hcl c hc).1; omega)
              · intro g hg
                rcases hloc with e | e
                · have := (hcl g (by rw [← e]; exact hg)).1
                  omega
                · rw [hg] at e
                  simp at e
                  omega
          have hKL : (kto U k m).length + 1 = (kto U k (m + 1)).length := by rw [hKS.out]; simp
          rw [hKL] at t0 t1 t2 t4 t6 ⊢
          obtain ⟨m1, hm1⟩ : ∃ m1, m + 1 = m1 := ⟨_, rfl⟩
          rw [hm1] at t0 t1 t2 t4 t6 ⊢
          clear hW9 KEEP s1 s2 s5 g2 f2 hrun hown5 hgrow5 hloc hrow1 hcl htr hb1 hb1' hT hrow r0 r1 c2 hKL hKS hkl9
          go_wp2
          go_roundw
          case rel => exact ⟨m1, _, _, by omega, by omega, by rw [← hm1]; go_num, t0, t1, t2, t6, t4⟩
          case measure => simp [intOf]; omega
        · have humb : (U m == (k : Int)) = false := by rw [beq_eq_false_iff_ne]; exact hum
          have hKS : kto U k (m + 1) = kto U k m := kto_pass 1 (fun j h1 h2 => (show j = m by omega) ▸ hum)
          obtain ⟨um, hum9⟩ : ∃ um, U m = um := ⟨_, rfl⟩
          rw [hum9] at c2 humb
          obtain ⟨ca, cc, rfl⟩ := ownsRow_shape hrow
          rw [← hKS] at hrow hT r1
          have hT' : Hid (_) := hT
          clear hum9 hT
          obtain ⟨m1, hm1⟩ : ∃ m1, m + 1 = m1 := ⟨_, rfl⟩
          rw [hm1] at hrow hT' r1
          go_wp2
          go_roundw
          case rel => exact ⟨m1, _, xs, by omega, by omega, by rw [← hm1]; go_num, r0, r1, hrow, hT', hnx⟩
          case measure => simp [intOf]; omega
      · obtain rfl : m = n := by omega
        obtain ⟨ca, cc, rfl⟩ := ownsRow_shape hrow
        have hltI : ¬ (m : Int) < (m : Int) := by omega
        have d0 := (cell_of_block r1 0).trans rfl
        have d1 := (cell_of_block r1 1).trans rfl
        have d2 := (cell_of_block r1 2).trans rfl
        have e0 := (cell_of_block r0 0).trans rfl
        have e1 := (cell_of_block r0 1).trans rfl
        have e2 := (cell_of_block r0 2).trans rfl
        have f0 := free_of_block r0 0
        have f1 := free_of_block r0 1
        have f2 := free_of_block r0 2
        have Z9 : (((wr.setCell ⟨w.heap.size, 0, none⟩ (.int .i64 x)).setCell ⟨w.heap.size, 1, none⟩ (.string y)).setCell ⟨w.heap.size, 2, none⟩ (.slice ca (kto U k m).length cc)).heap[w.heap.size]? = some (.cells #[.int .i64 x, .string y, .slice ca (kto U k m).length cc] 51 (0, 0)) := by
          rw [heap_setCell_same _ _ _ _ _ _ (heap_setCell_same _ _ _ _ _ _ (heap_setCell_same _ _ _ _ _ _ r0))]
          rfl
        have k0 := (cell_of_block Z9 0).trans rfl
        have k1 := (cell_of_block Z9 1).trans rfl
        have k2 := (cell_of_block Z9 2).trans rfl
        have HO : ∀ g, g ≠ w.heap.size → (((wr.setCell ⟨w.heap.size, 0, none⟩ (.int .i64 x)).setCell ⟨w.heap.size, 1, none⟩ (.string y)).setCell ⟨w.heap.size, 2, none⟩ (.slice ca (kto U k m).length cc)).heap[g]? = wr.heap[g]? := fun g hg => (heap_setCell_other _ _ _ _ (by simpa using hg)).trans ((heap_setCell_other _ _ _ _ (by simpa using hg)).trans (heap_setCell_other _ _ _ _ (by simpa using hg)))
        have HR : Hid (S3v L w.heap.size (((wr.setCell ⟨w.heap.size, 0, none⟩ (.int .i64 x)).setCell ⟨w.heap.size, 1, none⟩ (.string y)).setCell ⟨w.heap.size, 2, none⟩ (.slice ca (kto U k m).length cc)).heap.size (f + 1) (((wr.setCell ⟨w.heap.size, 0, none⟩ (.int .i64 x)).setCell ⟨w.heap.size, 1, none⟩ (.string y)).setCell ⟨w.heap.size, 2, none⟩ (.slice ca (kto U k m).length cc)) k (.slice ca (kto U k m).length cc)) := by
          have hkk : kV L k = kto U k m := by unfold kV; rw [HU.out, HN.out]
          refine ⟨ca, cc, by rw [hkk], by rw [hkk]; exact own_cap hrow, ?_⟩
          rw [hkk]
          intro j hj
          obtain ⟨lo, hh, sl', l1, l2, x1, x2, x3, tr, _⟩ := hT.out j hj
          obtain ⟨g, c, e, _⟩ := own_pos hrow (by omega)
          simp at e
          obtain ⟨rfl, _⟩ := e
          obtain ⟨cu, hcu, hgb⟩ := own_at hrow (g := g) rfl
          have hgl := lt_of_block hcu
          have hg := HO g (by omega)
          have hl := hrow.1
          refine ⟨g, 0, sl', rfl, by omega, by simpa using hgl, (cell_heap hg _).trans (by rw [Nat.zero_add]; exact (hrow.cellAt _ (by omega)).trans x1), (cell_heap hg _).trans (by rw [Nat.zero_add]; exact (hrow.cellAt _ (by omega)).trans x2), (cell_heap hg _).trans (by rw [Nat.zero_add]; exact (hrow.cellAt _ (by omega)).trans x3), ?_⟩
          exact R3.wide (by omega) (by simpa using l2) (R3.keep tr fun g g1 g2 => HO g (by omega))
        clear HO Z9 hT hrow
        go_wp2
        exact bodyPost_ret (v := .agg #[.int .i64 x, .string y, .slice ca (kto U k m).length cc]) (by simp [results, Tryz.results22, go_sem, k0, k1, k2]) rfl ⟨_, rfl, HR.out, ((hnx.setCell (Nat.le_refl _) _).setCell (Nat.le_refl _) _).setCell (Nat.le_refl _) _⟩


end Go.Proofs.YtljnciclbjcinaaGreatDoor

namespace Go.Proofs.YtljnciclbjcinaaGreatDoor
open Go.ChangeShapes Go.WideShapes Go.ChangeAt Go.RowKit

theorem sv_at {U : Nat → Int} {k : Nat} {s : List Nat} (hk : 1 ≤ k) (h : sv U (k - 1) = some s) : sv U k = if (pops (U k) s).length = 0 then none else some (k :: pops (U k) s) := by
  have := sv_next h
  rwa [show k - 1 + 1 = k by omega] at this
/-- What the specification finds at node k: whether its Up is around; and what that says. -/
theorem node_factsV {U : Nat → Int} {n k : Nat} (hk : k < n) (hz : (k = 0 ∧ U k = -1) ∨ (0 < k ∧ 0 ≤ U k ∧ U k ≤ (k : Int) - 1)) (hs : k = 0 ∨ ∃ s, sv U (k - 1) = some s) :
    ∃ (P : Bool) (t : List Nat), PathE U t ∧ (∀ x ∈ t, x < n) ∧ hdY t = (k : Int) - 1 ∧ (k = 0 → P = true ∧ t = []) ∧ (0 < k → P = decide ((pops (U k) t).length ≠ 0)) ∧ (sv U k).isSome = P := by
  rcases hz with ⟨rfl, hz⟩ | ⟨h0, hz1, hz2⟩
  · refine ⟨true, [], Or.inl rfl, by simp, by simp [hdY], fun _ => ⟨rfl, rfl⟩, fun h => absurd h (by omega), ?_⟩
    unfold sv; rw [if_pos hz]; simp
  · obtain ⟨s, hs⟩ : ∃ s, sv U (k - 1) = some s := by
      rcases hs with h | h
      · omega
      · exact h
    obtain ⟨p1, p2, p4⟩ := sv_good _ _ hs
    refine ⟨decide ((pops (U k) s).length ≠ 0), s, Or.inr p1, fun x hx => by have := p4 x hx; omega, ?_, fun h => by omega, fun _ => rfl, ?_⟩
    · cases s with
      | nil => simp [Path] at p1
      | cons a r => simp at p2; subst p2; simp [hdY]; omega
    · rw [sv_at (by omega) hs]
      by_cases hd : (pops (U k) s).length = 0
      · rw [if_pos hd]; simp [hd]
      · rw [if_neg hd]; simp [hd]
/-- A node whose Up is out of bounds. -/
theorem node_outV {U : Nat → Int} {k : Nat} (hz : ¬ ((k = 0 ∧ U k = -1) ∨ (0 < k ∧ 0 ≤ U k ∧ U k ≤ (k : Int) - 1))) (hs : k = 0 ∨ ∃ s, sv U (k - 1) = some s) : sv U k = none := by
  by_cases h0 : k = 0
  · subst h0
    unfold sv
    rw [if_neg (fun h => hz (Or.inl ⟨rfl, h⟩))]
  · obtain ⟨s, hs⟩ : ∃ s, sv U (k - 1) = some s := by
      rcases hs with h | h
      · omega
      · exact h
    rw [sv_at (by omega) hs, if_pos]
    apply Classical.byContradiction
    intro hd
    obtain ⟨j, hj, he⟩ := (pops_mem _ _).1 hd
    have := (sv_good _ _ hs).2.2 j hj
    exact hz (Or.inr ⟨by omega, by omega, by omega⟩)

/-- Which rows of values are trees of at most a hundred nodes. -/
def shpOk (V : List Vn) : Bool := shpV (vuAt V) V.length && decide (V.length ≤ 100)
theorem shpOk_bad {V : List Vn} {k : Nat} (hk : k < V.length) (h : sv (vuAt V) k = none) : shpOk V = false := by
  unfold shpOk
  rw [shpV_sv (by omega), sv_none (V.length - 1) k h (by omega)]
  rfl
theorem shpOk_end {V : List Vn} (h : V.length = 0 ∨ ∃ s, sv (vuAt V) (V.length - 1) = some s) : shpOk V = (decide (1 ≤ (V.length : Int)) && decide ((V.length : Int) ≤ 100)) := by
  unfold shpOk
  rcases h with h | ⟨s, hs⟩
  · rw [h]; simp [shpV]
  · by_cases h0 : V.length = 0
    · rw [h0]; simp [shpV]
    · rw [shpV_sv (by omega), hs]
      have : (1 : Int) ≤ (V.length : Int) := by omega
      simp [this]
      by_cases h1 : V.length ≤ 100
      · have : (V.length : Int) ≤ 100 := by omega
        simp [h1, this]
      · have : ¬ (V.length : Int) ≤ 100 := by omega
        simp [h1, this]

set_option maxRecDepth 100000 in
set_option maxHeartbeats 3200000 in
theorem specShapeV (a : Option Addr) (b off cap : Nat) (L : List Vn) (w : World) (ha : Hid (L ≠ [] → a = some ⟨b, off, none⟩ ∧ b < w.heap.size)) (hL : Hid (vlAt w b off L)) (hlen : L.length ≤ 1048576) :
    Calls Tryz.prog 36 #[.slice a L.length cap] w fun e w' => e = .returned (.bool (shpOk L)) ∧ Below w.heap.size w w' := by
  obtain ⟨R, hR⟩ : ∃ R, Hid (shpOk L = R) := ⟨_, rfl⟩
  rw [hR.out]
  go_enter Tryz.func36, Tryz.ntmps36
  go_wp2
  go_loopw [9] (fun i wr => ∃ k : Nat, k ≤ L.length ∧ i = .int .i64 (k : Int) ∧ Hid (k = 0 ∨ ∃ s, sv (vuAt L) (k - 1) = some s) ∧ Below w.heap.size w wr) (fun i _ => L.length - (intOf i).toNat)
  case atStart => exact ⟨0, by omega, rfl, Or.inl rfl, Below.refl _ _⟩
  case round =>
    obtain ⟨k, hk, rfl, hS, hnx⟩ := hrel
    have hsz := hnx.size
    by_cases hlt : k < L.length
    · obtain ⟨rfl, hb⟩ := ha.out (fun h => by simp [h] at hlt)
      have HC : Hid (∀ j, j < L.length → w.cell? ⟨b, off + j * 3 + 2, none⟩ = some (.int .i64 (vuAt L j))) := fun j hj => by rw [vuAt_get L j hj]; exact (hL.out j hj).2.2
      obtain ⟨c0, c1, c2⟩ := hL.out k hlt
      obtain ⟨x, hx⟩ : ∃ x, L[k].1 = x := ⟨_, rfl⟩
      obtain ⟨y, hy⟩ : ∃ x, L[k].2.1 = x := ⟨_, rfl⟩
      obtain ⟨z, hz⟩ : ∃ x, L[k].2.2 = x := ⟨_, rfl⟩
      have HV : Hid (vuAt L k = z) := by unfold Hid; rw [vuAt_get L k hlt]; exact hz
      rw [hx] at c0
      rw [hy] at c1
      rw [hz] at c2
      have hc0 : wr.cell? ⟨b, off + k * 3, none⟩ = some (.int .i64 x) := (hnx.cell (by exact hb)).trans c0
      have hc1 : wr.cell? ⟨b, off + k * 3 + 1, none⟩ = some (.string y) := (hnx.cell (by exact hb)).trans c1
      have hc2 : wr.cell? ⟨b, off + k * 3 + 2, none⟩ = some (.int .i64 z) := (hnx.cell (by exact hb)).trans c2
      clear hx hy hz c0 c1 c2
      obtain ⟨bk, hbk⟩ : ∃ b, ((k : Int) == 0) = b := ⟨_, rfl⟩
      obtain ⟨bz, hbz⟩ : ∃ b, (z == -1) = b := ⟨_, rfl⟩
      obtain ⟨A2, hA2⟩ : ∃ b, Hid ((decide (-1 ≤ z) && decide (z ≤ (k : Int) - 1)) = b) := ⟨_, rfl⟩
      by_cases hbad : bk ≠ bz ∨ A2 = false
      · obtain rfl : R = false := by
          rw [← hR.out]
          refine shpOk_bad hlt (node_outV ?_ hS.out)
          rw [HV.out]
          intro hz
          rcases hbad with h2 | h2
          · apply h2
            rw [← hbk, ← hbz]
            rcases hz with ⟨rfl, rfl⟩ | ⟨h0, h1, _⟩
            · rfl
            · have e1 : ((k : Int) == 0) = false := by simp; omega
              have e2 : (z == -1) = false := by simp; omega
              rw [e1, e2]
          · have := hA2.out
            rw [h2] at this
            simp at this
            omega
        cases bk <;> cases bz <;> cases A2
        all_goals first
          | (exfalso; simp at hbad; done)
          | (clear hbad
             go_wp2_with (go_at_call 48; refine (in_eq _ _ _ _ (by assumption) _).mono ?_; rintro e w1 ⟨rfl, hw⟩; obtain rfl := hw.symm)
             go_ret
             exact ⟨rfl, hnx.alloc hnx.size _⟩)
      · have hg : bk = bz ∧ A2 = true := by
          cases bk <;> cases bz <;> cases A2 <;> simp_all
        obtain ⟨hkz, rfl⟩ := hg
        clear hbad
        have hz : (k = 0 ∧ z = -1) ∨ (0 < k ∧ 0 ≤ z ∧ z ≤ (k : Int) - 1) := by
          have h2 := hA2.out
          simp at h2
          rw [← hbk, ← hbz] at hkz
          by_cases h0 : k = 0
          · subst h0
            left
            simp at hkz
            exact ⟨rfl, by simpa using hkz⟩
          · right
            have : ((k : Int) == 0) = false := by simp; omega
            rw [this] at hkz
            have : ¬ z = -1 := by simpa using hkz.symm
            omega
        subst hkz
        obtain ⟨P, t, ht1, ht2, ht3, hP0, hP1, hst⟩ := node_factsV (U := vuAt L) hlt (by rw [HV.out]; exact hz) hS.out
        rw [HV.out] at hP1
        have HP : Hid ((bk = true ∧ P = true) ∨ (bk = false ∧ P = decide ((pops z t).length ≠ 0))) := by
          by_cases h0 : k = 0
          · left; exact ⟨by rw [← hbk, h0]; rfl, (hP0 h0).1⟩
          · right; exact ⟨by rw [← hbk]; simp; omega, hP1 (by omega)⟩
        have HT1 : Hid (PathE (vuAt L) t) := ht1
        have HT2 : Hid (∀ x ∈ t, x < L.length) := ht2
        have HT3 : Hid (hdY t = (k : Int) - 1) := ht3
        have HST : Hid ((sv (vuAt L) k).isSome = P) := hst
        clear ht1 ht2 ht3 hP0 hP1 hst hz
        have hnxa := fun o => hnx.alloc hnx.size o
        obtain ⟨g, hg⟩ : ∃ g, wr.heap.size = g := ⟨_, rfl⟩
        have hgw : w.heap.size ≤ g := by omega
        have HO : Hid (P = true → k + 1 = 0 ∨ ∃ s, sv (vuAt L) (k + 1 - 1) = some s) := fun h => by
          right
          rw [show k + 1 - 1 = k by omega]
          have := HST.out
          rw [h] at this
          exact Option.isSome_iff_exists.1 this
        have HB1 : Hid (P = false → R = false) := fun h => by
          rw [← hR.out]
          have := HST.out
          rw [h] at this
          exact shpOk_bad hlt (by simpa using this)
        go_wp2_with (go_at_call 48; refine (in_eq _ _ _ _ (by assumption) _).mono ?_; rintro e w1 ⟨rfl, hw⟩; obtain rfl := hw.symm)
        go_loopw [5, 6] (fun ar at_ wx => ∃ (t' : List Nat) (A : Bool), ar = .bool A ∧ at_ = .int .i64 (hdY t') ∧ Hid (PathE (vuAt L) t') ∧ Hid (∀ x ∈ t', x < L.length) ∧ Hid ((A = true ∧ P = true) ∨ (A = false ∧ P = decide ((pops z t').length ≠ 0))) ∧
          wx.cell? ⟨g, 2, none⟩ = some (.int .i64 z) ∧ g < wx.heap.size ∧ Below w.heap.size w wx) (fun _ at_ _ => (intOf at_ + 1).toNat)
        case atStart => exact ⟨t, bk, rfl, by rw [HT3.out], HT1, HT2, HP, newCell hg.symm rfl, by simp [hg], hnxa _⟩
        case round =>
          clear hnxa hc0 hc1 hc2 hnx hsz hg HP HT1 HT2 HT3
          obtain ⟨t', A, rfl, rfl, hp, hm, hA, d2, hgl, hnx⟩ := hrel
          by_cases hgo : A = false ∧ t' ≠ []
          · obtain ⟨rfl, hne⟩ := hgo
            match t', hp, hm, hA, hne with
            | j :: r, hp, hm, hA, _ =>
              obtain ⟨p1, p2, p3⟩ := path_step (hp.out.resolve_left (by simp))
              have hjl := hm.out j (by simp)
              have hcj : wr.cell? ⟨b, off + j * 3 + 2, none⟩ = some (.int .i64 (hdY r)) := by rw [← p2]; exact (hnx.cell (by exact hb)).trans (HC.out j hjl)
              have hh : hdY (j :: r) = (j : Int) := rfl
              rw [hh]
              obtain ⟨B, hB⟩ : ∃ B, ((j : Int) == z) = B := ⟨_, rfl⟩
              have HA : Hid ((B = true ∧ P = true) ∨ (B = false ∧ P = decide ((pops z r).length ≠ 0))) := by
                have hA := hA.out
                simp at hA
                cases B with
                | true =>
                  left
                  have : (j : Int) = z := by simpa using hB
                  rw [pops_cons_eq this] at hA
                  exact ⟨rfl, by simpa using hA⟩
                | false =>
                  right
                  have : ¬ (j : Int) = z := by simpa using hB
                  rw [pops_cons_ne this] at hA
                  exact ⟨rfl, by simpa using hA⟩
              have HP1 : Hid (PathE (vuAt L) r) := p1
              have HP3 : Hid (hdY r < (j : Int)) := p3
              have HGE : Hid (-1 ≤ hdY r) := hdY_ge r
              clear p1 p2 p3 hh hA
              go_wp2
              go_roundw
              case rel => exact ⟨r, B, rfl, rfl, HP1, fun x hx => hm.out x (List.mem_cons_of_mem _ hx), HA, d2, hgl, hnx⟩
              case measure =>
                have h1 := HP3.out
                have h2 := HGE.out
                simp only [intOf]
                omega
          · have hPA : A = P := by
              have hA := hA.out
              rcases hA with ⟨h1, h2⟩ | ⟨h1, h2⟩
              · rw [h1, h2]
              · have ht : t' = [] := Classical.byContradiction fun h => hgo ⟨h1, h⟩
                subst ht
                rw [h1, h2]; simp [pops]
            subst hPA
            obtain ⟨z0, hz0⟩ : ∃ z0, decide (0 ≤ hdY t') = z0 := ⟨_, rfl⟩
            have hx : z0 = false ∨ (z0 = true ∧ A = true) := by
              cases z0 with
              | false => exact Or.inl rfl
              | true =>
                right
                refine ⟨rfl, ?_⟩
                cases A with
                | true => rfl
                | false =>
                  exfalso
                  have ht : t' = [] := Classical.byContradiction fun h => hgo ⟨rfl, h⟩
                  subst ht
                  simp [hdY] at hz0
            clear hgo hA hp hm
            cases A with
            | false =>
              obtain rfl : z0 = false := by rcases hx with h | ⟨_, h⟩; exact h; simp at h
              obtain rfl : R = false := HB1.out rfl
              clear hx
              go_wp2
              go_ret
              exact ⟨rfl, hnx⟩
            | true =>
              have o1 := HO.out rfl
              have O1 : Hid (k + 1 = 0 ∨ ∃ s, sv (vuAt L) (k + 1 - 1) = some s) := o1
              clear hx o1 HO HB1 HST
              cases z0
              all_goals
                go_wp2
                go_roundw
                case rel => exact ⟨k + 1, by omega, by go_num, O1, hnx⟩
                case measure => simp [intOf]; omega
    · obtain rfl : k = L.length := by omega
      have HI : Hid ((decide (1 ≤ (L.length : Int)) && decide ((L.length : Int) ≤ 100)) = R) := by unfold Hid; rw [← hR.out, shpOk_end hS.out]
      go_wp2_with (go_at_call 48; refine (in_eq _ _ _ _ (by assumption) _).mono ?_; rintro e w1 ⟨rfl, hw⟩; obtain rfl := hw.symm)
      go_ret
      exact ⟨rfl, hnx⟩

end Go.Proofs.YtljnciclbjcinaaGreatDoor

namespace Go.Proofs.YtljnciclbjcinaaGreatDoor
open Go.ChangeShapes Go.WideShapes Go.ChangeAt Go.RowKit

/-- Of a type's parts those that a value's parts have: x its kind, K its parts, n the value's number, c how many parts it has. -/
def tk (x : Int) (K : List Nat) (n : Int) (c : Nat) : List Nat :=
  if x = 13 then List.replicate c (K.getD 0 0)
  else if x = 14 then K
  else if x = 15 ∨ x = 18 then (K.drop n.toNat).take 1
  else if x = 17 then K.take n.toNat
  else []
def tkOk (x : Int) (K : List Nat) (n : Int) (c : Nat) : Prop := c ≤ 100 ∧ (x = 13 → K.length = 1) ∧ (x = 15 ∨ x = 18 → 0 ≤ n ∧ n < (K.length : Int)) ∧ (x = 17 → 0 ≤ n ∧ n ≤ (K.length : Int) ∧ 0 < K.length) ∧ K.length ≤ 40

theorem Row3.keep {c0 c1 : Nat → Value} {kids : Nat → List Nat} {lo hi lo' hi' f : Nat} {w w' : World} {ks : List Nat} {sl : Value} (h : Row3 c0 c1 (R3 c0 c1 kids lo hi f) lo hi w ks sl) (h1 : lo' ≤ lo) (h2 : hi ≤ hi') (hk : ∀ g, lo ≤ g → g < hi → w'.heap[g]? = w.heap[g]?) : Row3 c0 c1 (R3 c0 c1 kids lo' hi' f) lo' hi' w' ks sl := by
  obtain ⟨a, cap, e, hc, hh⟩ := h
  refine ⟨a, cap, e, hc, fun j hj => ?_⟩
  obtain ⟨g, off, sl', h3, h4, h5, h6, h7, h8, h9⟩ := hh j hj
  have hg := hk g h4 h5
  exact ⟨g, off, sl', h3, by omega, by omega, (cell_heap hg _).trans h6, (cell_heap hg _).trans h7, (cell_heap hg _).trans h8, R3.wide h1 h2 (R3.keep h9 hk)⟩
theorem Row3.up {c0 c1 : Nat → Value} {kids : Nat → List Nat} {lo hi f : Nat} {w w' : World} {ks : List Nat} {sl : Value} (h : Row3 c0 c1 (R3 c0 c1 kids lo hi f) lo hi w ks sl) (hh : hi ≤ w.heap.size) (hb : Below w.heap.size w w') : Row3 c0 c1 (R3 c0 c1 kids (min lo w.heap.size) w'.heap.size f) (min lo w.heap.size) w'.heap.size w' ks sl :=
  h.keep (by omega) (by have := hb.size; omega) (fun g _ h2 => hb.block g (by omega))
theorem Row3.cut {c0 c1 : Nat → Value} {T : World → Nat → Value → Prop} {lo hi : Nat} {w : World} {ks : List Nat} {a : Option Addr} {cap : Nat} (H : ∀ j (h : j < ks.length), ∃ g off sl', a = some ⟨g, off, none⟩ ∧ lo ≤ g ∧ g < hi ∧
    w.cell? ⟨g, off + j * 3, none⟩ = some (c0 ks[j]) ∧ w.cell? ⟨g, off + j * 3 + 1, none⟩ = some (c1 ks[j]) ∧ w.cell? ⟨g, off + j * 3 + 2, none⟩ = some sl' ∧ T w ks[j] sl') (n m : Nat) (g off : Nat) (ha : a = some ⟨g, off, none⟩) (hm : n + m ≤ ks.length) (hc : m ≤ cap) :
    Row3 c0 c1 T lo hi w ((ks.drop n).take m) (.slice (some ⟨g, off + n * 3, none⟩) m cap) := by
  have hl : ((ks.drop n).take m).length = m := by rw [List.length_take, List.length_drop]; omega
  refine ⟨_, cap, by rw [hl], by omega, fun j hj => ?_⟩
  have hj' : j < m := by omega
  obtain ⟨g', off', sl', h3, h4, h5, h6, h7, h8, h9⟩ := H (n + j) (by omega)
  rw [ha] at h3
  simp at h3
  obtain ⟨rfl, rfl⟩ := h3
  have hget : ((ks.drop n).take m)[j] = ks[n + j]'(by omega) := by rw [List.getElem_take, List.getElem_drop]
  have e0 : off + n * 3 + j * 3 = off + (n + j) * 3 := by omega
  rw [hget]
  exact ⟨g, off + n * 3, sl', rfl, h4, h5, by rw [e0]; exact h6, by rw [e0]; exact h7, by rw [e0]; exact h8, h9⟩

def KidsS (L : List Nd) (f k : Nat) : Prop := ∀ (w : World) (lo hi : Nat) (a : Option Addr) (cap : Nat) (n : Int) (s : ByteArray) (va : Option Addr) (c vc : Nat), (kidsOf L k).length ≤ cap →
  Hid (∀ j (h : j < (kidsOf L k).length), ∃ g off sl', a = some ⟨g, off, none⟩ ∧ lo ≤ g ∧ g < hi ∧
    w.cell? ⟨g, off + j * 3, none⟩ = some (.int .i64 (kdAt L (kidsOf L k)[j])) ∧ w.cell? ⟨g, off + j * 3 + 1, none⟩ = some (.int .i64 (nAt L (kidsOf L k)[j])) ∧ w.cell? ⟨g, off + j * 3 + 2, none⟩ = some sl' ∧ S3 L lo hi f w (kidsOf L k)[j] sl') → hi ≤ w.heap.size → tkOk (kdAt L k) (kidsOf L k) n c →
  Calls Tryz.prog 38 #[.agg #[.int .i64 (kdAt L k), .int .i64 (nAt L k), .slice a (kidsOf L k).length cap], .agg #[.int .i64 n, .string s, .slice va c vc]] w fun e w' => ∃ sl, e = .returned sl ∧ Row3 (fun k => .int .i64 (kdAt L k)) (fun k => .int .i64 (nAt L k)) (R3 (fun k => .int .i64 (kdAt L k)) (fun k => .int .i64 (nAt L k)) (kidsOf L) (min lo w.heap.size) w'.heap.size f) (min lo w.heap.size) w'.heap.size w' (tk (kdAt L k) (kidsOf L k) n c) sl ∧ Below w.heap.size w w'

set_option maxRecDepth 100000 in
set_option maxHeartbeats 3200000 in
theorem specKids_rest (L : List Nd) (f k : Nat) (h13 : kdAt L k ≠ 13) : KidsS L f k := by
  intro w lo hi a cap n s va c vc hcap H hhi hok
  obtain ⟨_, _, o15, o17, o40⟩ := hok
  obtain ⟨K, hK⟩ : ∃ K, kidsOf L k = K := ⟨_, rfl⟩
  have HROW : Hid (Row3 (fun k => .int .i64 (kdAt L k)) (fun k => .int .i64 (nAt L k)) (R3 (fun k => .int .i64 (kdAt L k)) (fun k => .int .i64 (nAt L k)) (kidsOf L) lo hi f) lo hi w K (.slice a K.length cap)) := by
    subst hK
    exact ⟨a, cap, rfl, hcap, H.out⟩
  have HH : Hid (∀ j (h : j < K.length), ∃ g off sl', a = some ⟨g, off, none⟩ ∧ lo ≤ g ∧ g < hi ∧
    w.cell? ⟨g, off + j * 3, none⟩ = some (.int .i64 (kdAt L K[j])) ∧ w.cell? ⟨g, off + j * 3 + 1, none⟩ = some (.int .i64 (nAt L K[j])) ∧ w.cell? ⟨g, off + j * 3 + 2, none⟩ = some sl' ∧ S3 L lo hi f w K[j] sl') := by
    subst hK; exact H.out
  rw [hK] at hcap o15 o17 o40 ⊢
  obtain ⟨x, hx⟩ : ∃ x, kdAt L k = x := ⟨_, rfl⟩
  obtain ⟨y, hy⟩ : ∃ y, nAt L k = y := ⟨_, rfl⟩
  rw [hx] at h13 o15 o17 ⊢
  rw [hy]
  clear hx hy hK H
  have e13 : (x == 13) = false := by rw [beq_eq_false_iff_ne]; exact h13
  by_cases h14 : x = 14
  · subst h14
    have ht : tk 14 K n c = K := by simp [tk]
    rw [ht]
    go_enter Tryz.func38, Tryz.ntmps38
    go_wp2
    go_ret
    refine ⟨_, rfl, HROW.out.up hhi ?_, ?_⟩ <;> (repeat (first | refine Below.alloc ?_ (by first | (simp; done) | (simp; omega)) _ | refine Below.setCell ?_ (by first | (simp; done) | (simp; omega)) _ | refine bel_dN ?_ _ | refine Below.drew ?_ | exact Below.refl _ _))
  · have e14 : (x == 14) = false := by rw [beq_eq_false_iff_ne]; exact h14
    by_cases h15 : x = 15 ∨ x = 18
    · obtain ⟨n0, n1⟩ := o15 h15
      obtain ⟨N, hN⟩ : ∃ N : Nat, n = (N : Int) := ⟨n.toNat, by omega⟩
      subst hN
      have hNK : N < K.length := by omega
      obtain ⟨g, off, _, hga, _, _, _⟩ := HH.out N hNK
      have ht : tk x K (N : Int) c = (K.drop N).take 1 := by
        unfold tk; rw [if_neg h13, if_neg h14, if_pos h15]; rfl
      have HCUT : Hid (Row3 (fun k => .int .i64 (kdAt L k)) (fun k => .int .i64 (nAt L k)) (R3 (fun k => .int .i64 (kdAt L k)) (fun k => .int .i64 (nAt L k)) (kidsOf L) lo hi f) lo hi w ((K.drop N).take 1) (.slice (some ⟨g, off + N * 3, none⟩) 1 (cap - N))) := Row3.cut HH.out N 1 g off hga (by omega) (by omega)
      subst hga
      rw [ht]
      have hw1 : wrap64 ((N : Int) + 1) = (N : Int) + 1 := w64v (by omega) (by omega)
      have hNc : ¬ (cap : Int) < (N : Int) + 1 := by omega
      clear ht
      rcases h15 with rfl | rfl
      all_goals
        go_enter Tryz.func38, Tryz.ntmps38
        go_wp2
        go_ret
        refine ⟨_, rfl, HCUT.out.up hhi ?_, ?_⟩ <;> (repeat (first | refine Below.alloc ?_ (by first | (simp; done) | (simp; omega)) _ | refine Below.setCell ?_ (by first | (simp; done) | (simp; omega)) _ | refine bel_dN ?_ _ | refine Below.drew ?_ | exact Below.refl _ _))
    · have e15 : (x == 15) = false := by rw [beq_eq_false_iff_ne]; exact fun h => h15 (Or.inl h)
      have e18 : (x == 18) = false := by rw [beq_eq_false_iff_ne]; exact fun h => h15 (Or.inr h)
      by_cases h17 : x = 17
      · obtain ⟨n0, n1, n2⟩ := o17 h17
        obtain ⟨N, hN⟩ : ∃ N : Nat, n = (N : Int) := ⟨n.toNat, by omega⟩
        subst hN
        obtain ⟨g, off, _, hga, _, _, _⟩ := HH.out 0 n2
        have ht : tk x K (N : Int) c = (K.drop 0).take N := by
          unfold tk; rw [if_neg h13, if_neg h14, if_neg h15, if_pos h17]; rfl
        have HCUT : Hid (Row3 (fun k => .int .i64 (kdAt L k)) (fun k => .int .i64 (nAt L k)) (R3 (fun k => .int .i64 (kdAt L k)) (fun k => .int .i64 (nAt L k)) (kidsOf L) lo hi f) lo hi w ((K.drop 0).take N) (.slice (some ⟨g, off + 0 * 3, none⟩) N cap)) := Row3.cut HH.out 0 N g off hga (by omega) (by omega)
        rw [Nat.zero_mul, Nat.add_zero] at HCUT
        subst hga h17
        rw [ht]
        have hNc : ¬ (cap : Int) < (N : Int) := by omega
        clear ht
        go_enter Tryz.func38, Tryz.ntmps38
        go_wp2
        go_ret
        refine ⟨_, rfl, HCUT.out.up hhi ?_, ?_⟩ <;> (repeat (first | refine Below.alloc ?_ (by first | (simp; done) | (simp; omega)) _ | refine Below.setCell ?_ (by first | (simp; done) | (simp; omega)) _ | refine bel_dN ?_ _ | refine Below.drew ?_ | exact Below.refl _ _))
      · have e17 : (x == 17) = false := by rw [beq_eq_false_iff_ne]; exact h17
        have ht : tk x K n c = [] := by
          unfold tk; rw [if_neg h13, if_neg h14, if_neg h15, if_neg h17]
        rw [ht]
        go_enter Tryz.func38, Tryz.ntmps38
        go_wp2
        go_ret
        refine ⟨_, rfl, ⟨none, 0, rfl, Nat.le_refl _, fun j h => absurd h (by simp)⟩, ?_⟩
        (repeat (first | refine Below.alloc ?_ (by first | (simp; done) | (simp; omega)) _ | refine Below.setCell ?_ (by first | (simp; done) | (simp; omega)) _ | refine bel_dN ?_ _ | refine Below.drew ?_ | exact Below.refl _ _))

set_option maxRecDepth 100000 in
set_option maxHeartbeats 3200000 in
theorem specKids_list (L : List Nd) (f k : Nat) (h13 : kdAt L k = 13) : KidsS L f k := by
  intro w lo hi a cap n s va c vc hcap H hhi hok
  obtain ⟨i0, hi0, hz0, hz1, hz2⟩ := info_parts Tryz.infoTr
  obtain ⟨hc100, o13, _, _, _⟩ := hok
  have hK1 := o13 h13
  obtain ⟨K0, hK⟩ : ∃ K0, kidsOf L k = [K0] := List.length_eq_one_iff.1 hK1
  obtain ⟨g, off, sl', rfl, g1, g2, c0, c1, c2, tr⟩ := H.out 0 (by omega)
  simp only [hK] at c0 c1 c2 tr
  simp only [List.getElem_cons_zero, Nat.zero_mul, Nat.add_zero] at c0 c1 c2 tr
  rw [h13, hK]
  have ht : tk 13 [K0] n c = List.replicate c K0 := by simp [tk]
  rw [ht]
  obtain ⟨x0, hx0⟩ : ∃ x, kdAt L K0 = x := ⟨_, rfl⟩
  obtain ⟨y0, hy0⟩ : ∃ x, nAt L K0 = x := ⟨_, rfl⟩
  rw [hx0] at c0
  rw [hy0] at c1
  have HXY : Hid (kdAt L K0 = x0 ∧ nAt L K0 = y0) := ⟨hx0, hy0⟩
  obtain ⟨sa, sn, sc, rfl⟩ := R3.form tr
  have HTR : Hid (S3 L lo hi f w K0 (.slice sa sn sc)) := tr
  obtain ⟨y, hy⟩ : ∃ y, nAt L k = y := ⟨_, rfl⟩
  rw [hy]
  rw [hK] at hcap
  clear H ht hx0 hy0 hy o13 hK1 hK h13 tr
  simp only [List.length_singleton] at hcap ⊢
  obtain ⟨z, hz⟩ : ∃ z, w.heap.size + 1 = z := ⟨_, rfl⟩
  obtain ⟨W, hW⟩ : ∃ W, (w.alloc (.cells #[.int .i64 13, .int .i64 y, .slice (some ⟨g, off, none⟩) 1 cap] 47)).alloc (.cells #[.int .i64 n, .string s, .slice va c vc] 51) = W := ⟨_, rfl⟩
  have q0 : W.heap[w.heap.size]? = some (.cells #[.int .i64 13, .int .i64 y, .slice (some ⟨g, off, none⟩) 1 cap] 47 (0, 0)) := by rw [← hW]; exact (Below.heap_alloc _ _ _ (by simp)).trans (heap_alloc_new _ _)
  have q1 : W.heap[z]? = some (.cells #[.int .i64 n, .string s, .slice va c vc] 51 (0, 0)) := by
    rw [← hW, ← hz]
    have e : w.heap.size + 1 = (w.alloc (.cells #[.int .i64 13, .int .i64 y, .slice (some ⟨g, off, none⟩) 1 cap] 47)).heap.size := by simp
    rw [e]
    exact heap_alloc_new _ _
  have q3 : Below w.heap.size w W := by rw [← hW]; exact ((Below.refl _ _).alloc (Nat.le_refl _) _).alloc (by simp) _
  have q4 : W.heap.size = w.heap.size + 2 := by rw [← hW]; simp
  have HQ4 : Hid (W.heap.size = w.heap.size + 2) := q4
  clear q4
  have a0 := (cell_of_block q0 0).trans rfl
  have a2 := (cell_of_block q0 2).trans rfl
  have a5 := (cell_of_block q1 2).trans rfl
  go_enter Tryz.func38, Tryz.ntmps38
  go_wp2
  go_loopw [5, 13] (fun v i wr => ∃ (m : Nat) (xs : List Value), m ≤ c ∧ i = .int .i64 (m : Int) ∧ wr.ownsRow (w.heap.size + 2) 47 3 v m xs ∧ Hid (∀ j, j < m → xs[j * 3]? = some (.int .i64 x0) ∧ xs[j * 3 + 1]? = some (.int .i64 y0) ∧ xs[j * 3 + 2]? = some (.slice sa sn sc)) ∧ wr.heap[w.heap.size]? = some (.cells #[.int .i64 13, .int .i64 y, .slice (some ⟨g, off, none⟩) 1 cap] 47 (0, 0)) ∧ Below w.heap.size w wr) (fun _ i _ => c - (intOf i).toNat)
  case atStart => exact ⟨0, [], by omega, rfl, World.ownsRow_nil _ _ _ _, fun j h => absurd h (by omega), q0, q3⟩
  case round =>
    clear q0 q1 q3 a0 a2 a5 hW
    obtain ⟨m, xs, hm, rfl, hrow, hX, r0, hnx⟩ := hrel
    have hsz := hnx.size
    have hl0 := lt_of_block r0
    obtain ⟨ca, cc, rfl⟩ := ownsRow_shape hrow
    by_cases hlt : m < c
    · have d0 : wr.cell? ⟨g, off, none⟩ = some (.int .i64 x0) := (hnx.cell (p := ⟨g, off, none⟩) (by show g < _; omega)).trans c0
      have d1 : wr.cell? ⟨g, off + 1, none⟩ = some (.int .i64 y0) := (hnx.cell (p := ⟨g, off + 1, none⟩) (by show g < _; omega)).trans c1
      have d2 : wr.cell? ⟨g, off + 2, none⟩ = some (.slice sa sn sc) := (hnx.cell (p := ⟨g, off + 2, none⟩) (by show g < _; omega)).trans c2
      have a2 := (cell_of_block r0 2).trans rfl
      have hltI : (m : Int) < (c : Int) := by omega
      have hcl : ∀ k, (Value.slice ca m cc).ownBlock = some k → w.heap.size + 2 ≤ k := fun k hk => ownsRow_block hrow k hk
      go_wp2_with (at_builtin; refine wpList_append_own _ rfl _ _ 45 rfl (w.heap.size + 2) 47 i0 (.agg #[.int .i64 0, .int .i64 0, .slice none 0 0]) 3 40 Tryz.underlying45 hi0 hz0 hz1 hz2 rfl (by decide) _ _ _ rfl (hrow.alloc _) ⟨wr.heap.size, 0, none⟩ 1 1 [.int .i64 x0, .int .i64 y0, .slice sa sn sc] rfl rfl (tri_new _ _ _ _ _) (by intro u hu; simp at hu; rcases hu with rfl | rfl | rfl; rfl; rfl; rfl) (by unfold maxLen; omega) (by omega) (by simp; omega) ?_)
      intro v' w3 hown3 hgrow3 _
      have hb3 : Below w.heap.size w w3 := (hnx.alloc hsz _).grown hgrow3 (by simp; omega) (fun k hk => by have := hcl k hk; omega)
      have r3 : w3.heap[w.heap.size]? = some (.cells #[.int .i64 13, .int .i64 y, .slice (some ⟨g, off, none⟩) 1 cap] 47 (0, 0)) := (hgrow3.block _ (by simp; omega) (fun e => by have := hcl _ e.symm; omega)).trans ((Below.heap_alloc _ _ _ hl0).trans r0)
      have HX3 : Hid (∀ j, j < m + 1 → (xs ++ [.int .i64 x0, .int .i64 y0, .slice sa sn sc])[j * 3]? = some (.int .i64 x0) ∧ (xs ++ [.int .i64 x0, .int .i64 y0, .slice sa sn sc])[j * 3 + 1]? = some (.int .i64 y0) ∧ (xs ++ [.int .i64 x0, .int .i64 y0, .slice sa sn sc])[j * 3 + 2]? = some (.slice sa sn sc)) := fun j hj => by
        rcases Nat.lt_or_ge j m with h | h
        · obtain ⟨x1, x2, x3⟩ := hX.out j h
          exact ⟨(row3_left hrow.1 h 0 (by omega)).trans x1, (row3_left hrow.1 h 1 (by omega)).trans x2, (row3_left hrow.1 h 2 (by omega)).trans x3⟩
        · obtain rfl : j = m := by omega
          exact row3_right hrow.1
      clear hgrow3 hcl hrow hX a2 d0 d1 d2
      go_wp2
      go_roundw
      case rel => exact ⟨m + 1, _, by omega, by go_num, hown3, HX3, r3, hb3⟩
      case measure => simp [intOf]; omega
    · obtain rfl : m = c := by omega
      have HROW : Hid (Row3 (fun k => .int .i64 (kdAt L k)) (fun k => .int .i64 (nAt L k)) (R3 (fun k => .int .i64 (kdAt L k)) (fun k => .int .i64 (nAt L k)) (kidsOf L) (min lo w.heap.size) wr.heap.size f) (min lo w.heap.size) wr.heap.size wr (List.replicate m K0) (.slice ca m cc)) := by
        refine ⟨ca, cc, by rw [List.length_replicate], by rw [List.length_replicate]; exact own_cap hrow, fun j hj => ?_⟩
        rw [List.length_replicate] at hj
        obtain ⟨x1, x2, x3⟩ := hX.out j hj
        obtain ⟨gg, c9, e, _⟩ := own_pos hrow (by omega)
        simp at e
        obtain ⟨rfl, _⟩ := e
        obtain ⟨cu, hcu, hgb⟩ := own_at hrow (g := gg) rfl
        have hgl := lt_of_block hcu
        have hl := hrow.1
        have e9 : (List.replicate m K0)[j]'(by rw [List.length_replicate]; exact hj) = K0 := List.getElem_replicate _
        rw [← HXY.out.1] at x1
        rw [← HXY.out.2] at x2
        rw [e9]
        refine ⟨gg, 0, .slice sa sn sc, rfl, by omega, by omega, by rw [Nat.zero_add]; exact (hrow.cellAt _ (by omega)).trans x1, by rw [Nat.zero_add]; exact (hrow.cellAt _ (by omega)).trans x2, by rw [Nat.zero_add]; exact (hrow.cellAt _ (by omega)).trans x3, ?_⟩
        exact R3.wide (by omega) (by omega) (R3.keep HTR.out fun k _ h2 => hnx.block k (by omega))
      have hltI : ¬ (m : Int) < (m : Int) := by omega
      clear hrow hX
      go_wp2
      go_ret
      exact ⟨_, rfl, HROW.out, hnx⟩

theorem specKids (L : List Nd) (f k : Nat) : KidsS L f k := by
  by_cases h13 : kdAt L k = 13
  · exact specKids_list L f k h13
  · exact specKids_rest L f k h13

end Go.Proofs.YtljnciclbjcinaaGreatDoor
