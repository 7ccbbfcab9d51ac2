/-
  A slice of nodes of types in memory, and the walks of what the laws do with it: its size, its copy, its comparison; what is read of one that comes in.
-/
import Derived.Test.YtljnciclbjcinaaGreatDoorRows
import Derived.WalkKit
import Derived.WalkLawsBesides
import Derived.ProofKit
import Derived.OpenShut
import Derived.Test.YtljnciclbjcinaaGreatDoorOwn
import Derived.Test.YtljnciclbjcinaaGreatDoorBlk
import Derived.Deep.RegionWith
import Derived.Deep.SlicePairs
namespace Go.Proofs.YtljnciclbjcinaaGreatDoor
open Go.ChangeShapes Go.WideShapes Go.ChangeAt Go.RowKit Go.Deep

abbrev Nd := Int × Int × Int

/-- The nodes L lie from cell 'off' of block b on. -/
def ndAt (w : World) (b off : Nat) (L : List Nd) : Prop :=
  ∀ i (h : i < L.length), w.cell? ⟨b, off + i * 3, none⟩ = some (.int .i64 L[i].1) ∧ w.cell? ⟨b, off + i * 3 + 1, none⟩ = some (.int .i64 L[i].2.1) ∧ w.cell? ⟨b, off + i * 3 + 2, none⟩ = some (.int .i64 L[i].2.2)

theorem ndAt.below {w w' : World} {b off : Nat} {L : List Nd} (h : ndAt w b off L) {B : Nat} (hb : Below B w w') (hl : b < B) : ndAt w' b off L := fun i hi => by
  obtain ⟨h0, h1, h2⟩ := h i hi
  exact ⟨(hb.cell (p := ⟨b, off + i * 3, none⟩) hl).trans h0, (hb.cell (p := ⟨b, off + i * 3 + 1, none⟩) hl).trans h1, (hb.cell (p := ⟨b, off + i * 3 + 2, none⟩) hl).trans h2⟩

set_option maxRecDepth 2000000 in
set_option maxHeartbeats 800000 in
theorem szNds (a : Option Addr) (cap : Nat) (n : Nat) (w : World) (hn : n ≤ 9223372036854775807) :
    Calls Tryz.prog 5 #[.slice a n cap, .int .i64 1048576] w fun e w' => ∃ r : Int, e = .returned (.int .i64 r) ∧ (0 ≤ r → n ≤ 1048576) ∧ w' = w := by
  obtain ⟨N, hN⟩ : ∃ N : Int, (n : Int) = N := ⟨_, rfl⟩
  by_cases h0 : N ≤ 1048576
  · go_enter Tryz.func5, Tryz.ntmps5
    go_wp2
    go_ret
    exact ⟨_, rfl, fun _ => by omega, rfl⟩
  · go_enter Tryz.func5, Tryz.ntmps5
    go_wp2
    go_ret
    exact ⟨_, rfl, fun h => absurd h (by omega), rfl⟩

set_option maxRecDepth 100000 in
set_option maxHeartbeats 800000 in
theorem toNd1 (k n u : Int) (w : World) :
    Calls Tryz.prog 23 #[.agg #[.int .i64 k, .int .i64 n, .int .i64 u]] w fun e w' => e = .returned (.agg #[.int .i64 k, .int .i64 n, .int .i64 u]) ∧ Below w.heap.size w w' := by
  go_enter Tryz.func23, Tryz.ntmps23
  go_wp2
  exact bodyPost_ret (v := .agg #[.int .i64 k, .int .i64 n, .int .i64 u]) (by simp [results, Tryz.results23, go_sem]) rfl ⟨rfl, by (repeat (first | refine Below.alloc ?_ (by first | (simp; done) | (simp; omega)) _ | refine Below.setCell ?_ (by first | (simp; done) | (simp; omega)) _ | refine bel_dN ?_ _ | refine Below.drew ?_ | exact Below.refl _ _))⟩

theorem nd_put (L : List Nd) (arr : Array Value) (k : Nat) (x y z : Int) (hk : k < L.length) (hs : arr.size = L.length * 3) (hx : (x, y, z) = L[k])
    (hA : ∀ j (h : j < L.length), j < k → arr[j * 3]? = some (.int .i64 L[j].1) ∧ arr[j * 3 + 1]? = some (.int .i64 L[j].2.1) ∧ arr[j * 3 + 2]? = some (.int .i64 L[j].2.2)) :
    ((((arr.setIfInBounds (k * 3) (.int .i64 x)).setIfInBounds (k * 3 + 1) (.int .i64 y))).setIfInBounds (k * 3 + 2) (.int .i64 z)).size = L.length * 3 ∧
    ∀ j (h : j < L.length), j < k + 1 → ((((arr.setIfInBounds (k * 3) (.int .i64 x)).setIfInBounds (k * 3 + 1) (.int .i64 y))).setIfInBounds (k * 3 + 2) (.int .i64 z))[j * 3]? = some (.int .i64 L[j].1) ∧
      ((((arr.setIfInBounds (k * 3) (.int .i64 x)).setIfInBounds (k * 3 + 1) (.int .i64 y))).setIfInBounds (k * 3 + 2) (.int .i64 z))[j * 3 + 1]? = some (.int .i64 L[j].2.1) ∧
      ((((arr.setIfInBounds (k * 3) (.int .i64 x)).setIfInBounds (k * 3 + 1) (.int .i64 y))).setIfInBounds (k * 3 + 2) (.int .i64 z))[j * 3 + 2]? = some (.int .i64 L[j].2.2) := by
  refine ⟨by simpa using hs, fun j hj hjk => ?_⟩
  by_cases e : j = k
  · subst e
    rw [← hx]
    refine ⟨?_, ?_, ?_⟩
    · rw [Array.getElem?_setIfInBounds_ne (by omega), Array.getElem?_setIfInBounds_ne (by omega), Array.getElem?_setIfInBounds_self_of_lt (by omega)]
    · rw [Array.getElem?_setIfInBounds_ne (by omega), Array.getElem?_setIfInBounds_self_of_lt (by simp; omega)]
    · rw [Array.getElem?_setIfInBounds_self_of_lt (by simp; omega)]
  · have h := hA j hj (by omega)
    refine ⟨?_, ?_, ?_⟩
    · rw [Array.getElem?_setIfInBounds_ne (by omega), Array.getElem?_setIfInBounds_ne (by omega), Array.getElem?_setIfInBounds_ne (by omega)]; exact h.1
    · rw [Array.getElem?_setIfInBounds_ne (by omega), Array.getElem?_setIfInBounds_ne (by omega), Array.getElem?_setIfInBounds_ne (by omega)]; exact h.2.1
    · rw [Array.getElem?_setIfInBounds_ne (by omega), Array.getElem?_setIfInBounds_ne (by omega), Array.getElem?_setIfInBounds_ne (by omega)]; exact h.2.2

theorem Tryz.info54 : (Tryz.prog.info? 54).map (fun i => (i.zero, i.size, i.bytes)) = some (some (.agg #[.int .i64 0, .int .i64 0, .int .i64 0]), 3, 24) := by kernel_rfl

set_option maxRecDepth 100000 in
set_option maxHeartbeats 800000 in
theorem toNds (a : Option Addr) (b off cap : Nat) (L : List Nd) (w : World) (ha : Hid (L ≠ [] → a = some ⟨b, off, none⟩ ∧ b < w.heap.size)) (hL : ndAt w b off L) (hlen : L.length ≤ 1048576) :
    Calls Tryz.prog 8 #[.slice a L.length cap] w fun e w' => e = .returned (.slice (some ⟨w.heap.size, 0, none⟩) L.length L.length) ∧ w.heap.size < w'.heap.size ∧ ndAt w' w.heap.size 0 L ∧ (∃ arr, w'.heap[w.heap.size]? = some (.cells arr 54 (0, 0)) ∧ arr.size = L.length * 3) ∧ Below w.heap.size w w' := by
  obtain ⟨i0, hi, hz0, hz1, hz2⟩ := info_parts Tryz.info54
  obtain ⟨M, hM⟩ : ∃ M, M = madeCells (Value.agg #[.int .i64 0, .int .i64 0, .int .i64 0]).cells (((L.length : Nat) : Int).toNat * i0.size) := ⟨_, rfl⟩
  have hMs : M.size = L.length * 3 := by rw [hM, size_madeCells, hz1]; simp
  have hmk : ∀ W : World, (Instr.makeSlice 28 (.int .i64 (L.length : Int)) (.int .i64 (L.length : Int))).run Tryz.prog W = .ok (.slice (some ⟨W.heap.size, 0, none⟩) L.length L.length) (W.alloc (.cells M 54)) := fun W => by
    have h := run_make (P := Tryz.prog) W 28 54 i0 _ Tryz.underlying28 hi hz0 .i64 .i64 (L.length : Int) (L.length : Int) (by omega) (by omega) (by rw [hz2]; omega) (by omega)
    rw [← hM] at h
    simpa using h
  clear hM
  go_enter Tryz.func8, Tryz.ntmps8
  go_wp2
  go_loopw [4] (fun i wr => ∃ (k : Nat) (arr : Array Value), k ≤ L.length ∧ i = .int .i64 k ∧ wr.heap[w.heap.size]? = some (.cells arr 54 (0, 0)) ∧ arr.size = L.length * 3 ∧ Hid (∀ j (h : j < L.length), j < k → arr[j * 3]? = some (.int .i64 L[j].1) ∧ arr[j * 3 + 1]? = some (.int .i64 L[j].2.1) ∧ arr[j * 3 + 2]? = some (.int .i64 L[j].2.2)) ∧ Below w.heap.size w wr) (fun i _ => L.length - (intOf i).toNat)
  case atStart => exact ⟨0, M, by omega, rfl, heap_alloc_new _ _, hMs, fun j _ h => absurd h (by omega), (Below.refl _ _).alloc (Nat.le_refl _) _⟩
  case round =>
    clear hmk hMs
    obtain ⟨k, arr, hk, rfl, harr, hsz, hA, hnx⟩ := hrel
    have hgl := lt_of_block harr
    by_cases hlt : k < L.length
    · obtain ⟨rfl, hb⟩ := ha.out (fun h => by simp [h] at hlt)
      have hc := hL k hlt
      obtain ⟨x, hx⟩ : ∃ x, x = L[k] := ⟨_, rfl⟩
      rw [← hx] at hc
      obtain ⟨x, y, z⟩ := x
      have HX : Hid ((x, y, z) = L[k]) := hx
      clear hx
      simp only at hc
      have hc0 : wr.cell? ⟨b, off + k * 3, none⟩ = some (.int .i64 x) := (hnx.cell (by exact hb)).trans hc.1
      have hc1 : wr.cell? ⟨b, off + k * 3 + 1, none⟩ = some (.int .i64 y) := (hnx.cell (by exact hb)).trans hc.2.1
      have hc2 : wr.cell? ⟨b, off + k * 3 + 2, none⟩ = some (.int .i64 z) := (hnx.cell (by exact hb)).trans hc.2.2
      clear hc
      have HS : Hid (arr.size = L.length * 3) := hsz
      obtain ⟨o0, ho0⟩ : ∃ o, arr[k * 3]? = some o := ⟨_, Array.getElem?_eq_getElem (by omega)⟩
      obtain ⟨o1, ho1⟩ : ∃ o, arr[k * 3 + 1]? = some o := ⟨_, Array.getElem?_eq_getElem (by omega)⟩
      obtain ⟨o2, ho2⟩ : ∃ o, arr[k * 3 + 2]? = some o := ⟨_, Array.getElem?_eq_getElem (by omega)⟩
      clear hsz
      have H := toNd1 x y z
      go_wp2_with (go_at_call 23; refine (H _).mono ?_; rintro e w1 ⟨rfl, hb2⟩; clear H; have harr1 := (hb2.block _ hgl).trans harr; have d0 := (cell_of_block harr1 (k * 3)).trans ho0; have d1 := (cell_of_block harr1 (k * 3 + 1)).trans ho1; have d2 := (cell_of_block harr1 (k * 3 + 2)).trans ho2; have f0 := free_of_block harr1 (k * 3); have f1 := free_of_block harr1 (k * 3 + 1); have f2 := free_of_block harr1 (k * 3 + 2))
      go_roundw
      case rel =>
        obtain ⟨p1, p2⟩ := nd_put L arr k x y z hlt HS.out HX.out hA.out
        exact ⟨k + 1, _, by omega, by go_num, heap_setCell_same _ _ _ _ _ _ (heap_setCell_same _ _ _ _ _ _ (heap_setCell_same _ _ _ _ _ _ harr1)), p1, p2, (((hnx.trans (hb2.mono hnx.size)).setCell (Nat.le_refl _) _).setCell (Nat.le_refl _) _).setCell (Nat.le_refl _) _⟩
      case measure => simp [intOf]; omega
    · go_wp2
      go_ret
      refine ⟨rfl, hgl, fun j hj => ?_, ⟨arr, harr, hsz⟩, hnx⟩
      have hj2 := hA.out j hj (by omega)
      rw [Nat.zero_add, cell_of_block harr, cell_of_block harr, cell_of_block harr]
      exact hj2

set_option maxRecDepth 100000 in
set_option maxHeartbeats 800000 in
theorem eqNd1 (x y z : Int) (w : World) :
    Calls Tryz.prog 27 #[.agg #[.int .i64 x, .int .i64 y, .int .i64 z], .agg #[.int .i64 x, .int .i64 y, .int .i64 z]] w fun e w' => e = .returned (.bool true) ∧ Below w.heap.size w w' := by
  go_enter Tryz.func27, Tryz.ntmps27
  go_wp2
  go_ret
  exact ⟨rfl, ((Below.refl _ _).alloc (Nat.le_refl _) _).alloc (by simp) _⟩

set_option maxRecDepth 100000 in
set_option maxHeartbeats 1600000 in
theorem eqNds (a a' : Option Addr) (b off cap b' off' cap' : Nat) (L : List Nd) (w : World) (ha : Hid (L ≠ [] → a = some ⟨b, off, none⟩ ∧ b < w.heap.size)) (ha' : Hid (L ≠ [] → a' = some ⟨b', off', none⟩ ∧ b' < w.heap.size))
    (hL : ndAt w b off L) (hL' : ndAt w b' off' L) (hlen : L.length ≤ 9223372036854775807) :
    Calls Tryz.prog 11 #[.slice a L.length cap, .slice a' L.length cap'] w fun e w' => e = .returned (.bool true) ∧ Below w.heap.size w w' := by
  go_enter Tryz.func11, Tryz.ntmps11
  go_wp2
  go_loopw [5] (fun i wr => ∃ (k : Nat), k ≤ L.length ∧ i = .int .i64 k ∧ Below w.heap.size w wr) (fun i _ => L.length - (intOf i).toNat)
  case atStart => exact ⟨0, by omega, rfl, Below.refl _ _⟩
  case round =>
    obtain ⟨k, hk, rfl, hnx⟩ := hrel
    by_cases hlt : k < L.length
    · obtain ⟨rfl, hb⟩ := ha.out (fun h => by simp [h] at hlt)
      obtain ⟨rfl, hb'⟩ := ha'.out (fun h => by simp [h] at hlt)
      have hc := hL k hlt
      have hd := hL' k hlt
      obtain ⟨x, hx⟩ : ∃ x, x = L[k] := ⟨_, rfl⟩
      rw [← hx] at hc hd
      obtain ⟨x, y, z⟩ := x
      clear hx
      simp only at hc hd
      have hc0 : wr.cell? ⟨b, off + k * 3, none⟩ = some (.int .i64 x) := (hnx.cell (by exact hb)).trans hc.1
      have hc1 : wr.cell? ⟨b, off + k * 3 + 1, none⟩ = some (.int .i64 y) := (hnx.cell (by exact hb)).trans hc.2.1
      have hc2 : wr.cell? ⟨b, off + k * 3 + 2, none⟩ = some (.int .i64 z) := (hnx.cell (by exact hb)).trans hc.2.2
      have hd0 : wr.cell? ⟨b', off' + k * 3, none⟩ = some (.int .i64 x) := (hnx.cell (by exact hb')).trans hd.1
      have hd1 : wr.cell? ⟨b', off' + k * 3 + 1, none⟩ = some (.int .i64 y) := (hnx.cell (by exact hb')).trans hd.2.1
      have hd2 : wr.cell? ⟨b', off' + k * 3 + 2, none⟩ = some (.int .i64 z) := (hnx.cell (by exact hb')).trans hd.2.2
      clear hc hd
      have H := eqNd1 x y z
      go_wp2
      go_region_with (go_at_call 27; refine (H _).mono ?_; rintro e w1 ⟨rfl, hb2⟩)
      all_goals
        go_wp2
        go_roundw
        case rel => exact ⟨k + 1, by omega, by go_num, by first | exact below2 hnx (by assumption) | exact below2 hnx.drew (by assumption) | exact below2 hnx.drew.drew (by assumption) | exact below2 hnx.drew.drew.drew (by assumption)⟩
        case measure => simp [intOf]; omega
    · go_wp2
      go_ret
      exact ⟨rfl, hnx⟩

def fitsN (L : List Nd) : Prop := ∀ x ∈ L, (-9223372036854775808 ≤ x.1 ∧ x.1 ≤ 9223372036854775807) ∧ (-9223372036854775808 ≤ x.2.1 ∧ x.2.1 ≤ 9223372036854775807) ∧ (-9223372036854775808 ≤ x.2.2 ∧ x.2.2 ≤ 9223372036854775807)

def IsNds (W : World) (a : Option Addr) (L : List Nd) : Prop :=
  ∃ b off, (L ≠ [] → a = some ⟨b, off, none⟩ ∧ b < W.heap.size) ∧ ndAt W b off L ∧ L.length ≤ 9223372036854775807 ∧ fitsN L

theorem nd_block {w : World} {b o : Nat} {v : Value} (h : w.cell? ⟨b, o, none⟩ = some v) : b < w.heap.size := by
  rcases Nat.lt_or_ge b w.heap.size with h' | h'
  · exact h'
  · simp [World.cell?, Array.getElem?_eq_none h'] at h

theorem ndCells : Tryz.prog.cellsOf 56 = 3 := by kernel_rfl

theorem ndInt : Tryz.prog.cellsOf 3 = 1 := by kernel_rfl


set_option maxRecDepth 100000 in
theorem open_nds {H : Type} {enc : TypeId × Value → H} {W : World} {a : Option Addr} {len cap : Nat} {fuel : Nat} {x : DataW H × List MemPlace}
    (hf : DataW.trod enc Tryz.prog W 0 (fun _ => true) true fuel 22 (Value.slice a len cap).cells.toList = some x) : ∃ L : List Nd, len = L.length ∧ IsNds W a L := by
  rcases open_slice Tryz.underlying22 hf with ⟨hcs, _⟩ | ⟨ad, l, c, m, n, D, Pl, hcs, _, hl, hm, hmm, _, hx⟩
  · simp [Value.cells] at hcs
    obtain ⟨rfl, rfl, rfl⟩ := hcs
    exact ⟨[], rfl, 0, 0, fun h => absurd rfl h, fun i h => absurd h (by simp), by simp, fun x h => absurd h (by simp)⟩
  · simp [Value.cells] at hcs
    obtain ⟨rfl, rfl, rfl⟩ := hcs
    have hm' : m = cap := by simpa using hmm
    subst hm'
    unfold maxLen at hm
    have hv : ∀ i, i < m → ∃ p : Nd, W.cell? (ad.add (i * 3)) = some (.int .i64 p.1) ∧ W.cell? (ad.add (i * 3 + 1)) = some (.int .i64 p.2.1) ∧ W.cell? (ad.add (i * 3 + 2)) = some (.int .i64 p.2.2) ∧ ((-9223372036854775808 ≤ p.1 ∧ p.1 ≤ 9223372036854775807) ∧ (-9223372036854775808 ≤ p.2.1 ∧ p.2.1 ≤ 9223372036854775807) ∧ (-9223372036854775808 ≤ p.2.2 ∧ p.2.2 ≤ 9223372036854775807)) := fun i hi => by
      obtain ⟨cs', h1, h2⟩ := hx i hi
      rw [ndCells] at h1
      obtain ⟨_, hlen, hcell⟩ := World.cells?_some h1
      obtain ⟨xs, k, hk, hxy, _, hxl, hf⟩ := DataW.trod_struct Tryz.underlying56 h2
      match xs, hxl, cs', hlen with
      | [y0, y1, y2], _, [v0, v1, v2], _ =>
        have g0 := hf 0 _ rfl
        have g1 := hf 1 _ rfl
        have g2 := hf 2 _ rfl
        simp [ndInt] at g0 g1 g2
        have e0 := hcell 0 (by omega)
        have e1 := hcell 1 (by omega)
        have e2 := hcell 2 (by omega)
        rw [add_add] at e0 e1 e2
        obtain ⟨z0, q0, _, b0⟩ := DataW.trod_int Tryz.underlying3 g0
        obtain ⟨z1, q1, _, b1⟩ := DataW.trod_int Tryz.underlying3 g1
        obtain ⟨z2, q2, _, b2⟩ := DataW.trod_int Tryz.underlying3 g2
        simp at q0 q1 q2
        subst q0 q1 q2
        exact ⟨(z0, z1, z2), by simpa using e0, by simpa using e1, by simpa using e2, bounds_i64 b0, bounds_i64 b1, bounds_i64 b2⟩
    obtain ⟨f, hfv⟩ := choose_lt hv
    refine ⟨(List.range len).map f, by simp, ?_⟩
    have hfit : fitsN ((List.range len).map f) := fun x hx => by
      obtain ⟨i, hi, rfl⟩ := List.mem_map.1 hx
      exact (hfv i (by have := List.mem_range.1 hi; omega)).2.2.2
    by_cases h0 : len = 0
    · subst h0
      exact ⟨0, 0, fun h => absurd rfl h, fun i h => absurd h (by simp), by simp, hfit⟩
    · obtain ⟨b, off, spot⟩ := ad
      have hc0 := (hfv 0 (by omega)).1
      have hspot : spot = none := by simpa [Addr.add] using World.cell?_spot hc0
      subst hspot
      have hadd : ∀ j, (⟨b, off, none⟩ : Addr).add j = ⟨b, off + j, none⟩ := fun j => by rw [Addr.add_lit]
      refine ⟨b, off, fun _ => ⟨rfl, nd_block (by rw [hadd] at hc0; exact hc0)⟩, fun i hi => ?_, by simp; omega, hfit⟩
      have hi' : i < len := by simpa using hi
      obtain ⟨c0, c1, c2, _⟩ := hfv i (by omega)
      rw [hadd] at c0 c1 c2
      simp only [List.getElem_map, List.getElem_range]
      exact ⟨c0, c1, c2⟩

end Go.Proofs.YtljnciclbjcinaaGreatDoor
