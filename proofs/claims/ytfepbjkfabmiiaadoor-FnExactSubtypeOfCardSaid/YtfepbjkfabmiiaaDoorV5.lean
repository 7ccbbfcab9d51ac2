/-
  Rows of strings and signatures: what the laws do with them, and what is read of one that comes in.
-/
import Derived.Test.YtfepbjkfabmiiaaDoorYTy
import Derived.Test.YtfepbjkfabmiiaaDoorV4
import Derived.Test.YtfepbjkfabmiiaaDoorYHi
import Derived.Deep.RegionWith
namespace Go.Proofs.YtfepbjkfabmiiaaDoor
open Go.ChangeShapes Go.WideShapes Go.ChangeAt Go.RowKit Go.Deep

/-- The strings L lie from cell 'off' of block b on. -/
def stAt (w : World) (b off : Nat) (L : List ByteArray) : Prop := ∀ i (h : i < L.length), w.cell? ⟨b, off + i, none⟩ = some (.string L[i])
theorem stAt.below {w w' : World} {b off : Nat} {L : List ByteArray} (h : stAt w b off L) {B : Nat} (hb : Below B w w') (hl : b < B) : stAt w' b off L := fun i hi => (hb.cell (p := ⟨b, off + i, none⟩) hl).trans (h i hi)
/-- A row of strings, where it is told. -/
def SA (w : World) (a : Option Addr) (L : List ByteArray) : Prop := L ≠ [] → ∃ b off, a = some ⟨b, off, none⟩ ∧ b < w.heap.size ∧ stAt w b off L
theorem SA.below {w w' : World} {a : Option Addr} {L : List ByteArray} (h : SA w a L) (hb : Below w.heap.size w w') : SA w' a L := fun hn => by
  obtain ⟨b, off, h1, h2, h3⟩ := h hn
  exact ⟨b, off, h1, Nat.lt_of_lt_of_le h2 hb.size, h3.below hb h2⟩
theorem SA.at {w : World} {a : Option Addr} {L : List ByteArray} (h : SA w a L) {k : Nat} (hk : k < L.length) : ∃ b off, a = some ⟨b, off, none⟩ ∧ b < w.heap.size ∧ w.cell? ⟨b, off + k, none⟩ = some (.string L[k]) := by
  obtain ⟨b, off, h1, h2, h3⟩ := h (fun e => by simp [e] at hk)
  exact ⟨b, off, h1, h2, h3 k hk⟩

theorem strCell : Tryd.prog.cellsOf 9 = 1 := by kernel_rfl
theorem strsCell : Tryd.prog.cellsOf 28 = 1 := by kernel_rfl
theorem sigCells : Tryd.prog.cellsOf 30 = 2 := by kernel_rfl

set_option maxRecDepth 100000 in
theorem open_strs {H : Type} {enc : TypeId × Value → H} {W : World} {a : Option Addr} {len cap : Nat} {fuel : Nat} {x : DataW H × List MemPlace}
    (hf : DataW.trod enc Tryd.prog W 0 (fun _ => true) true fuel 28 (Value.slice a len cap).cells.toList = some x) : ∃ L : List ByteArray, len = L.length ∧ SA W a L ∧ L.length ≤ 9223372036854775807 ∧ ∀ s ∈ L, s.size ≤ 9223372036854775807 := by
  rcases open_slice Tryd.underlying28 hf with ⟨hcs, _⟩ | ⟨ad, l, c, m, n, D, Pl, hcs, _, hl, hm, hmm, _, hx⟩
  · simp [Value.cells] at hcs
    obtain ⟨rfl, rfl, rfl⟩ := hcs
    exact ⟨[], rfl, fun h => absurd rfl h, by simp, fun x h => absurd h (by simp)⟩
  · simp [Value.cells] at hcs
    obtain ⟨rfl, rfl, rfl⟩ := hcs
    have hm' : m = cap := by simpa using hmm
    subst hm'
    unfold maxLen at hm
    have hv : ∀ i, i < m → ∃ p : ByteArray, W.cell? (ad.add i) = some (.string p) ∧ p.size ≤ 9223372036854775807 := fun i hi => by
      obtain ⟨cs', h1, h2⟩ := hx i hi
      rw [strCell] at h1
      obtain ⟨_, hlen, hcell⟩ := World.cells?_some h1
      match cs', hlen with
      | [v0], _ =>
        have e0 := hcell 0 (by omega)
        rw [add_add] at e0
        obtain ⟨z1, q1, _, b1⟩ := DataW.trod_string Tryd.underlying9 h2
        simp at q1
        subst q1
        exact ⟨z1, by simpa using e0, by unfold maxLen at b1; exact b1⟩
    obtain ⟨f, hfv⟩ := choose_lt hv
    refine ⟨(List.range len).map f, by simp, ?_, by simp; omega, fun x hx => by
      obtain ⟨i, hi, rfl⟩ := List.mem_map.1 hx
      exact (hfv i (by have := List.mem_range.1 hi; omega)).2⟩
    intro hne
    have h0 : len ≠ 0 := fun e => hne (by rw [e]; rfl)
    obtain ⟨b, off, spot⟩ := ad
    have hc0 := (hfv 0 (by omega)).1
    have hspot : spot = none := by simpa [Addr.add] using World.cell?_spot hc0
    subst hspot
    have hadd : ∀ j, (⟨b, off, none⟩ : Addr).add j = ⟨b, off + j, none⟩ := fun j => by rw [Addr.add_lit]
    refine ⟨b, off, rfl, nd_block (by rw [hadd] at hc0; exact hc0), fun i hi => ?_⟩
    have hi' : i < len := by simpa using hi
    obtain ⟨c0, _⟩ := hfv i (by omega)
    rw [hadd] at c0
    simp only [List.getElem_map, List.getElem_range]
    exact c0

/-- A signature as a value. -/
abbrev sgV (a : Option Addr) (n c : Nat) (R : ByteArray) : Value := .agg #[.slice a n c, .string R]
/-- A signature that is told. -/
def IsSig (w : World) (a : Option Addr) (L : List ByteArray) (R : ByteArray) : Prop := SA w a L ∧ L.length ≤ 9223372036854775807 ∧ (∀ s ∈ L, s.size ≤ 9223372036854775807) ∧ R.size ≤ 9223372036854775807

set_option maxRecDepth 100000 in
theorem open_sig {H : Type} {enc : TypeId × Value → H} {W : World} {b0 : Nat} {v : Value} {d : DataW H} {p : List MemPlace} (hv : Value.okWide Tryd.prog W .any b0 30 v)
    (h : DataW.Trod enc Tryd.prog W 0 (fun _ => true) true 30 v d p) : ∃ a c L R, v = sgV a L.length c R ∧ IsSig W a L R := by
  obtain ⟨⟨cs⟩, rfl, hsz⟩ := okWide_struct Tryd.underlying30 hv
  rw [sigCells] at hsz
  match cs, hsz with
  | [c0, c1], _ =>
    obtain ⟨fuel, hf⟩ := h
    obtain ⟨xs, n, _, _, _, hlen, hf⟩ := DataW.trod_struct Tryd.underlying30 hf
    have h0 : DataW.trod enc Tryd.prog W 0 (fun _ => true) true n 28 (List.take (Tryd.prog.cellsOf 28) [c0, c1]) = xs[0]? := hf 0 _ rfl
    have h1 : DataW.trod enc Tryd.prog W 0 (fun _ => true) true n 9 (List.take (Tryd.prog.cellsOf 9) [c1]) = xs[1]? := hf 1 _ rfl
    have l2 : xs.length = 2 := hlen
    rw [List.getElem?_eq_getElem (by omega)] at h0 h1
    rw [strsCell] at h0
    rw [strCell] at h1
    simp only [List.take_succ_cons, List.take_zero] at h0 h1
    obtain ⟨R, hr1, _, hR⟩ := DataW.trod_string Tryd.underlying9 h1
    simp at hr1
    subst hr1
    have hs : ∃ a l c, c0 = .slice a l c := by
      rcases open_slice Tryd.underlying28 h0 with ⟨hcs, _⟩ | ⟨ad, l, c, m, n, D, Pl, hcs, _⟩
      · simp at hcs; exact ⟨_, _, _, hcs⟩
      · simp at hcs; exact ⟨_, _, _, hcs⟩
    obtain ⟨a, l, c, rfl⟩ := hs
    obtain ⟨L, rfl, h2, h3, h4⟩ := open_strs (a := a) (len := l) (cap := c) h0
    exact ⟨a, c, L, R, rfl, h2, h3, h4, by unfold maxLen at hR; exact hR⟩

set_option maxRecDepth 100000 in
set_option maxHeartbeats 800000 in
theorem szStrs (a : Option Addr) (c : Nat) (L : List ByteArray) (l0 : Int) (w : World) (hA : Hid (SA w a L)) (hn : L.length ≤ 9223372036854775807) (hS : Hid (∀ s ∈ L, s.size ≤ 9223372036854775807)) (h0 : 0 ≤ l0) (h1 : l0 ≤ 1048576) :
    Calls Tryd.prog 23 #[.slice a L.length c, .int .i64 l0] w fun e w' => ∃ r : Int, e = .returned (.int .i64 r) ∧ r ≤ 1048576 ∧ -9223372036854775808 ≤ r ∧ (0 ≤ r → L.length ≤ 1048576 ∧ ∀ s ∈ L, s.size ≤ 1048576) ∧ w' = w := by
  obtain ⟨N, hN⟩ : ∃ N : Int, (L.length : Int) = N := ⟨_, rfl⟩
  have hw : wrap64 (l0 - N) = l0 - N := by unfold wrap64; omega
  by_cases hneg : l0 - N < 0
  · go_enter Tryd.func23, Tryd.ntmps23
    go_wp2
    go_ret
    exact ⟨_, rfl, by omega, by omega, fun h => absurd h (by omega), rfl⟩
  · have hbig : L.length ≤ 1048576 := by omega
    have HB : Hid (L.length ≤ 1048576) := hbig
    go_enter Tryd.func23, Tryd.ntmps23
    go_wp2
    go_loopw [1, 5] (fun l i wr => ∃ (k : Nat) (m : Int), k ≤ L.length ∧ i = .int .i64 (k : Int) ∧ l = .int .i64 m ∧ 0 ≤ m ∧ m ≤ 1048576 ∧ wr = w ∧ Hid (∀ j (h : j < L.length), j < k → L[j].size ≤ 1048576)) (fun _ i _ => L.length - (intOf i).toNat)
    case atStart => exact ⟨0, l0 - N, by omega, rfl, by first | rfl | rw [hw], by omega, by omega, by first | rfl | trivial, fun j _ h => by omega⟩
    case round =>
      obtain ⟨k, m, hk, rfl, rfl, hm0, hm1, hwr, HJ⟩ := hrel
      obtain rfl := hwr.symm
      clear hwr
      by_cases hlt : k < L.length
      · obtain ⟨b, off, rfl, hb, hc⟩ := hA.out.at hlt
        have hz := hS.out L[k] (List.getElem_mem hlt)
        obtain ⟨x, hx⟩ : ∃ x, x = L[k] := ⟨_, rfl⟩
        rw [← hx] at hc hz
        have HX : Hid (x = L[k]) := hx
        clear hx
        have hw2 : wrap64 (m - (x.size : Int)) = m - (x.size : Int) := by unfold wrap64; omega
        by_cases hn2 : m - (x.size : Int) < 0
        · go_wp2
          go_ret
          exact ⟨_, rfl, by omega, by omega, fun h => absurd h (by omega), rfl⟩
        · go_wp2
          go_roundw
          case rel =>
            refine ⟨k + 1, m - (x.size : Int), by omega, by go_num, by first | rfl | rw [hw2], by omega, by omega, by first | rfl | trivial, fun j hj hjk => ?_⟩
            by_cases e : j = k
            · subst e
              rw [← HX.out]
              omega
            · exact HJ.out j hj (by omega)
          case measure => simp [intOf]; omega
      · go_wp2
        go_ret
        exact ⟨_, rfl, by omega, by omega, fun _ => ⟨HB.out, fun s hs => by
          obtain ⟨j, hj, rfl⟩ := List.mem_iff_getElem.1 hs
          exact HJ.out j hj (by omega)⟩, rfl⟩

set_option maxRecDepth 100000 in
set_option maxHeartbeats 800000 in
theorem szSig (a : Option Addr) (c : Nat) (L : List ByteArray) (R : ByteArray) (l0 : Int) (w : World) (h : Hid (IsSig w a L R)) (h0 : 0 ≤ l0) (h1 : l0 ≤ 1048576) :
    Calls Tryd.prog 11 #[sgV a L.length c R, .int .i64 l0] w fun e w' => ∃ r : Int, e = .returned (.int .i64 r) ∧ r ≤ 1048576 ∧ (0 ≤ r → L.length ≤ 1048576 ∧ (∀ s ∈ L, s.size ≤ 1048576) ∧ R.size ≤ 1048576) ∧ Below w.heap.size w w' := by
  obtain ⟨g, hgs⟩ : ∃ g, w.heap.size = g := ⟨_, rfl⟩
  obtain ⟨W, hW⟩ : ∃ W, w.alloc (.cells #[.slice a L.length c, .string R] 30) = W := ⟨_, rfl⟩
  have HW : Hid (W.heap[g]? = some (.cells #[.slice a L.length c, .string R] 30 (0, 0)) ∧ Below w.heap.size w W) := by
    unfold Hid; rw [← hW, ← hgs]; exact ⟨heap_alloc_new _ _, (Below.refl _ _).alloc (Nat.le_refl _) _⟩
  have hSA : Hid (SA W a L) := h.out.1.below HW.out.2
  have HR : Hid ((R.size : Int) ≤ 9223372036854775807) := by unfold Hid; have := h.out.2.2.2; omega
  have T := szStrs a c L l0 W hSA h.out.2.1 h.out.2.2.1 h0 h1
  have c0 := (cell_of_block HW.out.1 0).trans (show _ = some (Value.slice a L.length c) from rfl)
  have c1 := (cell_of_block HW.out.1 1).trans (show _ = some (Value.string R) from rfl)
  clear h hSA
  go_enter Tryd.func11, Tryd.ntmps11
  go_wp2_with fail
  refine T.mono ?_
  rintro e w1 ⟨r, rfl, hr1, hr2, hr3, rfl⟩
  have HR3 : Hid (0 ≤ r → L.length ≤ 1048576 ∧ ∀ s ∈ L, s.size ≤ 1048576) := hr3
  clear T hr3
  by_cases hn : r < 0
  · go_wp2
    go_ret
    exact ⟨_, rfl, by omega, fun h => absurd h (by omega), HW.out.2⟩
  · have hw2 : wrap64 (r - (R.size : Int)) = r - (R.size : Int) := by have := HR.out; unfold wrap64; omega
    by_cases hn2 : r - (R.size : Int) < 0
    · go_wp2
      go_ret
      exact ⟨_, rfl, by omega, fun h => absurd h (by omega), HW.out.2⟩
    · go_wp2
      go_ret
      exact ⟨_, rfl, by omega, fun _ => ⟨(HR3.out (by omega)).1, (HR3.out (by omega)).2, by omega⟩, HW.out.2⟩

theorem sgInfo : (Tryd.prog.info? 9).map (fun i => (i.zero, i.size, i.bytes)) = some (some (.string ⟨#[]⟩), 1, 16) := by kernel_rfl

set_option maxRecDepth 100000 in
set_option maxHeartbeats 800000 in
theorem toStrs (a : Option Addr) (c : Nat) (L : List ByteArray) (w : World) (hA : Hid (SA w a L)) (hlen : L.length ≤ 1048576) :
    Calls Tryd.prog 25 #[.slice a L.length c] w fun e w' => e = .returned (.slice (some ⟨w.heap.size, 0, none⟩) L.length L.length) ∧ w.heap.size < w'.heap.size ∧ stAt w' w.heap.size 0 L ∧ Below w.heap.size w w' := by
  obtain ⟨i0, hi, hz0, hz1, hz2⟩ := info_parts sgInfo
  obtain ⟨M, hM⟩ : ∃ M, M = madeCells (Value.string ⟨#[]⟩).cells (((L.length : Nat) : Int).toNat * i0.size) := ⟨_, rfl⟩
  have hMs : M.size = L.length := by rw [hM, size_madeCells, hz1]; simp
  have hmk : ∀ W : World, (Instr.makeSlice 28 (.int .i64 (L.length : Int)) (.int .i64 (L.length : Int))).run Tryd.prog W = .ok (.slice (some ⟨W.heap.size, 0, none⟩) L.length L.length) (W.alloc (.cells M 9)) := fun W => by
    have h := run_make (P := Tryd.prog) W 28 9 i0 _ Tryd.underlying28 hi hz0 .i64 .i64 (L.length : Int) (L.length : Int) (by omega) (by omega) (by rw [hz2]; omega) (by omega)
    rw [← hM] at h
    simpa using h
  clear hM
  go_enter Tryd.func25, Tryd.ntmps25
  go_wp2
  go_loopw [4] (fun i wr => ∃ (k : Nat) (arr : Array Value), k ≤ L.length ∧ i = .int .i64 k ∧ wr.heap[w.heap.size]? = some (.cells arr 9 (0, 0)) ∧ arr.size = L.length ∧ Hid (∀ j (h : j < L.length), j < k → arr[j]? = some (.string L[j])) ∧ Below w.heap.size w wr) (fun i _ => L.length - (intOf i).toNat)
  case atStart => exact ⟨0, M, by omega, rfl, heap_alloc_new _ _, hMs, fun j _ h => absurd h (by omega), (Below.refl _ _).alloc (Nat.le_refl _) _⟩
  case round =>
    clear hmk hMs
    obtain ⟨k, arr, hk, rfl, harr, hsz, hA2, hnx⟩ := hrel
    have hgl := lt_of_block harr
    by_cases hlt : k < L.length
    · obtain ⟨b, off, rfl, hb, hc⟩ := hA.out.at hlt
      have hc0 := (hnx.cell (p := ⟨b, off + k, none⟩) hb).trans hc
      obtain ⟨x, hx⟩ : ∃ x, x = L[k] := ⟨_, rfl⟩
      rw [← hx] at hc0
      have HX : Hid (x = L[k]) := hx
      clear hx hc
      have HS : Hid (arr.size = L.length) := hsz
      obtain ⟨o0, ho0⟩ : ∃ o, arr[k]? = some o := ⟨_, Array.getElem?_eq_getElem (by omega)⟩
      have d0 := (cell_of_block harr k).trans ho0
      have f0 := free_of_block harr k
      have HARR : Hid (wr.heap[w.heap.size]? = some (.cells arr 9 (0, 0))) := harr
      clear hsz harr
      go_wp2
      go_roundw
      case rel =>
        refine ⟨k + 1, _, by omega, by go_num, heap_setCell_same _ _ _ _ _ _ HARR.out, by simpa using HS.out, fun j hj hjk => ?_, hnx.setCell (Nat.le_refl _) _⟩
        by_cases e : j = k
        · subst e
          rw [Array.getElem?_setIfInBounds_self_of_lt (by have := HS.out; omega), HX.out]
        · rw [Array.getElem?_setIfInBounds_ne (by omega)]
          exact hA2.out j hj (by omega)
      case measure => simp [intOf]; omega
    · go_wp2
      go_ret
      refine ⟨rfl, hgl, fun j hj => ?_, hnx⟩
      rw [Nat.zero_add, cell_of_block harr]
      exact hA2.out j hj (by omega)

set_option maxRecDepth 100000 in
set_option maxHeartbeats 800000 in
theorem eqStrs (a a' : Option Addr) (c c' : Nat) (L : List ByteArray) (w : World) (hA : Hid (SA w a L)) (hA' : Hid (SA w a' L)) (hlen : L.length ≤ 9223372036854775807) :
    Calls Tryd.prog 27 #[.slice a L.length c, .slice a' L.length c'] w fun e w' => e = .returned (.bool true) ∧ Below w.heap.size w w' := by
  go_enter Tryd.func27, Tryd.ntmps27
  go_wp2
  go_loopw [5] (fun i wr => ∃ k : Nat, k ≤ L.length ∧ i = .int .i64 k ∧ Below w.heap.size w wr) (fun i _ => L.length - (intOf i).toNat)
  case atStart => exact ⟨0, by omega, rfl, Below.refl _ _⟩
  case round =>
    obtain ⟨k, hk, rfl, hnx⟩ := hrel
    by_cases hlt : k < L.length
    · obtain ⟨b, off, rfl, hb, hc⟩ := hA.out.at hlt
      obtain ⟨b', off', rfl, hb', hc'⟩ := hA'.out.at hlt
      have hc0 := (hnx.cell (p := ⟨b, off + k, none⟩) hb).trans hc
      have hd0 := (hnx.cell (p := ⟨b', off' + k, none⟩) hb').trans hc'
      obtain ⟨x, hx⟩ : ∃ x, x = L[k] := ⟨_, rfl⟩
      rw [← hx] at hc0 hd0
      clear hx hc hc'
      have hxx : (x.toList == x.toList) = true := by simp
      go_wp2
      go_region
      all_goals
        go_wp2
        go_roundw
        case rel => exact ⟨k + 1, by omega, by go_num, by first | exact hnx | exact hnx.drew | exact hnx.drew.drew | (simp only [World.drew]; exact hnx)⟩
        case measure => simp [intOf]; omega
    · go_wp2
      go_ret
      exact ⟨rfl, hnx⟩

end Go.Proofs.YtfepbjkfabmiiaaDoor

namespace Go.Proofs.YtfepbjkfabmiiaaDoor
open Go.ChangeShapes Go.WideShapes Go.ChangeAt Go.RowKit Go.Deep

theorem s_blk {w : World} {c : Array Value} {t : TypeId} {g : Nat} (h : w.heap.size = g) : (w.alloc (.cells c t)).heap[g]? = some (.cells c t (0, 0)) := by rw [← h]; exact heap_alloc_new _ _
theorem s_old {w : World} {o : Obj} {g : Nat} {x : Obj} (h : w.heap[g]? = some x) : (w.alloc o).heap[g]? = some x := (Below.heap_alloc _ _ _ (lt_of_block h)).trans h
theorem set2S {W : World} {z : Nat} {t : TypeId} {a0 a1 : Value} (h : W.heap[z]? = some (.cells #[a0, a1] t (0, 0))) (b0 b1 : Value) : ((W.setCell ⟨z, 0, none⟩ b0).setCell ⟨z, 1, none⟩ b1).heap[z]? = some (.cells #[b0, b1] t (0, 0)) ∧ ∀ q, q ≠ z → ((W.setCell ⟨z, 0, none⟩ b0).setCell ⟨z, 1, none⟩ b1).heap[q]? = W.heap[q]? := by
  refine ⟨?_, fun g hg => ?_⟩
  · rw [heap_setCell_same _ _ _ _ _ _ (heap_setCell_same _ _ _ _ _ _ h)]
    rfl
  · exact (heap_setCell_other _ _ _ _ (by simpa using hg)).trans (heap_setCell_other _ _ _ _ (by simpa using hg))
theorem two {w : World} {b : Nat} {x y : Value} {t : TypeId} (h : w.heap[b]? = some (.cells #[x, y] t (0, 0))) : (w.cell? ⟨b, 0, none⟩ = some x ∧ w.cell? ⟨b, 1, none⟩ = some y) ∧ w.frozen? ⟨b, 0, none⟩ = false ∧ w.frozen? ⟨b, 1, none⟩ = false :=
  ⟨⟨(cell_of_block h 0).trans rfl, (cell_of_block h 1).trans rfl⟩, free_of_block h 0, free_of_block h 1⟩

set_option maxRecDepth 100000 in
set_option maxHeartbeats 800000 in
theorem toSig (a : Option Addr) (c : Nat) (L : List ByteArray) (R : ByteArray) (w : World) (hA : Hid (SA w a L)) (hlen : L.length ≤ 1048576) :
    Calls Tryd.prog 13 #[sgV a L.length c R] w fun e w' => ∃ g, e = .returned (sgV (some ⟨g, 0, none⟩) L.length L.length R) ∧ w.heap.size ≤ g ∧ g < w'.heap.size ∧ stAt w' g 0 L ∧ Below w.heap.size w w' := by
  obtain ⟨g, hgs⟩ : ∃ g, w.heap.size = g := ⟨_, rfl⟩
  obtain ⟨W, hW⟩ : ∃ W, ((w.alloc (.cells #[.slice a L.length c, .string R] 30)).alloc (.cells #[.slice none 0 0, .string ⟨#[]⟩] 33)).alloc (.cells #[.slice none 0 0, .string ⟨#[]⟩] 33) = W := ⟨_, rfl⟩
  have HW : Hid (W.heap[g]? = some (.cells #[.slice a L.length c, .string R] 30 (0, 0)) ∧ W.heap[g + 1]? = some (.cells #[.slice none 0 0, .string ⟨#[]⟩] 33 (0, 0)) ∧ W.heap[g + 1 + 1]? = some (.cells #[.slice none 0 0, .string ⟨#[]⟩] 33 (0, 0)) ∧ Below w.heap.size w W ∧ W.heap.size = g + 1 + 1 + 1) := by
    unfold Hid; rw [← hW, ← hgs]
    exact ⟨s_old (s_old (heap_alloc_new _ _)), s_old (s_blk (by simp)), s_blk (by simp), by (repeat (first | refine Below.alloc ?_ (by first | (simp; done) | (simp; omega)) _ | refine Below.setCell ?_ (by first | (simp; done) | (simp; omega)) _ | refine bel_dN ?_ _ | refine Below.drew ?_ | exact Below.refl _ _)), by simp⟩
  have hSA : Hid (SA W a L) := hA.out.below HW.out.2.2.2.1
  have T := toStrs a c L W hSA hlen
  have c0 := (cell_of_block HW.out.1 0).trans (show _ = some (Value.slice a L.length c) from rfl)
  have HG : Hid (w.heap.size = g) := hgs
  clear hSA hA
  go_enter Tryd.func13, Tryd.ntmps13
  go_wp2_with fail
  refine T.mono ?_
  rintro e w1 ⟨rfl, h1, h2, hb⟩
  obtain ⟨p0, p1, p2, p3, p4⟩ := HW.out
  rw [p4] at h1 h2 hb ⊢
  have e0 := (hb.block g (by omega)).trans p0
  have e1 := (hb.block (g + 1) (by omega)).trans p1
  have e2 := (hb.block (g + 1 + 1) (by omega)).trans p2
  obtain ⟨⟨_, x1⟩, _⟩ := two e0
  obtain ⟨⟨y0, y1⟩, y2, y3⟩ := two e1
  obtain ⟨⟨z0, z1⟩, z2, z3⟩ := two e2
  obtain ⟨X, hX⟩ : ∃ X, (w1.setCell ⟨g + 1 + 1, 0, none⟩ (.slice (some ⟨g + 1 + 1 + 1, 0, none⟩) L.length L.length)).setCell ⟨g + 1 + 1, 1, none⟩ (.string R) = X := ⟨_, rfl⟩
  obtain ⟨f1, f2⟩ := set2S e2 (.slice (some ⟨g + 1 + 1 + 1, 0, none⟩) L.length L.length) (.string R)
  rw [hX] at f1 f2
  have e3 := (f2 (g + 1) (by omega)).trans e1
  obtain ⟨f3, f4⟩ := set2S e3 (.slice (some ⟨g + 1 + 1 + 1, 0, none⟩) L.length L.length) (.string R)
  have hXs : X.heap.size = w1.heap.size := by rw [← hX]; simp
  obtain ⟨⟨u0, u1⟩, u2, u3⟩ := two f1
  obtain ⟨⟨v0, v1⟩, v2, v3⟩ := two e3
  obtain ⟨⟨q0, q1⟩, _⟩ := two f3
  have HEND : Hid (g + 1 + 1 + 1 < ((X.setCell ⟨g + 1, 0, none⟩ (.slice (some ⟨g + 1 + 1 + 1, 0, none⟩) L.length L.length)).setCell ⟨g + 1, 1, none⟩ (.string R)).heap.size ∧ stAt ((X.setCell ⟨g + 1, 0, none⟩ (.slice (some ⟨g + 1 + 1 + 1, 0, none⟩) L.length L.length)).setCell ⟨g + 1, 1, none⟩ (.string R)) (g + 1 + 1 + 1) 0 L ∧ Below w.heap.size w ((X.setCell ⟨g + 1, 0, none⟩ (.slice (some ⟨g + 1 + 1 + 1, 0, none⟩) L.length L.length)).setCell ⟨g + 1, 1, none⟩ (.string R))) := by
    have hg := HG.out
    refine ⟨by simp; omega, fun i hi => ?_, ((Below.setCell (Below.setCell ?_ (by simp; omega) _) (by simp; omega) _))⟩
    · have h3 : ((X.setCell ⟨g + 1, 0, none⟩ (.slice (some ⟨g + 1 + 1 + 1, 0, none⟩) L.length L.length)).setCell ⟨g + 1, 1, none⟩ (.string R)).heap[g + 1 + 1 + 1]? = w1.heap[g + 1 + 1 + 1]? := (f4 (g + 1 + 1 + 1) (by omega)).trans (f2 (g + 1 + 1 + 1) (by omega))
      have h4 := h2 i hi
      simp only [World.cell?, h3] at h4 ⊢
      exact h4
    · rw [← hX]
      exact ((p3.trans (hb.mono (by omega))).setCell (by simp; omega) _).setCell (by simp; omega) _
  clear p0 p1 p2 p3 p4 h1 h2 hb e0 e1 e2 e3 f1 f2 f3 f4 T hXs
  go_wp2
  exact bodyPost_ret (by simp [results, Tryd.results13, go_sem, q0, q1]) rfl ⟨_, rfl, by have := HG.out; omega, HEND.out⟩

set_option maxRecDepth 100000 in
set_option maxHeartbeats 800000 in
theorem eqSig (a a' : Option Addr) (c c' : Nat) (L : List ByteArray) (R : ByteArray) (w : World) (hA : Hid (SA w a L)) (hA' : Hid (SA w a' L)) (hlen : L.length ≤ 9223372036854775807) :
    Calls Tryd.prog 15 #[sgV a L.length c R, sgV a' L.length c' R] w fun e w' => e = .returned (.bool true) ∧ Below w.heap.size w w' := by
  obtain ⟨g, hgs⟩ : ∃ g, w.heap.size = g := ⟨_, rfl⟩
  obtain ⟨W, hW⟩ : ∃ W, (w.alloc (.cells #[.slice a L.length c, .string R] 33)).alloc (.cells #[.slice a' L.length c', .string R] 33) = W := ⟨_, rfl⟩
  have HW : Hid (W.heap[g]? = some (.cells #[.slice a L.length c, .string R] 33 (0, 0)) ∧ W.heap[g + 1]? = some (.cells #[.slice a' L.length c', .string R] 33 (0, 0)) ∧ Below w.heap.size w W ∧ W.heap.size = g + 1 + 1) := by
    unfold Hid; rw [← hW, ← hgs]
    exact ⟨s_old (heap_alloc_new _ _), s_blk (by simp), by (repeat (first | refine Below.alloc ?_ (by first | (simp; done) | (simp; omega)) _ | refine Below.setCell ?_ (by first | (simp; done) | (simp; omega)) _ | refine bel_dN ?_ _ | refine Below.drew ?_ | exact Below.refl _ _)), by simp⟩
  have T := eqStrs a a' c c' L W (hA.out.below HW.out.2.2.1) (hA'.out.below HW.out.2.2.1) hlen
  obtain ⟨⟨x0, x1⟩, _⟩ := two HW.out.1
  obtain ⟨⟨y0, y1⟩, _⟩ := two HW.out.2.1
  clear hA hA'
  have hRR : (R.toList == R.toList) = true := by simp
  go_enter Tryd.func15, Tryd.ntmps15
  go_wp2_with fail
  refine T.mono ?_
  rintro e w1 ⟨rfl, hb⟩
  obtain ⟨p0, p1, p2, p3⟩ := HW.out
  have e0 := (hb.block g (by omega)).trans p0
  have e1 := (hb.block (g + 1) (by omega)).trans p1
  obtain ⟨⟨_, u1⟩, _⟩ := two e0
  obtain ⟨⟨_, v1⟩, _⟩ := two e1
  have HB : Hid (Below w.heap.size w w1) := below2 p2 hb
  clear p0 p1 p2 p3 e0 e1 hb T x0 x1 y0 y1
  go_wp2
  go_ret
  exact ⟨rfl, HB.out⟩

end Go.Proofs.YtfepbjkfabmiiaaDoor

namespace Go.Proofs.YtfepbjkfabmiiaaDoor
open Go.ChangeShapes Go.WideShapes Go.ChangeAt Go.RowKit Go.PlainAid

/-- Whether a value of the type of a text may be passed. -/
def mp (s : List UInt8) : Bool := rdB s && !((rdM s).any (fun x => isH x.1))
theorem flat_any {lo hi : Nat} {T : TT} {sl : Value} {w : World} (hT : TRep lo hi w T sl) (hhi : hi ≤ w.heap.size) (hz : szT T ≤ 1999999) :
    Calls Tryd.prog 19 #[.slice none 0 0, .agg #[.int .i64 (kdT T), .int .i64 (nT T), sl], .int .i64 (-1)] w fun e w' => ∃ v', e = .returned v' ∧ Below w.heap.size w w' :=
  (specFlatT (szT T) T (Nat.le_refl _) w.heap.size lo hi w (.slice none 0 0) [] (-1) sl (World.ownsRow_nil _ _ _ _) (Nat.le_refl _) hhi hT (by simp; omega)).mono fun e w' ⟨v', h1, _, h2⟩ => ⟨v', h1, h2⟩
theorem handles_of {lo hi : Nat} {T : TT} {sl : Value} {w : World} (hT : TRep lo hi w T sl) (hhi : hi ≤ w.heap.size) (hG : goodT (flT T (-1) 0) = true) :
    Calls Tryd.prog 36 #[.agg #[.int .i64 (kdT T), .int .i64 (nT T), sl]] w fun e w' => e = .returned (.bool ((flT T (-1) 0).any (fun x => isH x.1))) ∧ Below w.heap.size w w' := by
  obtain ⟨h1, h2, h3⟩ := tr_whole hT
  have hU := ups_good hG
  have H := specHandles (flT T (-1) 0) hU.2.1 (flT T (-1) 0).length 0 w lo hi sl h1 hhi
  rw [h2, h3, hnd_all hG] at H
  exact H
theorem rdL_szA {g : List UInt8 → TT × Nat} (H : ∀ r, (g r).2 ≠ 0 → szT (g r).1 ≤ (g r).2) : ∀ (c : Nat) (r : List UInt8) (n : Nat) (acc : List TT), 1 + szK acc ≤ n → 1 + szK (rdL g c r n acc).1 ≤ n + r.length
  | 0, r, n, acc, hn => by rw [rdL]; simp only; omega
  | c + 1, r, n, acc, hn => by
    rw [rdL]
    by_cases h1 : (g r).2 = 0 ∨ r.length ≤ (g r).2
    · rw [if_pos h1]
      simp only
      omega
    · rw [if_neg h1]
      have hg := H r (fun e => h1 (.inl e))
      have hs := szK_app acc (g r).1
      by_cases h2 : r.getD (g r).2 0 = 62
      · rw [if_pos h2]
        simp only
        omega
      · rw [if_neg h2]
        by_cases h3 : r.getD (g r).2 0 = 44
        · rw [if_pos h3]
          have := rdL_szA H c (r.drop ((g r).2 + 1)) (n + (g r).2 + 1) (acc ++ [(g r).1]) (by omega)
          rw [List.length_drop] at this
          omega
        · rw [if_neg h3]
          simp only
          omega
theorem rdT_szA (f : Nat) (s : List UInt8) : szT (rdT f s).1 ≤ s.length + 1 := by
  cases f with
  | zero => rw [rdT]; simp only [szT, szK]; omega
  | succ f =>
    rw [rdT]
    by_cases h1 : nKind s = 0
    · rw [if_pos h1]
      simp only [szT, szK]
      omega
    · rw [if_neg h1]
      by_cases h2 : (shp4 (nKind s)).1 = 0 ∧ (shp4 (nKind s)).2.2.2 = 0
      · rw [if_pos h2]
        simp only [szT, szK]
        omega
      · rw [if_neg h2]
        by_cases h3 : s.length ≤ nLen s ∨ s.getD (nLen s) 0 ≠ 60
        · rw [if_pos h3]
          simp only [szT, szK]
          omega
        · rw [if_neg h3]
          by_cases h4 : (shp4 (nKind s)).1 = 0
          · rw [if_pos h4]
            unfold rdN
            simp only [szT, szK]
            omega
          · rw [if_neg h4]
            simp only
            rw [szT]
            have := rdL_szA (rdT_sz f) 9 (s.drop (nLen s + 1)) (nLen s + 1) [] (by simp [szK])
            rw [List.length_drop] at this
            have h5 : ¬ s.length ≤ nLen s := fun e => h3 (.inl e)
            omega

set_option maxRecDepth 100000 in
set_option maxHeartbeats 1600000 in
theorem specType (s : ByteArray) (hs : s.size ≤ 1048576) (w : World) :
    Calls Tryd.prog 24 #[.string s] w fun e w' => ∃ v, e = .returned (.tuple #[v, .bool (mp s.data.toList)]) ∧ Below w.heap.size w w' := by
  have HR := specOf s w hs
  unfold OfP at HR
  have hz0 := rdT_szA 8 s.data.toList
  have hsl : s.data.toList.length = s.size := by simp
  obtain ⟨T, hT⟩ : ∃ T, (rdT 8 s.data.toList).1 = T := ⟨_, rfl⟩
  obtain ⟨ok, hok⟩ : ∃ b, rdOk s.data.toList = b := ⟨_, rfl⟩
  have HB : Hid (ok = true → mp s.data.toList = !((flT T (-1) 0).any (fun x => isH x.1)) ∧ goodT (flT T (-1) 0) = true) := fun h => by
    have h2 : rdOk s.data.toList = true := by rw [hok, h]
    have h3 := rdOk_row h2
    refine ⟨?_, ?_⟩
    · unfold mp
      rw [h3.1, h3.2, Bool.true_and, ← hT]
      rfl
    · have h4 := h2
      unfold rdOk rdF at h4
      simp only [Bool.and_eq_true] at h4
      rw [← hT]
      exact h4.2.2.1
  have HM : Hid (ok = false → mp s.data.toList = false) := fun h => by
    unfold mp
    rw [← rdOk_eq, hok, h, Bool.false_and]
  rw [hT] at hz0
  rw [hT, hok] at HR
  have HZ : Hid (szT T ≤ 1999999) := by unfold Hid; omega
  obtain ⟨M, hM⟩ : ∃ M, mp s.data.toList = M := ⟨_, rfl⟩
  rw [hM] at HB HM ⊢
  clear hz0 hsl hT hok hM
  go_enter Tryd.func24, Tryd.ntmps24
  go_wp2_with fail
  refine HR.mono ?_
  rintro e w1 ⟨sl, rfl, hT, hb1⟩
  clear HR
  obtain ⟨kd, hkd⟩ : ∃ k, kdT T = k := ⟨_, rfl⟩
  obtain ⟨nt, hnt⟩ : ∃ k, nT T = k := ⟨_, rfl⟩
  obtain ⟨a, m, c, rfl⟩ := trep_one hT
  obtain ⟨y, hy⟩ : ∃ y, w1.heap.size = y := ⟨_, rfl⟩
  obtain ⟨X, hX⟩ : ∃ X, w1.alloc (.cells #[.int .i64 kd, .int .i64 nt, .slice a m c] 42) = X := ⟨_, rfl⟩
  have hX2 : X.heap[y]? = some (.cells #[.int .i64 kd, .int .i64 nt, .slice a m c] 42 (0, 0)) ∧ X.heap.size = y + 1 ∧ Below w.heap.size w X ∧ TRep w.heap.size y X T (.slice a m c) := by
    rw [← hX, ← hy]
    exact ⟨heap_alloc_new _ _, by simp, hb1.alloc hb1.size _, TRep.keep (fun g _ g2 => Below.heap_alloc _ _ _ g2) T _ hT⟩
  have HX : Hid (X.heap[y]? = some (.cells #[.int .i64 kd, .int .i64 nt, .slice a m c] 42 (0, 0)) ∧ X.heap.size = y + 1 ∧ Below w.heap.size w X ∧ TRep w.heap.size y X T (.slice a m c)) := hX2
  have HC : Hid (Calls Tryd.prog 19 #[.slice none 0 0, .agg #[.int .i64 kd, .int .i64 nt, .slice a m c], .int .i64 (-1)] X fun e w' => ∃ v', e = .returned v' ∧ Below X.heap.size X w') := by
    have h := flat_any hX2.2.2.2 (by rw [hX2.2.1]; omega) HZ.out
    rw [hkd, hnt] at h
    exact h
  have HD : Hid (∀ U, Below X.heap.size X U → ok = true → Calls Tryd.prog 36 #[.agg #[.int .i64 kd, .int .i64 nt, .slice a m c]] U fun e w' => e = .returned (.bool (!M)) ∧ Below U.heap.size U w') := fun U hU h => by
    obtain ⟨h1, h2⟩ := HB.out h
    have hTU : TRep w.heap.size y U T (.slice a m c) := TRep.keep (fun g _ g2 => hU.block g (by have := HX.out.2.1; omega)) T _ HX.out.2.2.2
    have h3 := handles_of hTU (by have := hU.size; have := HX.out.2.1; omega) h2
    rw [hkd, hnt] at h3
    rw [h1, Bool.not_not]
    exact h3
  obtain ⟨x0, x1, x2⟩ := three hX2.1
  rw [hkd, hnt]
  clear hT hb1 hX2 hkd hnt HZ HB
  go_wp2_with fail
  refine HC.out.mono ?_
  rintro e w2 ⟨v', rfl, hb2⟩
  have HB2 : Hid (Below w.heap.size w w2) := HX.out.2.2.1.trans (hb2.mono HX.out.2.2.1.size)
  cases ok with
  | false =>
    have hM := HM.out rfl
    subst hM
    clear HD HC HM hb2
    go_wp2
    go_ret2
    exact ⟨_, rfl, HB2.out⟩
  | true =>
    have HD2 := HD.out w2 hb2 rfl
    obtain ⟨x0, x1, x2⟩ := three ((hb2.block y (by have := HX.out.2.1; omega)).trans HX.out.1)
    clear HD HC HM hb2
    go_wp2_with fail
    refine HD2.mono ?_
    rintro e w3 ⟨rfl, hb3⟩
    have HB3 : Hid (Below w.heap.size w w3) := below2 HB2.out hb3
    clear hb3 HD2 HB2
    go_wp2
    go_ret2
    exact ⟨_, by first | rfl | simp, HB3.out⟩

set_option maxRecDepth 100000 in
set_option maxHeartbeats 1600000 in
theorem implMay (s : ByteArray) (hs : s.size ≤ 1048576) (w : World) (hT : Hid (Tabs w)) (hE : Hid (Errs w)) (hP : Hid (Pows w)) (hg : Hid (0 < w.heap.size ∧ 2 < w.heap.size ∧ 3 < w.heap.size)) :
    Calls Tryd.prog 26 #[.string s] w fun e w' => e = .returned (.bool (mp s.data.toList)) ∧ Below w.heap.size w w' := by
  have HR := implRead s hs w hT hE hP hg
  have hel := rdM_len s.data.toList
  obtain ⟨y, hy⟩ : ∃ y, rdB s.data.toList = y := ⟨_, rfl⟩
  have hmp : mp s.data.toList = (y && !((rdM s.data.toList).any (fun x => isH x.1))) := by unfold mp; rw [hy]
  have hne : y = true → rdM s.data.toList ≠ [] := fun h e => by
    obtain ⟨hG, _⟩ := rd_some (s := s.data.toList) (by rw [hy, h])
    have := (ups_good hG).1
    rw [e] at this
    simp at this
  obtain ⟨E, hE2⟩ : ∃ E, rdM s.data.toList = E := ⟨_, rfl⟩
  rw [hy, hE2] at HR
  rw [hE2] at hel hmp hne
  obtain ⟨r, hr⟩ : ∃ r, E.any (fun x => isH x.1) = r := ⟨_, rfl⟩
  rw [hr] at hmp
  rw [hmp]
  have HRR : Hid (E.any (fun x => isH x.1) = r) := hr
  have HN : Hid (y = true → E ≠ []) := hne
  have HEL : Hid (E.length ≤ 40) := hel
  clear hy hE2 hmp hne hel hr
  go_enter Tryd.func26, Tryd.ntmps26
  go_wp2_with fail
  refine HR.mono ?_
  rintro e w1 ⟨v, rfl, hO, hb1⟩
  obtain ⟨a, c, rfl, hA⟩ := nds_of_row hO
  have HB1 : Hid (Below w.heap.size w w1) := hb1
  clear HR hO hb1
  cases y with
  | false =>
    go_wp2
    go_ret
    exact ⟨rfl, HB1.out⟩
  | true =>
    obtain ⟨g, rfl, hgl, hat⟩ := hA (HN.out rfl)
    have HC := implCont g 0 c E w1 hgl hat HEL.out
    rw [HRR.out] at HC
    clear HRR hA hat
    go_wp2_with fail
    refine HC.mono ?_
    rintro e w2 ⟨rfl, hb2⟩
    have HB2 : Hid (Below w.heap.size w w2) := below2 HB1.out hb2
    clear hb2 HC
    go_wp2
    go_ret
    exact ⟨rfl, HB2.out⟩

end Go.Proofs.YtfepbjkfabmiiaaDoor

namespace Go.Proofs.YtfepbjkfabmiiaaDoor
open Go.ChangeShapes Go.WideShapes Go.ChangeAt Go.RowKit Go.PlainAid

/-- Whether it is a signature. -/
def gsg (L : List ByteArray) (R : ByteArray) : Bool := decide (L.length ≤ 6) && ((L.all fun s => mp s.data.toList) && (R.toList == [] || mp R.data.toList))
theorem gsg_no {L : List ByteArray} {R : ByteArray} {k : Nat} (hk : k < L.length) (h : mp L[k].data.toList = false) : gsg L R = false := by
  unfold gsg
  rw [show (L.all fun s => mp s.data.toList) = false from by
    rw [List.all_eq_false]
    exact ⟨L[k], List.getElem_mem hk, by simp [h]⟩]
  simp
theorem all_at {L : List ByteArray} (h : ∀ j (hj : j < L.length), mp L[j].data.toList = true) : (L.all fun s => mp s.data.toList) = true := by
  rw [List.all_eq_true]
  intro s hs
  obtain ⟨j, hj, rfl⟩ := List.mem_iff_getElem.1 hs
  exact h j hj

set_option maxRecDepth 100000 in
set_option maxHeartbeats 1600000 in
theorem specGSig (a : Option Addr) (c : Nat) (L : List ByteArray) (R : ByteArray) (w : World) (hA : Hid (SA w a L)) (hn : L.length ≤ 1048576) (hS : Hid (∀ s ∈ L, s.size ≤ 1048576)) (hR : Hid (R.size ≤ 1048576)) :
    Calls Tryd.prog 12 #[sgV a L.length c R] w fun e w' => e = .returned (.bool (gsg L R)) ∧ Below w.heap.size w w' := by
  obtain ⟨G, hG⟩ : ∃ G, gsg L R = G := ⟨_, rfl⟩
  have HG : Hid (gsg L R = G) := hG
  rw [hG]
  clear hG
  obtain ⟨g, hgs⟩ : ∃ g, w.heap.size = g := ⟨_, rfl⟩
  obtain ⟨W, hW⟩ : ∃ W, w.alloc (.cells #[.slice a L.length c, .string R] 33) = W := ⟨_, rfl⟩
  have HW : Hid (W.heap[g]? = some (.cells #[.slice a L.length c, .string R] 33 (0, 0)) ∧ Below w.heap.size w W ∧ W.heap.size = g + 1 ∧ SA W a L) := by
    have hb : Below w.heap.size w W := by rw [← hW]; exact (Below.refl _ _).alloc (Nat.le_refl _) _
    refine ⟨?_, hb, ?_, hA.out.below hb⟩
    · rw [← hW, ← hgs]; exact heap_alloc_new _ _
    · rw [← hW, ← hgs]; simp
  obtain ⟨⟨x0, x1⟩, _⟩ := two HW.out.1
  have HWB : Hid (∀ U, Below W.heap.size W U → Below g w U) := fun U hU => by rw [← hgs]; exact below2 HW.out.2.1 hU
  clear hA
  go_enter Tryd.func12, Tryd.ntmps12
  go_wp2
  go_loopw [4, 5, 6, 12] (fun _ _ _ i wr => ∃ k : Nat, k ≤ L.length ∧ i = .int .i64 (k : Int) ∧ Hid (Below W.heap.size W wr) ∧ Hid (∀ j (hj : j < L.length), j < k → mp L[j].data.toList = true)) (fun _ _ _ i _ => L.length - (intOf i).toNat)
  case atStart => exact ⟨0, by omega, rfl, Below.refl _ _, fun j _ h => by omega⟩
  case round =>
    obtain ⟨k, hk, rfl, HB, HJ⟩ := hrel
    obtain ⟨⟨u0, u1⟩, _⟩ := two ((HB.out.block g (by have := HW.out.2.2.1; omega)).trans HW.out.1)
    by_cases hlt : k < L.length
    · obtain ⟨b, off, rfl, hb, hc⟩ := HW.out.2.2.2.at hlt
      have hc0 := (HB.out.cell (p := ⟨b, off + k, none⟩) hb).trans hc
      have HS := hS.out L[k] (List.getElem_mem hlt)
      obtain ⟨x, hx⟩ : ∃ x, x = L[k] := ⟨_, rfl⟩
      rw [← hx] at hc0 HS
      have HX : Hid (x = L[k]) := hx
      have HC := specType x HS wr
      obtain ⟨M, hM⟩ : ∃ M, mp x.data.toList = M := ⟨_, rfl⟩
      have HM : Hid (mp L[k].data.toList = M) := by unfold Hid; rw [← hx, hM]
      rw [hM] at HC
      clear hx hc hM HS
      go_wp2_with fail
      refine HC.mono ?_
      rintro e w1 ⟨v, rfl, hb1⟩
      have HB1 : Hid (Below W.heap.size W w1) := below2 HB.out hb1
      clear HC hb1 x0 x1 u0 u1
      cases M with
      | false =>
        have hG : G = false := by rw [← HG.out]; exact gsg_no hlt HM.out
        subst hG
        go_wp2
        go_ret
        first | exact ⟨rfl, HWB.out _ HB1.out⟩ | exact ⟨rfl, below2 HW.out.2.1 HB1.out⟩
      | true =>
        go_wp2
        go_roundw
        case rel =>
          refine ⟨k + 1, by omega, by go_num, HB1.out, fun j hj hjk => ?_⟩
          by_cases e : j = k
          · subst e; exact HM.out
          · exact HJ.out j hj (by omega)
        case measure => simp [intOf]; omega
    · have HALL : Hid ((L.all fun s => mp s.data.toList) = true) := all_at (fun j hj => HJ.out j hj (by omega))
      have HC := specType R hR.out wr
      obtain ⟨M, hM⟩ : ∃ M, mp R.data.toList = M := ⟨_, rfl⟩
      rw [hM] at HC
      have HG2 : Hid (G = (decide ((L.length : Int) ≤ 6) && ((R.toList == []) || M))) := by
        unfold Hid
        rw [← HG.out]
        unfold gsg
        rw [HALL.out, Bool.true_and, hM, show decide (L.length ≤ 6) = decide ((L.length : Int) ≤ 6) from by by_cases h : L.length ≤ 6 <;> simp [h] <;> omega]
      clear hM
      obtain ⟨N, hN⟩ : ∃ N : Int, (L.length : Int) = N := ⟨_, rfl⟩
      rw [hN] at HG2
      go_wp2_with fail
      refine HC.mono ?_
      rintro e w1 ⟨v, rfl, hb1⟩
      have HB1 : Hid (Below W.heap.size W w1) := below2 HB.out hb1
      clear x0 x1 u0 u1 HC
      obtain ⟨⟨u0, u1⟩, _⟩ := two ((HB1.out.block g (by have := HW.out.2.2.1; omega)).trans HW.out.1)
      clear hb1 HB HALL
      by_cases h6 : N ≤ 6
      · have hG := HG2.out
        rw [decide_eq_true h6, Bool.true_and] at hG
        cases hq : R.toList == [] with
        | true =>
          rw [hq, Bool.true_or] at hG
          subst hG
          go_wp2
          go_ret
          first | exact ⟨rfl, HWB.out _ HB1.out⟩ | exact ⟨rfl, below2 HW.out.2.1 HB1.out⟩
        | false =>
          rw [hq, Bool.false_or] at hG
          subst hG
          go_wp2
          go_ret
          first | exact ⟨rfl, HWB.out _ HB1.out⟩ | exact ⟨rfl, below2 HW.out.2.1 HB1.out⟩
      · have hG := HG2.out
        rw [decide_eq_false h6, Bool.false_and] at hG
        subst hG
        go_wp2
        go_ret
        first | exact ⟨rfl, HWB.out _ HB1.out⟩ | exact ⟨rfl, below2 HW.out.2.1 HB1.out⟩

set_option maxRecDepth 100000 in
set_option maxHeartbeats 1600000 in
theorem implGSig (a : Option Addr) (c : Nat) (L : List ByteArray) (R : ByteArray) (w : World) (hA : Hid (SA w a L)) (hn : L.length ≤ 1048576) (hS : Hid (∀ s ∈ L, s.size ≤ 1048576)) (hR : Hid (R.size ≤ 1048576)) (hT : Hid (Tabs w)) (hE : Hid (Errs w)) (hP : Hid (Pows w)) :
    Calls Tryd.prog 14 #[sgV a L.length c R] w fun e w' => e = .returned (.bool (gsg L R)) ∧ Below w.heap.size w w' := by
  have hg : Hid (0 < w.heap.size ∧ 2 < w.heap.size ∧ 3 < w.heap.size) := ⟨hT.out.1, hE.out.1.1, hE.out.2.1⟩
  obtain ⟨G, hG⟩ : ∃ G, gsg L R = G := ⟨_, rfl⟩
  have HG : Hid (gsg L R = G) := hG
  rw [hG]
  clear hG
  obtain ⟨g, hgs⟩ : ∃ g, w.heap.size = g := ⟨_, rfl⟩
  obtain ⟨W, hW⟩ : ∃ W, w.alloc (.cells #[.slice a L.length c, .string R] 33) = W := ⟨_, rfl⟩
  have HW : Hid (W.heap[g]? = some (.cells #[.slice a L.length c, .string R] 33 (0, 0)) ∧ Below w.heap.size w W ∧ W.heap.size = g + 1 ∧ SA W a L) := by
    have hb : Below w.heap.size w W := by rw [← hW]; exact (Below.refl _ _).alloc (Nat.le_refl _) _
    refine ⟨?_, hb, ?_, hA.out.below hb⟩
    · rw [← hW, ← hgs]; exact heap_alloc_new _ _
    · rw [← hW, ← hgs]; simp
  have HM0 : Hid (∀ (s : ByteArray) (U : World), s.size ≤ 1048576 → Below W.heap.size W U → Calls Tryd.prog 26 #[.string s] U fun e w' => e = .returned (.bool (mp s.data.toList)) ∧ Below U.heap.size U w') := fun s U hs hU => by
    have hb := below2 HW.out.2.1 hU
    exact implMay s hs U (hT.out.below hb (Nat.le_refl _)) (hE.out.below hb hg.out.2.1 hg.out.2.2) (hP.out.below hb (Nat.le_refl _)) ⟨Nat.lt_of_lt_of_le hg.out.1 hb.size, Nat.lt_of_lt_of_le hg.out.2.1 hb.size, Nat.lt_of_lt_of_le hg.out.2.2 hb.size⟩
  obtain ⟨⟨x0, x1⟩, _⟩ := two HW.out.1
  have HWB : Hid (∀ U, Below W.heap.size W U → Below g w U) := fun U hU => by rw [← hgs]; exact below2 HW.out.2.1 hU
  clear hA hT hE hP hg
  by_cases h6 : (6 : Int) < (L.length : Int)
  · have hG : G = false := by rw [← HG.out]; unfold gsg; rw [decide_eq_false (by omega), Bool.false_and]
    subst hG
    go_enter Tryd.func14, Tryd.ntmps14
    go_wp2
    go_ret
    first | exact ⟨rfl, HWB.out _ (Below.refl _ _)⟩ | exact ⟨rfl, HW.out.2.1⟩
  · go_enter Tryd.func14, Tryd.ntmps14
    go_wp2
    go_loopw [4, 12] (fun _ i wr => ∃ k : Nat, k ≤ L.length ∧ i = .int .i64 (k : Int) ∧ Hid (Below W.heap.size W wr) ∧ Hid (∀ j (hj : j < L.length), j < k → mp L[j].data.toList = true)) (fun _ i _ => L.length - (intOf i).toNat)
    case atStart => exact ⟨0, by omega, rfl, Below.refl _ _, fun j _ h => by omega⟩
    case round =>
      obtain ⟨k, hk, rfl, HB, HJ⟩ := hrel
      obtain ⟨⟨u0, u1⟩, _⟩ := two ((HB.out.block g (by have := HW.out.2.2.1; omega)).trans HW.out.1)
      by_cases hlt : k < L.length
      · obtain ⟨b, off, rfl, hb, hc⟩ := HW.out.2.2.2.at hlt
        have hc0 := (HB.out.cell (p := ⟨b, off + k, none⟩) hb).trans hc
        have HS := hS.out L[k] (List.getElem_mem hlt)
        obtain ⟨x, hx⟩ : ∃ x, x = L[k] := ⟨_, rfl⟩
        rw [← hx] at hc0 HS
        have HC := HM0.out x wr HS HB.out
        obtain ⟨M, hM⟩ : ∃ M, mp x.data.toList = M := ⟨_, rfl⟩
        have HM : Hid (mp L[k].data.toList = M) := by unfold Hid; rw [← hx, hM]
        rw [hM] at HC
        clear hx hc hM HS
        go_wp2_with fail
        refine HC.mono ?_
        rintro e w1 ⟨rfl, hb1⟩
        have HB1 : Hid (Below W.heap.size W w1) := below2 HB.out hb1
        clear HC hb1 x0 x1 u0 u1
        cases M with
        | false =>
          have hG : G = false := by rw [← HG.out]; exact gsg_no hlt HM.out
          subst hG
          go_wp2
          go_ret
          first | exact ⟨rfl, HWB.out _ HB1.out⟩ | exact ⟨rfl, below2 HW.out.2.1 HB1.out⟩
        | true =>
          go_wp2
          go_roundw
          case rel =>
            refine ⟨k + 1, by omega, by go_num, HB1.out, fun j hj hjk => ?_⟩
            by_cases e : j = k
            · subst e; exact HM.out
            · exact HJ.out j hj (by omega)
          case measure => simp [intOf]; omega
      · have HALL : Hid ((L.all fun s => mp s.data.toList) = true) := all_at (fun j hj => HJ.out j hj (by omega))
        have HC := HM0.out R wr hR.out HB.out
        obtain ⟨M, hM⟩ : ∃ M, mp R.data.toList = M := ⟨_, rfl⟩
        rw [hM] at HC
        have hG : G = (R.toList == [] || M) := by
          rw [← HG.out]
          unfold gsg
          rw [HALL.out, Bool.true_and, hM, decide_eq_true (by omega), Bool.true_and]
        clear hM HALL
        cases hq : R.toList == [] with
        | true =>
          rw [hq, Bool.true_or] at hG
          subst hG
          go_wp2
          go_ret
          first | exact ⟨rfl, HWB.out _ HB.out⟩ | exact ⟨rfl, below2 HW.out.2.1 HB.out⟩
        | false =>
          rw [hq, Bool.false_or] at hG
          subst hG
          go_wp2_with fail
          refine HC.mono ?_
          rintro e w1 ⟨rfl, hb1⟩
          have HB1 : Hid (Below W.heap.size W w1) := below2 HB.out hb1
          clear HC hb1 x0 x1 u0 u1
          go_wp2
          go_ret
          first | exact ⟨rfl, HWB.out _ HB1.out⟩ | exact ⟨rfl, below2 HW.out.2.1 HB1.out⟩

end Go.Proofs.YtfepbjkfabmiiaaDoor

namespace Go.Proofs.YtfepbjkfabmiiaaDoor
open Go.ChangeShapes Go.WideShapes Go.ChangeAt Go.RowKit Go.PlainAid

theorem sa_of {w : World} {g : Nat} {L : List ByteArray} (h : g < w.heap.size) (h2 : stAt w g 0 L) : SA w (some ⟨g, 0, none⟩) L := fun _ => ⟨g, 0, rfl, h, h2⟩

set_option maxRecDepth 100000 in
set_option maxHeartbeats 3200000 in
theorem goodSig_law (a : Option Addr) (c : Nat) (L : List ByteArray) (R : ByteArray) (w : World) (h : Hid (IsSig w a L R)) (hT : Hid (Tabs w)) (hE : Hid (Errs w)) (hP : Hid (Pows w)) :
    Calls Tryd.prog 4 #[sgV a L.length c R] w fun e w' => e = .returned (.bool true) ∧ Below w.heap.size w w' := by
  obtain ⟨g, hgs⟩ : ∃ g, w.heap.size = g := ⟨_, rfl⟩
  obtain ⟨W, hW⟩ : ∃ W, w.alloc (.cells #[.slice a L.length c, .string R] 30) = W := ⟨_, rfl⟩
  have hb0 : Below w.heap.size w W := by rw [← hW]; exact (Below.refl _ _).alloc (Nat.le_refl _) _
  have HW : Hid (W.heap[g]? = some (.cells #[.slice a L.length c, .string R] 30 (0, 0)) ∧ Below w.heap.size w W ∧ W.heap.size = g + 1) := by
    refine ⟨?_, hb0, ?_⟩
    · rw [← hW, ← hgs]; exact heap_alloc_new _ _
    · rw [← hW, ← hgs]; simp
  have Z := szSig a c L R 1048576 W ⟨h.out.1.below hb0, h.out.2⟩ (by omega) (by omega)
  have HSA : Hid (∀ U, Below W.heap.size W U → SA U a L) := fun U hU => (h.out.1.below hb0).below hU
  have HTP : Hid (∀ U, Below W.heap.size W U → Tabs U ∧ Errs U ∧ Pows U) := fun U hU => by
    have hb := below2 hb0 hU
    exact ⟨hT.out.below hb (Nat.le_refl _), hE.out.below hb hE.out.1.1 hE.out.2.1, hP.out.below hb (Nat.le_refl _)⟩
  have HWB : Hid (∀ U, Below W.heap.size W U → Below g w U) := fun U hU => by rw [← hgs]; exact below2 hb0 hU
  have HWC : Hid (∀ U, Below W.heap.size W U → Below w.heap.size w U) := fun U hU => below2 hb0 hU
  have HBK : Hid (∀ U, Below W.heap.size W U → U.cell? ⟨g, 0, none⟩ = some (.slice a L.length c) ∧ U.cell? ⟨g, 1, none⟩ = some (.string R)) := fun U hU => (two ((hU.block g (by have := HW.out.2.2; omega)).trans HW.out.1)).1
  obtain ⟨N, hN⟩ : ∃ N : Nat, L.length = N := ⟨_, rfl⟩
  have HNN : Hid (L.length = N) := hN
  obtain ⟨x0, x1⟩ := HBK.out W (Below.refl _ _)
  clear hb0 h hT hE hP HW
  rw [hN] at Z HBK x0 ⊢
  rw [hN] at hW
  clear hN
  go_enter Tryd.func4, Tryd.ntmps4
  go_wp2_with fail
  refine Z.mono ?_
  rintro e w1 ⟨r, rfl, hr1, hr, hb1⟩
  have HB1 : Hid (Below W.heap.size W w1) := hb1
  clear Z hb1 x0 x1
  by_cases hr0 : r < 0
  · clear hr
    go_wp2
    go_ret
    first | exact ⟨rfl, HWB.out _ HB1.out⟩ | exact ⟨rfl, HWC.out _ HB1.out⟩
  · obtain ⟨hl, hs, hR⟩ := hr (by omega)
    have HS : Hid (L.length ≤ 1048576 ∧ (∀ s ∈ L, s.size ≤ 1048576) ∧ R.size ≤ 1048576) := ⟨by rw [HNN.out]; exact hl, hs, hR⟩
    clear hr hl hs hR
    have T : Hid (∀ U, Below W.heap.size W U → Calls Tryd.prog 13 #[.agg #[.slice a N c, .string R]] U fun e w' => ∃ g, e = .returned (.agg #[.slice (some ⟨g, 0, none⟩) N N, .string R]) ∧ U.heap.size ≤ g ∧ g < w'.heap.size ∧ stAt w' g 0 L ∧ Below U.heap.size U w') := fun U hU => by
      have := toSig a c L R U (HSA.out U hU) HS.out.1
      rw [HNN.out] at this
      exact this
    have S : Hid (∀ U b, b < U.heap.size → stAt U b 0 L → Calls Tryd.prog 12 #[.agg #[.slice (some ⟨b, 0, none⟩) N N, .string R]] U fun e w' => e = .returned (.bool (gsg L R)) ∧ Below U.heap.size U w') := fun U b h1 h2 => by
      have := specGSig (some ⟨b, 0, none⟩) L.length L R U (sa_of h1 h2) HS.out.1 HS.out.2.1 HS.out.2.2
      rw [HNN.out] at this
      exact this
    have I : Hid (∀ U b, Below W.heap.size W U → b < U.heap.size → stAt U b 0 L → Calls Tryd.prog 14 #[.agg #[.slice (some ⟨b, 0, none⟩) N N, .string R]] U fun e w' => e = .returned (.bool (gsg L R)) ∧ Below U.heap.size U w') := fun U b h0 h1 h2 => by
      have := implGSig (some ⟨b, 0, none⟩) L.length L R U (sa_of h1 h2) HS.out.1 HS.out.2.1 HS.out.2.2 (HTP.out U h0).1 (HTP.out U h0).2.1 (HTP.out U h0).2.2
      rw [HNN.out] at this
      exact this
    have E : Hid (∀ U b b', b < U.heap.size → stAt U b 0 L → b' < U.heap.size → stAt U b' 0 L → Calls Tryd.prog 15 #[.agg #[.slice (some ⟨b, 0, none⟩) N N, .string R], .agg #[.slice (some ⟨b', 0, none⟩) N N, .string R]] U fun e w' => e = .returned (.bool true) ∧ Below U.heap.size U w') := fun U b b' h1 h2 h3 h4 => by
      have := eqSig (some ⟨b, 0, none⟩) (some ⟨b', 0, none⟩) L.length L.length L R U (sa_of h1 h2) (sa_of h3 h4) (by have := HS.out.1; omega)
      rw [HNN.out] at this
      exact this
    obtain ⟨G, hG⟩ : ∃ G, gsg L R = G := ⟨_, rfl⟩
    rw [hG] at S I
    clear hG HSA HTP HS HNN
    obtain ⟨x0, x1⟩ := HBK.out w1 HB1.out
    go_wp2_with fail
    refine (T.out w1 HB1.out).mono ?_
    rintro e w2 ⟨b2, rfl, hg1, hg2, hst, hb2⟩
    have HB2 : Hid (Below W.heap.size W w2) := below2 HB1.out hb2
    have S2 := S.out w2 b2 hg2 hst
    clear hg1 hg2 hst hb2 x0 x1 HB1 S
    go_wp2_with fail
    refine S2.mono ?_
    rintro e w3 ⟨rfl, hb3⟩
    have HB3 : Hid (Below W.heap.size W w3) := below2 HB2.out hb3
    clear hb3 S2 HB2
    obtain ⟨x0, x1⟩ := HBK.out w3 HB3.out
    go_wp2_with fail
    refine (T.out w3 HB3.out).mono ?_
    rintro e w4 ⟨b4, rfl, hg1, hg2, hst, hb4⟩
    have HB4 : Hid (Below W.heap.size W w4) := below2 HB3.out hb4
    obtain ⟨y, hy⟩ : ∃ y, w4.heap.size = y := ⟨_, rfl⟩
    obtain ⟨X, hX⟩ : ∃ X, w4.alloc (.cells #[.slice (some ⟨b4, 0, none⟩) N N, .string R] 33) = X := ⟨_, rfl⟩
    have HX : Hid (X.heap[y]? = some (.cells #[.slice (some ⟨b4, 0, none⟩) N N, .string R] 33 (0, 0)) ∧ X.heap.size = y + 1 ∧ Below W.heap.size W X ∧ b4 < y ∧ stAt X b4 0 L) := by
      have hb : Below w4.heap.size w4 X := by rw [← hX]; exact (Below.refl _ _).alloc (Nat.le_refl _) _
      refine ⟨by rw [← hX, ← hy]; exact heap_alloc_new _ _, by rw [← hX, ← hy]; simp, below2 HB4.out hb, by rw [← hy]; exact hg2, hst.below hb hg2⟩
    have I2 := I.out X b4 HX.out.2.2.1 (by have := HX.out.2; omega) HX.out.2.2.2.2
    obtain ⟨⟨z0, z1⟩, _⟩ := two HX.out.1
    clear hg1 hg2 hst hb4 x0 x1 HB3 I HB4
    go_wp2_with fail
    refine I2.mono ?_
    rintro e w5 ⟨rfl, hb5⟩
    have HB5 : Hid (Below X.heap.size X w5) := hb5
    have HBW : Hid (Below W.heap.size W w5) := below2 HX.out.2.2.1 hb5
    clear hb5 I2 z0 z1
    obtain ⟨x0, x1⟩ := HBK.out w5 HBW.out
    obtain ⟨⟨z0, z1⟩, _⟩ := two ((HB5.out.block y (by have := HX.out.2.1; omega)).trans HX.out.1)
    have HZ : Hid (∀ U, Below X.heap.size X U → (U.cell? ⟨y, 0, none⟩ = some (.slice (some ⟨b4, 0, none⟩) N N) ∧ U.cell? ⟨y, 1, none⟩ = some (.string R)) ∧ b4 < U.heap.size ∧ stAt U b4 0 L) := fun U hU => by
      obtain ⟨p1, p2, p3, p4, p5⟩ := HX.out
      exact ⟨(two ((hU.block y (by omega)).trans p1)).1, by have := hU.size; omega, p5.below hU (by omega)⟩
    clear hX
    cases G
    all_goals
      go_wp2
      go_region_with (first | (go_at_call 13; refine (T.out _ (by first | exact HBW.out | exact HBW.out.drew | exact HBW.out.drew.drew | exact HBW.out.drew.drew.drew | exact HBW.out.drew.drew.drew.drew)).mono ?_; rintro e w6 ⟨b6, rfl, hq1, hq2, hst, hb6⟩; have K6 : Hid (Below X.heap.size X w6) := (by first | exact below2 HB5.out hb6 | exact below2 HB5.out.drew hb6 | exact below2 HB5.out.drew.drew hb6 | exact below2 HB5.out.drew.drew.drew hb6 | exact below2 HB5.out.drew.drew.drew.drew hb6); have K7 : Hid (b6 < w6.heap.size ∧ stAt w6 b6 0 L) := ⟨hq2, hst⟩; obtain ⟨⟨z0, z1⟩, _⟩ := HZ.out _ K6.out; clear hb6 hq1 hq2 hst) | (go_at_call 15; refine (E.out _ b4 _ (HZ.out _ (by first | exact K6.out | exact K6.out.drew | exact K6.out.drew.drew | exact K6.out.drew.drew.drew)).2.1 (HZ.out _ (by first | exact K6.out | exact K6.out.drew | exact K6.out.drew.drew | exact K6.out.drew.drew.drew)).2.2 (by first | exact K7.out.1 | (simp only [World.drew]; exact K7.out.1)) (by first | exact K7.out.2 | exact K7.out.2.below (Below.refl _ _).drew K7.out.1 | exact K7.out.2.below (Below.refl _ _).drew.drew K7.out.1 | exact K7.out.2.below (Below.refl _ _).drew.drew.drew K7.out.1)).mono ?_; rintro e w7 ⟨rfl, hb7⟩; have K8 : Hid (Below X.heap.size X w7) := (by first | exact below2 K6.out hb7 | exact below2 K6.out.drew hb7 | exact below2 K6.out.drew.drew hb7 | exact below2 K6.out.drew.drew.drew hb7); clear hb7))
      all_goals
        go_wp2
        go_ret
        first | exact ⟨rfl, HWB.out _ (below2 HX.out.2.2.1 (by first | exact K8.out | exact K8.out.drew | exact K8.out.drew.drew))⟩ | exact ⟨rfl, HWC.out _ (below2 HX.out.2.2.1 (by first | exact K8.out | exact K8.out.drew | exact K8.out.drew.drew))⟩

theorem goodSig_walk (a : Option Addr) (c : Nat) (L : List ByteArray) (R : ByteArray) (w : World) (h : IsSig w a L R) (hT : Tabs w ∧ Pows w ∧ Errs w) :
    Calls Tryd.prog 4 #[sgV a L.length c R] w fun e w' => e = .returned (.bool true) ∧ Below w.heap.size w w' := goodSig_law a c L R w h hT.1 hT.2.2 hT.2.1

end Go.Proofs.YtfepbjkfabmiiaaDoor
