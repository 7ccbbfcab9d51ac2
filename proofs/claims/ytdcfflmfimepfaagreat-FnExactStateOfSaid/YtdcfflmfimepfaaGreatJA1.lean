/-
  A slice of integers in memory, and the walks of what the laws do with it: its copy, its comparison.
-/
import Derived.Test.YtdcfflmfimepfaaGreatRows
import Derived.WalkKit
import Derived.WalkLawsBesides
import Derived.ProofKit
import Derived.OpenShut
import Derived.Below
import Derived.ChangeOld
import Derived.Laws.MakeOwn
import Derived.Deep.QuietTactic
import Derived.BigQuiet
import Derived.Deep.Draws
import Derived.Maps.AppendAt
import Derived.Laws.BytesString
import Derived.Laws.IdiomStrings
import Derived.Deep.RegionWith
namespace Go.Proofs.YtdcfflmfimepfaaGreat
open Go.ChangeShapes Go.WideShapes Go.ChangeAt Go.RowKit

/-- The numbers L lie behind the address a. -/
def Ints (w : World) (a : Option Addr) (L : List Int) : Prop :=
  L ≠ [] → ∃ b off, a = some ⟨b, off, none⟩ ∧ b < w.heap.size ∧ ∀ i (h : i < L.length), w.cell? ⟨b, off + i, none⟩ = some (.int .i64 L[i])
theorem Ints.below {w w' : World} {a : Option Addr} {L : List Int} (h : Ints w a L) (hb : Below w.heap.size w w') : Ints w' a L := fun hn => by
  obtain ⟨b, off, rfl, hl, hc⟩ := h hn
  exact ⟨b, off, rfl, Nat.lt_of_lt_of_le hl hb.size, fun i hi => (hb.cell (p := ⟨b, off + i, none⟩) hl).trans (hc i hi)⟩
theorem Ints.at {w : World} {a : Option Addr} {L : List Int} (h : Ints w a L) (k : Nat) (hk : k < L.length) : ∃ b off, a = some ⟨b, off, none⟩ ∧ b < w.heap.size ∧ w.cell? ⟨b, off + k, none⟩ = some (.int .i64 L[k]) := by
  obtain ⟨b, off, ha, hl, hc⟩ := h (fun h => by simp [h] at hk)
  exact ⟨b, off, ha, hl, hc k hk⟩

theorem iblock_of_cell {w : World} {b o : Nat} {v : Value} (h : w.cell? ⟨b, o, none⟩ = some v) : b < w.heap.size := by
  rcases Nat.lt_or_ge b w.heap.size with h' | h'
  · exact h'
  · simp [World.cell?, Array.getElem?_eq_none h'] at h

theorem int1 : Tryz.prog.cellsOf 3 = 1 := by kernel_rfl

/-- What is read of a slice of integers that comes in. -/
theorem opened_ints {H : Type} {enc : TypeId × Value → H} {W : World} {a : Option Addr} {len cap : Nat} {d : DataW H} {p : List MemPlace}
    (h0 : ∃ fuel, DataW.trod enc Tryz.prog W 0 (fun _ => true) true fuel 92 (Value.slice a len cap).cells.toList = some (d, p)) :
    ∃ L : List Int, len = L.length ∧ Ints W a L ∧ L.length ≤ 9223372036854775807 ∧ ∀ x ∈ L, (Lit.int .i64 x).wf = true := by
  obtain ⟨fuel, hf⟩ := h0
  rcases open_ints Tryz.underlying92 Tryz.underlying3 (by kernel_rfl) hf with ⟨hcs, _⟩ | ⟨x, l, c, zs, hcs, _, hl, hm, hz, _, hcell, hwz⟩
  · simp [Value.cells] at hcs
    obtain ⟨rfl, rfl, rfl⟩ := hcs
    exact ⟨[], rfl, fun h => absurd rfl h, by simp, by simp⟩
  · simp [Value.cells] at hcs
    obtain ⟨rfl, rfl, rfl⟩ := hcs
    have hz' : zs.length = cap := by simpa using hz
    unfold maxLen at hm
    refine ⟨zs.take len, by simp; omega, fun hn => ?_, by simp; omega, fun y hy => hwz y (List.mem_of_mem_take hy)⟩
    have h0 : 0 < len := by
      rcases Nat.eq_zero_or_pos len with h | h
      · subst h; simp at hn
      · exact h
    obtain ⟨b, off, spot⟩ := x
    have hc0 := hcell 0 (by omega)
    have hspot : spot = none := by simpa [Addr.add] using World.cell?_spot hc0
    subst hspot
    have hadd : ∀ j, (⟨b, off, none⟩ : Addr).add j = ⟨b, off + j, none⟩ := fun j => by rw [Addr.add_lit]
    refine ⟨b, off, rfl, iblock_of_cell (by rw [hadd] at hc0; exact hc0), fun i hi => ?_⟩
    have hi2 : i < zs.length := by simp at hi; omega
    have hc := hcell i hi2
    rw [hadd] at hc
    rw [hc]
    simp [hi2]

theorem icell_of_block {w : World} {g : Nat} {arr : Array Value} {t : TypeId} (h : w.heap[g]? = some (.cells arr t (0, 0))) (i : Nat) : w.cell? ⟨g, i, none⟩ = arr[i]? := by
  simp [World.cell?, h]
theorem ifree_of_block {w : World} {g : Nat} {arr : Array Value} {t : TypeId} (h : w.heap[g]? = some (.cells arr t (0, 0))) (i : Nat) : w.frozen? ⟨g, i, none⟩ = false := by
  simp [World.frozen?, h]

theorem Tryz.info3 : (Tryz.prog.info? 3).map (fun i => (i.zero, i.size, i.bytes)) = some (some (.int .i64 0), 1, 8) := by kernel_rfl

set_option maxRecDepth 100000 in
set_option maxHeartbeats 800000 in
theorem toInts (a : Option Addr) (cap : Nat) (L : List Int) (w : World) (hL : Hid (Ints w a L)) (hlen : L.length ≤ 1048576) :
    Calls Tryz.prog 80 #[.slice a L.length cap] w fun e w' => e = .returned (.slice (some ⟨w.heap.size, 0, none⟩) L.length L.length) ∧ w.heap.size < w'.heap.size ∧ Ints w' (some ⟨w.heap.size, 0, none⟩) L ∧ Below w.heap.size w w' := by
  obtain ⟨i0, hi, hz0, hz1, hz2⟩ := info_parts Tryz.info3
  obtain ⟨M, hM⟩ : ∃ M, M = madeCells (Value.int .i64 0).cells (((L.length : Nat) : Int).toNat * i0.size) := ⟨_, rfl⟩
  have hMs : M.size = L.length := by rw [hM, size_madeCells, hz1]; simp
  have hmk : ∀ W : World, (Instr.makeSlice 92 (.int .i64 (L.length : Int)) (.int .i64 (L.length : Int))).run Tryz.prog W = .ok (.slice (some ⟨W.heap.size, 0, none⟩) L.length L.length) (W.alloc (.cells M 3)) := fun W => by
    have h := run_make (P := Tryz.prog) W 92 3 i0 _ Tryz.underlying92 hi hz0 .i64 .i64 (L.length : Int) (L.length : Int) (by omega) (by omega) (by rw [hz2]; omega) (by omega)
    rw [← hM] at h
    simpa using h
  clear hM
  go_enter Tryz.func80, Tryz.ntmps80
  go_wp2
  go_loopw [4] (fun i wr => ∃ (k : Nat) (arr : Array Value), k ≤ L.length ∧ i = .int .i64 k ∧ wr.heap[w.heap.size]? = some (.cells arr 3 (0, 0)) ∧ arr.size = L.length ∧ Hid (∀ j (h : j < L.length), j < k → arr[j]? = some (.int .i64 L[j])) ∧ Below w.heap.size w wr) (fun i _ => L.length - (intOf i).toNat)
  case atStart => exact ⟨0, M, by omega, rfl, heap_alloc_new _ _, hMs, fun j _ h => absurd h (by omega), (Below.refl _ _).alloc (Nat.le_refl _) _⟩
  case round =>
    clear hmk hMs
    obtain ⟨k, arr, hk, rfl, harr, hsz, hA, hnx⟩ := hrel
    have hgl := lt_of_block harr
    by_cases hlt : k < L.length
    · obtain ⟨b, off, rfl, hb, hc⟩ := hL.out.at k hlt
      obtain ⟨x, hx⟩ : ∃ x, x = L[k] := ⟨_, rfl⟩
      rw [← hx] at hc
      have HX : Hid (x = L[k]) := hx
      clear hx
      have hc0 : wr.cell? ⟨b, off + k, none⟩ = some (.int .i64 x) := (hnx.cell (by exact hb)).trans hc
      clear hc
      have HS : Hid (arr.size = L.length) := hsz
      obtain ⟨o0, ho0⟩ : ∃ o, arr[k]? = some o := ⟨_, Array.getElem?_eq_getElem (by omega)⟩
      clear hsz
      have d0 := (icell_of_block harr k).trans ho0
      have f0 := ifree_of_block harr k
      go_wp2
      go_roundw
      case rel =>
        refine ⟨k + 1, _, by omega, by go_num, heap_setCell_same _ _ _ _ _ _ harr, by simpa using HS.out, ?_, hnx.setCell (Nat.le_refl _) _⟩
        intro j hj hjk
        by_cases e : j = k
        · subst e; rw [Array.getElem?_setIfInBounds_self_of_lt (by rw [HS.out]; exact hj), HX.out]
        · rw [Array.getElem?_setIfInBounds_ne (by omega)]; exact hA.out j hj (by omega)
      case measure => simp [intOf]; omega
    · go_wp2
      go_ret
      refine ⟨rfl, hgl, fun _ => ⟨_, _, rfl, hgl, fun j hj => ?_⟩, hnx⟩
      rw [Nat.zero_add, icell_of_block harr]
      exact hA.out j hj (by omega)

set_option maxRecDepth 100000 in
set_option maxHeartbeats 800000 in
theorem eqInts (a a' : Option Addr) (cap cap' : Nat) (L : List Int) (w : World) (hL : Hid (Ints w a L)) (hL' : Hid (Ints w a' L)) (hlen : L.length ≤ 9223372036854775807) :
    Calls Tryz.prog 92 #[.slice a L.length cap, .slice a' L.length cap'] w fun e w' => e = .returned (.bool true) ∧ Below w.heap.size w w' := by
  go_enter Tryz.func92, Tryz.ntmps92
  go_wp2
  go_loopw [5] (fun i wr => ∃ (k : Nat), k ≤ L.length ∧ i = .int .i64 k ∧ Below w.heap.size w wr) (fun i _ => L.length - (intOf i).toNat)
  case atStart => exact ⟨0, by omega, rfl, Below.refl _ _⟩
  case round =>
    obtain ⟨k, hk, rfl, hnx⟩ := hrel
    by_cases hlt : k < L.length
    · obtain ⟨b, off, rfl, hb, hc⟩ := hL.out.at k hlt
      obtain ⟨b', off', rfl, hb', hd⟩ := hL'.out.at k hlt
      obtain ⟨x, hx⟩ : ∃ x, x = L[k] := ⟨_, rfl⟩
      rw [← hx] at hc hd
      clear hx
      have hc0 : wr.cell? ⟨b, off + k, none⟩ = some (.int .i64 x) := (hnx.cell (by exact hb)).trans hc
      have hd0 : wr.cell? ⟨b', off' + k, none⟩ = some (.int .i64 x) := (hnx.cell (by exact hb')).trans hd
      clear hc hd
      go_wp2
      go_quiet (fail)
      go_wp2
      go_roundw
      case rel => exact ⟨k + 1, by omega, by go_num, below_drewN hnx _⟩
      case measure => simp [intOf]; omega
    · go_wp2
      go_ret
      exact ⟨rfl, hnx⟩

end Go.Proofs.YtdcfflmfimepfaaGreat

namespace Go.Proofs.YtdcfflmfimepfaaGreat
open Go.RowKit

theorem bel_dN {B : Nat} {a w : World} (h : Below B a w) (n : Nat) : Below B a (w.drewN n) := ⟨h.os, h.tape, h.output, h.size, h.block⟩
theorem bel_step {a b c : World} (h : Below a.heap.size a b) (k : Below b.heap.size b c) : Below a.heap.size a c := h.trans (k.mono h.size)
theorem bel_alloc {a w : World} (h : Below a.heap.size a w) (o : Obj) : Below a.heap.size a (w.alloc o) := h.alloc h.size o

end Go.Proofs.YtdcfflmfimepfaaGreat

namespace Go.Proofs.YtdcfflmfimepfaaGreat
open Go.RowKit

theorem keepCell {a b : World} {B g o : Nat} {v : Value} (h : Below B a b) (hg : g < B) (hc : a.cell? ⟨g, o, none⟩ = some v) : b.cell? ⟨g, o, none⟩ = some v := (h.cell (p := ⟨g, o, none⟩) hg).trans hc
theorem keepFree {a b : World} {B g o : Nat} (h : Below B a b) (hg : g < B) (hc : a.frozen? ⟨g, o, none⟩ = false) : b.frozen? ⟨g, o, none⟩ = false := (h.frozen (p := ⟨g, o, none⟩) hg).trans hc

theorem pastCell {w : World} {o : Obj} {g j : Nat} {v : Value} (hg : g < w.heap.size) (h : w.cell? ⟨g, j, none⟩ = some v) : (w.alloc o).cell? ⟨g, j, none⟩ = some v := keepCell ((Below.refl w.heap.size w).alloc (Nat.le_refl _) o) hg h
theorem pastFree {w : World} {o : Obj} {g j : Nat} (hg : g < w.heap.size) (h : w.frozen? ⟨g, j, none⟩ = false) : (w.alloc o).frozen? ⟨g, j, none⟩ = false := keepFree ((Below.refl w.heap.size w).alloc (Nat.le_refl _) o) hg h
theorem newCell {w : World} {c : Array Value} {t : TypeId} {g j : Nat} {v : Value} (hg : g = w.heap.size) (h : c[j]? = some v) : (w.alloc (.cells c t)).cell? ⟨g, j, none⟩ = some v := (World.cell?_alloc_at c t g j hg).trans h

end Go.Proofs.YtdcfflmfimepfaaGreat

namespace Go.Proofs.YtdcfflmfimepfaaGreat
open Go.RowKit

/-- Bytes as the values of their cells. -/
def bv (l : List UInt8) : List Value := l.map fun b => .int .u8 (b.toNat : Int)
theorem bv_app (l m : List UInt8) : bv l ++ bv m = bv (l ++ m) := by simp [bv]
theorem bv_len (l : List UInt8) : (bv l).length = l.length := by simp [bv]
theorem bv_one (l : List UInt8) : ∀ u ∈ bv l, u.oneCell' = true := by
  intro u hu; simp only [bv, List.mem_map] at hu; obtain ⟨b, _, rfl⟩ := hu; rfl
theorem ownsRow_block {w : World} {base : Nat} {e : TypeId} {size n : Nat} {v : Value} {xs : List Value} (h : w.ownsRow base e size v n xs) : ∀ k, v.ownBlock = some k → base ≤ k := by
  intro k hk
  rcases h.2 with ⟨rfl, _⟩ | ⟨g, cap, cur, rfl, hg, _⟩
  · simp [Value.ownBlock] at hk
  · simp [Value.ownBlock] at hk; omega
theorem ownsRow_shape {w : World} {base : Nat} {e : TypeId} {size n : Nat} {v : Value} {xs : List Value} (h : w.ownsRow base e size v n xs) : ∃ a c, v = .slice a n c := by
  rcases h.2 with ⟨rfl, rfl⟩ | ⟨g, cap, cur, rfl, _⟩
  · exact ⟨none, 0, rfl⟩
  · exact ⟨_, _, rfl⟩
theorem owned_string {P : Program} {w : World} {base : Nat} {v : Value} {bs : List UInt8} (src dst e : TypeId) (hs : P.underlying src = some (.slice e)) (he : P.underlying e = some (.int .u8)) (hd : P.underlying dst = some .string)
    (h : w.ownsRow base e 1 v bs.length (bv bs)) : (convert src dst v).run P w = .ok (.string ⟨bs.toArray⟩) w := by
  rcases h.2 with ⟨rfl, h0⟩ | ⟨g, cap, cur, rfl, _⟩
  · obtain rfl : bs = [] := List.length_eq_zero_iff.1 h0
    rw [run_convert_bytes_string w src dst e none 0 0 hs he hd]
    rfl
  · refine run_convert_bytes_back w src dst e ⟨g, 0, none⟩ cap bs hs he hd fun j hj => ?_
    rw [Addr.add_lit, Nat.zero_add, h.cellAt j (by omega)]
    simp [bv, hj]
theorem below2 {a b c : World} (h : Below a.heap.size a b) (k : Below b.heap.size b c) : Below a.heap.size a c := h.trans (k.mono h.size)
/-- A block of another element type stays, whatever an append to an owned row does. -/
theorem other_block {wr w1 : World} {B : Nat} {e e' : TypeId} {size n nb : Nat} {u : Value} {xs : List Value} {A : Array Value} {o : Obj} (hne : e ≠ e')
    (hown : wr.ownsRow B e size u n xs) (hg : (wr.alloc o).grownBy w1 u.ownBlock) (hb : wr.heap[nb]? = some (.cells A e' (0, 0))) : w1.heap[nb]? = some (.cells A e' (0, 0)) := by
  have hlt := lt_of_block hb
  rw [hg.block nb (by simp; omega) ?_]
  · exact (Below.heap_alloc _ _ _ hlt).trans hb
  · intro hk
    rcases hown.2 with ⟨rfl, _⟩ | ⟨g, cap, cur, rfl, _, hh, _⟩
    · simp [Value.ownBlock] at hk
    · simp [Value.ownBlock] at hk
      subst hk
      rw [hh] at hb
      simp at hb
      exact hne hb.2
/-- Every block of another element type than e is as it was. -/
def KeepO (e : TypeId) (w w' : World) : Prop := ∀ (j : Nat) (A : Array Value) (e' : TypeId), e ≠ e' → w.heap[j]? = some (.cells A e' (0, 0)) → w'.heap[j]? = some (.cells A e' (0, 0))
theorem KeepO.refl (e : TypeId) (w : World) : KeepO e w w := fun _ _ _ _ h => h
theorem KeepO.trans {e : TypeId} {a b c : World} (h : KeepO e a b) (k : KeepO e b c) : KeepO e a c := fun j A e' hne hb => k j A e' hne (h j A e' hne hb)
theorem KeepO.alloc {e : TypeId} {a b : World} (h : KeepO e a b) (o : Obj) : KeepO e a (b.alloc o) := fun j A e' hne hb => by
  have h1 := h j A e' hne hb
  exact (Below.heap_alloc _ _ _ (lt_of_block h1)).trans h1
theorem KeepO.app {e : TypeId} {w wr w1 : World} {B size n : Nat} {u : Value} {xs : List Value} {o : Obj} (h : KeepO e w wr) (hown : wr.ownsRow B e size u n xs) (hg : (wr.alloc o).grownBy w1 u.ownBlock) : KeepO e w w1 :=
  fun j A e' hne hb => other_block hne hown hg (h j A e' hne hb)
theorem KeepO.app0 {e : TypeId} {w wr w1 : World} {B size n : Nat} {u : Value} {xs : List Value} (h : KeepO e w wr) (hown : wr.ownsRow B e size u n xs) (hg : wr.grownBy w1 u.ownBlock) : KeepO e w w1 := by
  intro j A e' hne hb
  have hb := h j A e' hne hb
  rw [hg.block j (lt_of_block hb) ?_]
  · exact hb
  · intro hk
    rcases hown.2 with ⟨rfl, _⟩ | ⟨g, cap, cur, rfl, _, hh, _⟩
    · simp [Value.ownBlock] at hk
    · simp [Value.ownBlock] at hk
      subst hk
      rw [hh] at hb
      simp at hb
      exact hne hb.2
end Go.Proofs.YtdcfflmfimepfaaGreat

namespace Go.Proofs.YtdcfflmfimepfaaGreat
open Go.RowKit

theorem cell_of_block {w : World} {g : Nat} {arr : Array Value} {t : TypeId} (h : w.heap[g]? = some (.cells arr t (0, 0))) (i : Nat) : w.cell? ⟨g, i, none⟩ = arr[i]? := by
  simp [World.cell?, h]
theorem free_of_block {w : World} {g : Nat} {arr : Array Value} {t : TypeId} (h : w.heap[g]? = some (.cells arr t (0, 0))) (i : Nat) : w.frozen? ⟨g, i, none⟩ = false := by
  simp [World.frozen?, h]

end Go.Proofs.YtdcfflmfimepfaaGreat

namespace Go.Proofs.YtdcfflmfimepfaaGreat
open Go.ChangeShapes Go.WideShapes Go.ChangeAt Go.RowKit

/-- The instructions L lie from cell 'off' of block b on. -/
def insAt (w : World) (b off : Nat) (L : List (Int × Int)) : Prop :=
  ∀ i (h : i < L.length), w.cell? ⟨b, off + i * 2, none⟩ = some (.int .i64 L[i].1) ∧ w.cell? ⟨b, off + i * 2 + 1, none⟩ = some (.int .i64 L[i].2)

set_option maxRecDepth 2000000 in
set_option maxHeartbeats 800000 in
theorem szIns (a : Option Addr) (cap : Nat) (n : Nat) (w : World) (hn : n ≤ 9223372036854775807) :
    Calls Tryz.prog 75 #[.slice a n cap, .int .i64 1048576] w fun e w' => ∃ r : Int, e = .returned (.int .i64 r) ∧ (0 ≤ r → n ≤ 1048576) ∧ w' = w := by
  obtain ⟨N, hN⟩ : ∃ N : Int, (n : Int) = N := ⟨_, rfl⟩
  by_cases h0 : N ≤ 1048576
  · go_enter Tryz.func75, Tryz.ntmps75
    go_wp2
    go_ret
    exact ⟨_, rfl, fun _ => by omega, rfl⟩
  · go_enter Tryz.func75, Tryz.ntmps75
    go_wp2
    go_ret
    exact ⟨_, rfl, fun h => absurd h (by omega), rfl⟩

set_option maxRecDepth 100000 in
set_option maxHeartbeats 800000 in
theorem toIns1 (id : Int) (s : Int) (w : World) :
    Calls Tryz.prog 104 #[.agg #[.int .i64 id, .int .i64 s]] w fun e w' => e = .returned (.agg #[.int .i64 id, .int .i64 s]) ∧ Below w.heap.size w w' := by
  go_enter Tryz.func104, Tryz.ntmps104
  go_wp2
  exact bodyPost_ret (v := .agg #[.int .i64 id, .int .i64 s]) (by simp [results, Tryz.results104, go_sem]) rfl ⟨rfl, (((Below.refl _ _).alloc (Nat.le_refl _) _).alloc (by simp) _).alloc (by simp; omega) _⟩

theorem ins_put (L : List (Int × Int)) (arr : Array Value) (k : Nat) (id : Int) (s : Int) (hk : k < L.length) (hs : arr.size = L.length * 2) (hx : (id, s) = L[k])
    (hA : ∀ j (h : j < L.length), j < k → arr[j * 2]? = some (.int .i64 L[j].1) ∧ arr[j * 2 + 1]? = some (.int .i64 L[j].2)) :
    ((arr.setIfInBounds (k * 2) (.int .i64 id)).setIfInBounds (k * 2 + 1) (.int .i64 s)).size = L.length * 2 ∧
    ∀ j (h : j < L.length), j < k + 1 → ((arr.setIfInBounds (k * 2) (.int .i64 id)).setIfInBounds (k * 2 + 1) (.int .i64 s))[j * 2]? = some (.int .i64 L[j].1) ∧ ((arr.setIfInBounds (k * 2) (.int .i64 id)).setIfInBounds (k * 2 + 1) (.int .i64 s))[j * 2 + 1]? = some (.int .i64 L[j].2) := by
  refine ⟨by simpa using hs, fun j hj hjk => ?_⟩
  by_cases e : j = k
  · subst e
    rw [← hx]
    constructor
    · rw [Array.getElem?_setIfInBounds_ne (by omega), Array.getElem?_setIfInBounds_self_of_lt (by omega)]
    · rw [Array.getElem?_setIfInBounds_self_of_lt (by simp; omega)]
  · have h := hA j hj (by omega)
    constructor
    · rw [Array.getElem?_setIfInBounds_ne (by omega), Array.getElem?_setIfInBounds_ne (by omega)]; exact h.1
    · rw [Array.getElem?_setIfInBounds_ne (by omega), Array.getElem?_setIfInBounds_ne (by omega)]; exact h.2

theorem Tryz.info128 : (Tryz.prog.info? 128).map (fun i => (i.zero, i.size, i.bytes)) = some (some (.agg #[.int .i64 0, .int .i64 0]), 2, 16) := by kernel_rfl

set_option maxRecDepth 100000 in
set_option maxHeartbeats 800000 in
theorem toInsS (a : Option Addr) (b off cap : Nat) (L : List (Int × Int)) (w : World) (ha : Hid (L ≠ [] → a = some ⟨b, off, none⟩ ∧ b < w.heap.size)) (hL : insAt w b off L) (hlen : L.length ≤ 1048576) :
    Calls Tryz.prog 81 #[.slice a L.length cap] w fun e w' => e = .returned (.slice (some ⟨w.heap.size, 0, none⟩) L.length L.length) ∧ w.heap.size < w'.heap.size ∧ insAt w' w.heap.size 0 L ∧ Below w.heap.size w w' := by
  obtain ⟨i0, hi, hz0, hz1, hz2⟩ := info_parts Tryz.info128
  obtain ⟨M, hM⟩ : ∃ M, M = madeCells (Value.agg #[.int .i64 0, .int .i64 0]).cells (((L.length : Nat) : Int).toNat * i0.size) := ⟨_, rfl⟩
  have hMs : M.size = L.length * 2 := by rw [hM, size_madeCells, hz1]; simp
  have hmk : ∀ W : World, (Instr.makeSlice 98 (.int .i64 (L.length : Int)) (.int .i64 (L.length : Int))).run Tryz.prog W = .ok (.slice (some ⟨W.heap.size, 0, none⟩) L.length L.length) (W.alloc (.cells M 128)) := fun W => by
    have h := run_make (P := Tryz.prog) W 98 128 i0 _ Tryz.underlying98 hi hz0 .i64 .i64 (L.length : Int) (L.length : Int) (by omega) (by omega) (by rw [hz2]; omega) (by omega)
    rw [← hM] at h
    simpa using h
  clear hM
  go_enter Tryz.func81, Tryz.ntmps81
  go_wp2
  go_loopw [4] (fun i wr => ∃ (k : Nat) (arr : Array Value), k ≤ L.length ∧ i = .int .i64 k ∧ wr.heap[w.heap.size]? = some (.cells arr 128 (0, 0)) ∧ arr.size = L.length * 2 ∧ Hid (∀ j (h : j < L.length), j < k → arr[j * 2]? = some (.int .i64 L[j].1) ∧ arr[j * 2 + 1]? = some (.int .i64 L[j].2)) ∧ Below w.heap.size w wr) (fun i _ => L.length - (intOf i).toNat)
  case atStart => exact ⟨0, M, by omega, rfl, heap_alloc_new _ _, hMs, fun j _ h => absurd h (by omega), (Below.refl _ _).alloc (Nat.le_refl _) _⟩
  case round =>
    clear hmk hMs
    obtain ⟨k, arr, hk, rfl, harr, hsz, hA, hnx⟩ := hrel
    have hgl := lt_of_block harr
    by_cases hlt : k < L.length
    · obtain ⟨rfl, hb⟩ := ha.out (fun h => by simp [h] at hlt)
      have hc := hL k hlt
      obtain ⟨x, hx⟩ : ∃ x, x = L[k] := ⟨_, rfl⟩
      rw [← hx] at hc
      obtain ⟨id, s⟩ := x
      have HX : Hid ((id, s) = L[k]) := hx
      clear hx
      simp only at hc
      have hc0 : wr.cell? ⟨b, off + k * 2, none⟩ = some (.int .i64 id) := (hnx.cell (by exact hb)).trans hc.1
      have hc1 : wr.cell? ⟨b, off + k * 2 + 1, none⟩ = some (.int .i64 s) := (hnx.cell (by exact hb)).trans hc.2
      clear hc
      have HS : Hid (arr.size = L.length * 2) := hsz
      obtain ⟨o0, ho0⟩ : ∃ o, arr[k * 2]? = some o := ⟨_, Array.getElem?_eq_getElem (by omega)⟩
      obtain ⟨o1, ho1⟩ : ∃ o, arr[k * 2 + 1]? = some o := ⟨_, Array.getElem?_eq_getElem (by omega)⟩
      clear hsz
      have H := toIns1 id s
      go_wp2_with (go_at_call 104; refine (H _).mono ?_; rintro e w1 ⟨rfl, hb2⟩; clear H; have harr1 := (hb2.block _ hgl).trans harr; have d0 := (cell_of_block harr1 (k * 2)).trans ho0; have d1 := (cell_of_block harr1 (k * 2 + 1)).trans ho1; have f0 := free_of_block harr1 (k * 2); have f1 := free_of_block harr1 (k * 2 + 1))
      go_roundw
      case rel =>
        obtain ⟨p1, p2⟩ := ins_put L arr k id s hlt HS.out HX.out hA.out
        exact ⟨k + 1, _, by omega, by go_num, heap_setCell_same _ _ _ _ _ _ (heap_setCell_same _ _ _ _ _ _ harr1), p1, p2, ((hnx.trans (hb2.mono hnx.size)).setCell (Nat.le_refl _) _).setCell (Nat.le_refl _) _⟩
      case measure => simp [intOf]; omega
    · go_wp2
      go_ret
      refine ⟨rfl, hgl, fun j hj => ?_, hnx⟩
      have hj2 := hA.out j hj (by omega)
      rw [Nat.zero_add, cell_of_block harr, cell_of_block harr]
      exact hj2

set_option maxRecDepth 100000 in
set_option maxHeartbeats 800000 in
theorem eqIns1 (id : Int) (s : Int) (w : World) :
    Calls Tryz.prog 118 #[.agg #[.int .i64 id, .int .i64 s], .agg #[.int .i64 id, .int .i64 s]] w fun e w' => e = .returned (.bool true) ∧ Below w.heap.size w w' := by
  go_enter Tryz.func118, Tryz.ntmps118
  go_wp2
  go_ret
  exact ⟨rfl, ((Below.refl _ _).alloc (Nat.le_refl _) _).alloc (by simp) _⟩

set_option maxRecDepth 100000 in
set_option maxHeartbeats 1600000 in
theorem eqInsS (a a' : Option Addr) (b off cap b' off' cap' : Nat) (L : List (Int × Int)) (w : World) (ha : Hid (L ≠ [] → a = some ⟨b, off, none⟩ ∧ b < w.heap.size)) (ha' : Hid (L ≠ [] → a' = some ⟨b', off', none⟩ ∧ b' < w.heap.size))
    (hL : insAt w b off L) (hL' : insAt w b' off' L) (hlen : L.length ≤ 9223372036854775807) :
    Calls Tryz.prog 93 #[.slice a L.length cap, .slice a' L.length cap'] w fun e w' => e = .returned (.bool true) ∧ Below w.heap.size w w' := by
  go_enter Tryz.func93, Tryz.ntmps93
  go_wp2
  go_loopw [5] (fun i wr => ∃ (k : Nat), k ≤ L.length ∧ i = .int .i64 k ∧ Below w.heap.size w wr) (fun i _ => L.length - (intOf i).toNat)
  case atStart => exact ⟨0, by omega, rfl, Below.refl _ _⟩
  case round =>
    obtain ⟨k, hk, rfl, hnx⟩ := hrel
    by_cases hlt : k < L.length
    · obtain ⟨rfl, hb⟩ := ha.out (fun h => by simp [h] at hlt)
      obtain ⟨rfl, hb'⟩ := ha'.out (fun h => by simp [h] at hlt)
      have hc := hL k hlt
      have hd := hL' k hlt
      obtain ⟨x, hx⟩ : ∃ x, x = L[k] := ⟨_, rfl⟩
      rw [← hx] at hc hd
      obtain ⟨id, s⟩ := x
      clear hx
      simp only at hc hd
      have hc0 : wr.cell? ⟨b, off + k * 2, none⟩ = some (.int .i64 id) := (hnx.cell (by exact hb)).trans hc.1
      have hc1 : wr.cell? ⟨b, off + k * 2 + 1, none⟩ = some (.int .i64 s) := (hnx.cell (by exact hb)).trans hc.2
      have hd0 : wr.cell? ⟨b', off' + k * 2, none⟩ = some (.int .i64 id) := (hnx.cell (by exact hb')).trans hd.1
      have hd1 : wr.cell? ⟨b', off' + k * 2 + 1, none⟩ = some (.int .i64 s) := (hnx.cell (by exact hb')).trans hd.2
      clear hc hd
      have H := eqIns1 id s
      go_wp2
      go_region_with (go_at_call 118; refine (H _).mono ?_; rintro e w1 ⟨rfl, hb2⟩)
      all_goals
        go_wp2
        go_roundw
        case rel => exact ⟨k + 1, by omega, by go_num, by first | exact below2 hnx (by assumption) | exact below2 hnx.drew (by assumption) | exact below2 hnx.drew.drew (by assumption) | exact below2 hnx.drew.drew.drew (by assumption)⟩
        case measure => simp [intOf]; omega
    · go_wp2
      go_ret
      exact ⟨rfl, hnx⟩

end Go.Proofs.YtdcfflmfimepfaaGreat
