/-
  Words in memory: copied, compared, counted.
-/
import Derived.Test.YtdcfflmfimepfaaGreatJA11
import Derived.Deep.RegionWith
import Derived.Test.YtdcfflmfimepfaaGreatKA13
import Derived.OpenShut
namespace Go.Proofs.YtdcfflmfimepfaaGreat
open Go.ChangeShapes Go.WideShapes Go.ChangeAt Go.RowKit

/-- A word. -/
structure Wd8 where
  ty : Int
  bits : Int
def WdAt (w : World) (b o : Nat) (x : Wd8) : Prop := w.cell? ⟨b, o, none⟩ = some (.int .i64 x.ty) ∧ w.cell? ⟨b, o + 1, none⟩ = some (.int .u64 x.bits)
/-- The words L lie behind the address a. -/
def Wds (w : World) (a : Option Addr) (L : List Wd8) : Prop := L ≠ [] → ∃ b off, a = some ⟨b, off, none⟩ ∧ b < w.heap.size ∧ ∀ k (hk : k < L.length), WdAt w b (off + k * 2) L[k]
theorem Wds.below {w w' : World} {a : Option Addr} {L : List Wd8} (h : Wds w a L) (hb : Below w.heap.size w w') : Wds w' a L := fun hn => by
  obtain ⟨b, off, rfl, hl, hc⟩ := h hn
  exact ⟨b, off, rfl, Nat.lt_of_lt_of_le hl hb.size, fun i hi => ⟨(hb.cell (p := ⟨b, off + i * 2, none⟩) hl).trans (hc i hi).1, (hb.cell (p := ⟨b, off + i * 2 + 1, none⟩) hl).trans (hc i hi).2⟩⟩
theorem Wds.at {w : World} {a : Option Addr} {L : List Wd8} (h : Wds w a L) (k : Nat) (hk : k < L.length) : ∃ b off, a = some ⟨b, off, none⟩ ∧ b < w.heap.size ∧ WdAt w b (off + k * 2) L[k] := by
  obtain ⟨b, off, ha, hl, hc⟩ := h (fun h => by simp [h] at hk)
  exact ⟨b, off, ha, hl, hc k hk⟩
theorem Wds.set {w : World} {L : List Wd8} {g : Nat} (h : Wds w (some ⟨g, 0, none⟩) L) {m : Nat} (hm : g ≠ m) (i : Nat) (v : Value) : Wds (w.setCell ⟨m, i, none⟩ v) (some ⟨g, 0, none⟩) L := fun hn => by
  obtain ⟨b, off, ha, hl, hc⟩ := h hn
  have hbm : b ≠ m := by simp at ha; omega
  refine ⟨b, off, ha, by simpa using hl, fun j hj => ?_⟩
  obtain ⟨h0, h1⟩ := hc j hj
  exact ⟨(setCell_other_cell _ _ _ _ _ _ hbm).trans h0, (setCell_other_cell _ _ _ _ _ _ hbm).trans h1⟩

theorem put2_at (arr : Array Value) (k : Nat) (hs : k * 2 + 1 < arr.size) (v0 v1 : Value) (A : Array Value) (hA : A = (arr.setIfInBounds (k * 2) v0).setIfInBounds (k * 2 + 1) v1) :
    A[k * 2]? = some v0 ∧ A[k * 2 + 1]? = some v1 ∧ ∀ j, j < k * 2 → A[j]? = arr[j]? := by
  subst hA
  refine ⟨?_, ?_, fun j hj => ?_⟩
  · rw [Array.getElem?_setIfInBounds_ne (by omega), Array.getElem?_setIfInBounds_self_of_lt (by omega)]
  · rw [Array.getElem?_setIfInBounds_self_of_lt (by simp; omega)]
  · rw [Array.getElem?_setIfInBounds_ne (by omega), Array.getElem?_setIfInBounds_ne (by omega)]

theorem Tryz.infoWd : (Tryz.prog.info? 80).map (fun i => (i.zero, i.size, i.bytes)) = some (some (.agg #[.int .i64 0, .int .u64 0]), 2, 16) := by kernel_rfl

set_option maxRecDepth 100000 in
set_option maxHeartbeats 800000 in
theorem toWd1 (ty bits : Int) (w : World) :
    Calls Tryz.prog 60 #[.agg #[.int .i64 ty, .int .u64 bits]] w fun e w' => e = .returned (.agg #[.int .i64 ty, .int .u64 bits]) ∧ Below w.heap.size w w' := by
  go_enter Tryz.func60, Tryz.ntmps60
  go_wp2
  exact bodyPost_ret (v := .agg #[.int .i64 ty, .int .u64 bits]) (by simp [results, Tryz.results60, go_sem]) rfl ⟨rfl, by (repeat (first | refine Below.alloc ?_ (by first | (simp; done) | (simp; omega)) _ | refine Below.setCell ?_ (by first | (simp; done) | (simp; omega)) _ | refine bel_dN ?_ _ | refine Below.drew ?_ | exact Below.refl _ _))⟩

def WdLaid (arr : Array Value) (L : List Wd8) (k : Nat) : Prop :=
  ∀ j (h : j < L.length), j < k → arr[j * 2]? = some (.int .i64 L[j].ty) ∧ arr[j * 2 + 1]? = some (.int .u64 L[j].bits)
theorem WdLaid.more {arr A : Array Value} {L : List Wd8} {k : Nat} (h : WdLaid arr L k) (hk : k < L.length)
    (hA : A[k * 2]? = some (.int .i64 L[k].ty) ∧ A[k * 2 + 1]? = some (.int .u64 L[k].bits) ∧ ∀ j, j < k * 2 → A[j]? = arr[j]?) : WdLaid A L (k + 1) := fun j hj hjk => by
  by_cases e : j = k
  · subst e
    exact ⟨hA.1, hA.2.1⟩
  · obtain ⟨h0, h1⟩ := h j hj (by omega)
    have K := hA.2.2
    exact ⟨(K _ (by omega)).trans h0, (K _ (by omega)).trans h1⟩

set_option maxRecDepth 100000 in
set_option maxHeartbeats 1600000 in
theorem toWds (a : Option Addr) (cap : Nat) (L : List Wd8) (w : World) (hF : Hid (Wds w a L)) (hlen : L.length ≤ 1048576) :
    Calls Tryz.prog 40 #[.slice a L.length cap] w fun e w' => e = .returned (.slice (some ⟨w.heap.size, 0, none⟩) L.length L.length) ∧ w.heap.size < w'.heap.size ∧ Wds w' (some ⟨w.heap.size, 0, none⟩) L ∧ Below w.heap.size w w' := by
  obtain ⟨i0, hi, hz0, hz1, hz2⟩ := info_parts Tryz.infoWd
  obtain ⟨M, hM⟩ : ∃ M, M = madeCells (Value.agg #[.int .i64 0, .int .u64 0]).cells (((L.length : Nat) : Int).toNat * i0.size) := ⟨_, rfl⟩
  have hMs : M.size = L.length * 2 := by rw [hM, size_madeCells, hz1]; simp
  have hmk : ∀ W : World, (Instr.makeSlice 40 (.int .i64 (L.length : Int)) (.int .i64 (L.length : Int))).run Tryz.prog W = .ok (.slice (some ⟨W.heap.size, 0, none⟩) L.length L.length) (W.alloc (.cells M 80)) := fun W => by
    have h := run_make (P := Tryz.prog) W 40 80 i0 _ Tryz.underlying40 hi hz0 .i64 .i64 (L.length : Int) (L.length : Int) (by omega) (by omega) (by rw [hz2]; omega) (by omega)
    rw [← hM] at h
    simpa using h
  clear hM
  go_enter Tryz.func40, Tryz.ntmps40
  go_wp2
  go_loopw [4] (fun i wr => ∃ (k : Nat) (arr : Array Value), k ≤ L.length ∧ i = .int .i64 k ∧ wr.heap[w.heap.size]? = some (.cells arr 80 (0, 0)) ∧ arr.size = L.length * 2 ∧ Hid (WdLaid arr L k) ∧ Below w.heap.size w wr) (fun i _ => L.length - (intOf i).toNat)
  case atStart => exact ⟨0, M, by omega, rfl, heap_alloc_new _ _, hMs, fun j _ h => absurd h (by omega), (Below.refl _ _).alloc (Nat.le_refl _) _⟩
  case round =>
    clear hmk hMs
    obtain ⟨k, arr, hk, rfl, harr, hsz, hA, hnx⟩ := hrel
    have hgl := lt_of_block harr
    by_cases hlt : k < L.length
    · obtain ⟨b, off, rfl, hb, hc⟩ := hF.out.at k hlt
      obtain ⟨c0, c1⟩ := hc
      obtain ⟨f, hf⟩ : ∃ f, L[k] = f := ⟨_, rfl⟩
      rw [hf] at c0 c1
      have HF : Hid (L[k] = f) := hf
      clear hf
      have d0 : wr.cell? ⟨b, off + k * 2, none⟩ = some (.int .i64 f.ty) := (hnx.cell (by exact hb)).trans c0
      have d1 : wr.cell? ⟨b, off + k * 2 + 1, none⟩ = some (.int .u64 f.bits) := (hnx.cell (by exact hb)).trans c1
      have HS : Hid (arr.size = L.length * 2) := hsz
      obtain ⟨o0, ho0⟩ : ∃ o, arr[k * 2]? = some o := ⟨_, Array.getElem?_eq_getElem (by omega)⟩
      obtain ⟨o1, ho1⟩ : ∃ o, arr[k * 2 + 1]? = some o := ⟨_, Array.getElem?_eq_getElem (by omega)⟩
      clear hsz c0 c1
      go_wp2_with fail
      refine (toWd1 f.ty f.bits wr).mono ?_
      rintro e w1 ⟨rfl, hb1⟩
      have harr1 := (hb1.block _ hgl).trans harr
      have e0 := (cell_of_block harr1 (k * 2)).trans ho0
      have e1 := (cell_of_block harr1 (k * 2 + 1)).trans ho1
      have f0 := free_of_block harr1 (k * 2)
      have f1 := free_of_block harr1 (k * 2 + 1)
      have HB : Hid (Below w.heap.size w w1) := below2 hnx hb1
      clear hb1 harr d0 d1 hF
      go_wp2
      go_roundw
      case rel =>
        have hA2 := put2_at arr k (by have := HS.out; omega) (.int .i64 f.ty) (.int .u64 f.bits) _ rfl
        have HF2 := HF.out
        refine ⟨k + 1, _, by omega, by go_num, heap_setCell_same _ _ _ _ _ _ (heap_setCell_same _ _ _ _ _ _ harr1), by simpa using HS.out, ?_, (HB.out.setCell (Nat.le_refl _) _).setCell (Nat.le_refl _) _⟩
        exact hA.out.more hlt (by rw [HF2]; exact hA2)
      case measure => simp [intOf]; omega
    · go_wp2
      go_ret
      refine ⟨rfl, hgl, fun _ => ⟨w.heap.size, 0, rfl, hgl, fun j hj => ?_⟩, hnx⟩
      obtain ⟨h0, h1⟩ := hA.out j hj (by omega)
      rw [Nat.zero_add]
      exact ⟨(cell_of_block harr _).trans h0, (cell_of_block harr _).trans h1⟩

set_option maxRecDepth 100000 in
set_option maxHeartbeats 800000 in
theorem eqWd1 (ty bits : Int) (w : World) :
    Calls Tryz.prog 50 #[.agg #[.int .i64 ty, .int .u64 bits], .agg #[.int .i64 ty, .int .u64 bits]] w fun e w' => e = .returned (.bool true) ∧ Below w.heap.size w w' := by
  go_enter Tryz.func50, Tryz.ntmps50
  go_wp2
  go_ret
  exact ⟨rfl, ((Below.refl _ _).alloc (Nat.le_refl _) _).alloc (by simp) _⟩

set_option maxRecDepth 100000 in
set_option maxHeartbeats 1600000 in
theorem eqWds (a a' : Option Addr) (cap cap' : Nat) (L : List Wd8) (w : World) (hL : Hid (Wds w a L)) (hL' : Hid (Wds w a' L)) (hlen : L.length ≤ 9223372036854775807) :
    Calls Tryz.prog 26 #[.slice a L.length cap, .slice a' L.length cap'] w fun e w' => e = .returned (.bool true) ∧ Below w.heap.size w w' := by
  go_enter Tryz.func26, Tryz.ntmps26
  go_wp2
  go_loopw [5] (fun i wr => ∃ (k : Nat), k ≤ L.length ∧ i = .int .i64 k ∧ Below w.heap.size w wr) (fun i _ => L.length - (intOf i).toNat)
  case atStart => exact ⟨0, by omega, rfl, Below.refl _ _⟩
  case round =>
    obtain ⟨k, hk, rfl, hnx⟩ := hrel
    by_cases hlt : k < L.length
    · obtain ⟨b, off, rfl, hb, hc⟩ := hL.out.at k hlt
      obtain ⟨b', off', rfl, hb', hd⟩ := hL'.out.at k hlt
      obtain ⟨x, hx⟩ : ∃ x, x = L[k] := ⟨_, rfl⟩
      rw [← hx] at hc hd
      obtain ⟨ty, bits⟩ := x
      clear hx
      obtain ⟨c0, c1⟩ := hc
      obtain ⟨e0, e1⟩ := hd
      simp only at c0 c1 e0 e1
      have hc0 : wr.cell? ⟨b, off + k * 2, none⟩ = some (.int .i64 ty) := (hnx.cell (by exact hb)).trans c0
      have hc1 : wr.cell? ⟨b, off + k * 2 + 1, none⟩ = some (.int .u64 bits) := (hnx.cell (by exact hb)).trans c1
      have hd0 : wr.cell? ⟨b', off' + k * 2, none⟩ = some (.int .i64 ty) := (hnx.cell (by exact hb')).trans e0
      have hd1 : wr.cell? ⟨b', off' + k * 2 + 1, none⟩ = some (.int .u64 bits) := (hnx.cell (by exact hb')).trans e1
      clear c0 c1 e0 e1
      have H := eqWd1 ty bits
      go_wp2
      go_region_with (go_at_call 50; refine (H _).mono ?_; rintro e w1 ⟨rfl, hb2⟩)
      all_goals
        go_wp2
        go_roundw
        case rel => exact ⟨k + 1, by omega, by go_num, by first | exact below2 hnx (by assumption) | exact below2 hnx.drew (by assumption) | exact below2 hnx.drew.drew (by assumption) | exact below2 hnx.drew.drew.drew (by assumption)⟩
        case measure => simp [intOf]; omega
    · go_wp2
      go_ret
      exact ⟨rfl, hnx⟩

set_option maxRecDepth 2000000 in
set_option maxHeartbeats 800000 in
theorem szWd1 (a : Option Addr) (cap n : Nat) (l : Int) (w : World) (hn : n ≤ 9223372036854775807) (h0 : 0 ≤ l) (h1 : l ≤ 1048576) :
    Calls Tryz.prog 33 #[.slice a n cap, .int .i64 l] w fun e w' => ∃ r : Int, e = .returned (.int .i64 r) ∧ (0 ≤ r → n ≤ 1048576 ∧ r ≤ 1048576) ∧ w' = w := by
  obtain ⟨N, hN⟩ : ∃ N : Int, (n : Int) = N := ⟨_, rfl⟩
  by_cases h2 : N ≤ l
  · go_enter Tryz.func33, Tryz.ntmps33
    go_wp2
    go_ret
    exact ⟨_, rfl, fun _ => by omega, rfl⟩
  · go_enter Tryz.func33, Tryz.ntmps33
    go_wp2
    go_ret
    exact ⟨_, rfl, fun h => absurd h (by omega), rfl⟩

end Go.Proofs.YtdcfflmfimepfaaGreat

namespace Go.Proofs.YtdcfflmfimepfaaGreat
open Go.ChangeShapes Go.WideShapes Go.ChangeAt Go.RowKit

def goodWd (x : Wd8) : Bool := goodG ⟨x.ty, false, x.bits⟩
theorem goodWd_eq (ty bits : Int) (t y : Bool) (ht : (decide (125 ≤ ty) && decide (ty ≤ 127)) = t) (hy : decide (bits ≤ 4294967295) = y) : goodWd ⟨ty, bits⟩ = (t && (decide (ty = 126) || y)) := by
  unfold goodWd goodG isT
  simp only
  rw [ht, hy]

set_option maxRecDepth 100000 in
set_option maxHeartbeats 1600000 in
theorem implWd (ty bits : Int) (h0 : 0 ≤ bits) (h1 : bits ≤ 18446744073709551615) (w : World) :
    Calls Tryz.prog 91 #[.agg #[.int .i64 ty, .int .u64 bits]] w fun e w' => e = .returned (.bool (goodWd ⟨ty, bits⟩)) ∧ Below w.heap.size w w' := by
  have T := fun w => implFits ⟨ty, false, bits⟩ ⟨h0, h1⟩ w
  obtain ⟨R, hR⟩ : ∃ R, goodG ⟨ty, false, bits⟩ = R := ⟨_, rfl⟩
  have hR2 : goodWd ⟨ty, bits⟩ = R := hR
  rw [hR2]
  rw [hR] at T
  simp only at T
  clear hR hR2
  go_enter Tryz.func91, Tryz.ntmps91
  go_wp2_with fail
  refine (T _).mono ?_
  rintro e w1 ⟨rfl, hb1⟩
  have HB : Hid (Below w.heap.size w w1) := bel_step ((Below.refl _ _).alloc (Nat.le_refl _) _) hb1
  clear hb1 T
  go_wp2
  go_ret
  exact ⟨rfl, HB.out⟩

set_option maxRecDepth 100000 in
set_option maxHeartbeats 1600000 in
theorem l8Wd (ty bits : Int) (w : World) :
    Calls Tryz.prog 56 #[.agg #[.int .i64 ty, .int .u64 bits]] w fun e w' => e = .returned (.bool (goodWd ⟨ty, bits⟩)) ∧ Below w.heap.size w w' := by
  obtain ⟨t, ht⟩ : ∃ t, (decide (125 ≤ ty) && decide (ty ≤ 127)) = t := ⟨_, rfl⟩
  obtain ⟨y, hy⟩ : ∃ y, decide (bits ≤ 4294967295) = y := ⟨_, rfl⟩
  rw [goodWd_eq ty bits t y ht hy]
  have H4 : Hid ((decide (125 ≤ ty) && decide (ty ≤ 127)) = t) := ht
  clear ht
  cases t
  · clear hy
    go_enter Tryz.func56, Tryz.ntmps56
    go_wp2_with (go_at_call 77; refine (specType _ _ (by assumption) _).mono ?_; rintro e w1 ⟨rfl, hw⟩; obtain rfl := hw.symm)
    go_ret
    exact ⟨rfl, (Below.refl _ _).alloc (Nat.le_refl _) _⟩
  · by_cases h3 : ty = 126
    · subst h3
      clear hy
      go_enter Tryz.func56, Tryz.ntmps56
      go_wp2_with (go_at_call 77; refine (specType _ _ (by assumption) _).mono ?_; rintro e w1 ⟨rfl, hw⟩; obtain rfl := hw.symm)
      go_ret
      exact ⟨rfl, (Below.refl _ _).alloc (Nat.le_refl _) _⟩
    · have e3 : (ty == 126) = false := by simpa using h3
      have HD : Hid (decide (ty = 126) = false) := by unfold Hid; simpa using h3
      clear h3
      go_enter Tryz.func56, Tryz.ntmps56
      go_wp2_with (go_at_call 77; refine (specType _ _ (by assumption) _).mono ?_; rintro e w1 ⟨rfl, hw⟩; obtain rfl := hw.symm)
      go_ret
      exact ⟨by rw [HD.out]; first | rfl | simp, (Below.refl _ _).alloc (Nat.le_refl _) _⟩

end Go.Proofs.YtdcfflmfimepfaaGreat
