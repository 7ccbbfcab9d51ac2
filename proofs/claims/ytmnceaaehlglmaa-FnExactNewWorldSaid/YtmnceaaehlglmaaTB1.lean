/-
  Rows of handles in memory: copied, compared, counted.
-/
import Derived.Test.YtmnceaaehlglmaaTB0
import Derived.Test.YtmnceaaehlglmaaInts
import Derived.Test.YtmnceaaehlglmaaCMarkI
import Derived.Test.YtmnceaaehlglmaaCStack
import Derived.Test.YtmnceaaehlglmaaBlk
import Derived.Test.YtmnceaaehlglmaaKeep
import Derived.Deep.RegionWith
namespace Go.Proofs.Ytmnceaaehlglmaa
open Go.ChangeShapes Go.WideShapes Go.ChangeAt Go.RowKit

/-- The cells of a handle. -/
def hdC (h : Hd) : List Value := [.bool h.u, .int .i64 h.r, .int .i64 h.p, .bool h.o, .int .i64 h.l, .int .i64 h.s]
def hv (L : List Hd) : List Value := L.flatMap hdC
theorem hv_len (L : List Hd) : (hv L).length = L.length * 6 := by
  unfold hv
  induction L with
  | nil => rfl
  | cons h l ih => rw [List.flatMap_cons, List.length_append, ih]; simp [hdC]; omega
theorem hv_app (L M : List Hd) : hv L ++ hv M = hv (L ++ M) := by simp [hv]
theorem hv_at : ∀ (L : List Hd) (k : Nat) (hk : k < L.length) (j : Nat), j < 6 → (hv L)[k * 6 + j]? = (hdC L[k])[j]?
  | h :: l, 0, _, j, hj => by
    unfold hv
    rw [List.flatMap_cons, List.getElem?_append_left (by simp [hdC]; omega)]
    simp
  | h :: l, k + 1, hk, j, hj => by
    have ih := hv_at l k (by simpa using hk) j hj
    unfold hv at ih ⊢
    rw [List.flatMap_cons, List.getElem?_append_right (by simp [hdC]; omega)]
    simp only [List.getElem_cons_succ]
    rw [← ih]
    congr 1
    simp [hdC]
    omega
theorem hv_one (L : List Hd) : ∀ u ∈ hv L, u.oneCell' = true := by
  intro u hu
  obtain ⟨h, _, hx⟩ := List.mem_flatMap.1 hu
  simp [hdC] at hx
  rcases hx with rfl | rfl | rfl | rfl | rfl | rfl <;> rfl

def HdAt (w : World) (b o : Nat) (h : Hd) : Prop := w.cell? ⟨b, o, none⟩ = some (.bool h.u) ∧ w.cell? ⟨b, o + 1, none⟩ = some (.int .i64 h.r) ∧ w.cell? ⟨b, o + 2, none⟩ = some (.int .i64 h.p) ∧ w.cell? ⟨b, o + 3, none⟩ = some (.bool h.o) ∧ w.cell? ⟨b, o + 4, none⟩ = some (.int .i64 h.l) ∧ w.cell? ⟨b, o + 5, none⟩ = some (.int .i64 h.s)
/-- The handles L lie behind the address a. -/
def Hds (w : World) (a : Option Addr) (L : List Hd) : Prop := L ≠ [] → ∃ b off, a = some ⟨b, off, none⟩ ∧ b < w.heap.size ∧ ∀ k (hk : k < L.length), HdAt w b (off + k * 6) L[k]
theorem HdAt.kept {w w' : World} {b o : Nat} {h : Hd} (k : HdAt w b o h) (hs : ∀ j, w'.cell? ⟨b, j, none⟩ = w.cell? ⟨b, j, none⟩) : HdAt w' b o h := ⟨(hs _).trans k.1, (hs _).trans k.2.1, (hs _).trans k.2.2.1, (hs _).trans k.2.2.2.1, (hs _).trans k.2.2.2.2.1, (hs _).trans k.2.2.2.2.2⟩
theorem Hds.below {w w' : World} {a : Option Addr} {L : List Hd} (h : Hds w a L) (hb : Below w.heap.size w w') : Hds w' a L := fun hn => by
  obtain ⟨b, off, rfl, hl, hc⟩ := h hn
  exact ⟨b, off, rfl, Nat.lt_of_lt_of_le hl hb.size, fun i hi => (hc i hi).kept (fun j => hb.cell (p := ⟨b, j, none⟩) hl)⟩
theorem Hds.at {w : World} {a : Option Addr} {L : List Hd} (h : Hds w a L) (k : Nat) (hk : k < L.length) : ∃ b off, a = some ⟨b, off, none⟩ ∧ b < w.heap.size ∧ HdAt w b (off + k * 6) L[k] := by
  obtain ⟨b, off, ha, hl, hc⟩ := h (fun h => by simp [h] at hk)
  exact ⟨b, off, ha, hl, hc k hk⟩
theorem own_hds {w : World} {B : Nat} {v : Value} {L : List Hd} (h : w.ownsRow B 62 6 v L.length (hv L)) : ∃ a cap, v = .slice a L.length cap ∧ Hds w a L ∧ L.length ≤ cap := by
  have h' := h
  rcases h'.2 with ⟨rfl, h0⟩ | ⟨g, cap, cur, rfl, _, hb, hc, _⟩
  · obtain rfl : L = [] := List.length_eq_zero_iff.1 h0
    exact ⟨none, 0, rfl, fun h => absurd rfl h, by simp⟩
  · have hcell : ∀ j u, (hv L)[j]? = some u → w.cell? ⟨g, j, none⟩ = some u := fun j u hu => (own_cell h hu).1
    refine ⟨_, cap, rfl, fun _ => ⟨g, 0, rfl, lt_of_block hb, fun k hk => ?_⟩, hc⟩
    rw [Nat.zero_add]
    exact ⟨hcell _ _ (hv_at L k hk 0 (by omega)), hcell _ _ (hv_at L k hk 1 (by omega)), hcell _ _ (hv_at L k hk 2 (by omega)), hcell _ _ (hv_at L k hk 3 (by omega)), hcell _ _ (hv_at L k hk 4 (by omega)), hcell _ _ (hv_at L k hk 5 (by omega))⟩
theorem ownT_kept {w w' : World} {B : Nat} {e : TypeId} {s n : Nat} {v : Value} {xs : List Value} (h : w.ownsRow B e s v n xs) (hb : Below w.heap.size w w') : w'.ownsRow B e s v n xs :=
  own_keep h (fun g hg => hb.block g (h.lt g hg).2)
theorem ownT_base {w : World} {B B' : Nat} {e : TypeId} {s n : Nat} {v : Value} {xs : List Value} (h : w.ownsRow B e s v n xs) (hb : B' ≤ B) : w.ownsRow B' e s v n xs := by
  refine ⟨h.1, ?_⟩
  rcases h.2 with h0 | ⟨g, cap, cur, h1, h2, h3⟩
  · exact .inl h0
  · exact .inr ⟨g, cap, cur, h1, Nat.le_trans hb h2, h3⟩

/-- A row whose cells are laid up to place m. -/
def LaidTo (arr : Array Value) (xs : List Value) (m : Nat) : Prop := ∀ j, j < m → arr[j]? = xs[j]?
theorem LaidTo.whole {w : World} {g n sz : Nat} {B : Nat} {e : TypeId} {arr : Array Value} {xs : List Value} (h : LaidTo arr xs (n * sz)) (hx : xs.length = n * sz) {cap : Nat} (ha : arr.size = cap * sz) (hn : n ≤ cap) (hm : cap ≤ maxLen) (hb : w.heap[g]? = some (.cells arr e (0, 0))) (hB : B ≤ g) :
    w.ownsRow B e sz (.slice (some ⟨g, 0, none⟩) n cap) n xs := by
  refine ⟨hx, .inr ⟨g, cap, arr, rfl, hB, hb, hn, hm, ha, ?_⟩⟩
  have hle : n * sz ≤ cap * sz := Nat.mul_le_mul_right _ hn
  apply List.ext_getElem?
  intro i
  by_cases hi : i < n * sz
  · rw [List.getElem?_take_of_lt hi, Array.getElem?_toList]
    exact h i hi
  · rw [List.getElem?_take_eq_none (by omega), List.getElem?_eq_none (by omega)]

theorem put6_at (arr : Array Value) (k : Nat) (hs : k * 6 + 5 < arr.size) (v0 v1 v2 v3 v4 v5 : Value) (A : Array Value) (hA : A = (((((arr.setIfInBounds (k * 6) v0).setIfInBounds (k * 6 + 1) v1).setIfInBounds (k * 6 + 2) v2).setIfInBounds (k * 6 + 3) v3).setIfInBounds (k * 6 + 4) v4).setIfInBounds (k * 6 + 5) v5) :
    A.size = arr.size ∧ (∀ j, j < 6 → A[k * 6 + j]? = [v0, v1, v2, v3, v4, v5][j]?) ∧ ∀ j, (j < k * 6 ∨ k * 6 + 5 < j) → A[j]? = arr[j]? := by
  subst hA
  refine ⟨by simp, fun j hj => ?_, fun j hj => ?_⟩
  · have : j = 0 ∨ j = 1 ∨ j = 2 ∨ j = 3 ∨ j = 4 ∨ j = 5 := by omega
    rcases this with rfl | rfl | rfl | rfl | rfl | rfl
    · rw [Array.getElem?_setIfInBounds_ne (by omega), Array.getElem?_setIfInBounds_ne (by omega), Array.getElem?_setIfInBounds_ne (by omega), Array.getElem?_setIfInBounds_ne (by omega), Array.getElem?_setIfInBounds_ne (by omega)]
      exact Array.getElem?_setIfInBounds_self_of_lt (by omega)
    · rw [Array.getElem?_setIfInBounds_ne (by omega), Array.getElem?_setIfInBounds_ne (by omega), Array.getElem?_setIfInBounds_ne (by omega), Array.getElem?_setIfInBounds_ne (by omega)]
      exact Array.getElem?_setIfInBounds_self_of_lt (by simp; omega)
    · rw [Array.getElem?_setIfInBounds_ne (by omega), Array.getElem?_setIfInBounds_ne (by omega), Array.getElem?_setIfInBounds_ne (by omega)]
      exact Array.getElem?_setIfInBounds_self_of_lt (by simp; omega)
    · rw [Array.getElem?_setIfInBounds_ne (by omega), Array.getElem?_setIfInBounds_ne (by omega)]
      exact Array.getElem?_setIfInBounds_self_of_lt (by simp; omega)
    · rw [Array.getElem?_setIfInBounds_ne (by omega)]
      exact Array.getElem?_setIfInBounds_self_of_lt (by simp; omega)
    · exact Array.getElem?_setIfInBounds_self_of_lt (by simp; omega)
  · rw [Array.getElem?_setIfInBounds_ne (by omega), Array.getElem?_setIfInBounds_ne (by omega), Array.getElem?_setIfInBounds_ne (by omega), Array.getElem?_setIfInBounds_ne (by omega), Array.getElem?_setIfInBounds_ne (by omega), Array.getElem?_setIfInBounds_ne (by omega)]
theorem LaidTo.more {arr A : Array Value} {L : List Hd} {k : Nat} (h : LaidTo arr (hv L) (k * 6)) (hk : k < L.length) (h1 : ∀ j, j < 6 → A[k * 6 + j]? = (hdC L[k])[j]?) (h2 : ∀ j, (j < k * 6 ∨ k * 6 + 5 < j) → A[j]? = arr[j]?) : LaidTo A (hv L) ((k + 1) * 6) := fun j hj => by
  by_cases e : j < k * 6
  · rw [h2 j (.inl e)]; exact h j e
  · have e2 : j = k * 6 + (j - k * 6) := by omega
    rw [e2, h1 _ (by omega), hv_at L k hk _ (by omega)]

theorem Try.infoHd : (Try.prog.info? 62).map (fun i => (i.zero, i.size, i.bytes)) = some (some (.agg #[.bool false, .int .i64 0, .int .i64 0, .bool false, .int .i64 0, .int .i64 0]), 6, 48) := by kernel_rfl
def hdV (h : Hd) : Value := .agg #[.bool h.u, .int .i64 h.r, .int .i64 h.p, .bool h.o, .int .i64 h.l, .int .i64 h.s]

set_option maxRecDepth 100000 in
set_option maxHeartbeats 800000 in
theorem toHd1 (h : Hd) (w : World) :
    Calls Try.prog 75 #[hdV h] w fun e w' => e = .returned (hdV h) ∧ Below w.heap.size w w' := by
  obtain ⟨u, r, p, o, l, s⟩ := h
  unfold hdV
  go_enter Try.func75, Try.ntmps75
  go_wp2
  exact bodyPost_ret (v := .agg #[.bool u, .int .i64 r, .int .i64 p, .bool o, .int .i64 l, .int .i64 s]) (by simp [results, Try.results75, go_sem]) rfl ⟨rfl, by (repeat (first | refine Below.alloc ?_ (by first | (simp; done) | (simp; omega)) _ | refine Below.setCell ?_ (by first | (simp; done) | (simp; omega)) _ | refine bel_dN ?_ _ | refine Below.drew ?_ | exact Below.refl _ _))⟩

set_option maxRecDepth 100000 in
set_option maxHeartbeats 1600000 in
theorem toHds (a : Option Addr) (cap : Nat) (L : List Hd) (w : World) (hF : Hid (Hds w a L)) (hlen : L.length ≤ 1048576) :
    Calls Try.prog 68 #[.slice a L.length cap] w fun e w' => e = .returned (.slice (some ⟨w.heap.size, 0, none⟩) L.length L.length) ∧ w.heap.size < w'.heap.size ∧ w'.ownsRow w.heap.size 62 6 (.slice (some ⟨w.heap.size, 0, none⟩) L.length L.length) L.length (hv L) ∧ Below w.heap.size w w' := by
  obtain ⟨i0, hi, hz0, hz1, hz2⟩ := info_parts Try.infoHd
  obtain ⟨M, hM⟩ : ∃ M, M = madeCells (Value.agg #[.bool false, .int .i64 0, .int .i64 0, .bool false, .int .i64 0, .int .i64 0]).cells (((L.length : Nat) : Int).toNat * i0.size) := ⟨_, rfl⟩
  have hMs : M.size = L.length * 6 := by rw [hM, size_madeCells, hz1]; simp
  have hmk : ∀ W : World, (Instr.makeSlice 57 (.int .i64 (L.length : Int)) (.int .i64 (L.length : Int))).run Try.prog W = .ok (.slice (some ⟨W.heap.size, 0, none⟩) L.length L.length) (W.alloc (.cells M 62)) := fun W => by
    have h := run_make (P := Try.prog) W 57 62 i0 _ Try.underlying57 hi hz0 .i64 .i64 (L.length : Int) (L.length : Int) (by omega) (by omega) (by rw [hz2]; omega) (by omega)
    rw [← hM] at h
    simpa using h
  clear hM
  go_enter Try.func68, Try.ntmps68
  go_wp2
  go_loopw [4] (fun i wr => ∃ (k : Nat) (arr : Array Value), k ≤ L.length ∧ i = .int .i64 k ∧ wr.heap[w.heap.size]? = some (.cells arr 62 (0, 0)) ∧ arr.size = L.length * 6 ∧ Hid (LaidTo arr (hv L) (k * 6)) ∧ Below w.heap.size w wr) (fun i _ => L.length - (intOf i).toNat)
  case atStart => exact ⟨0, M, by omega, rfl, heap_alloc_new _ _, hMs, fun j h => absurd h (by omega), (Below.refl _ _).alloc (Nat.le_refl _) _⟩
  case round =>
    clear hmk hMs
    obtain ⟨k, arr, hk, rfl, harr, hsz, hA, hnx⟩ := hrel
    have hgl := lt_of_block harr
    by_cases hlt : k < L.length
    · obtain ⟨b, off, rfl, hb, hc⟩ := hF.out.at k hlt
      obtain ⟨f, hf⟩ : ∃ f, L[k] = f := ⟨_, rfl⟩
      rw [hf] at hc
      have HF : Hid (L[k] = f) := hf
      clear hf
      obtain ⟨d0, d1, d2, d3, d4, d5⟩ := hc.kept (w' := wr) (fun j => hnx.cell (p := ⟨b, j, none⟩) hb)
      have HS : Hid (arr.size = L.length * 6) := hsz
      obtain ⟨o0, ho0⟩ : ∃ o, arr[k * 6]? = some o := ⟨_, Array.getElem?_eq_getElem (by omega)⟩
      obtain ⟨o1, ho1⟩ : ∃ o, arr[k * 6 + 1]? = some o := ⟨_, Array.getElem?_eq_getElem (by omega)⟩
      obtain ⟨o2, ho2⟩ : ∃ o, arr[k * 6 + 2]? = some o := ⟨_, Array.getElem?_eq_getElem (by omega)⟩
      obtain ⟨o3, ho3⟩ : ∃ o, arr[k * 6 + 3]? = some o := ⟨_, Array.getElem?_eq_getElem (by omega)⟩
      obtain ⟨o4, ho4⟩ : ∃ o, arr[k * 6 + 4]? = some o := ⟨_, Array.getElem?_eq_getElem (by omega)⟩
      obtain ⟨o5, ho5⟩ : ∃ o, arr[k * 6 + 5]? = some o := ⟨_, Array.getElem?_eq_getElem (by omega)⟩
      clear hsz hc
      have T := toHd1 f wr
      unfold hdV at T
      go_wp2_with fail
      refine T.mono ?_
      rintro e w1 ⟨rfl, hb1⟩
      have harr1 := (hb1.block _ hgl).trans harr
      have e0 := (cell_of_block harr1 (k * 6)).trans ho0
      have e1 := (cell_of_block harr1 (k * 6 + 1)).trans ho1
      have e2 := (cell_of_block harr1 (k * 6 + 2)).trans ho2
      have e3 := (cell_of_block harr1 (k * 6 + 3)).trans ho3
      have e4 := (cell_of_block harr1 (k * 6 + 4)).trans ho4
      have e5 := (cell_of_block harr1 (k * 6 + 5)).trans ho5
      have f0 := free_of_block harr1 (k * 6)
      have f1 := free_of_block harr1 (k * 6 + 1)
      have f2 := free_of_block harr1 (k * 6 + 2)
      have f3 := free_of_block harr1 (k * 6 + 3)
      have f4 := free_of_block harr1 (k * 6 + 4)
      have f5 := free_of_block harr1 (k * 6 + 5)
      have HB : Hid (Below w.heap.size w w1) := below2 hnx hb1
      clear hb1 harr d0 d1 d2 d3 d4 d5 hF T
      go_wp2
      go_roundw
      case rel =>
        obtain ⟨q0, q1, q2⟩ := put6_at arr k (by have := HS.out; omega) (.bool f.u) (.int .i64 f.r) (.int .i64 f.p) (.bool f.o) (.int .i64 f.l) (.int .i64 f.s) _ rfl
        have HF2 := HF.out
        refine ⟨k + 1, _, by omega, by go_num, heap_setCell_same _ _ _ _ _ _ (heap_setCell_same _ _ _ _ _ _ (heap_setCell_same _ _ _ _ _ _ (heap_setCell_same _ _ _ _ _ _ (heap_setCell_same _ _ _ _ _ _ (heap_setCell_same _ _ _ _ _ _ harr1))))), q0.trans HS.out, ?_, (((((HB.out.setCell (Nat.le_refl _) _).setCell (Nat.le_refl _) _).setCell (Nat.le_refl _) _).setCell (Nat.le_refl _) _).setCell (Nat.le_refl _) _).setCell (Nat.le_refl _) _⟩
        exact hA.out.more hlt (by rw [HF2]; exact q1) q2
      case measure => simp [intOf]; omega
    · obtain rfl : k = L.length := by omega
      go_wp2
      go_ret
      exact ⟨rfl, hgl, hA.out.whole (hv_len L) hsz (Nat.le_refl _) (by unfold maxLen; omega) harr (Nat.le_refl _), hnx⟩

set_option maxRecDepth 100000 in
set_option maxHeartbeats 800000 in
theorem eqHd1 (h : Hd) (w : World) :
    Calls Try.prog 74 #[hdV h, hdV h] w fun e w' => e = .returned (.bool true) ∧ Below w.heap.size w w' := by
  obtain ⟨u, r, p, o, l, s⟩ := h
  unfold hdV
  have hu : (u != u) = false := by cases u <;> rfl
  have ho : (o != o) = false := by cases o <;> rfl
  go_enter Try.func74, Try.ntmps74
  go_wp2
  go_ret
  exact ⟨rfl, ((Below.refl _ _).alloc (Nat.le_refl _) _).alloc (by simp) _⟩

set_option maxRecDepth 100000 in
set_option maxHeartbeats 1600000 in
theorem eqHds (a a' : Option Addr) (cap cap' : Nat) (L : List Hd) (w : World) (hL : Hid (Hds w a L)) (hL' : Hid (Hds w a' L)) (hlen : L.length ≤ 9223372036854775807) :
    Calls Try.prog 66 #[.slice a L.length cap, .slice a' L.length cap'] w fun e w' => e = .returned (.bool true) ∧ Below w.heap.size w w' := by
  go_enter Try.func66, Try.ntmps66
  go_wp2
  go_loopw [5] (fun i wr => ∃ (k : Nat), k ≤ L.length ∧ i = .int .i64 k ∧ Below w.heap.size w wr) (fun i _ => L.length - (intOf i).toNat)
  case atStart => exact ⟨0, by omega, rfl, Below.refl _ _⟩
  case round =>
    obtain ⟨k, hk, rfl, hnx⟩ := hrel
    by_cases hlt : k < L.length
    · obtain ⟨b, off, rfl, hb, hc⟩ := hL.out.at k hlt
      obtain ⟨b', off', rfl, hb', hd⟩ := hL'.out.at k hlt
      obtain ⟨x, hx⟩ : ∃ x, x = L[k] := ⟨_, rfl⟩
      rw [← hx] at hc hd
      clear hx
      obtain ⟨c0, c1, c2, c3, c4, c5⟩ := hc.kept (w' := wr) (fun j => hnx.cell (p := ⟨b, j, none⟩) hb)
      obtain ⟨e0, e1, e2, e3, e4, e5⟩ := hd.kept (w' := wr) (fun j => hnx.cell (p := ⟨b', j, none⟩) hb')
      clear hc hd
      have H := eqHd1 x
      unfold hdV at H
      go_wp2
      go_region_with (go_at_call 74; refine (H _).mono ?_; rintro e w1 ⟨rfl, hb2⟩)
      all_goals
        go_wp2
        go_roundw
        case rel => exact ⟨k + 1, by omega, by go_num, by first | exact below2 hnx (by assumption) | exact below2 hnx.drew (by assumption) | exact below2 hnx.drew.drew (by assumption) | exact below2 hnx.drew.drew.drew (by assumption)⟩
        case measure => simp [intOf]; omega
    · go_wp2
      go_ret
      exact ⟨rfl, hnx⟩

set_option maxRecDepth 2000000 in
set_option maxHeartbeats 800000 in
theorem szHd1 (a : Option Addr) (cap n : Nat) (l : Int) (w : World) (hn : n ≤ 9223372036854775807) (h0 : 0 ≤ l) (h1 : l ≤ 1048576) :
    Calls Try.prog 67 #[.slice a n cap, .int .i64 l] w fun e w' => ∃ r : Int, e = .returned (.int .i64 r) ∧ (0 ≤ r → n ≤ 1048576 ∧ r ≤ 1048576) ∧ w' = w := by
  obtain ⟨N, hN⟩ : ∃ N : Int, (n : Int) = N := ⟨_, rfl⟩
  by_cases h2 : N ≤ l
  · go_enter Try.func67, Try.ntmps67
    go_wp2
    go_ret
    exact ⟨_, rfl, fun _ => by omega, rfl⟩
  · go_enter Try.func67, Try.ntmps67
    go_wp2
    go_ret
    exact ⟨_, rfl, fun h => absurd h (by omega), rfl⟩

set_option maxRecDepth 2000000 in
set_option maxHeartbeats 800000 in
theorem szIntT (a : Option Addr) (cap n : Nat) (l : Int) (w : World) (hn : n ≤ 9223372036854775807) (h0 : 0 ≤ l) (h1 : l ≤ 1048576) :
    Calls Try.prog 34 #[.slice a n cap, .int .i64 l] w fun e w' => ∃ r : Int, e = .returned (.int .i64 r) ∧ (0 ≤ r → n ≤ 1048576 ∧ r ≤ 1048576) ∧ w' = w := by
  obtain ⟨N, hN⟩ : ∃ N : Int, (n : Int) = N := ⟨_, rfl⟩
  by_cases h2 : N ≤ l
  · go_enter Try.func34, Try.ntmps34
    go_wp2
    go_ret
    exact ⟨_, rfl, fun _ => by omega, rfl⟩
  · go_enter Try.func34, Try.ntmps34
    go_wp2
    go_ret
    exact ⟨_, rfl, fun h => absurd h (by omega), rfl⟩

end Go.Proofs.Ytmnceaaehlglmaa
