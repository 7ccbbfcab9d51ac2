/-
  Rows of handles in memory: copied, compared, counted.
-/
import Derived.Test.YtjielcilcningaaTB0
import Derived.Test.YtjielcilcningaaInts
import Derived.Test.YtjielcilcningaaCMarkI
import Derived.Test.YtjielcilcningaaCStack
import Derived.Test.YtjielcilcningaaBlk
import Derived.Test.YtjielcilcningaaKeep
import Derived.Deep.RegionWith
namespace Go.Proofs.Ytjielcilcningaa
open Go.ChangeShapes Go.WideShapes Go.ChangeAt Go.RowKit

/-- The cells of a handle. -/
def hdC (h : Hd) : List Value := [.bool h.u, .int .i64 h.r, .int .i64 h.p, .bool h.o, .int .i64 h.l, .int .i64 h.s]
def hv (L : List Hd) : List Value := L.flatMap hdC
theorem hv_len (L : List Hd) : (hv L).length = L.length * 6 := by
  unfold hv
  induction L with
  | nil => rfl
  | cons h l ih => rw [List.flatMap_cons, List.length_append, ih]; simp [hdC]; omega
theorem hv_app (L M : List Hd) : hv L ++ hv M = hv (L ++ M) := by simp [hv]
theorem hv_at : ∀ (L : List Hd) (k : Nat) (hk : k < L.length) (j : Nat), j < 6 → (hv L)[k * 6 + j]? = (hdC L[k])[j]?
  | h :: l, 0, _, j, hj => by
    unfold hv
    rw [List.flatMap_cons, List.getElem?_append_left (by simp [hdC]; omega)]
    simp
  | h :: l, k + 1, hk, j, hj => by
    have ih := hv_at l k (by simpa using hk) j hj
    unfold hv at ih ⊢
    rw [List.flatMap_cons, List.getElem?_append_right (by simp [hdC]; omega)]
    simp only [List.getElem_cons_succ]
    rw [← ih]
    congr 1
    simp [hdC]
    omega
theorem hv_one (L : List Hd) : ∀ u ∈ hv L, u.oneCell' = true := by
  intro u hu
  obtain ⟨h, _, hx⟩ := List.mem_flatMap.1 hu
  simp [hdC] at hx
  rcases hx with rfl | rfl | rfl | rfl | rfl | rfl <;> rfl

def HdAt (w : World) (b o : Nat) (h : Hd) : Prop := w.cell? ⟨b, o, none⟩ = some (.bool h.u) ∧ w.cell? ⟨b, o + 1, none⟩ = some (.int .i64 h.r) ∧ w.cell? ⟨b, o + 2, none⟩ = some (.int .i64 h.p) ∧ w.cell? ⟨b, o + 3, none⟩ = some (.bool h.o) ∧ w.cell? ⟨b, o + 4, none⟩ = some (.int .i64 h.l) ∧ w.cell? ⟨b, o + 5, none⟩ = some (.int .i64 h.s)
/-- The handles L lie behind the address a. -/
def Hds (w : World) (a : Option Addr) (L : List Hd) : Prop := L ≠ [] → ∃ b off, a = some ⟨b, off, none⟩ ∧ b < w.heap.size ∧ ∀ k (hk : k < L.length), HdAt w b (off + k * 6) L[k]
theorem HdAt.kept {w w' : World} {b o : Nat} {h : Hd} (k : HdAt w b o h) (hs : ∀ j, w'.cell? ⟨b, j, none⟩ = w.cell? ⟨b, j, none⟩) : HdAt w' b o h := ⟨(hs _).trans k.1, (hs _).trans k.2.1, (hs _).trans k.2.2.1, (hs _).trans k.2.2.2.1, (hs _).trans k.2.2.2.2.1, (hs _).trans k.2.2.2.2.2⟩
theorem Hds.below {w w' : World} {a : Option Addr} {L : List Hd} (h : Hds w a L) (hb : Below w.heap.size w w') : Hds w' a L := fun hn => by
  obtain ⟨b, off, rfl, hl, hc⟩ := h hn
  exact ⟨b, off, rfl, Nat.lt_of_lt_of_le hl hb.size, fun i hi => (hc i hi).kept (fun j => hb.cell (p := ⟨b, j, none⟩) hl)⟩
theorem Hds.at {w : World} {a : Option Addr} {L : List Hd} (h : Hds w a L) (k : Nat) (hk : k < L.length) : ∃ b off, a = some ⟨b, off, none⟩ ∧ b < w.heap.size ∧ HdAt w b (off + k * 6) L[k] := by
  obtain ⟨b, off, ha, hl, hc⟩ := h (fun h => by simp [h] at hk)
  exact ⟨b, off, ha, hl, hc k hk⟩
theorem own_hds {w : World} {B : Nat} {v : Value} {L : List Hd} (h : w.ownsRow B 28 6 v L.length (hv L)) : ∃ a cap, v = .slice a L.length cap ∧ Hds w a L ∧ L.length ≤ cap := by
  have h' := h
  rcases h'.2 with ⟨rfl, h0⟩ | ⟨g, cap, cur, rfl, _, hb, hc, _⟩
  · obtain rfl : L = [] := List.length_eq_zero_iff.1 h0
    exact ⟨none, 0, rfl, fun h => absurd rfl h, by simp⟩
  · have hcell : ∀ j u, (hv L)[j]? = some u → w.cell? ⟨g, j, none⟩ = some u := fun j u hu => (own_cell h hu).1
    refine ⟨_, cap, rfl, fun _ => ⟨g, 0, rfl, lt_of_block hb, fun k hk => ?_⟩, hc⟩
    rw [Nat.zero_add]
    exact ⟨hcell _ _ (hv_at L k hk 0 (by omega)), hcell _ _ (hv_at L k hk 1 (by omega)), hcell _ _ (hv_at L k hk 2 (by omega)), hcell _ _ (hv_at L k hk 3 (by omega)), hcell _ _ (hv_at L k hk 4 (by omega)), hcell _ _ (hv_at L k hk 5 (by omega))⟩
theorem ownT_kept {w w' : World} {B : Nat} {e : TypeId} {s n : Nat} {v : Value} {xs : List Value} (h : w.ownsRow B e s v n xs) (hb : Below w.heap.size w w') : w'.ownsRow B e s v n xs :=
  own_keep h (fun g hg => hb.block g (h.lt g hg).2)
theorem ownT_base {w : World} {B B' : Nat} {e : TypeId} {s n : Nat} {v : Value} {xs : List Value} (h : w.ownsRow B e s v n xs) (hb : B' ≤ B) : w.ownsRow B' e s v n xs := by
  refine ⟨h.1, ?_⟩
  rcases h.2 with h0 | ⟨g, cap, cur, h1, h2, h3⟩
  · exact .inl h0
  · exact .inr ⟨g, cap, cur, h1, Nat.le_trans hb h2, h3⟩

/-- A row whose cells are laid up to place m. -/
def LaidTo (arr : Array Value) (xs : List Value) (m : Nat) : Prop := ∀ j, j < m → arr[j]? = xs[j]?
theorem LaidTo.whole {w : World} {g n sz : Nat} {B : Nat} {e : TypeId} {arr : Array Value} {xs : List Value} (h : LaidTo arr xs (n * sz)) (hx : xs.length = n * sz) {cap : Nat} (ha : arr.size = cap * sz) (hn : n ≤ cap) (hm : cap ≤ maxLen) (hb : w.heap[g]? = some (.cells arr e (0, 0))) (hB : B ≤ g) :
    w.ownsRow B e sz (.slice (some ⟨g, 0, none⟩) n cap) n xs := by
  refine ⟨hx, .inr ⟨g, cap, arr, rfl, hB, hb, hn, hm, ha, ?_⟩⟩
  have hle : n * sz ≤ cap * sz := Nat.mul_le_mul_right _ hn
  apply List.ext_getElem?
  intro i
  by_cases hi : i < n * sz
  · rw [List.getElem?_take_of_lt hi, Array.getElem?_toList]
    exact h i hi
  · rw [List.getElem?_take_eq_none (by omega), List.getElem?_eq_none (by omega)]

theorem put6_at (arr : Array Value) (k : Nat) (hs : k * 6 + 5 < arr.size) (v0 v1 v2 v3 v4 v5 : Value) (A : Array Value) (hA : A = (((((arr.setIfInBounds (k * 6) v0).setIfInBounds (k * 6 + 1) v1).setIfInBounds (k * 6 + 2) v2).setIfInBounds (k * 6 + 3) v3).setIfInBounds (k * 6 + 4) v4).setIfInBounds (k * 6 + 5) v5) :
    A.size = arr.size ∧ (∀ j, j < 6 → A[k * 6 + j]? = [v0, v1, v2, v3, v4, v5][j]?) ∧ ∀ j, (j < k * 6 ∨ k * 6 + 5 < j) → A[j]? = arr[j]? := by
  subst hA
  refine ⟨by simp, fun j hj => ?_, fun j hj => ?_⟩
  · have : j = 0 ∨ j = 1 ∨ j = 2 ∨ j = 3 ∨ j = 4 ∨ j = 5 := by omega
    rcases this with rfl | rfl | rfl | rfl | rfl | rfl
    · rw [Array.getElem?_setIfInBounds_ne (by omega), Array.getElem?_setIfInBounds_ne (by omega), Array.getElem?_setIfInBounds_ne (by omega), Array.getElem?_setIfInBounds_ne (by omega), Array.getElem?_setIfInBounds_ne (by omega)]
      exact Array.getElem?_setIfInBounds_self_of_lt (by omega)
    · rw [Array.getElem?_setIfInBounds_ne (by omega), Array.getElem?_setIfInBounds_ne (by omega), Array.getElem?_setIfInBounds_ne (by omega), Array.getElem?_setIfInBounds_ne (by omega)]
      exact Array.getElem?_setIfInBounds_self_of_lt (by simp; omega)
    · rw [Array.getElem?_setIfInBounds_ne (by omega), Array.getElem?_setIfInBounds_ne (by omega), Array.getElem?_setIfInBounds_ne (by omega)]
      exact Array.getElem?_setIfInBounds_self_of_lt (by simp; omega)
    · rw [Array.getElem?_setIfInBounds_ne (by omega), Array.getElem?_setIfInBounds_ne (by omega)]
      exact Array.getElem?_setIfInBounds_self_of_lt (by simp; omega)
    · rw [Array.getElem?_setIfInBounds_ne (by omega)]
      exact Array.getElem?_setIfInBounds_self_of_lt (by simp; omega)
    · exact Array.getElem?_setIfInBounds_self_of_lt (by simp; omega)
  · rw [Array.getElem?_setIfInBounds_ne (by omega), Array.getElem?_setIfInBounds_ne (by omega), Array.getElem?_setIfInBounds_ne (by omega), Array.getElem?_setIfInBounds_ne (by omega), Array.getElem?_setIfInBounds_ne (by omega), Array.getElem?_setIfInBounds_ne (by omega)]
theorem LaidTo.more {arr A : Array Value} {L : List Hd} {k : Nat} (h : LaidTo arr (hv L) (k * 6)) (hk : k < L.length) (h1 : ∀ j, j < 6 → A[k * 6 + j]? = (hdC L[k])[j]?) (h2 : ∀ j, (j < k * 6 ∨ k * 6 + 5 < j) → A[j]? = arr[j]?) : LaidTo A (hv L) ((k + 1) * 6) := fun j hj => by
  by_cases e : j < k * 6
  · rw [h2 j (.inl e)]; exact h j e
  · have e2 : j = k * 6 + (j - k * 6) := by omega
    rw [e2, h1 _ (by omega), hv_at L k hk _ (by omega)]

theorem Try.infoHd : (Try.prog.info? 28).map (fun i => (i.zero, i.size, i.bytes)) = some (some (.agg #[.bool false, .int .i64 0, .int .i64 0, .bool false, .int .i64 0, .int .i64 0]), 6, 48) := by kernel_rfl
def hdV (h : Hd) : Value := .agg #[.bool h.u, .int .i64 h.r, .int .i64 h.p, .bool h.o, .int .i64 h.l, .int .i64 h.s]

end Go.Proofs.Ytjielcilcningaa
