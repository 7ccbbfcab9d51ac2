/-
  The bounds of a value's number: the program's table, and both sides.
-/
import Derived.Test.YtlimlpidbjkofaaDoorVB
import Derived.Test.YtlimlpidbjkofaaDoorYTab
namespace Go.Proofs.YtlimlpidbjkofaaDoor
open Go.ChangeShapes Go.WideShapes Go.ChangeAt Go.RowKit

def brow : List (Int × Int) := [(0, 0), (0, 1), (0, 255), (-128, 127), (0, 65535), (-32768, 32767), (0, 4294967295), (-2147483648, 2147483647), (-9223372036854775808, 9223372036854775807), (-9223372036854775808, 9223372036854775807), (0, 4294967295), (0, 1114111), (0, 0), (0, 0), (0, 0), (0, 0), (0, 0), (0, 1), (0, 1), (0, 0), (0, 100000), (0, 100000)]
def bdat {H : Type} (r : Int × Int) : DataW H := .agg [.lit (.int .i64 r.1), .lit (.int .i64 r.2)]

/-- The table of bounds lies in memory. -/
def BTabs (w : World) : Prop := 1 < w.heap.size ∧ ∀ (i : Nat) (h : i < brow.length), w.cell? ⟨1, i * 2, none⟩ = some (.int .i64 brow[i].1) ∧ w.cell? ⟨1, i * 2 + 1, none⟩ = some (.int .i64 brow[i].2)

theorem BTabs.below {w w' : World} (h : BTabs w) {B : Nat} (hb : Below B w w') (hl : w.heap.size ≤ B) : BTabs w' := by
  have hg := h.1
  refine ⟨Nat.lt_of_lt_of_le hg hb.size, fun i hi => ?_⟩
  have K : ∀ (j : Nat) (v : Value), w.cell? ⟨1, j, none⟩ = some v → w'.cell? ⟨1, j, none⟩ = some v := fun j v hc => (hb.cell (p := ⟨1, j, none⟩) (Nat.lt_of_lt_of_le hg hl)).trans hc
  obtain ⟨h0, h1⟩ := h.2 i hi
  exact ⟨K _ _ h0, K _ _ h1⟩

theorem btabCells : Tryd.prog.cellsOf 132 = 2 := by kernel_rfl

set_option maxRecDepth 100000 in
theorem btabs_of_reads {w : World} {fuel : Nat} {cs : Array Value} {p : List MemPlace} (hd : DataW.trod (fun _ => ()) Tryd.prog w 0 (fun _ => true) false fuel 138 cs.toList = some (.agg (brow.map bdat), p))
    (hc : ∀ j, w.cell? ⟨1, j, none⟩ = cs[j]?) : BTabs w := by
  refine (fun H => ⟨nd_block (H 0 (by decide)).1, H⟩ : (∀ (i : Nat) (h : i < brow.length), _) → BTabs w) fun i hi => ?_
  obtain ⟨fuel', d, q, hdi, ht⟩ := Lib.array_elem Tryd.underlying138 hd i (show i < 22 from hi)
  rw [btabCells] at ht
  have hdi' : d = bdat brow[i] := by
    rw [List.getElem?_map, List.getElem?_eq_getElem hi] at hdi
    simpa using hdi.symm
  subst hdi'
  obtain ⟨r, hr⟩ : ∃ r, r = brow[i] := ⟨_, rfl⟩
  rw [← hr] at ht ⊢
  obtain ⟨a, b⟩ := r
  obtain ⟨xs, k, hk, hxy, hlen, hxl, hf⟩ := DataW.trod_struct Tryd.underlying132 ht
  obtain ⟨cc, hcc⟩ : ∃ cc, cc = (cs.toList.drop (i * 2)).take 2 := ⟨_, rfl⟩
  rw [← hcc] at hlen hf
  rw [btabCells] at hlen
  have K : ∀ (j : Nat) (v : Value), j < 2 → cc[j]? = some v → w.cell? ⟨1, i * 2 + j, none⟩ = some v := fun j v hj hv => by
    rw [hc, ← Array.getElem?_toList]
    rw [hcc, List.getElem?_take, if_pos hj, List.getElem?_drop] at hv
    exact hv
  match xs, hxl, cc, hlen with
  | [y0, y1], _, [v0, v1], _ =>
    have g0 := hf 0 _ rfl
    have g1 := hf 1 _ rfl
    simp [ndInt] at g0 g1
    obtain ⟨z0, q0, r0, _⟩ := DataW.trod_int Tryd.underlying3 g0
    obtain ⟨z1, q1, r1, _⟩ := DataW.trod_int Tryd.underlying3 g1
    subst r0 r1
    simp at q0 q1
    subst q0 q1
    simp [bdat] at hxy
    obtain ⟨⟨e0, e1⟩, _⟩ := hxy
    subst e0 e1
    exact ⟨by simpa using K 0 _ (by omega) rfl, K 1 _ (by omega) rfl⟩

/-- The bounds of a value's number. -/
def bdOf (x n : Int) (c : Nat) : Int × Int :=
  if x = 15 then (0, (c : Int) - 1) else if x = 16 then (0, 2 ^ n.toNat - 1) else if x = 19 then (0, n - 1) else brow.getD x.toNat (0, 0)

set_option maxRecDepth 100000 in
set_option maxHeartbeats 3200000 in
theorem implBounds (x n u : Int) (a : Option Addr) (c cap : Nat) (w : World) (hx : 1 ≤ x ∧ x ≤ 21) (hn : x = 16 → 1 ≤ n ∧ n ≤ 32) (hn9 : x = 19 → 1 ≤ n ∧ n ≤ 300) (hc : c ≤ 100) (hT : Hid (BTabs w)) :
    Calls Tryd.prog 74 #[.agg #[.int .i64 x, .int .i64 n, .int .i64 u, .slice a c cap]] w fun e w' => e = .returned (.agg #[.int .i64 (bdOf x n c).1, .int .i64 (bdOf x n c).2]) ∧ Below w.heap.size w w' := by
  by_cases h15 : x = 15
  · subst h15
    have e : Hid (bdOf 15 n c = (0, (c : Int) - 1)) := by simp [Hid, bdOf]
    rw [e.out]
    have hw : wrap64 ((c : Int) - 1) = (c : Int) - 1 := w64v (by omega) (by omega)
    go_enter Tryd.func74, Tryd.ntmps74
    go_wp2
    refine bodyPost_ret (v := .agg #[.int .i64 0, .int .i64 ((c : Int) - 1)]) (by simp [results, Tryd.results74, go_sem]) rfl ⟨rfl, ?_⟩
    (repeat (first | refine Below.alloc ?_ (by first | (simp; done) | (simp; omega)) _ | refine Below.setCell ?_ (by first | (simp; done) | (simp; omega)) _ | refine bel_dN ?_ _ | refine Below.drew ?_ | exact Below.refl _ _))
  · by_cases h19 : x = 19
    · subst h19
      have e : Hid (bdOf 19 n c = (0, n - 1)) := by simp [Hid, bdOf]
      rw [e.out]
      obtain ⟨n1, n2⟩ := hn9 rfl
      have hw : wrap64 (n - 1) = n - 1 := w64v (by omega) (by omega)
      go_enter Tryd.func74, Tryd.ntmps74
      go_wp2
      refine bodyPost_ret (v := .agg #[.int .i64 0, .int .i64 (n - 1)]) (by simp [results, Tryd.results74, go_sem]) rfl ⟨rfl, ?_⟩
      (repeat (first | refine Below.alloc ?_ (by first | (simp; done) | (simp; omega)) _ | refine Below.setCell ?_ (by first | (simp; done) | (simp; omega)) _ | refine bel_dN ?_ _ | refine Below.drew ?_ | exact Below.refl _ _))
    · by_cases h16 : x = 16
      · subst h16
        obtain ⟨n1, n2⟩ := hn rfl
        have hall : n = 1 ∨ n = 2 ∨ n = 3 ∨ n = 4 ∨ n = 5 ∨ n = 6 ∨ n = 7 ∨ n = 8 ∨ n = 9 ∨ n = 10 ∨ n = 11 ∨ n = 12 ∨ n = 13 ∨ n = 14 ∨ n = 15 ∨ n = 16 ∨ n = 17 ∨ n = 18 ∨ n = 19 ∨ n = 20 ∨ n = 21 ∨ n = 22 ∨ n = 23 ∨ n = 24 ∨ n = 25 ∨ n = 26 ∨ n = 27 ∨ n = 28 ∨ n = 29 ∨ n = 30 ∨ n = 31 ∨ n = 32 := by omega
        rcases hall with rfl | rfl | rfl | rfl | rfl | rfl | rfl | rfl | rfl | rfl | rfl | rfl | rfl | rfl | rfl | rfl | rfl | rfl | rfl | rfl | rfl | rfl | rfl | rfl | rfl | rfl | rfl | rfl | rfl | rfl | rfl | rfl
        all_goals
          go_enter Tryd.func74, Tryd.ntmps74
          go_wp2
          refine bodyPost_ret (v := .agg #[.int .i64 0, .int .i64 (bdOf 16 _ c).2]) ?_ rfl ⟨rfl, ?_⟩
          · simp [results, Tryd.results74, go_sem, bdOf]
          · (repeat (first | refine Below.alloc ?_ (by first | (simp; done) | (simp; omega)) _ | refine Below.setCell ?_ (by first | (simp; done) | (simp; omega)) _ | refine bel_dN ?_ _ | refine Below.drew ?_ | exact Below.refl _ _))
      · obtain ⟨k, hk⟩ : ∃ k : Nat, x = (k : Int) := ⟨x.toNat, by omega⟩
        subst hk
        have hk22 : k < brow.length := by have : brow.length = 22 := rfl
                                          omega
        have hk22' : (k : Int) < 22 := by omega
        have e : Hid (bdOf (k : Int) n c = brow[k]) := by
          unfold Hid bdOf
          rw [if_neg h15, if_neg h16, if_neg h19, List.getD_eq_getElem?_getD, Int.toNat_natCast, List.getElem?_eq_getElem hk22]
          rfl
        rw [e.out]
        obtain ⟨hg, hcs⟩ := hT.out
        obtain ⟨c0, c1⟩ := hcs k hk22
        obtain ⟨⟨b0, b1⟩, hb⟩ : ∃ b, brow[k] = b := ⟨_, rfl⟩
        rw [hb] at c0 c1 ⊢
        have e15 : ((k : Int) == 15) = false := by rw [beq_eq_false_iff_ne]; exact h15
        have e16 : ((k : Int) == 16) = false := by rw [beq_eq_false_iff_ne]; exact h16
        have e19 : ((k : Int) == 19) = false := by rw [beq_eq_false_iff_ne]; exact h19
        have hal := fun o1 o2 => ((Below.refl w.heap.size w).alloc (Nat.le_refl _) o1).alloc (by simp) o2
        have d0 := fun o1 o2 => ((hal o1 o2).cell (p := ⟨1, k * 2, none⟩) hg).trans c0
        have d1 := fun o1 o2 => ((hal o1 o2).cell (p := ⟨1, k * 2 + 1, none⟩) hg).trans c1
        clear hcs hal hb hn hn9 hx e
        go_enter Tryd.func74, Tryd.ntmps74
        go_wp2
        refine bodyPost_ret (v := .agg #[.int .i64 b0, .int .i64 b1]) (by simp [results, Tryd.results74, go_sem]) rfl ⟨rfl, ?_⟩
        (repeat (first | refine Below.alloc ?_ (by first | (simp; done) | (simp; omega)) _ | refine Below.setCell ?_ (by first | (simp; done) | (simp; omega)) _ | refine bel_dN ?_ _ | refine Below.drew ?_ | exact Below.refl _ _))

set_option maxRecDepth 100000 in
set_option maxHeartbeats 6400000 in
theorem specBounds (x n : Int) (a : Option Addr) (c cap : Nat) (w : World) (hx : 1 ≤ x ∧ x ≤ 21) (hn : x = 16 → 1 ≤ n ∧ n ≤ 32) (hn9 : x = 19 → 1 ≤ n ∧ n ≤ 300) (hc : c ≤ 100) :
    Calls Tryd.prog 45 #[.agg #[.int .i64 x, .int .i64 n, .slice a c cap]] w fun e w' => e = .returned (.tuple #[.int .i64 (bdOf x n c).1, .int .i64 (bdOf x n c).2]) ∧ Below w.heap.size w w' := by
  by_cases h16 : x = 16
  · subst h16
    obtain ⟨n1, n2⟩ := hn rfl
    have hall : n = 1 ∨ n = 2 ∨ n = 3 ∨ n = 4 ∨ n = 5 ∨ n = 6 ∨ n = 7 ∨ n = 8 ∨ n = 9 ∨ n = 10 ∨ n = 11 ∨ n = 12 ∨ n = 13 ∨ n = 14 ∨ n = 15 ∨ n = 16 ∨ n = 17 ∨ n = 18 ∨ n = 19 ∨ n = 20 ∨ n = 21 ∨ n = 22 ∨ n = 23 ∨ n = 24 ∨ n = 25 ∨ n = 26 ∨ n = 27 ∨ n = 28 ∨ n = 29 ∨ n = 30 ∨ n = 31 ∨ n = 32 := by omega
    rcases hall with rfl | rfl | rfl | rfl | rfl | rfl | rfl | rfl | rfl | rfl | rfl | rfl | rfl | rfl | rfl | rfl | rfl | rfl | rfl | rfl | rfl | rfl | rfl | rfl | rfl | rfl | rfl | rfl | rfl | rfl | rfl | rfl
    all_goals
      go_enter Tryd.func45, Tryd.ntmps45
      go_wp2
      go_region
      go_wp2
      go_ret2
      exact ⟨by simp [bdOf], by (repeat (first | refine Below.alloc ?_ (by first | (simp; done) | (simp; omega)) _ | refine Below.setCell ?_ (by first | (simp; done) | (simp; omega)) _ | refine bel_dN ?_ _ | refine Below.drew ?_ | exact Below.refl _ _))⟩
  · by_cases h15 : x = 15
    · subst h15
      have e : Hid (bdOf 15 n c = (0, (c : Int) - 1)) := by simp [Hid, bdOf]
      rw [e.out]
      have hw : wrap64 ((c : Int) - 1) = (c : Int) - 1 := w64v (by omega) (by omega)
      have hwi : IntKind.i64.wrap ((c : Int) - 1) = (c : Int) - 1 := by rw [IntKind.wrap_i64]; omega
      go_enter Tryd.func45, Tryd.ntmps45
      go_wp2
      go_region
      go_wp2
      go_ret2
      exact ⟨rfl, by (repeat (first | refine Below.alloc ?_ (by first | (simp; done) | (simp; omega)) _ | refine Below.setCell ?_ (by first | (simp; done) | (simp; omega)) _ | refine bel_dN ?_ _ | refine Below.drew ?_ | exact Below.refl _ _))⟩
    · by_cases h19 : x = 19
      · subst h19
        have e : Hid (bdOf 19 n c = (0, n - 1)) := by simp [Hid, bdOf]
        rw [e.out]
        obtain ⟨n1, n2⟩ := hn9 rfl
        have hw : wrap64 (n - 1) = n - 1 := w64v (by omega) (by omega)
        have hwi : IntKind.i64.wrap (n - 1) = n - 1 := by rw [IntKind.wrap_i64]; omega
        go_enter Tryd.func45, Tryd.ntmps45
        go_wp2
        go_region
        go_wp2
        go_ret2
        exact ⟨rfl, by (repeat (first | refine Below.alloc ?_ (by first | (simp; done) | (simp; omega)) _ | refine Below.setCell ?_ (by first | (simp; done) | (simp; omega)) _ | refine bel_dN ?_ _ | refine Below.drew ?_ | exact Below.refl _ _))⟩
      · have hall : x = 1 ∨ x = 2 ∨ x = 3 ∨ x = 4 ∨ x = 5 ∨ x = 6 ∨ x = 7 ∨ x = 8 ∨ x = 9 ∨ x = 10 ∨ x = 11 ∨ x = 12 ∨ x = 13 ∨ x = 14 ∨ x = 17 ∨ x = 18 ∨ x = 20 ∨ x = 21 := by omega
        clear hn hn9 hx h15 h16 h19
        rcases hall with rfl | rfl | rfl | rfl | rfl | rfl | rfl | rfl | rfl | rfl | rfl | rfl | rfl | rfl | rfl | rfl | rfl | rfl
        all_goals
          go_enter Tryd.func45, Tryd.ntmps45
          go_wp2
          go_ret2
          exact ⟨by simp [bdOf, brow], by (repeat (first | refine Below.alloc ?_ (by first | (simp; done) | (simp; omega)) _ | refine Below.setCell ?_ (by first | (simp; done) | (simp; omega)) _ | refine bel_dN ?_ _ | refine Below.drew ?_ | exact Below.refl _ _))⟩

end Go.Proofs.YtlimlpidbjkofaaDoor
