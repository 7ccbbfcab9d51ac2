/-
  The bounds of a value's number: the program's table, and both sides.
-/
import Derived.Test.YtljnciclbjcinaaGreatDoorVB
import Derived.Test.YtljnciclbjcinaaGreatDoorYTab
import Derived.Test.YtljnciclbjcinaaGreatDoorFOpen
import Derived.Test.YtljnciclbjcinaaGreatDoorDecBoth
namespace Go.Proofs.YtljnciclbjcinaaGreatDoor
open Go.ChangeShapes Go.WideShapes Go.ChangeAt Go.RowKit

def brow : List (Int × Int) := [(0, 0), (0, 1), (0, 255), (-128, 127), (0, 65535), (-32768, 32767), (0, 4294967295), (-2147483648, 2147483647), (-9223372036854775808, 9223372036854775807), (-9223372036854775808, 9223372036854775807), (0, 4294967295), (0, 1114111), (0, 0), (0, 0), (0, 0), (0, 0), (0, 0), (0, 1), (0, 1), (0, 0), (0, 100000), (0, 100000)]
def bdat {H : Type} (r : Int × Int) : DataW H := .agg [.lit (.int .i64 r.1), .lit (.int .i64 r.2)]

/-- The table of bounds lies in memory. -/
def BTabs (w : World) : Prop := 1 < w.heap.size ∧ ∀ (i : Nat) (h : i < brow.length), w.cell? ⟨1, i * 2, none⟩ = some (.int .i64 brow[i].1) ∧ w.cell? ⟨1, i * 2 + 1, none⟩ = some (.int .i64 brow[i].2)

theorem BTabs.below {w w' : World} (h : BTabs w) {B : Nat} (hb : Below B w w') (hl : w.heap.size ≤ B) : BTabs w' := by
  have hg := h.1
  refine ⟨Nat.lt_of_lt_of_le hg hb.size, fun i hi => ?_⟩
  have K : ∀ (j : Nat) (v : Value), w.cell? ⟨1, j, none⟩ = some v → w'.cell? ⟨1, j, none⟩ = some v := fun j v hc => (hb.cell (p := ⟨1, j, none⟩) (Nat.lt_of_lt_of_le hg hl)).trans hc
  obtain ⟨h0, h1⟩ := h.2 i hi
  exact ⟨K _ _ h0, K _ _ h1⟩

theorem btabCells : Tryz.prog.cellsOf 169 = 2 := by kernel_rfl

set_option maxRecDepth 100000 in
theorem btabs_of_reads {w : World} {fuel : Nat} {cs : Array Value} {p : List MemPlace} (hd : DataW.trod (fun _ => ()) Tryz.prog w 0 (fun _ => true) false fuel 189 cs.toList = some (.agg (brow.map bdat), p))
    (hc : ∀ j, w.cell? ⟨1, j, none⟩ = cs[j]?) : BTabs w := by
  refine (fun H => ⟨nd_block (H 0 (by decide)).1, H⟩ : (∀ (i : Nat) (h : i < brow.length), _) → BTabs w) fun i hi => ?_
  obtain ⟨fuel', d, q, hdi, ht⟩ := Lib.array_elem Tryz.underlying189 hd i (show i < 22 from hi)
  rw [btabCells] at ht
  have hdi' : d = bdat brow[i] := by
    rw [List.getElem?_map, List.getElem?_eq_getElem hi] at hdi
    simpa using hdi.symm
  subst hdi'
  obtain ⟨r, hr⟩ : ∃ r, r = brow[i] := ⟨_, rfl⟩
  rw [← hr] at ht ⊢
  obtain ⟨a, b⟩ := r
  obtain ⟨xs, k, hk, hxy, hlen, hxl, hf⟩ := DataW.trod_struct Tryz.underlying169 ht
  obtain ⟨cc, hcc⟩ : ∃ cc, cc = (cs.toList.drop (i * 2)).take 2 := ⟨_, rfl⟩
  rw [← hcc] at hlen hf
  rw [btabCells] at hlen
  have K : ∀ (j : Nat) (v : Value), j < 2 → cc[j]? = some v → w.cell? ⟨1, i * 2 + j, none⟩ = some v := fun j v hj hv => by
    rw [hc, ← Array.getElem?_toList]
    rw [hcc, List.getElem?_take, if_pos hj, List.getElem?_drop] at hv
    exact hv
  match xs, hxl, cc, hlen with
  | [y0, y1], _, [v0, v1], _ =>
    have g0 := hf 0 _ rfl
    have g1 := hf 1 _ rfl
    simp [ndInt] at g0 g1
    obtain ⟨z0, q0, r0, _⟩ := DataW.trod_int Tryz.underlying3 g0
    obtain ⟨z1, q1, r1, _⟩ := DataW.trod_int Tryz.underlying3 g1
    subst r0 r1
    simp at q0 q1
    subst q0 q1
    simp [bdat] at hxy
    obtain ⟨⟨e0, e1⟩, _⟩ := hxy
    subst e0 e1
    exact ⟨by simpa using K 0 _ (by omega) rfl, K 1 _ (by omega) rfl⟩

/-- The bounds of a value's number. -/
def bdOf (x n : Int) (c : Nat) : Int × Int :=
  if x = 15 then (0, (c : Int) - 1) else if x = 16 then (0, 2 ^ n.toNat - 1) else if x = 19 then (0, n - 1) else brow.getD x.toNat (0, 0)

set_option maxRecDepth 100000 in
set_option maxHeartbeats 3200000 in
theorem implBounds (x n u : Int) (a : Option Addr) (c cap : Nat) (w : World) (hx : 1 ≤ x ∧ x ≤ 21) (hn : x = 16 → 1 ≤ n ∧ n ≤ 32) (hn9 : x = 19 → 1 ≤ n ∧ n ≤ 300) (hc : c ≤ 100) (hT : Hid (BTabs w)) :
    Calls Tryz.prog 99 #[.agg #[.int .i64 x, .int .i64 n, .int .i64 u, .slice a c cap]] w fun e w' => e = .returned (.agg #[.int .i64 (bdOf x n c).1, .int .i64 (bdOf x n c).2]) ∧ Below w.heap.size w w' := by
  by_cases h15 : x = 15
  · subst h15
    have e : Hid (bdOf 15 n c = (0, (c : Int) - 1)) := by simp [Hid, bdOf]
    rw [e.out]
    have hw : wrap64 ((c : Int) - 1) = (c : Int) - 1 := w64v (by omega) (by omega)
    go_enter Tryz.func99, Tryz.ntmps99
    go_wp2
    refine bodyPost_ret (v := .agg #[.int .i64 0, .int .i64 ((c : Int) - 1)]) (by simp [results, Tryz.results99, go_sem]) rfl ⟨rfl, ?_⟩
    (repeat (first | refine Below.alloc ?_ (by first | (simp; done) | (simp; omega)) _ | refine Below.setCell ?_ (by first | (simp; done) | (simp; omega)) _ | refine bel_dN ?_ _ | refine Below.drew ?_ | exact Below.refl _ _))
  · by_cases h19 : x = 19
    · subst h19
      have e : Hid (bdOf 19 n c = (0, n - 1)) := by simp [Hid, bdOf]
      rw [e.out]
      obtain ⟨n1, n2⟩ := hn9 rfl
      have hw : wrap64 (n - 1) = n - 1 := w64v (by omega) (by omega)
      go_enter Tryz.func99, Tryz.ntmps99
      go_wp2
      refine bodyPost_ret (v := .agg #[.int .i64 0, .int .i64 (n - 1)]) (by simp [results, Tryz.results99, go_sem]) rfl ⟨rfl, ?_⟩
      (repeat (first | refine Below.alloc ?_ (by first | (simp; done) | (simp; omega)) _ | refine Below.setCell ?_ (by first | (simp; done) | (simp; omega)) _ | refine bel_dN ?_ _ | refine Below.drew ?_ | exact Below.refl _ _))
    · by_cases h16 : x = 16
      · subst h16
        obtain ⟨n1, n2⟩ := hn rfl
        have hall : n = 1 ∨ n = 2 ∨ n = 3 ∨ n = 4 ∨ n = 5 ∨ n = 6 ∨ n = 7 ∨ n = 8 ∨ n = 9 ∨ n = 10 ∨ n = 11 ∨ n = 12 ∨ n = 13 ∨ n = 14 ∨ n = 15 ∨ n = 16 ∨ n = 17 ∨ n = 18 ∨ n = 19 ∨ n = 20 ∨ n = 21 ∨ n = 22 ∨ n = 23 ∨ n = 24 ∨ n = 25 ∨ n = 26 ∨ n = 27 ∨ n = 28 ∨ n = 29 ∨ n = 30 ∨ n = 31 ∨ n = 32 := by omega
        rcases hall with rfl | rfl | rfl | rfl | rfl | rfl | rfl | rfl | rfl | rfl | rfl | rfl | rfl | rfl | rfl | rfl | rfl | rfl | rfl | rfl | rfl | rfl | rfl | rfl | rfl | rfl | rfl | rfl | rfl | rfl | rfl | rfl
        all_goals
          go_enter Tryz.func99, Tryz.ntmps99
          go_wp2
          refine bodyPost_ret (v := .agg #[.int .i64 0, .int .i64 (bdOf 16 _ c).2]) ?_ rfl ⟨rfl, ?_⟩
          · simp [results, Tryz.results99, go_sem, bdOf]
          · (repeat (first | refine Below.alloc ?_ (by first | (simp; done) | (simp; omega)) _ | refine Below.setCell ?_ (by first | (simp; done) | (simp; omega)) _ | refine bel_dN ?_ _ | refine Below.drew ?_ | exact Below.refl _ _))
      · obtain ⟨k, hk⟩ : ∃ k : Nat, x = (k : Int) := ⟨x.toNat, by omega⟩
        subst hk
        have hk22 : k < brow.length := by have : brow.length = 22 := rfl
                                          omega
        have hk22' : (k : Int) < 22 := by omega
        have e : Hid (bdOf (k : Int) n c = brow[k]) := by
          unfold Hid bdOf
          rw [if_neg h15, if_neg h16, if_neg h19, List.getD_eq_getElem?_getD, Int.toNat_natCast, List.getElem?_eq_getElem hk22]
          rfl
        rw [e.out]
        obtain ⟨hg, hcs⟩ := hT.out
        obtain ⟨c0, c1⟩ := hcs k hk22
        obtain ⟨⟨b0, b1⟩, hb⟩ : ∃ b, brow[k] = b := ⟨_, rfl⟩
        rw [hb] at c0 c1 ⊢
        have e15 : ((k : Int) == 15) = false := by rw [beq_eq_false_iff_ne]; exact h15
        have e16 : ((k : Int) == 16) = false := by rw [beq_eq_false_iff_ne]; exact h16
        have e19 : ((k : Int) == 19) = false := by rw [beq_eq_false_iff_ne]; exact h19
        have hal := fun o1 o2 => ((Below.refl w.heap.size w).alloc (Nat.le_refl _) o1).alloc (by simp) o2
        have d0 := fun o1 o2 => ((hal o1 o2).cell (p := ⟨1, k * 2, none⟩) hg).trans c0
        have d1 := fun o1 o2 => ((hal o1 o2).cell (p := ⟨1, k * 2 + 1, none⟩) hg).trans c1
        clear hcs hal hb hn hn9 hx e
        go_enter Tryz.func99, Tryz.ntmps99
        go_wp2
        refine bodyPost_ret (v := .agg #[.int .i64 b0, .int .i64 b1]) (by simp [results, Tryz.results99, go_sem]) rfl ⟨rfl, ?_⟩
        (repeat (first | refine Below.alloc ?_ (by first | (simp; done) | (simp; omega)) _ | refine Below.setCell ?_ (by first | (simp; done) | (simp; omega)) _ | refine bel_dN ?_ _ | refine Below.drew ?_ | exact Below.refl _ _))

set_option maxRecDepth 100000 in
set_option maxHeartbeats 6400000 in
theorem specBounds (x n : Int) (a : Option Addr) (c cap : Nat) (w : World) (hx : 1 ≤ x ∧ x ≤ 21) (hn : x = 16 → 1 ≤ n ∧ n ≤ 32) (hn9 : x = 19 → 1 ≤ n ∧ n ≤ 300) (hc : c ≤ 100) :
    Calls Tryz.prog 62 #[.agg #[.int .i64 x, .int .i64 n, .slice a c cap]] w fun e w' => e = .returned (.tuple #[.int .i64 (bdOf x n c).1, .int .i64 (bdOf x n c).2]) ∧ Below w.heap.size w w' := by
  by_cases h16 : x = 16
  · subst h16
    obtain ⟨n1, n2⟩ := hn rfl
    have hall : n = 1 ∨ n = 2 ∨ n = 3 ∨ n = 4 ∨ n = 5 ∨ n = 6 ∨ n = 7 ∨ n = 8 ∨ n = 9 ∨ n = 10 ∨ n = 11 ∨ n = 12 ∨ n = 13 ∨ n = 14 ∨ n = 15 ∨ n = 16 ∨ n = 17 ∨ n = 18 ∨ n = 19 ∨ n = 20 ∨ n = 21 ∨ n = 22 ∨ n = 23 ∨ n = 24 ∨ n = 25 ∨ n = 26 ∨ n = 27 ∨ n = 28 ∨ n = 29 ∨ n = 30 ∨ n = 31 ∨ n = 32 := by omega
    rcases hall with rfl | rfl | rfl | rfl | rfl | rfl | rfl | rfl | rfl | rfl | rfl | rfl | rfl | rfl | rfl | rfl | rfl | rfl | rfl | rfl | rfl | rfl | rfl | rfl | rfl | rfl | rfl | rfl | rfl | rfl | rfl | rfl
    all_goals
      go_enter Tryz.func62, Tryz.ntmps62
      go_wp2
      go_region
      go_wp2
      go_ret2
      exact ⟨by simp [bdOf], by (repeat (first | refine Below.alloc ?_ (by first | (simp; done) | (simp; omega)) _ | refine Below.setCell ?_ (by first | (simp; done) | (simp; omega)) _ | refine bel_dN ?_ _ | refine Below.drew ?_ | exact Below.refl _ _))⟩
  · by_cases h15 : x = 15
    · subst h15
      have e : Hid (bdOf 15 n c = (0, (c : Int) - 1)) := by simp [Hid, bdOf]
      rw [e.out]
      have hw : wrap64 ((c : Int) - 1) = (c : Int) - 1 := w64v (by omega) (by omega)
      have hwi : IntKind.i64.wrap ((c : Int) - 1) = (c : Int) - 1 := by rw [IntKind.wrap_i64]; omega
      go_enter Tryz.func62, Tryz.ntmps62
      go_wp2
      go_region
      go_wp2
      go_ret2
      exact ⟨rfl, by (repeat (first | refine Below.alloc ?_ (by first | (simp; done) | (simp; omega)) _ | refine Below.setCell ?_ (by first | (simp; done) | (simp; omega)) _ | refine bel_dN ?_ _ | refine Below.drew ?_ | exact Below.refl _ _))⟩
    · by_cases h19 : x = 19
      · subst h19
        have e : Hid (bdOf 19 n c = (0, n - 1)) := by simp [Hid, bdOf]
        rw [e.out]
        obtain ⟨n1, n2⟩ := hn9 rfl
        have hw : wrap64 (n - 1) = n - 1 := w64v (by omega) (by omega)
        have hwi : IntKind.i64.wrap (n - 1) = n - 1 := by rw [IntKind.wrap_i64]; omega
        go_enter Tryz.func62, Tryz.ntmps62
        go_wp2
        go_region
        go_wp2
        go_ret2
        exact ⟨rfl, by (repeat (first | refine Below.alloc ?_ (by first | (simp; done) | (simp; omega)) _ | refine Below.setCell ?_ (by first | (simp; done) | (simp; omega)) _ | refine bel_dN ?_ _ | refine Below.drew ?_ | exact Below.refl _ _))⟩
      · have hall : x = 1 ∨ x = 2 ∨ x = 3 ∨ x = 4 ∨ x = 5 ∨ x = 6 ∨ x = 7 ∨ x = 8 ∨ x = 9 ∨ x = 10 ∨ x = 11 ∨ x = 12 ∨ x = 13 ∨ x = 14 ∨ x = 17 ∨ x = 18 ∨ x = 20 ∨ x = 21 := by omega
        clear hn hn9 hx h15 h16 h19
        rcases hall with rfl | rfl | rfl | rfl | rfl | rfl | rfl | rfl | rfl | rfl | rfl | rfl | rfl | rfl | rfl | rfl | rfl | rfl
        all_goals
          go_enter Tryz.func62, Tryz.ntmps62
          go_wp2
          go_ret2
          exact ⟨by simp [bdOf, brow], by (repeat (first | refine Below.alloc ?_ (by first | (simp; done) | (simp; omega)) _ | refine Below.setCell ?_ (by first | (simp; done) | (simp; omega)) _ | refine bel_dN ?_ _ | refine Below.drew ?_ | exact Below.refl _ _))⟩

end Go.Proofs.YtljnciclbjcinaaGreatDoor

namespace Go.Proofs.YtljnciclbjcinaaGreatDoor
open Go.ChangeShapes Go.WideShapes Go.ChangeAt Go.RowKit

/-- A float's bits: of those that are no number the canonical ones alone. -/
def canon (m : Int) : Bool := !(cl32 m == 2) || m == 2143289344
def nOk (x n : Int) (c : Nat) (m : Int) : Bool := decide ((bdOf x n c).1 ≤ m) && decide (m ≤ (bdOf x n c).2) && (if x = 10 then canon m else if x = 11 then !(decide (55296 ≤ m) && decide (m ≤ 57343)) else true)
def tOk (x : Int) (s : ByteArray) : Bool := if x = 12 then (gd 1 s).isSome && decide (s.size ≤ 200) else s.toList.isEmpty

theorem fldV12 (x0 x1 x2 x3 : Value) (w : World) : (Instr.field 195 (.agg #[x0, x1, x2, x3]) 0).run Tryz.prog w = .ok x0 w := by kernel_rfl
theorem fldO12 (x0 x1 x2 x3 x4 : Value) (w : World) : (Instr.field 144 (.agg #[x0, x1, x2, x3, x4]) 2).run Tryz.prog w = .ok x2 w := by kernel_rfl

set_option maxRecDepth 100000 in
set_option maxHeartbeats 1600000 in
theorem implCanon (a : Int) (h0 : 0 ≤ a) (h1 : a ≤ 4294967295) (w : World) :
    Calls Tryz.prog 100 #[.int .u32 a] w fun e w' => e = .returned (.bool (canon a)) ∧ Below w.heap.size w w' := by
  have HF := form32
  have HV := value32 a h0 h1
  have HN := noNumber32
  have hfl := fldV12
  obtain ⟨k, hk⟩ : ∃ k, cl32 a = k := ⟨_, rfl⟩
  have hR : canon a = (!(k == 2) || a == 2143289344) := by unfold canon; rw [hk]
  rw [hk] at HV
  rw [hR]
  obtain ⟨v1, hv1⟩ : ∃ v, (a / 2147483648 % 2 == 1) = v := ⟨_, rfl⟩
  obtain ⟨v2, hv2⟩ : ∃ v, vm32 a = v := ⟨_, rfl⟩
  obtain ⟨v3, hv3⟩ : ∃ v, ve32 a = v := ⟨_, rfl⟩
  rw [hv1, hv2, hv3] at HV
  clear hk hR hv1 hv2 hv3
  have HAL : Hid (∀ (W : World) o, Below W.heap.size W (W.alloc o) ∧ (W.alloc o).heap[W.heap.size]? = some o ∧ W.heap.size < (W.alloc o).heap.size) := fun W o => ⟨(Below.refl _ _).alloc (Nat.le_refl _) o, heap_alloc_new _ _, by simp⟩
  go_enter Tryz.func100, Tryz.ntmps100
  go_wp2_with fail
  refine (HF _).mono ?_
  rintro e1 w1 ⟨rfl, B1⟩
  go_wp2_with fail
  refine (HV _).mono ?_
  rintro e2 w2 ⟨rfl, B2⟩
  obtain ⟨a1, a2, a3⟩ := HAL.out w1 (.cells #[.int .i64 23, .int .i64 127, .int .u32 255] 191)
  have r2 := (B2.block _ a3).trans a2
  have q0 := (cell_of_block r2 0).trans rfl
  have q1 := (cell_of_block r2 1).trans rfl
  have q2 := (cell_of_block r2 2).trans rfl
  have hb2 : Below w.heap.size w w2 := below2 B1 (below2 a1 B2)
  clear HF HV HAL a1 a2 a3 B1 B2 r2
  by_cases h2 : k = 2
  · subst h2
    go_wp2_with (go_at_call 123; refine (HN _).mono ?_; rintro e3 w3 ⟨rfl, B3⟩)
    go_ret
    exact ⟨by simp, below2 hb2 B3⟩
  · have e2 : (k == 2) = false := by rw [beq_eq_false_iff_ne]; exact h2
    have e2' : (k != 2) = true := by simp [bne, e2]
    go_wp2
    go_ret
    exact ⟨by simp [e2], hb2⟩

set_option maxRecDepth 100000 in
set_option maxHeartbeats 1600000 in
theorem specCanon (a : Int) (h0 : 0 ≤ a) (h1 : a ≤ 4294967295) (w : World) :
    Calls Tryz.prog 63 #[.int .i64 a] w fun e w' => e = .returned (.bool (canon a)) ∧ Below w.heap.size w w' := by
  have HF := l4Kind32
  have HV := open32 a h0 h1
  have HN := l4Nan32
  have hfl := fldO12
  have hwu : IntKind.u32.wrap a = a := by rw [IntKind.wrap_u32]; omega
  obtain ⟨k, hk⟩ : ∃ k, cl32 a = k := ⟨_, rfl⟩
  have hR : canon a = (!(k == 2) || a == 2143289344) := by unfold canon; rw [hk]
  rw [hk] at HV
  rw [hR]
  obtain ⟨v1, hv1⟩ : ∃ v, (a / 2147483648 % 2 == 1) = v := ⟨_, rfl⟩
  obtain ⟨v2, hv2⟩ : ∃ v, vm32 a = v := ⟨_, rfl⟩
  obtain ⟨v3, hv3⟩ : ∃ v, ve32 a = v := ⟨_, rfl⟩
  obtain ⟨v4, hv4⟩ : ∃ v, (k == 1) = v := ⟨_, rfl⟩
  rw [hv1, hv2, hv3, hv4] at HV
  clear hk hR hv1 hv2 hv3 hv4
  have HAL : Hid (∀ (W : World) o, Below W.heap.size W (W.alloc o) ∧ (W.alloc o).heap[W.heap.size]? = some o ∧ W.heap.size < (W.alloc o).heap.size) := fun W o => ⟨(Below.refl _ _).alloc (Nat.le_refl _) o, heap_alloc_new _ _, by simp⟩
  go_enter Tryz.func63, Tryz.ntmps63
  go_wp2_with fail
  refine (HF _).mono ?_
  rintro e1 w1 ⟨rfl, B1⟩
  go_wp2_with fail
  refine (HV _).mono ?_
  rintro e2 w2 ⟨rfl, B2⟩
  obtain ⟨a1, a2, a3⟩ := HAL.out w1 (.cells #[.int .u64 8, .int .u64 23] 140)
  have r2 := (B2.block _ a3).trans a2
  have q0 := (cell_of_block r2 0).trans rfl
  have q1 := (cell_of_block r2 1).trans rfl
  have hb2 : Below w.heap.size w w2 := below2 B1 (below2 a1 B2)
  clear HF HV HAL a1 a2 a3 B1 B2 r2
  by_cases h2 : k = 2
  · subst h2
    go_wp2_with (go_at_call 86; refine (HN _).mono ?_; rintro e3 w3 ⟨rfl, B3⟩)
    go_ret
    exact ⟨by simp, below2 hb2 B3⟩
  · have e2 : (k == 2) = false := by rw [beq_eq_false_iff_ne]; exact h2
    go_wp2
    go_ret
    exact ⟨by simp [e2], hb2⟩


end Go.Proofs.YtljnciclbjcinaaGreatDoor

namespace Go.Proofs.YtljnciclbjcinaaGreatDoor
open Go.ChangeShapes Go.WideShapes Go.ChangeAt Go.RowKit

theorem bd10 (n : Int) (c : Nat) : bdOf 10 n c = (0, 4294967295) := rfl
theorem bd11 (n : Int) (c : Nat) : bdOf 11 n c = (0, 1114111) := rfl

set_option maxRecDepth 100000 in
set_option maxHeartbeats 1600000 in
theorem implNumber (x n u m : Int) (a : Option Addr) (c cap : Nat) (w : World) (hx : 1 ≤ x ∧ x ≤ 21) (hn : x = 16 → 1 ≤ n ∧ n ≤ 32) (hn9 : x = 19 → 1 ≤ n ∧ n ≤ 300) (hc : c ≤ 100) (hT : Hid (BTabs w)) :
    Calls Tryz.prog 81 #[.agg #[.int .i64 x, .int .i64 n, .int .i64 u, .slice a c cap], .int .i64 m] w fun e w' => e = .returned (.bool (nOk x n c m)) ∧ Below w.heap.size w w' := by
  have HB : Hid (∀ W, Below w.heap.size w W → Calls Tryz.prog 99 #[.agg #[.int .i64 x, .int .i64 n, .int .i64 u, .slice a c cap]] W fun e w' => e = .returned (.agg #[.int .i64 (bdOf x n c).1, .int .i64 (bdOf x n c).2]) ∧ Below W.heap.size W w') := fun W hW => implBounds x n u a c cap W hx hn hn9 hc (hT.out.below hW (Nat.le_refl _))
  have h10 : Hid (x = 10 → bdOf x n c = (0, 4294967295)) := fun h => by subst h; rfl
  have h11 : Hid (x = 11 → bdOf x n c = (0, 1114111)) := fun h => by subst h; rfl
  obtain ⟨R, hR⟩ : ∃ R, Hid (nOk x n c m = R) := ⟨_, rfl⟩
  rw [hR.out]
  have HR : Hid ((decide ((bdOf x n c).1 ≤ m) && decide (m ≤ (bdOf x n c).2) && (if x = 10 then canon m else if x = 11 then !(decide (55296 ≤ m) && decide (m ≤ 57343)) else true)) = R) := hR
  obtain ⟨⟨lo, hi⟩, hbd⟩ : ∃ b, bdOf x n c = b := ⟨_, rfl⟩
  rw [hbd] at HB h10 h11 HR
  simp only at HB HR
  clear hR hbd hn hn9 hx
  have HAL : Hid (∀ (W : World) o, Below W.heap.size W (W.alloc o) ∧ (W.alloc o).heap[W.heap.size]? = some o ∧ W.heap.size < (W.alloc o).heap.size) := fun W o => ⟨(Below.refl _ _).alloc (Nat.le_refl _) o, heap_alloc_new _ _, by simp⟩
  obtain ⟨a1, a2, a3⟩ := HAL.out w (.cells #[.int .i64 x, .int .i64 n, .int .i64 u, .slice a c cap] 61)
  go_enter Tryz.func81, Tryz.ntmps81
  go_wp2_with fail
  refine (HB.out _ a1).mono ?_
  rintro e1 w1 ⟨rfl, B1⟩
  have r1 := (B1.block _ a3).trans a2
  have hb1 : Below w.heap.size w w1 := below2 a1 B1
  obtain ⟨b1, b2, b3⟩ := HAL.out w1 (.cells #[.int .i64 lo, .int .i64 hi] 169)
  have r2 := (b1.block _ (lt_of_block r1)).trans r1
  have q0 := (cell_of_block r2 0).trans rfl
  have hb2 := below2 hb1 b1
  clear a1 a2 a3 B1 r1 b1 b2 b3 r2 HB HAL hT
  by_cases h1 : m < lo
  · obtain rfl : R = false := by rw [← HR.out]; have : ¬ lo ≤ m := by omega
                                 simp [this]
    go_wp2
    go_ret
    exact ⟨rfl, hb2⟩
  · by_cases h2 : hi < m
    · obtain rfl : R = false := by rw [← HR.out]; have : ¬ m ≤ hi := by omega
                                   simp [this]
      go_wp2
      go_ret
      exact ⟨rfl, hb2⟩
    · have HR2 : Hid ((if x = 10 then canon m else if x = 11 then !(decide (55296 ≤ m) && decide (m ≤ 57343)) else true) = R) := by
        unfold Hid
        rw [← HR.out]
        have e1 : lo ≤ m := by omega
        have e2 : m ≤ hi := by omega
        simp [e1, e2]
      clear HR
      by_cases hx10 : x = 10
      · subst hx10
        have hb := h10.out rfl
        simp at hb
        obtain ⟨rfl, rfl⟩ := hb
        have HC := implCanon m (by omega) (by omega)
        rw [show canon m = R from by have := HR2.out; simpa using this] at HC
        have hwu : IntKind.u32.wrap m = m := by rw [IntKind.wrap_u32]; omega
        clear HR2 h10 h11
        go_wp2_with (go_at_call 100; refine (HC _).mono ?_; rintro e3 w3 ⟨rfl, B3⟩)
        go_ret
        exact ⟨rfl, below2 hb2 B3⟩
      · have e10 : (x == 10) = false := by rw [beq_eq_false_iff_ne]; exact hx10
        by_cases hx11 : x = 11
        · subst hx11
          have hb := h11.out rfl
          simp at hb
          obtain ⟨rfl, rfl⟩ := hb
          have HC := implPoint m
          have hp : okP m = R := by
            rw [← HR2.out]
            unfold okP
            by_cases g1 : 55296 ≤ m
            · by_cases g2 : m ≤ 57343
              · rw [decide_eq_false (by omega)]; simp [g1, g2]
              · rw [decide_eq_true (by omega)]; simp [g2]
            · rw [decide_eq_true (by omega)]; simp [g1]
          rw [hp] at HC
          clear HR2 h10 h11 hp
          go_wp2_with (go_at_call 101; refine (HC _).mono ?_; rintro e3 w3 ⟨rfl, hw⟩; obtain rfl := hw.symm)
          go_ret
          exact ⟨rfl, hb2⟩
        · have e11 : (x == 11) = false := by rw [beq_eq_false_iff_ne]; exact hx11
          obtain rfl : R = true := by rw [← HR2.out, if_neg hx10, if_neg hx11]
          clear HR2 h10 h11
          go_wp2
          go_ret
          exact ⟨rfl, hb2⟩

set_option maxRecDepth 100000 in
set_option maxHeartbeats 1600000 in
theorem implCountV (s : ByteArray) (hs : s.size ≤ 1048576) (w : World) (hT : UTabs w) :
    Calls Tryz.prog 102 #[.string s] w fun e w' => (∃ k : Int, e = .returned (.tuple #[.int .i64 k, .bool (gd 1 s).isSome])) ∧ Below w.heap.size w w' := by
  have H0 := implDecodePoints s 1 hs w hT
  rw [show gdF 1 s = gd 1 s from gdF_in (by omega)] at H0
  go_enter Tryz.func102, Tryz.ntmps102
  go_wp2_with fail
  refine H0.mono ?_
  rintro e w1 ⟨⟨L, v, hg, rfl, ho⟩ | ⟨hg, rfl⟩, hb⟩
  · obtain ⟨a, cap, rfl, hI⟩ := ints_of_row ho
    have HG : Hid (gd 1 s = some L) := hg
    clear H0 hg hI ho
    go_wp2
    go_ret2
    exact ⟨⟨_, by rw [HG.out]; rfl⟩, hb⟩
  · have HG : Hid (gd 1 s = none) := hg
    clear H0 hg
    go_wp2
    go_ret2
    exact ⟨⟨_, by rw [HG.out]; rfl⟩, hb⟩

set_option maxRecDepth 100000 in
set_option maxHeartbeats 1600000 in
theorem implText12 (x : Int) (s : ByteArray) (hs : s.size ≤ 1048576) (w : World) (hT : Hid (UTabs w)) :
    Calls Tryz.prog 82 #[.int .i64 x, .string s] w fun e w' => e = .returned (.bool (tOk x s)) ∧ Below w.heap.size w w' := by
  by_cases hx : x = 12
  · subst hx
    have HC := implCountV s hs w hT.out
    have hR : tOk 12 s = ((gd 1 s).isSome && decide (s.size ≤ 200)) := rfl
    rw [hR]
    obtain ⟨g, hg⟩ : ∃ g, (gd 1 s).isSome = g := ⟨_, rfl⟩
    rw [hg] at HC ⊢
    obtain ⟨N, hN⟩ : ∃ N : Int, (s.size : Int) = N := ⟨_, rfl⟩
    have HS : Hid (decide (s.size ≤ 200) = decide (N ≤ 200)) := by
      unfold Hid
      by_cases h : s.size ≤ 200
      · have : N ≤ 200 := by omega
        simp [h, this]
      · have : ¬ N ≤ 200 := by omega
        simp [h, this]
    rw [HS.out]
    clear hg hR HS hs
    go_enter Tryz.func82, Tryz.ntmps82
    go_wp2_with fail
    refine HC.mono ?_
    rintro e1 w1 ⟨⟨k, rfl⟩, B1⟩
    clear HC
    cases g
    all_goals
      go_wp2
      go_ret
      exact ⟨by simp, B1⟩
  · have e12 : (x == 12) = false := by rw [beq_eq_false_iff_ne]; exact hx
    have hR : tOk x s = s.toList.isEmpty := by unfold tOk; rw [if_neg hx]
    rw [hR]
    clear hR
    go_enter Tryz.func82, Tryz.ntmps82
    go_wp2
    go_ret
    exact ⟨by first | rfl | simp, Below.refl _ _⟩

set_option maxRecDepth 100000 in
set_option maxHeartbeats 1600000 in
theorem implNode12 (x n u m z : Int) (s : ByteArray) (a : Option Addr) (c cap : Nat) (w : World) (hx : 1 ≤ x ∧ x ≤ 21) (hn : x = 16 → 1 ≤ n ∧ n ≤ 32) (hn9 : x = 19 → 1 ≤ n ∧ n ≤ 300) (hc : c ≤ 100) (hs : s.size ≤ 1048576) (hT : Hid (BTabs w)) (hU : Hid (UTabs w)) :
    Calls Tryz.prog 58 #[.agg #[.int .i64 x, .int .i64 n, .int .i64 u, .slice a c cap], .agg #[.int .i64 m, .string s, .int .i64 z]] w fun e w' => e = .returned (.bool (nOk x n c m && tOk x s)) ∧ Below w.heap.size w w' := by
  have HN : Hid (∀ W, Below w.heap.size w W → Calls Tryz.prog 81 #[.agg #[.int .i64 x, .int .i64 n, .int .i64 u, .slice a c cap], .int .i64 m] W fun e w' => e = .returned (.bool (nOk x n c m)) ∧ Below W.heap.size W w') := fun W hW => implNumber x n u m a c cap W hx hn hn9 hc (hT.out.below hW (Nat.le_refl _))
  have HTX : Hid (∀ W, Below w.heap.size w W → Calls Tryz.prog 82 #[.int .i64 x, .string s] W fun e w' => e = .returned (.bool (tOk x s)) ∧ Below W.heap.size W w') := fun W hW => implText12 x s hs W (Utf8Tabs_below hU.out hW)
  obtain ⟨R1, h1⟩ : ∃ R, nOk x n c m = R := ⟨_, rfl⟩
  obtain ⟨R2, h2⟩ : ∃ R, tOk x s = R := ⟨_, rfl⟩
  rw [h1] at HN ⊢
  rw [h2] at HTX ⊢
  clear h1 h2 hn hn9 hx hs hT hU
  obtain ⟨W, hW⟩ : ∃ W, (w.alloc (.cells #[.int .i64 x, .int .i64 n, .int .i64 u, .slice a c cap] 61)).alloc (.cells #[.int .i64 m, .string s, .int .i64 z] 57) = W := ⟨_, rfl⟩
  have hb : Below w.heap.size w W := by rw [← hW]; exact ((Below.refl _ _).alloc (Nat.le_refl _) _).alloc (by simp) _
  have q0 : W.heap[w.heap.size]? = some (.cells #[.int .i64 x, .int .i64 n, .int .i64 u, .slice a c cap] 61 (0, 0)) := by rw [← hW]; exact (Below.heap_alloc _ _ _ (by simp)).trans (heap_alloc_new _ _)
  have q1 : W.heap[w.heap.size + 1]? = some (.cells #[.int .i64 m, .string s, .int .i64 z] 57 (0, 0)) := by
    rw [← hW]
    have e : w.heap.size + 1 = (w.alloc (.cells #[.int .i64 x, .int .i64 n, .int .i64 u, .slice a c cap] 61)).heap.size := by simp
    rw [e]
    exact heap_alloc_new _ _
  have c0 := (cell_of_block q0 0).trans rfl
  have c1 := (cell_of_block q0 1).trans rfl
  have c2 := (cell_of_block q0 2).trans rfl
  have c3 := (cell_of_block q0 3).trans rfl
  have d0 := (cell_of_block q1 0).trans rfl
  go_enter Tryz.func58, Tryz.ntmps58
  go_wp2_with fail
  refine (HN.out _ hb).mono ?_
  rintro e1 w1 ⟨rfl, B1⟩
  have hb1 := below2 hb B1
  have e0 := (cell_of_block ((B1.block _ (lt_of_block q0)).trans q0) 0).trans rfl
  have e1 := (cell_of_block ((B1.block _ (lt_of_block q1)).trans q1) 1).trans rfl
  clear HN c0 c1 c2 c3 d0 q0 q1 hW B1
  cases R1
  · go_wp2
    go_ret
    exact ⟨rfl, hb1⟩
  · go_wp2_with (go_at_call 82; refine (HTX.out _ hb1).mono ?_; rintro e3 w3 ⟨rfl, B3⟩)
    go_ret
    exact ⟨rfl, below2 hb1 B3⟩

end Go.Proofs.YtljnciclbjcinaaGreatDoor
