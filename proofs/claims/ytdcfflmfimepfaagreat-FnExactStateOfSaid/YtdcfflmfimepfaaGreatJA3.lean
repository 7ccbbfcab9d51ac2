/-
  Which instructions are good: the specification's side, and the law on it.
-/
import Derived.Test.YtdcfflmfimepfaaGreatJA2
import Derived.Test.YtdcfflmfimepfaaGreatJA1
import Derived.Deep.SlicePairs
import Derived.Deep.Fields
namespace Go.Proofs.YtdcfflmfimepfaaGreat
open Go.ChangeShapes Go.WideShapes Go.ChangeAt Go.RowKit

set_option maxRecDepth 100000 in
set_option maxHeartbeats 400000 in
theorem specType (a : Int) (r : Bool) (h : Hid ((decide (125 ≤ a) && decide (a ≤ 127)) = r)) (w : World) : Calls Tryz.prog 77 #[.int .i64 a] w fun e w' => e = .returned (.bool r) ∧ w' = w := by
  go_enter Tryz.func77, Tryz.ntmps77
  go_wp2_with (go_at_call 36; refine (in_eq _ _ _ _ (by assumption) _).mono ?_; rintro e w1 ⟨rfl, hw⟩; obtain rfl := hw.symm)
  go_ret
  exact ⟨rfl, rfl⟩

set_option maxRecDepth 100000 in
set_option maxHeartbeats 1600000 in
theorem specGoodIns (op a : Int) (w : World) :
    Calls Tryz.prog 136 #[.agg #[.int .i64 op, .int .i64 a]] w fun e w' => e = .returned (.bool (gi op a)) ∧ Below w.heap.size w w' := by
  have O := specShape op
  have hg : gi op a = mayK (shp op) a := rfl
  rw [hg]
  rcases shp_one op with h | h | h | h | h | h | h | h
  all_goals
    rw [h] at O ⊢
    clear hg h
  · have e : mayK 0 a = (a == 0) := rfl
    rw [e]
    clear e
    go_enter Tryz.func136, Tryz.ntmps136
    go_wp2_with (go_at_call 143; refine (O _).mono ?_; rintro e w1 ⟨rfl, hw⟩; obtain rfl := hw.symm)
    go_ret
    refine ⟨rfl, ?_⟩
    (repeat (first | refine Below.alloc ?_ (by first | (simp; done) | (simp; omega)) _ | refine Below.setCell ?_ (by first | (simp; done) | (simp; omega)) _ | refine bel_dN ?_ _ | refine Below.drew ?_ | exact Below.refl _ _))
  · have e : mayK 1 a = ((decide (125 ≤ a) && decide (a ≤ 127)) || a == 64) := rfl
    rw [e]
    clear e
    obtain ⟨x, hx⟩ : ∃ x, Hid ((decide (125 ≤ a) && decide (a ≤ 127)) = x) := ⟨_, rfl⟩
    obtain ⟨y, hy⟩ : ∃ y, (a == 64) = y := ⟨_, rfl⟩
    rw [hx.out, hy]
    cases x
    all_goals
      go_enter Tryz.func136, Tryz.ntmps136
      go_wp2_with (first | (go_at_call 143; refine (O _).mono ?_; rintro e w1 ⟨rfl, hw⟩; obtain rfl := hw.symm) | (go_at_call 77; refine (specType _ _ (by assumption) _).mono ?_; rintro e w1 ⟨rfl, hw⟩; obtain rfl := hw.symm))
      go_ret
      refine ⟨rfl, ?_⟩
      (repeat (first | refine Below.alloc ?_ (by first | (simp; done) | (simp; omega)) _ | refine Below.setCell ?_ (by first | (simp; done) | (simp; omega)) _ | refine bel_dN ?_ _ | refine Below.drew ?_ | exact Below.refl _ _))
  · have e : mayK 2 a = (decide (0 ≤ a) && decide (a ≤ 1000)) := rfl
    rw [e]
    clear e
    obtain ⟨x, hx⟩ : ∃ x, Hid ((decide (0 ≤ a) && decide (a ≤ 1000)) = x) := ⟨_, rfl⟩
    rw [hx.out]
    go_enter Tryz.func136, Tryz.ntmps136
    go_wp2_with (first | (go_at_call 143; refine (O _).mono ?_; rintro e w1 ⟨rfl, hw⟩; obtain rfl := hw.symm) | (go_at_call 36; refine (in_eq _ _ _ _ (by assumption) _).mono ?_; rintro e w1 ⟨rfl, hw⟩; obtain rfl := hw.symm))
    go_ret
    refine ⟨rfl, ?_⟩
    (repeat (first | refine Below.alloc ?_ (by first | (simp; done) | (simp; omega)) _ | refine Below.setCell ?_ (by first | (simp; done) | (simp; omega)) _ | refine bel_dN ?_ _ | refine Below.drew ?_ | exact Below.refl _ _))
  · have e : mayK 3 a = (decide (0 ≤ a) && decide (a ≤ 10000)) := rfl
    rw [e]
    clear e
    obtain ⟨x, hx⟩ : ∃ x, Hid ((decide (0 ≤ a) && decide (a ≤ 10000)) = x) := ⟨_, rfl⟩
    rw [hx.out]
    go_enter Tryz.func136, Tryz.ntmps136
    go_wp2_with (first | (go_at_call 143; refine (O _).mono ?_; rintro e w1 ⟨rfl, hw⟩; obtain rfl := hw.symm) | (go_at_call 36; refine (in_eq _ _ _ _ (by assumption) _).mono ?_; rintro e w1 ⟨rfl, hw⟩; obtain rfl := hw.symm))
    go_ret
    refine ⟨rfl, ?_⟩
    (repeat (first | refine Below.alloc ?_ (by first | (simp; done) | (simp; omega)) _ | refine Below.setCell ?_ (by first | (simp; done) | (simp; omega)) _ | refine bel_dN ?_ _ | refine Below.drew ?_ | exact Below.refl _ _))
  · have e : mayK 4 a = (decide (-2147483648 ≤ a) && decide (a ≤ 2147483647)) := rfl
    rw [e]
    clear e
    obtain ⟨x, hx⟩ : ∃ x, Hid ((decide (-2147483648 ≤ a) && decide (a ≤ 2147483647)) = x) := ⟨_, rfl⟩
    rw [hx.out]
    go_enter Tryz.func136, Tryz.ntmps136
    go_wp2_with (first | (go_at_call 143; refine (O _).mono ?_; rintro e w1 ⟨rfl, hw⟩; obtain rfl := hw.symm) | (go_at_call 36; refine (in_eq _ _ _ _ (by assumption) _).mono ?_; rintro e w1 ⟨rfl, hw⟩; obtain rfl := hw.symm))
    go_ret
    refine ⟨rfl, ?_⟩
    (repeat (first | refine Below.alloc ?_ (by first | (simp; done) | (simp; omega)) _ | refine Below.setCell ?_ (by first | (simp; done) | (simp; omega)) _ | refine bel_dN ?_ _ | refine Below.drew ?_ | exact Below.refl _ _))
  · have e : mayK 5 a = true := rfl
    rw [e]
    clear e
    go_enter Tryz.func136, Tryz.ntmps136
    go_wp2_with (go_at_call 143; refine (O _).mono ?_; rintro e w1 ⟨rfl, hw⟩; obtain rfl := hw.symm)
    go_ret
    refine ⟨rfl, ?_⟩
    (repeat (first | refine Below.alloc ?_ (by first | (simp; done) | (simp; omega)) _ | refine Below.setCell ?_ (by first | (simp; done) | (simp; omega)) _ | refine bel_dN ?_ _ | refine Below.drew ?_ | exact Below.refl _ _))
  · have e : mayK 6 a = (decide (0 ≤ a) && decide (a ≤ 4294967295)) := rfl
    rw [e]
    clear e
    obtain ⟨x, hx⟩ : ∃ x, Hid ((decide (0 ≤ a) && decide (a ≤ 4294967295)) = x) := ⟨_, rfl⟩
    rw [hx.out]
    go_enter Tryz.func136, Tryz.ntmps136
    go_wp2_with (first | (go_at_call 143; refine (O _).mono ?_; rintro e w1 ⟨rfl, hw⟩; obtain rfl := hw.symm) | (go_at_call 36; refine (in_eq _ _ _ _ (by assumption) _).mono ?_; rintro e w1 ⟨rfl, hw⟩; obtain rfl := hw.symm))
    go_ret
    refine ⟨rfl, ?_⟩
    (repeat (first | refine Below.alloc ?_ (by first | (simp; done) | (simp; omega)) _ | refine Below.setCell ?_ (by first | (simp; done) | (simp; omega)) _ | refine bel_dN ?_ _ | refine Below.drew ?_ | exact Below.refl _ _))
  · have e : mayK (-1) a = false := rfl
    rw [e]
    clear e
    go_enter Tryz.func136, Tryz.ntmps136
    go_wp2_with (go_at_call 143; refine (O _).mono ?_; rintro e w1 ⟨rfl, hw⟩; obtain rfl := hw.symm)
    go_ret
    refine ⟨rfl, ?_⟩
    (repeat (first | refine Below.alloc ?_ (by first | (simp; done) | (simp; omega)) _ | refine Below.setCell ?_ (by first | (simp; done) | (simp; omega)) _ | refine bel_dN ?_ _ | refine Below.drew ?_ | exact Below.refl _ _))

end Go.Proofs.YtdcfflmfimepfaaGreat

namespace Go.Proofs.YtdcfflmfimepfaaGreat
open Go.ChangeShapes Go.WideShapes Go.ChangeAt Go.RowKit

def allG (L : List (Int × Int)) : Bool := L.all fun x => gi x.1 x.2
theorem allG_take (L : List (Int × Int)) (k : Nat) (h : k < L.length) : allG (L.take (k + 1)) = (allG (L.take k) && gi L[k].1 L[k].2) := by
  unfold allG; rw [List.take_succ_eq_append_getElem h, List.all_append]; simp
theorem allG_no (L : List (Int × Int)) (k : Nat) (h : k < L.length) (hg : gi L[k].1 L[k].2 = false) : allG L = false := by
  unfold allG
  rw [List.all_eq_false]
  exact ⟨L[k], List.getElem_mem h, by simp [hg]⟩
theorem allG_at (L : List (Int × Int)) (k : Nat) (h : k < L.length) (hg : allG L = true) : gi L[k].1 L[k].2 = true := by
  unfold allG at hg
  rw [List.all_eq_true] at hg
  exact hg _ (List.getElem_mem h)

end Go.Proofs.YtdcfflmfimepfaaGreat

namespace Go.Proofs.YtdcfflmfimepfaaGreat
open Go.ChangeShapes Go.WideShapes Go.ChangeAt Go.RowKit

/-- Every number of the list is an int. -/
def fits (L : List (Int × Int)) : Prop := ∀ i (h : i < L.length), -9223372036854775808 ≤ L[i].2 ∧ L[i].2 ≤ 9223372036854775807

set_option maxRecDepth 100000 in
set_option maxHeartbeats 1600000 in
theorem implAll (a : Option Addr) (b off cap : Nat) (L : List (Int × Int)) (w : World) (ha : Hid (L ≠ [] → a = some ⟨b, off, none⟩ ∧ b < w.heap.size)) (hL : insAt w b off L) (hf : fits L) (hlen : L.length ≤ 1048576) :
    Calls Tryz.prog 115 #[.slice a L.length cap] w fun e w' => e = .returned (.bool (allG L && decide (L.length ≤ 200))) ∧ Below w.heap.size w w' := by
  by_cases h2 : L.length ≤ 200
  · rw [decide_eq_true h2, Bool.and_true]
    go_enter Tryz.func115, Tryz.ntmps115
    go_wp2
    go_loopw [10] (fun i wr => ∃ k : Nat, k ≤ L.length ∧ i = .int .i64 k ∧ Hid (allG (L.take k) = true) ∧ Below w.heap.size w wr) (fun i _ => L.length - (intOf i).toNat)
    case atStart => exact ⟨0, by omega, rfl, by simp [Hid, allG], Below.refl _ _⟩
    case round =>
      obtain ⟨k, hk, rfl, hg, hnx⟩ := hrel
      by_cases hlt : k < L.length
      · obtain ⟨rfl, hb⟩ := ha.out (fun h => by simp [h] at hlt)
        have hc := hL k hlt
        have hfk := hf k hlt
        have ht := allG_take L k hlt
        have hn := allG_no L k hlt
        obtain ⟨x, hx⟩ : ∃ x, x = L[k] := ⟨_, rfl⟩
        rw [← hx] at hc hfk ht hn
        obtain ⟨op, y⟩ := x
        clear hx
        simp only at hc hfk ht hn
        have hc0 : wr.cell? ⟨b, off + k * 2, none⟩ = some (.int .i64 op) := (hnx.cell (by exact hb)).trans hc.1
        have hc1 : wr.cell? ⟨b, off + k * 2 + 1, none⟩ = some (.int .i64 y) := (hnx.cell (by exact hb)).trans hc.2
        have I := implGoodIns op y hfk.1 hfk.2
        have HT : Hid (allG (L.take (k + 1)) = (allG (L.take k) && gi op y)) := ht
        have HN : Hid (gi op y = false → allG L = false) := hn
        have HX : Hid (Below w.heap.size w wr) := hnx
        clear hc hfk ht hn
        generalize gi op y = r at I HT HN
        cases r
        · go_wp2_with (go_at_call 133; refine (I _).mono ?_; rintro e w1 ⟨rfl, hb1⟩; clear I)
          go_ret
          refine ⟨by rw [HN.out (by trivial)]; rfl, ?_⟩
          exact below2 (bel_alloc HX.out _) hb1
        · go_wp2_with (go_at_call 133; refine (I _).mono ?_; rintro e w1 ⟨rfl, hb1⟩; clear I)
          go_roundw
          case rel => exact ⟨k + 1, by omega, by go_num, by unfold Hid; rw [HT.out, hg.out]; rfl, below2 (bel_alloc HX.out _) hb1⟩
          case measure => simp [intOf]; omega
      · have e : L.take k = L := List.take_of_length_le (by omega)
        have hg' : Hid (allG L = true) := by have h := hg.out; rw [e] at h; exact h
        clear hg e
        go_wp2
        go_ret
        exact ⟨by rw [hg'.out]; rfl, hnx⟩
  · have h3 : (200 : Int) < L.length := by omega
    rw [decide_eq_false h2, Bool.and_false]
    clear h2
    go_enter Tryz.func115, Tryz.ntmps115
    go_wp2
    go_ret
    exact ⟨rfl, Below.refl _ _⟩

set_option maxRecDepth 100000 in
set_option maxHeartbeats 1600000 in
theorem specAll (a : Option Addr) (b off cap : Nat) (L : List (Int × Int)) (w : World) (ha : Hid (L ≠ [] → a = some ⟨b, off, none⟩ ∧ b < w.heap.size)) (hL : insAt w b off L) (hlen : L.length ≤ 1048576) :
    Calls Tryz.prog 119 #[.slice a L.length cap] w fun e w' => e = .returned (.bool (allG L && decide (L.length ≤ 200))) ∧ Below w.heap.size w w' := by
  go_enter Tryz.func119, Tryz.ntmps119
  go_wp2
  go_loopw [7] (fun i wr => ∃ k : Nat, k ≤ L.length ∧ i = .int .i64 k ∧ Hid (allG (L.take k) = true) ∧ Below w.heap.size w wr) (fun i _ => L.length - (intOf i).toNat)
  case atStart => exact ⟨0, by omega, rfl, by simp [Hid, allG], Below.refl _ _⟩
  case round =>
    obtain ⟨k, hk, rfl, hg, hnx⟩ := hrel
    by_cases hlt : k < L.length
    · obtain ⟨rfl, hb⟩ := ha.out (fun h => by simp [h] at hlt)
      have hc := hL k hlt
      have ht := allG_take L k hlt
      have hn := allG_no L k hlt
      obtain ⟨x, hx⟩ : ∃ x, x = L[k] := ⟨_, rfl⟩
      rw [← hx] at hc ht hn
      obtain ⟨op, y⟩ := x
      clear hx
      simp only at hc ht hn
      have hc0 : wr.cell? ⟨b, off + k * 2, none⟩ = some (.int .i64 op) := (hnx.cell (by exact hb)).trans hc.1
      have hc1 : wr.cell? ⟨b, off + k * 2 + 1, none⟩ = some (.int .i64 y) := (hnx.cell (by exact hb)).trans hc.2
      have I := specGoodIns op y
      have HT : Hid (allG (L.take (k + 1)) = (allG (L.take k) && gi op y)) := ht
      have HN : Hid (gi op y = false → allG L = false) := hn
      have HX : Hid (Below w.heap.size w wr) := hnx
      clear hc ht hn
      generalize gi op y = r at I HT HN
      cases r
      · go_wp2_with (go_at_call 136; refine (I _).mono ?_; rintro e w1 ⟨rfl, hb1⟩; clear I)
        go_ret
        refine ⟨by rw [HN.out (by trivial)]; rfl, ?_⟩
        exact below2 (bel_alloc HX.out _) hb1
      · go_wp2_with (go_at_call 136; refine (I _).mono ?_; rintro e w1 ⟨rfl, hb1⟩; clear I)
        go_roundw
        case rel => exact ⟨k + 1, by omega, by go_num, by unfold Hid; rw [HT.out, hg.out]; rfl, below2 (bel_alloc HX.out _) hb1⟩
        case measure => simp [intOf]; omega
    · have e : L.take k = L := List.take_of_length_le (by omega)
      have hg' : Hid (allG L = true) := by have h := hg.out; rw [e] at h; exact h
      obtain ⟨y, hy⟩ : ∃ y, decide ((L.length : Int) ≤ 200) = y := ⟨_, rfl⟩
      have hx : Hid (decide (L.length ≤ 200) = y) := by unfold Hid; rw [← hy]; simp; omega
      clear hg e
      go_wp2
      go_ret
      exact ⟨by rw [hg'.out, hx.out]; rfl, hnx⟩

end Go.Proofs.YtdcfflmfimepfaaGreat

namespace Go.Proofs.YtdcfflmfimepfaaGreat
open Go.ChangeShapes Go.WideShapes Go.ChangeAt Go.RowKit

/-- The instructions L lie behind the address a. -/
def Inss (w : World) (a : Option Addr) (L : List (Int × Int)) : Prop :=
  L ≠ [] → ∃ b off, a = some ⟨b, off, none⟩ ∧ b < w.heap.size ∧ insAt w b off L
theorem Inss.below {w w' : World} {a : Option Addr} {L : List (Int × Int)} (h : Inss w a L) (hb : Below w.heap.size w w') : Inss w' a L := fun hn => by
  obtain ⟨b, off, rfl, hl, hc⟩ := h hn
  exact ⟨b, off, rfl, Nat.lt_of_lt_of_le hl hb.size, fun i hi => ⟨(hb.cell (p := ⟨b, off + i * 2, none⟩) hl).trans (hc i hi).1, (hb.cell (p := ⟨b, off + i * 2 + 1, none⟩) hl).trans (hc i hi).2⟩⟩
/-- As the walks of chapter 6 want it. -/
theorem Inss.parts {w : World} {a : Option Addr} {L : List (Int × Int)} (h : Inss w a L) : ∃ b off, Hid (L ≠ [] → a = some ⟨b, off, none⟩ ∧ b < w.heap.size) ∧ insAt w b off L := by
  by_cases e : L = []
  · exact ⟨0, 0, fun h => absurd e h, fun i hi => by subst e; simp at hi⟩
  · obtain ⟨b, off, ha, hl, hc⟩ := h e
    exact ⟨b, off, fun _ => ⟨ha, hl⟩, hc⟩
/-- An address that does not lead into block g. -/
def Off (g : Nat) (a : Option Addr) : Prop := ∀ b off, a = some ⟨b, off, none⟩ → b ≠ g
theorem setCell_other_cell (w : World) (g i b j : Nat) (v : Value) (h : b ≠ g) : (w.setCell ⟨g, i, none⟩ v).cell? ⟨b, j, none⟩ = w.cell? ⟨b, j, none⟩ := by
  unfold World.cell?
  rw [heap_setCell_other w ⟨g, i, none⟩ b v h]
theorem Ints.set {w : World} {a : Option Addr} {L : List Int} (h : Ints w a L) {g : Nat} (ho : Off g a) (i : Nat) (v : Value) : Ints (w.setCell ⟨g, i, none⟩ v) a L := fun hn => by
  obtain ⟨b, off, ha, hl, hc⟩ := h hn
  exact ⟨b, off, ha, by simpa using hl, fun j hj => (setCell_other_cell _ _ _ _ _ _ (ho b off ha)).trans (hc j hj)⟩
theorem Inss.set {w : World} {a : Option Addr} {L : List (Int × Int)} (h : Inss w a L) {g : Nat} (ho : Off g a) (i : Nat) (v : Value) : Inss (w.setCell ⟨g, i, none⟩ v) a L := fun hn => by
  obtain ⟨b, off, ha, hl, hc⟩ := h hn
  exact ⟨b, off, ha, by simpa using hl, fun j hj => ⟨(setCell_other_cell _ _ _ _ _ _ (ho b off ha)).trans (hc j hj).1, (setCell_other_cell _ _ _ _ _ _ (ho b off ha)).trans (hc j hj).2⟩⟩

/-- A func: its params, its result, its locals, its body. -/
structure Fun7 where
  ps : List Int
  res : Int
  ls : List Int
  body : List (Int × Int)
/-- A global. -/
structure Glo7 where
  ty : Int
  fixed : Bool
  bits : Int
/-- A module. -/
structure Mod7 where
  fs : List Fun7
  gs : List Glo7
  mem : Bool
  pages : Int
  most : Int
  start : Int

/-- What the slices of a func lead to. -/
def FunRows (w : World) (pa la ba : Option Addr) (f : Fun7) : Prop := Ints w pa f.ps ∧ Ints w la f.ls ∧ Inss w ba f.body
theorem FunRows.below {w w' : World} {pa la ba : Option Addr} {f : Fun7} (h : FunRows w pa la ba f) (hb : Below w.heap.size w w') : FunRows w' pa la ba f := ⟨h.1.below hb, h.2.1.below hb, h.2.2.below hb⟩
theorem FunRows.set {w : World} {pa la ba : Option Addr} {f : Fun7} (h : FunRows w pa la ba f) {g : Nat} (o1 : Off g pa) (o2 : Off g la) (o3 : Off g ba) (i : Nat) (v : Value) : FunRows (w.setCell ⟨g, i, none⟩ v) pa la ba f := ⟨h.1.set o1 i v, h.2.1.set o2 i v, h.2.2.set o3 i v⟩
/-- A func at four cells. -/
def FunAt (w : World) (b o : Nat) (f : Fun7) : Prop :=
  ∃ pa pc la lc ba bc, w.cell? ⟨b, o, none⟩ = some (.slice pa f.ps.length pc) ∧ w.cell? ⟨b, o + 1, none⟩ = some (.int .i64 f.res) ∧ w.cell? ⟨b, o + 2, none⟩ = some (.slice la f.ls.length lc) ∧ w.cell? ⟨b, o + 3, none⟩ = some (.slice ba f.body.length bc) ∧ Hid (FunRows w pa la ba f)
theorem FunAt.below {w w' : World} {b o : Nat} {f : Fun7} (h : FunAt w b o f) (hl : b < w.heap.size) (hb : Below w.heap.size w w') : FunAt w' b o f := by
  obtain ⟨pa, pc, la, lc, ba, bc, h0, h1, h2, h3, hr⟩ := h
  exact ⟨pa, pc, la, lc, ba, bc, (hb.cell (p := ⟨b, o, none⟩) hl).trans h0, (hb.cell (p := ⟨b, o + 1, none⟩) hl).trans h1, (hb.cell (p := ⟨b, o + 2, none⟩) hl).trans h2, (hb.cell (p := ⟨b, o + 3, none⟩) hl).trans h3, hr.out.below hb⟩
/-- The funcs L lie behind the address a. -/
def Funs (w : World) (a : Option Addr) (L : List Fun7) : Prop :=
  L ≠ [] → ∃ b off, a = some ⟨b, off, none⟩ ∧ b < w.heap.size ∧ ∀ i (h : i < L.length), FunAt w b (off + i * 4) L[i]
theorem Funs.below {w w' : World} {a : Option Addr} {L : List Fun7} (h : Funs w a L) (hb : Below w.heap.size w w') : Funs w' a L := fun hn => by
  obtain ⟨b, off, rfl, hl, hc⟩ := h hn
  exact ⟨b, off, rfl, Nat.lt_of_lt_of_le hl hb.size, fun i hi => (hc i hi).below hl hb⟩
theorem Funs.at {w : World} {a : Option Addr} {L : List Fun7} (h : Funs w a L) (k : Nat) (hk : k < L.length) : ∃ b off, a = some ⟨b, off, none⟩ ∧ b < w.heap.size ∧ FunAt w b (off + k * 4) L[k] := by
  obtain ⟨b, off, ha, hl, hc⟩ := h (fun h => by simp [h] at hk)
  exact ⟨b, off, ha, hl, hc k hk⟩
/-- The globals L lie behind the address a. -/
def GloAt (w : World) (b o : Nat) (g : Glo7) : Prop :=
  w.cell? ⟨b, o, none⟩ = some (.int .i64 g.ty) ∧ w.cell? ⟨b, o + 1, none⟩ = some (.bool g.fixed) ∧ w.cell? ⟨b, o + 2, none⟩ = some (.int .u64 g.bits)
theorem GloAt.below {w w' : World} {b o : Nat} {g : Glo7} (h : GloAt w b o g) (hl : b < w.heap.size) (hb : Below w.heap.size w w') : GloAt w' b o g :=
  ⟨(hb.cell (p := ⟨b, o, none⟩) hl).trans h.1, (hb.cell (p := ⟨b, o + 1, none⟩) hl).trans h.2.1, (hb.cell (p := ⟨b, o + 2, none⟩) hl).trans h.2.2⟩
def Glos (w : World) (a : Option Addr) (L : List Glo7) : Prop :=
  L ≠ [] → ∃ b off, a = some ⟨b, off, none⟩ ∧ b < w.heap.size ∧ ∀ i (h : i < L.length), GloAt w b (off + i * 3) L[i]
theorem Glos.below {w w' : World} {a : Option Addr} {L : List Glo7} (h : Glos w a L) (hb : Below w.heap.size w w') : Glos w' a L := fun hn => by
  obtain ⟨b, off, rfl, hl, hc⟩ := h hn
  exact ⟨b, off, rfl, Nat.lt_of_lt_of_le hl hb.size, fun i hi => (hc i hi).below hl hb⟩
theorem Glos.at {w : World} {a : Option Addr} {L : List Glo7} (h : Glos w a L) (k : Nat) (hk : k < L.length) : ∃ b off, a = some ⟨b, off, none⟩ ∧ b < w.heap.size ∧ GloAt w b (off + k * 3) L[k] := by
  obtain ⟨b, off, ha, hl, hc⟩ := h (fun h => by simp [h] at hk)
  exact ⟨b, off, ha, hl, hc k hk⟩

/-- Where a module's rows lie, and how wide they are. -/
structure Loc7 where
  fa : Option Addr
  fc : Nat
  ga : Option Addr
  gc : Nat
/-- A module as a value. -/
def modV (l : Loc7) (M : Mod7) : Value := .agg #[.slice l.fa M.fs.length l.fc, .slice l.ga M.gs.length l.gc, .bool M.mem, .int .i64 M.pages, .int .i64 M.most, .int .i64 M.start]
def ModAt (w : World) (l : Loc7) (M : Mod7) : Prop := Funs w l.fa M.fs ∧ Glos w l.ga M.gs
theorem ModAt.below {w w' : World} {l : Loc7} {M : Mod7} (h : ModAt w l M) (hb : Below w.heap.size w w') : ModAt w' l M := ⟨h.1.below hb, h.2.below hb⟩

/-- Lengths and numbers as they come in. -/
def okF (f : Fun7) : Prop := f.ps.length ≤ 9223372036854775807 ∧ f.ls.length ≤ 9223372036854775807 ∧ f.body.length ≤ 9223372036854775807 ∧ fits f.body
def okG (g : Glo7) : Prop := 0 ≤ g.bits ∧ g.bits ≤ 18446744073709551615
def okM (M : Mod7) : Prop := M.fs.length ≤ 9223372036854775807 ∧ M.gs.length ≤ 9223372036854775807 ∧ (∀ f ∈ M.fs, okF f) ∧ ∀ g ∈ M.gs, okG g
/-- What is not too long. -/
def smF (f : Fun7) : Prop := f.ps.length ≤ 1048576 ∧ f.ls.length ≤ 1048576 ∧ f.body.length ≤ 1048576 ∧ fits f.body
def smM (M : Mod7) : Prop := M.fs.length ≤ 1048576 ∧ M.gs.length ≤ 1048576 ∧ (∀ f ∈ M.fs, smF f) ∧ ∀ g ∈ M.gs, okG g

set_option maxRecDepth 2000000 in
set_option maxHeartbeats 800000 in
theorem szInt1 (a : Option Addr) (cap n : Nat) (l : Int) (w : World) (hn : n ≤ 9223372036854775807) (h0 : 0 ≤ l) (h1 : l ≤ 1048576) :
    Calls Tryz.prog 74 #[.slice a n cap, .int .i64 l] w fun e w' => ∃ r : Int, e = .returned (.int .i64 r) ∧ (0 ≤ r → n ≤ 1048576 ∧ r ≤ 1048576) ∧ w' = w := by
  obtain ⟨N, hN⟩ : ∃ N : Int, (n : Int) = N := ⟨_, rfl⟩
  by_cases h2 : N ≤ l
  · go_enter Tryz.func74, Tryz.ntmps74
    go_wp2
    go_ret
    exact ⟨_, rfl, fun _ => by omega, rfl⟩
  · go_enter Tryz.func74, Tryz.ntmps74
    go_wp2
    go_ret
    exact ⟨_, rfl, fun h => absurd h (by omega), rfl⟩

set_option maxRecDepth 2000000 in
set_option maxHeartbeats 800000 in
theorem szIns1 (a : Option Addr) (cap n : Nat) (l : Int) (w : World) (hn : n ≤ 9223372036854775807) (h0 : 0 ≤ l) (h1 : l ≤ 1048576) :
    Calls Tryz.prog 75 #[.slice a n cap, .int .i64 l] w fun e w' => ∃ r : Int, e = .returned (.int .i64 r) ∧ (0 ≤ r → n ≤ 1048576 ∧ r ≤ 1048576) ∧ w' = w := by
  obtain ⟨N, hN⟩ : ∃ N : Int, (n : Int) = N := ⟨_, rfl⟩
  by_cases h2 : N ≤ l
  · go_enter Tryz.func75, Tryz.ntmps75
    go_wp2
    go_ret
    exact ⟨_, rfl, fun _ => by omega, rfl⟩
  · go_enter Tryz.func75, Tryz.ntmps75
    go_wp2
    go_ret
    exact ⟨_, rfl, fun h => absurd h (by omega), rfl⟩

set_option maxRecDepth 2000000 in
set_option maxHeartbeats 800000 in
theorem szGlo1 (a : Option Addr) (cap n : Nat) (l : Int) (w : World) (hn : n ≤ 9223372036854775807) (h0 : 0 ≤ l) (h1 : l ≤ 1048576) :
    Calls Tryz.prog 31 #[.slice a n cap, .int .i64 l] w fun e w' => ∃ r : Int, e = .returned (.int .i64 r) ∧ (0 ≤ r → n ≤ 1048576 ∧ r ≤ 1048576) ∧ w' = w := by
  obtain ⟨N, hN⟩ : ∃ N : Int, (n : Int) = N := ⟨_, rfl⟩
  by_cases h2 : N ≤ l
  · go_enter Tryz.func31, Tryz.ntmps31
    go_wp2
    go_ret
    exact ⟨_, rfl, fun _ => by omega, rfl⟩
  · go_enter Tryz.func31, Tryz.ntmps31
    go_wp2
    go_ret
    exact ⟨_, rfl, fun h => absurd h (by omega), rfl⟩

set_option maxRecDepth 100000 in
set_option maxHeartbeats 1600000 in
theorem szFun1 (pa la ba : Option Addr) (pc lc bc np nl nb : Nat) (res l : Int) (w : World) (hn : np ≤ 9223372036854775807 ∧ nl ≤ 9223372036854775807 ∧ nb ≤ 9223372036854775807) (h0 : 0 ≤ l) (h1 : l ≤ 1048576) :
    Calls Tryz.prog 53 #[.agg #[.slice pa np pc, .int .i64 res, .slice la nl lc, .slice ba nb bc], .int .i64 l] w fun e w' => ∃ r : Int, e = .returned (.int .i64 r) ∧ (0 ≤ r → (np ≤ 1048576 ∧ nl ≤ 1048576 ∧ nb ≤ 1048576) ∧ r ≤ 1048576) ∧ Below w.heap.size w w' := by
  obtain ⟨hp, hl, hb⟩ := hn
  have HP : Hid (np ≤ 9223372036854775807) := hp
  have HL : Hid (nl ≤ 9223372036854775807) := hl
  have HB : Hid (nb ≤ 9223372036854775807) := hb
  clear hp hl hb
  have S1 := szInt1 pa pc np l
  go_enter Tryz.func53, Tryz.ntmps53
  go_wp2_with fail
  refine (S1 _ HP.out h0 h1).mono ?_
  rintro e w1 ⟨r, rfl, hr, rfl⟩
  by_cases hr0 : r < 0
  · clear hr
    go_wp2
    go_ret
    exact ⟨-1, rfl, fun h => absurd h (by omega), (Below.refl _ _).alloc (Nat.le_refl _) _⟩
  · obtain ⟨q1, q2⟩ := hr (by omega)
    have Q1 : Hid (np ≤ 1048576) := q1
    have q3 : 0 ≤ r := by omega
    clear hr q1 hr0 S1
    go_wp2_with fail
    refine (szInt1 la lc nl r _ HL.out q3 q2).mono ?_
    rintro e w1 ⟨r2, rfl, hr, rfl⟩
    by_cases hr0 : r2 < 0
    · clear hr
      go_wp2
      go_ret
      exact ⟨-1, rfl, fun h => absurd h (by omega), (Below.refl _ _).alloc (Nat.le_refl _) _⟩
    · obtain ⟨q1, q4⟩ := hr (by omega)
      have Q2 : Hid (nl ≤ 1048576) := q1
      have q5 : 0 ≤ r2 := by omega
      clear hr q1 hr0
      go_wp2_with fail
      refine (szIns1 ba bc nb r2 _ HB.out q5 q4).mono ?_
      rintro e w1 ⟨r3, rfl, hr, rfl⟩
      by_cases hr0 : r3 < 0
      · clear hr
        go_wp2
        go_ret
        exact ⟨-1, rfl, fun h => absurd h (by omega), (Below.refl _ _).alloc (Nat.le_refl _) _⟩
      · obtain ⟨q1, q6⟩ := hr (by omega)
        have Q3 : Hid (nb ≤ 1048576) := q1
        clear hr q1
        go_wp2
        go_ret
        exact ⟨r3, rfl, fun _ => ⟨⟨Q1.out, Q2.out, Q3.out⟩, q6⟩, (Below.refl _ _).alloc (Nat.le_refl _) _⟩

set_option maxRecDepth 2000000 in
set_option maxHeartbeats 1600000 in
theorem szFuns (a : Option Addr) (cap : Nat) (L : List Fun7) (l : Int) (w : World) (hF : Hid (Funs w a L)) (hn : Hid (L.length ≤ 9223372036854775807 ∧ ∀ f ∈ L, okF f)) (h0 : 0 ≤ l) (h1 : l ≤ 1048576) :
    Calls Tryz.prog 30 #[.slice a L.length cap, .int .i64 l] w fun e w' => ∃ r : Int, e = .returned (.int .i64 r) ∧ (0 ≤ r → (L.length ≤ 1048576 ∧ ∀ f ∈ L, smF f) ∧ r ≤ 1048576) ∧ Below w.heap.size w w' := by
  obtain ⟨n, hnn⟩ : ∃ n, L.length = n := ⟨_, rfl⟩
  have hn2 : n ≤ 9223372036854775807 := by have := hn.out.1; omega
  have HN : Hid (L.length = n) := hnn
  rw [hnn]
  clear hnn
  obtain ⟨N, hN⟩ : ∃ N : Int, (n : Int) = N := ⟨_, rfl⟩
  by_cases h2 : N ≤ l
  · have hn3 : n ≤ 1048576 := by omega
    obtain ⟨l1, hl1⟩ : ∃ l1, l - N = l1 := ⟨_, rfl⟩
    have g0 : 0 ≤ l1 := by omega
    have g1 : l1 ≤ 1048576 := by omega
    go_enter Tryz.func30, Tryz.ntmps30
    go_wp2
    clear hN hl1 h0 h1 h2 hn2
    go_loopw [1, 5] (fun v i wr => ∃ (k : Nat) (r : Int), k ≤ n ∧ i = .int .i64 k ∧ v = .int .i64 r ∧ 0 ≤ r ∧ r ≤ 1048576 ∧ Hid (∀ j (h : j < L.length), j < k → smF L[j]) ∧ Below w.heap.size w wr) (fun _ i _ => n - (intOf i).toNat)
    case atStart => exact ⟨0, _, by omega, by first | rfl | simp, by first | rfl | simp, by omega, by omega, fun j _ h => absurd h (by omega), Below.refl _ _⟩
    case round =>
      obtain ⟨k, r, hk, rfl, rfl, hr0, hr1, hS, hnx⟩ := hrel
      clear g0 g1
      by_cases hlt : k < n
      · have hkL : k < L.length := by have := HN.out; omega
        obtain ⟨b, off, rfl, hb, hc⟩ := hF.out.at k hkL
        have hok := hn.out.2 L[k] (List.getElem_mem _)
        obtain ⟨f, hf⟩ : ∃ f, L[k] = f := ⟨_, rfl⟩
        rw [hf] at hc hok
        have HF : Hid (L[k] = f) := hf
        clear hf
        obtain ⟨pa, pc, la, lc, ba, bc, c0, c1, c2, c3, _⟩ := hc
        obtain ⟨ps, res, ls, body⟩ := f
        simp only at c0 c1 c2 c3
        have d0 : wr.cell? ⟨b, off + k * 4, none⟩ = some (.slice pa ps.length pc) := (hnx.cell (by exact hb)).trans c0
        have d1 : wr.cell? ⟨b, off + k * 4 + 1, none⟩ = some (.int .i64 res) := (hnx.cell (by exact hb)).trans c1
        have d2 : wr.cell? ⟨b, off + k * 4 + 2, none⟩ = some (.slice la ls.length lc) := (hnx.cell (by exact hb)).trans c2
        have d3 : wr.cell? ⟨b, off + k * 4 + 3, none⟩ = some (.slice ba body.length bc) := (hnx.cell (by exact hb)).trans c3
        have HO : Hid (okF ⟨ps, res, ls, body⟩) := hok
        clear c0 c1 c2 c3 hok
        go_wp2_with fail
        refine (szFun1 pa la ba pc lc bc ps.length ls.length body.length res r _ ⟨HO.out.1, HO.out.2.1, HO.out.2.2.1⟩ hr0 hr1).mono ?_
        rintro e w1 ⟨r2, rfl, hr, hb1⟩
        by_cases hrn : r2 < 0
        · clear hr
          go_wp2
          go_ret
          exact ⟨-1, rfl, fun h => absurd h (by omega), below2 hnx hb1⟩
        · obtain ⟨q1, q2⟩ := hr (by omega)
          have Q1 : Hid (smF L[k]) := by unfold Hid; rw [HF.out]; exact ⟨q1.1, q1.2.1, q1.2.2, HO.out.2.2.2⟩
          have q3 : 0 ≤ r2 := by omega
          have HB1 : Hid (Below w.heap.size w w1) := below2 hnx hb1
          clear hr q1 hb1 hr0 hr1
          go_wp2
          go_roundw
          case rel =>
            refine ⟨k + 1, r2, by omega, by go_num, rfl, q3, q2, fun j hj hjk => ?_, HB1.out⟩
            by_cases e : j = k
            · subst e; exact Q1.out
            · exact hS.out j hj (by omega)
          case measure => simp [intOf]; omega
      · go_wp2
        go_ret
        refine ⟨r, rfl, fun _ => ⟨⟨hn3, fun f hf => ?_⟩, hr1⟩, hnx⟩
        obtain ⟨j, hj, rfl⟩ := List.mem_iff_getElem.1 hf
        exact hS.out j hj (by have := HN.out; omega)
  · go_enter Tryz.func30, Tryz.ntmps30
    go_wp2
    go_ret
    exact ⟨_, rfl, fun h => absurd h (by omega), Below.refl _ _⟩

set_option maxRecDepth 100000 in
set_option maxHeartbeats 1600000 in
theorem szMod (l : Loc7) (M : Mod7) (w : World) (hM : Hid (ModAt w l M)) (hok : Hid (okM M)) :
    Calls Tryz.prog 16 #[modV l M, .int .i64 1048576] w fun e w' => ∃ r : Int, e = .returned (.int .i64 r) ∧ (0 ≤ r → smM M) ∧ Below w.heap.size w w' := by
  obtain ⟨fa, fc, ga, gc⟩ := l
  obtain ⟨fs, gs, mem, pages, most, start⟩ := M
  unfold modV
  simp only
  go_enter Tryz.func16, Tryz.ntmps16
  go_wp2_with fail
  refine (szFuns fa fc fs 1048576 _ (hM.out.1.below ((Below.refl _ _).alloc (Nat.le_refl _) _)) ⟨hok.out.1, hok.out.2.2.1⟩ (by omega) (by omega)).mono ?_
  rintro e w1 ⟨r, rfl, hr, hb1⟩
  have HB1 : Hid (Below w.heap.size w w1) := below2 ((Below.refl _ _).alloc (Nat.le_refl _) _) hb1
  have hc1 : w1.cell? ⟨w.heap.size, 1, none⟩ = some (.slice ga gs.length gc) := (hb1.cell (p := ⟨w.heap.size, 1, none⟩) (by simp)).trans (newCell rfl rfl)
  clear hb1
  by_cases hr0 : r < 0
  · clear hr
    go_wp2
    go_ret
    exact ⟨-1, rfl, fun h => absurd h (by omega), HB1.out⟩
  · obtain ⟨q1, q2⟩ := hr (by omega)
    have Q1 : Hid (fs.length ≤ 1048576 ∧ ∀ f ∈ fs, smF f) := q1
    have q3 : 0 ≤ r := by omega
    clear hr q1 hr0
    go_wp2_with fail
    refine (szGlo1 ga gc gs.length r _ hok.out.2.1 q3 q2).mono ?_
    rintro e w2 ⟨r2, rfl, hr, rfl⟩
    by_cases hr0 : r2 < 0
    · clear hr
      go_wp2
      go_ret
      exact ⟨-1, rfl, fun h => absurd h (by omega), HB1.out⟩
    · obtain ⟨q1, q4⟩ := hr (by omega)
      have Q2 : Hid (gs.length ≤ 1048576) := q1
      clear hr q1
      go_wp2
      go_ret
      exact ⟨r2, rfl, fun _ => ⟨Q1.out.1, Q2.out, Q1.out.2, hok.out.2.2.2⟩, HB1.out⟩

end Go.Proofs.YtdcfflmfimepfaaGreat

namespace Go.Proofs.YtdcfflmfimepfaaGreat
open Go.ChangeShapes Go.WideShapes Go.ChangeAt Go.RowKit Go.Deep

def IsInss (W : World) (a : Option Addr) (L : List (Int × Int)) : Prop :=
  ∃ b off, (L ≠ [] → a = some ⟨b, off, none⟩ ∧ b < W.heap.size) ∧ insAt W b off L ∧ L.length ≤ 9223372036854775807 ∧ fits L

theorem block_of_cell {w : World} {b o : Nat} {v : Value} (h : w.cell? ⟨b, o, none⟩ = some v) : b < w.heap.size := by
  rcases Nat.lt_or_ge b w.heap.size with h' | h'
  · exact h'
  · simp [World.cell?, Array.getElem?_eq_none h'] at h

theorem insCells : Tryz.prog.cellsOf 159 = 2 := by kernel_rfl
theorem insInt : Tryz.prog.cellsOf 3 = 1 := by kernel_rfl

set_option maxRecDepth 100000 in
theorem open_inss {H : Type} {enc : TypeId × Value → H} {W : World} {a : Option Addr} {len cap : Nat} {fuel : Nat} {x : DataW H × List MemPlace}
    (hf : DataW.trod enc Tryz.prog W 0 (fun _ => true) true fuel 93 (Value.slice a len cap).cells.toList = some x) : ∃ L : List (Int × Int), len = L.length ∧ IsInss W a L := by
  rcases open_slice_pairs Tryz.underlying93 (by rw [Tryz.underlying159]) insCells rfl rfl insInt insInt hf with ⟨hcs, _⟩ | ⟨ad, l, c, m, n, V0, V1, D0, D1, P0, P1, hcs, _, hl, hm, hmm, _, hc⟩
  · simp [Value.cells] at hcs
    obtain ⟨rfl, rfl, rfl⟩ := hcs
    exact ⟨[], rfl, 0, 0, fun h => absurd rfl h, fun i h => absurd h (by simp), by simp, fun i h => absurd h (by simp)⟩
  · simp [Value.cells] at hcs
    obtain ⟨rfl, rfl, rfl⟩ := hcs
    have hm' : m = cap := by simpa using hmm
    subst hm'
    unfold maxLen at hm
    have hv : ∀ i, i < m → ∃ p : Int × Int, V0 i = .int .i64 p.1 ∧ V1 i = .int .i64 p.2 ∧ (-9223372036854775808 ≤ p.2 ∧ p.2 ≤ 9223372036854775807) := fun i hi => by
      obtain ⟨_, _, t0, t1⟩ := hc i hi
      obtain ⟨z, e0, _, _⟩ := DataW.trod_int Tryz.underlying3 t0
      obtain ⟨s, e1, _, hs⟩ := DataW.trod_int Tryz.underlying3 t1
      simp at e0 e1
      exact ⟨(z, s), e0, e1, bounds_i64 hs⟩
    obtain ⟨f, hfv⟩ := choose_lt hv
    refine ⟨(List.range len).map f, by simp, ?_⟩
    by_cases h0 : len = 0
    · subst h0
      exact ⟨0, 0, fun h => absurd rfl h, fun i h => absurd h (by simp), by simp, fun i h => absurd h (by simp)⟩
    · obtain ⟨b, off, spot⟩ := ad
      have hc0 := (hc 0 (by omega)).1
      have hspot : spot = none := by simpa [Addr.add] using World.cell?_spot hc0
      subst hspot
      have hadd : ∀ j, (⟨b, off, none⟩ : Addr).add j = ⟨b, off + j, none⟩ := fun j => by rw [Addr.add_lit]
      refine ⟨b, off, fun _ => ⟨rfl, block_of_cell (by rw [hadd] at hc0; exact hc0)⟩, fun i hi => ?_, by simp; omega, fun i hi => ?_⟩
      · have hi' : i < len := by simpa using hi
        obtain ⟨c0, c1, _, _⟩ := hc i (by omega)
        obtain ⟨e0, e1, _⟩ := hfv i (by omega)
        rw [hadd] at c0 c1
        simp only [List.getElem_map, List.getElem_range]
        rw [← e0, ← e1]
        exact ⟨c0, c1⟩
      · have hi' : i < len := by simpa using hi
        obtain ⟨_, _, hs⟩ := hfv i (by omega)
        simp only [List.getElem_map, List.getElem_range]
        exact hs

end Go.Proofs.YtdcfflmfimepfaaGreat

namespace Go.Proofs.YtdcfflmfimepfaaGreat
open Go.ChangeShapes Go.WideShapes Go.ChangeAt Go.RowKit Go.Deep

section
variable {H : Type} {enc : TypeId × Value → H} {P : Program} {w : World} {base : Nat} {spare : Nat → Bool} {held : Bool}
/-- A struct's fields of one cell each. -/
theorem trod_field {t : TypeId} {fs : Array Field} {fuel : Nat} {cs : List Value} {x : DataW H × List MemPlace} (ht : P.underlying t = some (.struct fs)) (hone : oneCellFields P fs = true) (hC : P.cellsOf t = fs.size)
    (h : DataW.trod enc P w base spare held fuel t cs = some x) : cs.length = fs.size ∧ ∀ (i : Nat) (f : Field), fs[i]? = some f → ∃ v y n, cs[i]? = some v ∧ DataW.trod enc P w base spare held n f.type [v] = some y := by
  obtain ⟨xs, n, _, _, hl, hlen, hf⟩ := DataW.trod_struct ht h
  refine ⟨hl.trans hC, fun i f hi => ?_⟩
  obtain ⟨o, k⟩ := hone_of hone i f hi
  have hlt : i < fs.size := by
    rcases Nat.lt_or_ge i fs.size with h' | h'
    · exact h'
    · rw [Array.getElem?_eq_none h'] at hi; simp at hi
  have h1 := hf i f hi
  rw [o, k] at h1
  have hcl : i < cs.length := by omega
  have e1 : (cs.drop i).take 1 = [cs[i]] := by
    rw [List.drop_eq_getElem_cons hcl]; rfl
  rw [e1, List.getElem?_eq_getElem (by omega)] at h1
  exact ⟨cs[i], _, n, List.getElem?_eq_getElem hcl, h1⟩
/-- A cell that holds a slice. -/
theorem trod_sliceV {t e : TypeId} {fuel : Nat} {v : Value} {x : DataW H × List MemPlace} (ht : P.underlying t = some (.slice e)) (h : DataW.trod enc P w base spare held fuel t [v] = some x) : ∃ a len cap, v = .slice a len cap := by
  rcases DataW.trod_slice ht h with ⟨h0, _⟩ | ⟨a, len, cap, _, _, _, _, h0, _⟩
  · simp at h0; exact ⟨none, 0, 0, h0⟩
  · simp at h0; exact ⟨some a, len, cap, h0⟩
end

theorem funCells : Tryz.prog.cellsOf 95 = 4 := by kernel_rfl
theorem gloCells : Tryz.prog.cellsOf 103 = 3 := by kernel_rfl
theorem modCells : Tryz.prog.cellsOf 25 = 6 := by kernel_rfl

/-- A func that comes in, at four cells. -/
theorem open_fun {H : Type} {enc : TypeId × Value → H} {W : World} {fuel : Nat} {cs : List Value} {x : DataW H × List MemPlace}
    (h : DataW.trod enc Tryz.prog W 0 (fun _ => true) true fuel 95 cs = some x) :
    ∃ f pa pc la lc ba bc, cs[0]? = some (.slice pa f.ps.length pc) ∧ cs[1]? = some (.int .i64 f.res) ∧ cs[2]? = some (.slice la f.ls.length lc) ∧ cs[3]? = some (.slice ba f.body.length bc) ∧ FunRows W pa la ba f ∧ okF f := by
  obtain ⟨_, hf⟩ := trod_field Tryz.underlying95 (by kernel_rfl) funCells h
  obtain ⟨v0, y0, n0, e0, h0⟩ := hf 0 _ rfl
  obtain ⟨v1, y1, n1, e1, h1⟩ := hf 1 _ rfl
  obtain ⟨v2, y2, n2, e2, h2⟩ := hf 2 _ rfl
  obtain ⟨v3, y3, n3, e3, h3⟩ := hf 3 _ rfl
  obtain ⟨pa, pl, pc, rfl⟩ := trod_sliceV Tryz.underlying92 h0
  obtain ⟨res, hr, _, _⟩ := DataW.trod_int Tryz.underlying3 h1
  obtain ⟨la, ll, lc, rfl⟩ := trod_sliceV Tryz.underlying92 h2
  obtain ⟨ba, bl, bc, rfl⟩ := trod_sliceV Tryz.underlying93 h3
  simp at hr
  subst hr
  obtain ⟨ps, rfl, hp, hpl, _⟩ := opened_ints (enc := enc) (W := W) (d := y0.1) (p := y0.2) ⟨n0, h0⟩
  obtain ⟨ls, rfl, hq, hql, _⟩ := opened_ints (enc := enc) (W := W) (d := y2.1) (p := y2.2) ⟨n2, h2⟩
  obtain ⟨body, rfl, b, off, hb, hi, hbl, hfit⟩ := open_inss (enc := enc) (W := W) (fuel := n3) (x := y3) h3
  exact ⟨⟨ps, res, ls, body⟩, pa, pc, la, lc, ba, bc, e0, e1, e2, e3, ⟨hp, hq, fun hn => ⟨b, off, (hb hn).1, (hb hn).2, hi⟩⟩, hpl, hql, hbl, hfit⟩
/-- A global that comes in, at three cells. -/
theorem open_glo {H : Type} {enc : TypeId × Value → H} {W : World} {fuel : Nat} {cs : List Value} {x : DataW H × List MemPlace}
    (h : DataW.trod enc Tryz.prog W 0 (fun _ => true) true fuel 103 cs = some x) :
    ∃ g : Glo7, cs[0]? = some (.int .i64 g.ty) ∧ cs[1]? = some (.bool g.fixed) ∧ cs[2]? = some (.int .u64 g.bits) ∧ okG g := by
  obtain ⟨_, hf⟩ := trod_field Tryz.underlying103 (by kernel_rfl) gloCells h
  obtain ⟨v0, y0, n0, e0, h0⟩ := hf 0 _ rfl
  obtain ⟨v1, y1, n1, e1, h1⟩ := hf 1 _ rfl
  obtain ⟨v2, y2, n2, e2, h2⟩ := hf 2 _ rfl
  obtain ⟨ty, hr0, _, _⟩ := DataW.trod_int Tryz.underlying3 h0
  obtain ⟨fx, hr1, _⟩ := DataW.trod_bool Tryz.underlying4 h1
  obtain ⟨bits, hr2, _, hw⟩ := DataW.trod_int Tryz.underlying78 h2
  simp at hr0 hr1 hr2
  subst hr0 hr1 hr2
  exact ⟨⟨ty, fx, bits⟩, e0, e1, e2, bounds_u64 hw⟩

theorem open_funs {H : Type} {enc : TypeId × Value → H} {W : World} {a : Option Addr} {len cap : Nat} {fuel : Nat} {x : DataW H × List MemPlace}
    (h : DataW.trod enc Tryz.prog W 0 (fun _ => true) true fuel 22 [.slice a len cap] = some x) : ∃ L : List Fun7, len = L.length ∧ Funs W a L ∧ L.length ≤ 9223372036854775807 ∧ ∀ f ∈ L, okF f := by
  rcases open_slice Tryz.underlying22 h with ⟨h0, _⟩ | ⟨ad, l, c, m, n, D, Pl, hcs, _, hl, hm, hmm, _, hx⟩
  · simp at h0
    obtain ⟨rfl, rfl, rfl⟩ := h0
    exact ⟨[], rfl, fun h => absurd rfl h, by simp, by simp⟩
  · simp at hcs
    obtain ⟨rfl, rfl, rfl⟩ := hcs
    unfold maxLen at hm
    have hm' : m = cap := by simpa using hmm
    subst hm'
    have each : ∀ i, i < m → ∃ f : Fun7, (∃ pa pc la lc ba bc, W.cell? (ad.add (i * 4)) = some (.slice pa f.ps.length pc) ∧ W.cell? (ad.add (i * 4 + 1)) = some (.int .i64 f.res) ∧ W.cell? (ad.add (i * 4 + 2)) = some (.slice la f.ls.length lc) ∧ W.cell? (ad.add (i * 4 + 3)) = some (.slice ba f.body.length bc) ∧ FunRows W pa la ba f) ∧ okF f := fun i hi => by
      obtain ⟨cs', h1, h2⟩ := hx i hi
      rw [funCells] at h1
      obtain ⟨_, hlen, hcell⟩ := World.cells?_some h1
      obtain ⟨f, pa, pc, la, lc, ba, bc, e0, e1, e2, e3, hr, hok⟩ := open_fun h2
      have c0 := hcell 0 (by omega)
      have c1 := hcell 1 (by omega)
      have c2 := hcell 2 (by omega)
      have c3 := hcell 3 (by omega)
      rw [add_add] at c0 c1 c2 c3
      exact ⟨f, ⟨pa, pc, la, lc, ba, bc, by rw [← e0]; simpa using c0, by rw [← e1]; exact c1, by rw [← e2]; exact c2, by rw [← e3]; exact c3, hr⟩, hok⟩
    have inh : Inhabited Fun7 := ⟨⟨[], 0, [], []⟩⟩
    obtain ⟨f, hf⟩ := choose_lt each
    refine ⟨(List.range len).map f, by simp, fun hn => ?_, by simp; omega, fun g hg => ?_⟩
    · have h0 : 0 < len := by
        rcases Nat.eq_zero_or_pos len with h | h
        · subst h; simp at hn
        · exact h
      obtain ⟨b, off, spot⟩ := ad
      obtain ⟨⟨_, _, _, _, _, _, hc0, _⟩, _⟩ := hf 0 (by omega)
      have hspot : spot = none := by simpa [Addr.add] using World.cell?_spot hc0
      subst hspot
      have hadd : ∀ j, (⟨b, off, none⟩ : Addr).add j = ⟨b, off + j, none⟩ := fun j => by rw [Addr.add_lit]
      refine ⟨b, off, rfl, block_of_cell (by rw [hadd] at hc0; exact hc0), fun i hi => ?_⟩
      have hi' : i < len := by simpa using hi
      obtain ⟨⟨pa, pc, la, lc, ba, bc, c0, c1, c2, c3, hr⟩, _⟩ := hf i (by omega)
      rw [hadd] at c0 c1 c2 c3
      simp only [List.getElem_map, List.getElem_range]
      exact ⟨pa, pc, la, lc, ba, bc, c0, c1, c2, c3, hr⟩
    · obtain ⟨i, hi, rfl⟩ := List.mem_map.1 hg
      exact (hf i (by have := List.mem_range.1 hi; omega)).2
theorem open_glos {H : Type} {enc : TypeId × Value → H} {W : World} {a : Option Addr} {len cap : Nat} {fuel : Nat} {x : DataW H × List MemPlace}
    (h : DataW.trod enc Tryz.prog W 0 (fun _ => true) true fuel 23 [.slice a len cap] = some x) : ∃ L : List Glo7, len = L.length ∧ Glos W a L ∧ L.length ≤ 9223372036854775807 ∧ ∀ f ∈ L, okG f := by
  rcases open_slice Tryz.underlying23 h with ⟨h0, _⟩ | ⟨ad, l, c, m, n, D, Pl, hcs, _, hl, hm, hmm, _, hx⟩
  · simp at h0
    obtain ⟨rfl, rfl, rfl⟩ := h0
    exact ⟨[], rfl, fun h => absurd rfl h, by simp, by simp⟩
  · simp at hcs
    obtain ⟨rfl, rfl, rfl⟩ := hcs
    unfold maxLen at hm
    have hm' : m = cap := by simpa using hmm
    subst hm'
    have each : ∀ i, i < m → ∃ f : Glo7, (W.cell? (ad.add (i * 3)) = some (.int .i64 f.ty) ∧ W.cell? (ad.add (i * 3 + 1)) = some (.bool f.fixed) ∧ W.cell? (ad.add (i * 3 + 2)) = some (.int .u64 f.bits)) ∧ okG f := fun i hi => by
      obtain ⟨cs', h1, h2⟩ := hx i hi
      rw [gloCells] at h1
      obtain ⟨_, hlen, hcell⟩ := World.cells?_some h1
      obtain ⟨f, e0, e1, e2, hok⟩ := open_glo h2
      have c0 := hcell 0 (by omega)
      have c1 := hcell 1 (by omega)
      have c2 := hcell 2 (by omega)
      rw [add_add] at c0 c1 c2
      exact ⟨f, ⟨by rw [← e0]; simpa using c0, by rw [← e1]; exact c1, by rw [← e2]; exact c2⟩, hok⟩
    have inh : Inhabited Glo7 := ⟨⟨0, false, 0⟩⟩
    obtain ⟨f, hf⟩ := choose_lt each
    refine ⟨(List.range len).map f, by simp, fun hn => ?_, by simp; omega, fun g hg => ?_⟩
    · have h0 : 0 < len := by
        rcases Nat.eq_zero_or_pos len with h | h
        · subst h; simp at hn
        · exact h
      obtain ⟨b, off, spot⟩ := ad
      obtain ⟨⟨hc0, _⟩, _⟩ := hf 0 (by omega)
      have hspot : spot = none := by simpa [Addr.add] using World.cell?_spot hc0
      subst hspot
      have hadd : ∀ j, (⟨b, off, none⟩ : Addr).add j = ⟨b, off + j, none⟩ := fun j => by rw [Addr.add_lit]
      refine ⟨b, off, rfl, block_of_cell (by rw [hadd] at hc0; exact hc0), fun i hi => ?_⟩
      have hi' : i < len := by simpa using hi
      obtain ⟨⟨c0, c1, c2⟩, _⟩ := hf i (by omega)
      rw [hadd] at c0 c1 c2
      simp only [List.getElem_map, List.getElem_range]
      exact ⟨c0, c1, c2⟩
    · obtain ⟨i, hi, rfl⟩ := List.mem_map.1 hg
      exact (hf i (by have := List.mem_range.1 hi; omega)).2

theorem list6 {α : Type} {cs : List α} (h : cs.length = 6) : ∃ c0 c1 c2 c3 c4 c5, cs = [c0, c1, c2, c3, c4, c5] := by
  match cs, h with
  | [c0, c1, c2, c3, c4, c5], _ => exact ⟨c0, c1, c2, c3, c4, c5, rfl⟩
def IsMod (W : World) (l : Loc7) (M : Mod7) : Prop := ModAt W l M ∧ okM M ∧ (-9223372036854775808 ≤ M.start ∧ M.start ≤ 9223372036854775807)

set_option maxRecDepth 100000 in
/-- A module that comes in. -/
theorem open_mod {H : Type} {enc : TypeId × Value → H} {W : World} {b0 : Nat} {v : Value} {d : DataW H} {p : List MemPlace} (hv : Value.okWide Tryz.prog W .any b0 25 v)
    (h : DataW.Trod enc Tryz.prog W 0 (fun _ => true) true 25 v d p) : ∃ l M, v = modV l M ∧ IsMod W l M := by
  obtain ⟨⟨cs⟩, rfl, hsz⟩ := okWide_struct Tryz.underlying25 hv
  rw [modCells] at hsz
  obtain ⟨c0, c1, c2, c3, c4, c5, rfl⟩ := list6 (by simpa using hsz)
  obtain ⟨fuel, hf⟩ := h
  obtain ⟨_, hf⟩ := trod_field Tryz.underlying25 (by kernel_rfl) modCells hf
  obtain ⟨v0, y0, n0, e0, h0⟩ := hf 0 _ rfl
  obtain ⟨v1, y1, n1, e1, h1⟩ := hf 1 _ rfl
  obtain ⟨v2, y2, n2, e2, h2⟩ := hf 2 _ rfl
  obtain ⟨v3, y3, n3, e3, h3⟩ := hf 3 _ rfl
  obtain ⟨v4, y4, n4, e4, h4⟩ := hf 4 _ rfl
  obtain ⟨v5, y5, n5, e5, h5⟩ := hf 5 _ rfl
  simp [Value.cells] at e0 e1 e2 e3 e4 e5
  subst e0 e1 e2 e3 e4 e5
  obtain ⟨fa, fl, fc, rfl⟩ := trod_sliceV Tryz.underlying22 h0
  obtain ⟨ga, gl, gc, rfl⟩ := trod_sliceV Tryz.underlying23 h1
  obtain ⟨mem, r2, _⟩ := DataW.trod_bool Tryz.underlying4 h2
  obtain ⟨pages, r3, _, _⟩ := DataW.trod_int Tryz.underlying3 h3
  obtain ⟨most, r4, _, _⟩ := DataW.trod_int Tryz.underlying3 h4
  obtain ⟨start, r5, _, hw⟩ := DataW.trod_int Tryz.underlying3 h5
  simp at r2 r3 r4 r5
  subst r2 r3 r4 r5
  obtain ⟨fs, rfl, hF, hFl, hFo⟩ := open_funs h0
  obtain ⟨gs, rfl, hG, hGl, hGo⟩ := open_glos h1
  exact ⟨⟨fa, fc, ga, gc⟩, ⟨fs, gs, mem, pages, most, start⟩, rfl, ⟨hF, hG⟩, ⟨hFl, hGl, hFo, hGo⟩, bounds_i64 hw⟩

end Go.Proofs.YtdcfflmfimepfaaGreat
