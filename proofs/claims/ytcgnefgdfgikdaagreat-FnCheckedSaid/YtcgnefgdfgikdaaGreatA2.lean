/-
  A slice of integers in memory, and the walks of what the laws do with it: its copy, its comparison.
-/
import Derived.Test.YtcgnefgdfgikdaaGreatRows
import Derived.WalkKit
import Derived.WalkLawsBesides
import Derived.ProofKit
import Derived.OpenShut
import Derived.Below
import Derived.ChangeOld
import Derived.Laws.MakeOwn
import Derived.Deep.QuietTactic
import Derived.BigQuiet
import Derived.Test.YtcgnefgdfgikdaaGreatA1
import Derived.Test.YtcgnefgdfgikdaaGreatU4
import Derived.Test.YtcgnefgdfgikdaaGreatC1
import Derived.Test.YtcgnefgdfgikdaaGreatA3
namespace Go.Proofs.YtcgnefgdfgikdaaGreat
open Go.ChangeShapes Go.WideShapes Go.ChangeAt Go.RowKit

/-- The numbers L lie behind the address a. -/
def Ints (w : World) (a : Option Addr) (L : List Int) : Prop :=
  L ≠ [] → ∃ b off, a = some ⟨b, off, none⟩ ∧ b < w.heap.size ∧ ∀ i (h : i < L.length), w.cell? ⟨b, off + i, none⟩ = some (.int .i64 L[i])
theorem Ints.below {w w' : World} {a : Option Addr} {L : List Int} (h : Ints w a L) (hb : Below w.heap.size w w') : Ints w' a L := fun hn => by
  obtain ⟨b, off, rfl, hl, hc⟩ := h hn
  exact ⟨b, off, rfl, Nat.lt_of_lt_of_le hl hb.size, fun i hi => (hb.cell (p := ⟨b, off + i, none⟩) hl).trans (hc i hi)⟩
theorem Ints.at {w : World} {a : Option Addr} {L : List Int} (h : Ints w a L) (k : Nat) (hk : k < L.length) : ∃ b off, a = some ⟨b, off, none⟩ ∧ b < w.heap.size ∧ w.cell? ⟨b, off + k, none⟩ = some (.int .i64 L[k]) := by
  obtain ⟨b, off, ha, hl, hc⟩ := h (fun h => by simp [h] at hk)
  exact ⟨b, off, ha, hl, hc k hk⟩

theorem iblock_of_cell {w : World} {b o : Nat} {v : Value} (h : w.cell? ⟨b, o, none⟩ = some v) : b < w.heap.size := by
  rcases Nat.lt_or_ge b w.heap.size with h' | h'
  · exact h'
  · simp [World.cell?, Array.getElem?_eq_none h'] at h

theorem int1 : Tryz.prog.cellsOf 3 = 1 := by kernel_rfl

/-- What is read of a slice of integers that comes in. -/
theorem opened_ints {H : Type} {enc : TypeId × Value → H} {W : World} {a : Option Addr} {len cap : Nat} {d : DataW H} {p : List MemPlace}
    (h0 : ∃ fuel, DataW.trod enc Tryz.prog W 0 (fun _ => true) true fuel 36 (Value.slice a len cap).cells.toList = some (d, p)) :
    ∃ L : List Int, len = L.length ∧ Ints W a L ∧ L.length ≤ 9223372036854775807 ∧ ∀ x ∈ L, (Lit.int .i64 x).wf = true := by
  obtain ⟨fuel, hf⟩ := h0
  rcases open_ints Tryz.underlying36 Tryz.underlying3 (by kernel_rfl) hf with ⟨hcs, _⟩ | ⟨x, l, c, zs, hcs, _, hl, hm, hz, _, hcell, hwz⟩
  · simp [Value.cells] at hcs
    obtain ⟨rfl, rfl, rfl⟩ := hcs
    exact ⟨[], rfl, fun h => absurd rfl h, by simp, by simp⟩
  · simp [Value.cells] at hcs
    obtain ⟨rfl, rfl, rfl⟩ := hcs
    have hz' : zs.length = cap := by simpa using hz
    unfold maxLen at hm
    refine ⟨zs.take len, by simp; omega, fun hn => ?_, by simp; omega, fun y hy => hwz y (List.mem_of_mem_take hy)⟩
    have h0 : 0 < len := by
      rcases Nat.eq_zero_or_pos len with h | h
      · subst h; simp at hn
      · exact h
    obtain ⟨b, off, spot⟩ := x
    have hc0 := hcell 0 (by omega)
    have hspot : spot = none := by simpa [Addr.add] using World.cell?_spot hc0
    subst hspot
    have hadd : ∀ j, (⟨b, off, none⟩ : Addr).add j = ⟨b, off + j, none⟩ := fun j => by rw [Addr.add_lit]
    refine ⟨b, off, rfl, iblock_of_cell (by rw [hadd] at hc0; exact hc0), fun i hi => ?_⟩
    have hi2 : i < zs.length := by simp at hi; omega
    have hc := hcell i hi2
    rw [hadd] at hc
    rw [hc]
    simp [hi2]

theorem icell_of_block {w : World} {g : Nat} {arr : Array Value} {t : TypeId} (h : w.heap[g]? = some (.cells arr t (0, 0))) (i : Nat) : w.cell? ⟨g, i, none⟩ = arr[i]? := by
  simp [World.cell?, h]
theorem ifree_of_block {w : World} {g : Nat} {arr : Array Value} {t : TypeId} (h : w.heap[g]? = some (.cells arr t (0, 0))) (i : Nat) : w.frozen? ⟨g, i, none⟩ = false := by
  simp [World.frozen?, h]

theorem Tryz.info3 : (Tryz.prog.info? 3).map (fun i => (i.zero, i.size, i.bytes)) = some (some (.int .i64 0), 1, 8) := by kernel_rfl

end Go.Proofs.YtcgnefgdfgikdaaGreat

namespace Go.Proofs.YtcgnefgdfgikdaaGreat
open Go.ChangeShapes Go.WideShapes Go.ChangeAt Go.RowKit

/-- Numbers as the values of their cells. -/
def iv (L : List Int) : List Value := L.map fun x => .int .i64 x
theorem iv_app (l m : List Int) : iv l ++ iv m = iv (l ++ m) := by simp [iv]
theorem iv_one (l : List Int) : ∀ u ∈ iv l, u.oneCell' = true := by
  intro u hu; simp only [iv, List.mem_map] at hu; obtain ⟨b, _, rfl⟩ := hu; rfl
theorem ints_of_row {w : World} {B : Nat} {v : Value} {L : List Int} (h : w.ownsRow B 3 1 v L.length (iv L)) : ∃ a cap, v = .slice a L.length cap ∧ Ints w a L := by
  have h' := h
  rcases h'.2 with ⟨rfl, h0⟩ | ⟨g, cap, cur, rfl, _, hb, _⟩
  · obtain rfl : L = [] := List.length_eq_zero_iff.1 h0
    exact ⟨none, 0, rfl, fun h => absurd rfl h⟩
  · refine ⟨_, cap, rfl, fun _ => ⟨g, 0, rfl, lt_of_block hb, fun i hi => ?_⟩⟩
    rw [Nat.zero_add, h.cellAt i (by omega)]
    simp [iv, hi]

/-- The marks of n integers. -/
def marksI (n : Nat) : List Int := (List.range n).map fun (i : Nat) => 1 + (i : Int)
theorem marksI_len (n : Nat) : (marksI n).length = n := by simp [marksI]
theorem marksI_at (n i : Nat) (h : i < (marksI n).length) : (marksI n)[i] = 1 + (i : Int) := by simp [marksI]

end Go.Proofs.YtcgnefgdfgikdaaGreat

namespace Go.Proofs.YtcgnefgdfgikdaaGreat
open Go.ChangeShapes Go.WideShapes Go.ChangeAt Go.RowKit

/-- The instructions L lie behind the address a. -/
def Inss (w : World) (a : Option Addr) (L : List (Int × Int)) : Prop :=
  L ≠ [] → ∃ b off, a = some ⟨b, off, none⟩ ∧ b < w.heap.size ∧ insAt w b off L
theorem Inss.below {w w' : World} {a : Option Addr} {L : List (Int × Int)} (h : Inss w a L) (hb : Below w.heap.size w w') : Inss w' a L := fun hn => by
  obtain ⟨b, off, rfl, hl, hc⟩ := h hn
  exact ⟨b, off, rfl, Nat.lt_of_lt_of_le hl hb.size, fun i hi => ⟨(hb.cell (p := ⟨b, off + i * 2, none⟩) hl).trans (hc i hi).1, (hb.cell (p := ⟨b, off + i * 2 + 1, none⟩) hl).trans (hc i hi).2⟩⟩
/-- As the walks of chapter 6 want it. -/
theorem Inss.parts {w : World} {a : Option Addr} {L : List (Int × Int)} (h : Inss w a L) : ∃ b off, Hid (L ≠ [] → a = some ⟨b, off, none⟩ ∧ b < w.heap.size) ∧ insAt w b off L := by
  by_cases e : L = []
  · exact ⟨0, 0, fun h => absurd e h, fun i hi => by subst e; simp at hi⟩
  · obtain ⟨b, off, ha, hl, hc⟩ := h e
    exact ⟨b, off, fun _ => ⟨ha, hl⟩, hc⟩
/-- An address that does not lead into block g. -/
def Off (g : Nat) (a : Option Addr) : Prop := ∀ b off, a = some ⟨b, off, none⟩ → b ≠ g
theorem setCell_other_cell (w : World) (g i b j : Nat) (v : Value) (h : b ≠ g) : (w.setCell ⟨g, i, none⟩ v).cell? ⟨b, j, none⟩ = w.cell? ⟨b, j, none⟩ := by
  unfold World.cell?
  rw [heap_setCell_other w ⟨g, i, none⟩ b v h]
theorem Ints.set {w : World} {a : Option Addr} {L : List Int} (h : Ints w a L) {g : Nat} (ho : Off g a) (i : Nat) (v : Value) : Ints (w.setCell ⟨g, i, none⟩ v) a L := fun hn => by
  obtain ⟨b, off, ha, hl, hc⟩ := h hn
  exact ⟨b, off, ha, by simpa using hl, fun j hj => (setCell_other_cell _ _ _ _ _ _ (ho b off ha)).trans (hc j hj)⟩
theorem Inss.set {w : World} {a : Option Addr} {L : List (Int × Int)} (h : Inss w a L) {g : Nat} (ho : Off g a) (i : Nat) (v : Value) : Inss (w.setCell ⟨g, i, none⟩ v) a L := fun hn => by
  obtain ⟨b, off, ha, hl, hc⟩ := h hn
  exact ⟨b, off, ha, by simpa using hl, fun j hj => ⟨(setCell_other_cell _ _ _ _ _ _ (ho b off ha)).trans (hc j hj).1, (setCell_other_cell _ _ _ _ _ _ (ho b off ha)).trans (hc j hj).2⟩⟩

/-- A func: its params, its result, its locals, its body. -/
structure Fun7 where
  ps : List Int
  res : Int
  ls : List Int
  body : List (Int × Int)
/-- A global. -/
structure Glo7 where
  ty : Int
  fixed : Bool
  bits : Int
/-- A module. -/
structure Mod7 where
  fs : List Fun7
  gs : List Glo7
  mem : Bool
  pages : Int
  most : Int
  start : Int

/-- What the slices of a func lead to. -/
def FunRows (w : World) (pa la ba : Option Addr) (f : Fun7) : Prop := Ints w pa f.ps ∧ Ints w la f.ls ∧ Inss w ba f.body
theorem FunRows.below {w w' : World} {pa la ba : Option Addr} {f : Fun7} (h : FunRows w pa la ba f) (hb : Below w.heap.size w w') : FunRows w' pa la ba f := ⟨h.1.below hb, h.2.1.below hb, h.2.2.below hb⟩
theorem FunRows.set {w : World} {pa la ba : Option Addr} {f : Fun7} (h : FunRows w pa la ba f) {g : Nat} (o1 : Off g pa) (o2 : Off g la) (o3 : Off g ba) (i : Nat) (v : Value) : FunRows (w.setCell ⟨g, i, none⟩ v) pa la ba f := ⟨h.1.set o1 i v, h.2.1.set o2 i v, h.2.2.set o3 i v⟩
/-- A func at four cells. -/
def FunAt (w : World) (b o : Nat) (f : Fun7) : Prop :=
  ∃ pa pc la lc ba bc, w.cell? ⟨b, o, none⟩ = some (.slice pa f.ps.length pc) ∧ w.cell? ⟨b, o + 1, none⟩ = some (.int .i64 f.res) ∧ w.cell? ⟨b, o + 2, none⟩ = some (.slice la f.ls.length lc) ∧ w.cell? ⟨b, o + 3, none⟩ = some (.slice ba f.body.length bc) ∧ Hid (FunRows w pa la ba f)
theorem FunAt.below {w w' : World} {b o : Nat} {f : Fun7} (h : FunAt w b o f) (hl : b < w.heap.size) (hb : Below w.heap.size w w') : FunAt w' b o f := by
  obtain ⟨pa, pc, la, lc, ba, bc, h0, h1, h2, h3, hr⟩ := h
  exact ⟨pa, pc, la, lc, ba, bc, (hb.cell (p := ⟨b, o, none⟩) hl).trans h0, (hb.cell (p := ⟨b, o + 1, none⟩) hl).trans h1, (hb.cell (p := ⟨b, o + 2, none⟩) hl).trans h2, (hb.cell (p := ⟨b, o + 3, none⟩) hl).trans h3, hr.out.below hb⟩
/-- The funcs L lie behind the address a. -/
def Funs (w : World) (a : Option Addr) (L : List Fun7) : Prop :=
  L ≠ [] → ∃ b off, a = some ⟨b, off, none⟩ ∧ b < w.heap.size ∧ ∀ i (h : i < L.length), FunAt w b (off + i * 4) L[i]
theorem Funs.below {w w' : World} {a : Option Addr} {L : List Fun7} (h : Funs w a L) (hb : Below w.heap.size w w') : Funs w' a L := fun hn => by
  obtain ⟨b, off, rfl, hl, hc⟩ := h hn
  exact ⟨b, off, rfl, Nat.lt_of_lt_of_le hl hb.size, fun i hi => (hc i hi).below hl hb⟩
theorem Funs.at {w : World} {a : Option Addr} {L : List Fun7} (h : Funs w a L) (k : Nat) (hk : k < L.length) : ∃ b off, a = some ⟨b, off, none⟩ ∧ b < w.heap.size ∧ FunAt w b (off + k * 4) L[k] := by
  obtain ⟨b, off, ha, hl, hc⟩ := h (fun h => by simp [h] at hk)
  exact ⟨b, off, ha, hl, hc k hk⟩
/-- The globals L lie behind the address a. -/
def GloAt (w : World) (b o : Nat) (g : Glo7) : Prop :=
  w.cell? ⟨b, o, none⟩ = some (.int .i64 g.ty) ∧ w.cell? ⟨b, o + 1, none⟩ = some (.bool g.fixed) ∧ w.cell? ⟨b, o + 2, none⟩ = some (.int .u64 g.bits)
theorem GloAt.below {w w' : World} {b o : Nat} {g : Glo7} (h : GloAt w b o g) (hl : b < w.heap.size) (hb : Below w.heap.size w w') : GloAt w' b o g :=
  ⟨(hb.cell (p := ⟨b, o, none⟩) hl).trans h.1, (hb.cell (p := ⟨b, o + 1, none⟩) hl).trans h.2.1, (hb.cell (p := ⟨b, o + 2, none⟩) hl).trans h.2.2⟩
def Glos (w : World) (a : Option Addr) (L : List Glo7) : Prop :=
  L ≠ [] → ∃ b off, a = some ⟨b, off, none⟩ ∧ b < w.heap.size ∧ ∀ i (h : i < L.length), GloAt w b (off + i * 3) L[i]
theorem Glos.below {w w' : World} {a : Option Addr} {L : List Glo7} (h : Glos w a L) (hb : Below w.heap.size w w') : Glos w' a L := fun hn => by
  obtain ⟨b, off, rfl, hl, hc⟩ := h hn
  exact ⟨b, off, rfl, Nat.lt_of_lt_of_le hl hb.size, fun i hi => (hc i hi).below hl hb⟩
theorem Glos.at {w : World} {a : Option Addr} {L : List Glo7} (h : Glos w a L) (k : Nat) (hk : k < L.length) : ∃ b off, a = some ⟨b, off, none⟩ ∧ b < w.heap.size ∧ GloAt w b (off + k * 3) L[k] := by
  obtain ⟨b, off, ha, hl, hc⟩ := h (fun h => by simp [h] at hk)
  exact ⟨b, off, ha, hl, hc k hk⟩

/-- Where a module's rows lie, and how wide they are. -/
structure Loc7 where
  fa : Option Addr
  fc : Nat
  ga : Option Addr
  gc : Nat
/-- A module as a value. -/
def modV (l : Loc7) (M : Mod7) : Value := .agg #[.slice l.fa M.fs.length l.fc, .slice l.ga M.gs.length l.gc, .bool M.mem, .int .i64 M.pages, .int .i64 M.most, .int .i64 M.start]
def ModAt (w : World) (l : Loc7) (M : Mod7) : Prop := Funs w l.fa M.fs ∧ Glos w l.ga M.gs
theorem ModAt.below {w w' : World} {l : Loc7} {M : Mod7} (h : ModAt w l M) (hb : Below w.heap.size w w') : ModAt w' l M := ⟨h.1.below hb, h.2.below hb⟩

/-- Lengths and numbers as they come in. -/
def okF (f : Fun7) : Prop := f.ps.length ≤ 9223372036854775807 ∧ f.ls.length ≤ 9223372036854775807 ∧ f.body.length ≤ 9223372036854775807 ∧ fits f.body
def okG (g : Glo7) : Prop := 0 ≤ g.bits ∧ g.bits ≤ 18446744073709551615
def okM (M : Mod7) : Prop := M.fs.length ≤ 9223372036854775807 ∧ M.gs.length ≤ 9223372036854775807 ∧ (∀ f ∈ M.fs, okF f) ∧ ∀ g ∈ M.gs, okG g
/-- What is not too long. -/
def smF (f : Fun7) : Prop := f.ps.length ≤ 1048576 ∧ f.ls.length ≤ 1048576 ∧ f.body.length ≤ 1048576 ∧ fits f.body
def smM (M : Mod7) : Prop := M.fs.length ≤ 1048576 ∧ M.gs.length ≤ 1048576 ∧ (∀ f ∈ M.fs, smF f) ∧ ∀ g ∈ M.gs, okG g

end Go.Proofs.YtcgnefgdfgikdaaGreat
