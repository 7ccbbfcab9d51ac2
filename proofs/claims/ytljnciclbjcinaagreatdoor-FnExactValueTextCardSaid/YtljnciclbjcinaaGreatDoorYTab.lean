/-
  The program's table of kinds, as it lies in memory.
-/
import Derived.Test.YtljnciclbjcinaaGreatDoorYTy
import Derived.Test.YtljnciclbjcinaaGreatDoorYPl
import Derived.Lib.LaidU8T
import Derived.FnData
namespace Go.Proofs.YtljnciclbjcinaaGreatDoor
open Go.ChangeShapes Go.WideShapes Go.ChangeAt Go.RowKit

/-- The name, the bounds of parts and of N, the room. -/
def krow : List (List UInt8 × Int × Int × Int × Int × Int × Int) := [([], 0, 0, 0, 0, 0, 0), ([98, 111, 111, 108], 0, 0, 0, 0, 1, 1), ([117, 56], 0, 0, 0, 0, 1, 1), ([115, 56], 0, 0, 0, 0, 1, 1), ([117, 49, 54], 0, 0, 0, 0, 2, 2), ([115, 49, 54], 0, 0, 0, 0, 2, 2), ([117, 51, 50], 0, 0, 0, 0, 4, 4), ([115, 51, 50], 0, 0, 0, 0, 4, 4), ([117, 54, 52], 0, 0, 0, 0, 8, 8), ([115, 54, 52], 0, 0, 0, 0, 8, 8), ([102, 51, 50], 0, 0, 0, 0, 4, 4), ([99, 104, 97, 114], 0, 0, 0, 0, 4, 4), ([115, 116, 114, 105, 110, 103], 0, 0, 0, 0, 8, 4), ([108, 105, 115, 116], 1, 1, 0, 0, 8, 4), ([114, 101, 99, 111, 114, 100], 1, 8, 0, 0, 0, 0), ([118, 97, 114, 105, 97, 110, 116], 1, 8, 0, 0, 0, 0), ([102, 108, 97, 103, 115], 0, 0, 1, 32, 0, 0), ([111, 112, 116, 105, 111, 110], 1, 1, 0, 0, 0, 0), ([114, 101, 115, 117, 108, 116], 2, 2, 0, 0, 0, 0), ([101, 110, 117, 109], 0, 0, 1, 300, 0, 0), ([111, 119, 110], 0, 0, 0, 9, 4, 4), ([98, 111, 114, 114, 111, 119], 0, 0, 0, 9, 4, 4)]

def kdat {H : Type} (r : List UInt8 × Int × Int × Int × Int × Int × Int) : DataW H := .agg [.lit (.string r.1), .lit (.int .i64 r.2.1), .lit (.int .i64 r.2.2.1), .lit (.int .i64 r.2.2.2.1), .lit (.int .i64 r.2.2.2.2.1), .agg [.lit (.int .i64 r.2.2.2.2.2.1), .lit (.int .i64 r.2.2.2.2.2.2)]]

/-- The table lies in memory. -/
def Tabs (w : World) : Prop := 0 < w.heap.size ∧ ∀ (i : Nat) (h : i < krow.length),
  w.cell? ⟨0, i * 7, none⟩ = some (.string ⟨krow[i].1.toArray⟩) ∧ w.cell? ⟨0, i * 7 + 1, none⟩ = some (.int .i64 krow[i].2.1) ∧ w.cell? ⟨0, i * 7 + 2, none⟩ = some (.int .i64 krow[i].2.2.1) ∧
  w.cell? ⟨0, i * 7 + 3, none⟩ = some (.int .i64 krow[i].2.2.2.1) ∧ w.cell? ⟨0, i * 7 + 4, none⟩ = some (.int .i64 krow[i].2.2.2.2.1) ∧ w.cell? ⟨0, i * 7 + 5, none⟩ = some (.int .i64 krow[i].2.2.2.2.2.1) ∧
  w.cell? ⟨0, i * 7 + 6, none⟩ = some (.int .i64 krow[i].2.2.2.2.2.2)

theorem Tabs.below {w w' : World} (h : Tabs w) {B : Nat} (hb : Below B w w') (hl : w.heap.size ≤ B) : Tabs w' := by
  have hg := h.1
  refine ⟨Nat.lt_of_lt_of_le hg hb.size, fun i hi => ?_⟩
  have K : ∀ (j : Nat) (v : Value), w.cell? ⟨0, j, none⟩ = some v → w'.cell? ⟨0, j, none⟩ = some v := fun j v hc => (hb.cell (p := ⟨0, j, none⟩) (Nat.lt_of_lt_of_le hg hl)).trans hc
  obtain ⟨h0, h1, h2, h3, h4, h5, h6⟩ := h.2 i hi
  exact ⟨K _ _ h0, K _ _ h1, K _ _ h2, K _ _ h3, K _ _ h4, K _ _ h5, K _ _ h6⟩

theorem ktabCells : Tryz.prog.cellsOf 155 = 7 := by kernel_rfl
theorem ktabStr : Tryz.prog.cellsOf 9 = 1 := by kernel_rfl
theorem ktabRoom : Tryz.prog.cellsOf 153 = 2 := by kernel_rfl

theorem str_lit {s : ByteArray} {l : List UInt8} (h : l = s.data.toList) : s = ⟨l.toArray⟩ := by
  subst h
  cases s; simp

set_option maxRecDepth 100000 in
theorem tabs_of_reads {w : World} {fuel : Nat} {cs : Array Value} {p : List MemPlace} (hd : DataW.trod (fun _ => ()) Tryz.prog w 0 (fun _ => true) false fuel 156 cs.toList = some (.agg (krow.map kdat), p))
    (hc : ∀ j, w.cell? ⟨0, j, none⟩ = cs[j]?) : Tabs w := by
  refine (fun H => ⟨nd_block (H 0 (by decide)).1, H⟩ : (∀ (i : Nat) (h : i < krow.length), _) → Tabs w) fun i hi => ?_
  obtain ⟨fuel', d, q, hdi, ht⟩ := Lib.array_elem Tryz.underlying156 hd i (show i < 22 from hi)
  rw [ktabCells] at ht
  have hdi' : d = kdat krow[i] := by
    rw [List.getElem?_map, List.getElem?_eq_getElem hi] at hdi
    simpa using hdi.symm
  subst hdi'
  obtain ⟨r, hr⟩ : ∃ r, r = krow[i] := ⟨_, rfl⟩
  rw [← hr] at ht ⊢
  obtain ⟨nm, a, b, c, e, s, al⟩ := r
  obtain ⟨xs, k, hk, hxy, hlen, hxl, hf⟩ := DataW.trod_struct Tryz.underlying155 ht
  obtain ⟨cc, hcc⟩ : ∃ cc, cc = (cs.toList.drop (i * 7)).take 7 := ⟨_, rfl⟩
  rw [← hcc] at hlen hf
  rw [ktabCells] at hlen
  have K : ∀ (j : Nat) (v : Value), j < 7 → cc[j]? = some v → w.cell? ⟨0, i * 7 + j, none⟩ = some v := fun j v hj hv => by
    rw [hc, ← Array.getElem?_toList]
    rw [hcc, List.getElem?_take, if_pos hj, List.getElem?_drop] at hv
    exact hv
  match xs, hxl, cc, hlen with
  | [y0, y1, y2, y3, y4, y5], _, [v0, v1, v2, v3, v4, v5, v6], _ =>
    have g0 := hf 0 _ rfl
    have g1 := hf 1 _ rfl
    have g2 := hf 2 _ rfl
    have g3 := hf 3 _ rfl
    have g4 := hf 4 _ rfl
    have g5 := hf 5 _ rfl
    simp [ndInt, ktabStr, ktabRoom] at g0 g1 g2 g3 g4 g5
    obtain ⟨z0, q0, r0, _⟩ := DataW.trod_string Tryz.underlying9 g0
    obtain ⟨z1, q1, r1, _⟩ := DataW.trod_int Tryz.underlying3 g1
    obtain ⟨z2, q2, r2, _⟩ := DataW.trod_int Tryz.underlying3 g2
    obtain ⟨z3, q3, r3, _⟩ := DataW.trod_int Tryz.underlying3 g3
    obtain ⟨z4, q4, r4, _⟩ := DataW.trod_int Tryz.underlying3 g4
    obtain ⟨ys, k5, hk5, hxy5, hlen5, hxl5, hf5⟩ := DataW.trod_struct Tryz.underlying153 g5
    match ys, hxl5 with
    | [t0, t1], _ =>
      have u0 := hf5 0 _ rfl
      have u1 := hf5 1 _ rfl
      simp [ndInt] at u0 u1
      obtain ⟨z5, q5, r5, _⟩ := DataW.trod_int Tryz.underlying3 u0
      obtain ⟨z6, q6, r6, _⟩ := DataW.trod_int Tryz.underlying3 u1
      subst r0 r1 r2 r3 r4 r5 r6 hxy5
      simp at q0 q1 q2 q3 q4 q5 q6
      subst q0 q1 q2 q3 q4 q5 q6
      simp [kdat] at hxy
      obtain ⟨⟨e0, e1, e2, e3, e4, e5, e6⟩, _⟩ := hxy
      have e0' := str_lit e0
      subst e0' e1 e2 e3 e4 e5 e6
      exact ⟨by simpa using K 0 _ (by omega) rfl, K 1 _ (by omega) rfl, K 2 _ (by omega) rfl, K 3 _ (by omega) rfl, K 4 _ (by omega) rfl, K 5 _ (by omega) rfl, K 6 _ (by omega) rfl⟩

end Go.Proofs.YtljnciclbjcinaaGreatDoor
