/-
  What is read of a slice of instructions that comes in.
-/
import Derived.Test.YtbliopgdkphoaaaCAll
import Derived.Deep.SlicePairs
namespace Go.Proofs.Ytbliopgdkphoaaa
open Go.ChangeShapes Go.WideShapes Go.ChangeAt Go.RowKit Go.Deep

def IsInss (W : World) (a : Option Addr) (L : List (Int × Int)) : Prop :=
  ∃ b off, (L ≠ [] → a = some ⟨b, off, none⟩ ∧ b < W.heap.size) ∧ insAt W b off L ∧ L.length ≤ 9223372036854775807 ∧ fits L

theorem block_of_cell {w : World} {b o : Nat} {v : Value} (h : w.cell? ⟨b, o, none⟩ = some v) : b < w.heap.size := by
  rcases Nat.lt_or_ge b w.heap.size with h' | h'
  · exact h'
  · simp [World.cell?, Array.getElem?_eq_none h'] at h

theorem insCells : Try.prog.cellsOf 167 = 2 := by kernel_rfl
theorem insInt : Try.prog.cellsOf 3 = 1 := by kernel_rfl

set_option maxRecDepth 100000 in
theorem open_inss {H : Type} {enc : TypeId × Value → H} {W : World} {a : Option Addr} {len cap : Nat} {fuel : Nat} {x : DataW H × List MemPlace}
    (hf : DataW.trod enc Try.prog W 0 (fun _ => true) true fuel 101 (Value.slice a len cap).cells.toList = some x) : ∃ L : List (Int × Int), len = L.length ∧ IsInss W a L := by
  rcases open_slice_pairs Try.underlying101 (by rw [Try.underlying167]) insCells rfl rfl insInt insInt hf with ⟨hcs, _⟩ | ⟨ad, l, c, m, n, V0, V1, D0, D1, P0, P1, hcs, _, hl, hm, hmm, _, hc⟩
  · simp [Value.cells] at hcs
    obtain ⟨rfl, rfl, rfl⟩ := hcs
    exact ⟨[], rfl, 0, 0, fun h => absurd rfl h, fun i h => absurd h (by simp), by simp, fun i h => absurd h (by simp)⟩
  · simp [Value.cells] at hcs
    obtain ⟨rfl, rfl, rfl⟩ := hcs
    have hm' : m = cap := by simpa using hmm
    subst hm'
    unfold maxLen at hm
    have hv : ∀ i, i < m → ∃ p : Int × Int, V0 i = .int .i64 p.1 ∧ V1 i = .int .i64 p.2 ∧ (-9223372036854775808 ≤ p.2 ∧ p.2 ≤ 9223372036854775807) := fun i hi => by
      obtain ⟨_, _, t0, t1⟩ := hc i hi
      obtain ⟨z, e0, _, _⟩ := DataW.trod_int Try.underlying3 t0
      obtain ⟨s, e1, _, hs⟩ := DataW.trod_int Try.underlying3 t1
      simp at e0 e1
      exact ⟨(z, s), e0, e1, bounds_i64 hs⟩
    obtain ⟨f, hfv⟩ := choose_lt hv
    refine ⟨(List.range len).map f, by simp, ?_⟩
    by_cases h0 : len = 0
    · subst h0
      exact ⟨0, 0, fun h => absurd rfl h, fun i h => absurd h (by simp), by simp, fun i h => absurd h (by simp)⟩
    · obtain ⟨b, off, spot⟩ := ad
      have hc0 := (hc 0 (by omega)).1
      have hspot : spot = none := by simpa [Addr.add] using World.cell?_spot hc0
      subst hspot
      have hadd : ∀ j, (⟨b, off, none⟩ : Addr).add j = ⟨b, off + j, none⟩ := fun j => by rw [Addr.add_lit]
      refine ⟨b, off, fun _ => ⟨rfl, block_of_cell (by rw [hadd] at hc0; exact hc0)⟩, fun i hi => ?_, by simp; omega, fun i hi => ?_⟩
      · have hi' : i < len := by simpa using hi
        obtain ⟨c0, c1, _, _⟩ := hc i (by omega)
        obtain ⟨e0, e1, _⟩ := hfv i (by omega)
        rw [hadd] at c0 c1
        simp only [List.getElem_map, List.getElem_range]
        rw [← e0, ← e1]
        exact ⟨c0, c1⟩
      · have hi' : i < len := by simpa using hi
        obtain ⟨_, _, hs⟩ := hfv i (by omega)
        simp only [List.getElem_map, List.getElem_range]
        exact hs

end Go.Proofs.Ytbliopgdkphoaaa
