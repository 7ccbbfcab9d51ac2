/-
  What is read of a state that comes in.
-/
import Derived.Test.YtbliopgdkphoaaaGModOp
import Derived.Test.YtbliopgdkphoaaaSState
namespace Go.Proofs.Ytbliopgdkphoaaa
open Go.ChangeShapes Go.WideShapes Go.ChangeAt Go.RowKit Go.Deep

theorem wdCells : Try.prog.cellsOf 141 = 2 := by kernel_rfl
theorem memCells : Try.prog.cellsOf 52 = 2 := by kernel_rfl
theorem stCells : Try.prog.cellsOf 55 = 3 := by kernel_rfl
theorem slCells : Try.prog.cellsOf 53 = 1 := by kernel_rfl
/-- A word that comes in, at two cells. -/
theorem open_wd {H : Type} {enc : TypeId × Value → H} {W : World} {fuel : Nat} {cs : List Value} {x : DataW H × List MemPlace}
    (h : DataW.trod enc Try.prog W 0 (fun _ => true) true fuel 141 cs = some x) :
    ∃ g : Wd8, cs[0]? = some (.int .i64 g.ty) ∧ cs[1]? = some (.int .u64 g.bits) ∧ okW g := by
  obtain ⟨_, hf⟩ := trod_field Try.underlying141 (by kernel_rfl) wdCells h
  obtain ⟨v0, y0, n0, e0, h0⟩ := hf 0 _ rfl
  obtain ⟨v1, y1, n1, e1, h1⟩ := hf 1 _ rfl
  obtain ⟨ty, hr0, _, _⟩ := DataW.trod_int Try.underlying3 h0
  obtain ⟨bits, hr1, _, hw⟩ := DataW.trod_int Try.underlying77 h1
  simp at hr0 hr1
  subst hr0 hr1
  exact ⟨⟨ty, bits⟩, e0, e1, bounds_u64 hw⟩

theorem open_wds {H : Type} {enc : TypeId × Value → H} {W : World} {a : Option Addr} {len cap : Nat} {fuel : Nat} {x : DataW H × List MemPlace}
    (h : DataW.trod enc Try.prog W 0 (fun _ => true) true fuel 53 [.slice a len cap] = some x) : ∃ L : List Wd8, len = L.length ∧ Wds W a L ∧ L.length ≤ 9223372036854775807 ∧ ∀ f ∈ L, okW f := by
  rcases open_slice Try.underlying53 h with ⟨h0, _⟩ | ⟨ad, l, c, m, n, D, Pl, hcs, _, hl, hm, hmm, _, hx⟩
  · simp at h0
    obtain ⟨rfl, rfl, rfl⟩ := h0
    exact ⟨[], rfl, fun h => absurd rfl h, by simp, by simp⟩
  · simp at hcs
    obtain ⟨rfl, rfl, rfl⟩ := hcs
    unfold maxLen at hm
    have hm' : m = cap := by simpa using hmm
    subst hm'
    have each : ∀ i, i < m → ∃ f : Wd8, (W.cell? (ad.add (i * 2)) = some (.int .i64 f.ty) ∧ W.cell? (ad.add (i * 2 + 1)) = some (.int .u64 f.bits)) ∧ okW f := fun i hi => by
      obtain ⟨cs', h1, h2⟩ := hx i hi
      rw [wdCells] at h1
      obtain ⟨_, hlen, hcell⟩ := World.cells?_some h1
      obtain ⟨f, e0, e1, hok⟩ := open_wd h2
      have c0 := hcell 0 (by omega)
      have c1 := hcell 1 (by omega)
      rw [add_add] at c0 c1
      exact ⟨f, ⟨by rw [← e0]; simpa using c0, by rw [← e1]; exact c1⟩, hok⟩
    have inh : Inhabited Wd8 := ⟨⟨0, 0⟩⟩
    obtain ⟨f, hf⟩ := choose_lt each
    refine ⟨(List.range len).map f, by simp, fun hn => ?_, by simp; omega, fun g hg => ?_⟩
    · have h0 : 0 < len := by
        rcases Nat.eq_zero_or_pos len with h | h
        · subst h; simp at hn
        · exact h
      obtain ⟨b, off, spot⟩ := ad
      obtain ⟨⟨hc0, _⟩, _⟩ := hf 0 (by omega)
      have hspot : spot = none := by simpa [Addr.add] using World.cell?_spot hc0
      subst hspot
      have hadd : ∀ j, (⟨b, off, none⟩ : Addr).add j = ⟨b, off + j, none⟩ := fun j => by rw [Addr.add_lit]
      refine ⟨b, off, rfl, block_of_cell (by rw [hadd] at hc0; exact hc0), fun i hi => ?_⟩
      have hi' : i < len := by simpa using hi
      obtain ⟨⟨c0, c1⟩, _⟩ := hf i (by omega)
      rw [hadd] at c0 c1
      simp only [List.getElem_map, List.getElem_range]
      exact ⟨c0, c1⟩
    · obtain ⟨i, hi, rfl⟩ := List.mem_map.1 hg
      exact (hf i (by have := List.mem_range.1 hi; omega)).2


theorem list3 {α : Type} {cs : List α} (h : cs.length = 3) : ∃ c0 c1 c2, cs = [c0, c1, c2] := by
  match cs, h with
  | [c0, c1, c2], _ => exact ⟨c0, c1, c2, rfl⟩
/-- A state as a value, and what is known of one that comes in. -/
def stV (mx : Int) (D : ByteArray) (a : Option Addr) (n c : Nat) : Value := .agg #[.int .i64 mx, .string D, .slice a n c]
def IsSt (W : World) (D : ByteArray) (a : Option Addr) (L : List Wd8) : Prop := Wds W a L ∧ L.length ≤ 9223372036854775807 ∧ (∀ x ∈ L, okW x) ∧ D.size ≤ maxLen

set_option maxRecDepth 100000 in
theorem open_state {H : Type} {enc : TypeId × Value → H} {W : World} {b0 : Nat} {v : Value} {d : DataW H} {p : List MemPlace} (hv : Value.okWide Try.prog W .any b0 55 v)
    (h : DataW.Trod enc Try.prog W 0 (fun _ => true) true 55 v d p) : ∃ mx D a c L, v = stV mx D a (List.length L) c ∧ IsSt W D a L := by
  obtain ⟨⟨cs⟩, rfl, hsz⟩ := okWide_struct Try.underlying55 hv
  rw [stCells] at hsz
  obtain ⟨c0, c1, c2, rfl⟩ := list3 (by simpa using hsz)
  obtain ⟨fuel, hf⟩ := h
  obtain ⟨xs, n, _, _, _, hlen, hf⟩ := DataW.trod_struct Try.underlying55 hf
  have h0 : DataW.trod enc Try.prog W 0 (fun _ => true) true n 52 (List.take (Try.prog.cellsOf 52) [c0, c1, c2]) = xs[0]? := hf 0 _ rfl
  have h1 : DataW.trod enc Try.prog W 0 (fun _ => true) true n 53 (List.take (Try.prog.cellsOf 53) [c2]) = xs[1]? := hf 1 _ rfl
  have l2 : xs.length = 2 := hlen
  rw [List.getElem?_eq_getElem (by omega)] at h0 h1
  rw [memCells] at h0
  rw [slCells] at h1
  simp only [List.take_succ_cons, List.take_zero] at h0 h1
  obtain ⟨_, hm⟩ := trod_field Try.underlying52 (by kernel_rfl) memCells h0
  obtain ⟨v0, y0, n0, e0, h00⟩ := hm 0 _ rfl
  obtain ⟨v1, y1, n1, e1, h01⟩ := hm 1 _ rfl
  simp at e0 e1
  subst e0 e1
  obtain ⟨mx, hr0, _, _⟩ := DataW.trod_int Try.underlying3 h00
  obtain ⟨D, hr1, _, hD⟩ := DataW.trod_string Try.underlying9 h01
  simp at hr0 hr1
  subst hr0 hr1
  obtain ⟨a, len, c, rfl⟩ := trod_sliceV Try.underlying53 h1
  obtain ⟨L, rfl, hL, hl, hok⟩ := open_wds h1
  exact ⟨mx, D, a, c, L, rfl, hL, hl, hok, hD⟩

end Go.Proofs.Ytbliopgdkphoaaa
