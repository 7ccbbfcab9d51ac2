/-
  Tables that come in: what is read of them; and the law on good tables.
-/
import Derived.Test.YtfblofcmjplfhaaTB8
import Derived.Deep.Fields
import Derived.Deep.SlicePairs
namespace Go.Proofs.Ytfblofcmjplfhaa
open Go.ChangeShapes Go.WideShapes Go.ChangeAt Go.RowKit Go.Deep

section
variable {H : Type} {enc : TypeId × Value → H} {P : Program} {w : World} {base : Nat} {spare : Nat → Bool} {held : Bool}
/-- A struct's fields of one cell each. -/
theorem trod_fieldT {t : TypeId} {fs : Array Field} {fuel : Nat} {cs : List Value} {x : DataW H × List MemPlace} (ht : P.underlying t = some (.struct fs)) (hone : oneCellFields P fs = true) (hC : P.cellsOf t = fs.size)
    (h : DataW.trod enc P w base spare held fuel t cs = some x) : cs.length = fs.size ∧ ∀ (i : Nat) (f : Field), fs[i]? = some f → ∃ v y n, cs[i]? = some v ∧ DataW.trod enc P w base spare held n f.type [v] = some y := by
  obtain ⟨xs, n, _, _, hl, hlen, hf⟩ := DataW.trod_struct ht h
  refine ⟨hl.trans hC, fun i f hi => ?_⟩
  obtain ⟨o, k⟩ := hone_of hone i f hi
  have hlt : i < fs.size := by
    rcases Nat.lt_or_ge i fs.size with h' | h'
    · exact h'
    · rw [Array.getElem?_eq_none h'] at hi; simp at hi
  have h1 := hf i f hi
  rw [o, k] at h1
  have hcl : i < cs.length := by omega
  have e1 : (cs.drop i).take 1 = [cs[i]] := by
    rw [List.drop_eq_getElem_cons hcl]; rfl
  rw [e1, List.getElem?_eq_getElem (by omega)] at h1
  exact ⟨cs[i], _, n, List.getElem?_eq_getElem hcl, h1⟩
/-- A cell that holds a slice. -/
theorem trod_sliceT {t e : TypeId} {fuel : Nat} {v : Value} {x : DataW H × List MemPlace} (ht : P.underlying t = some (.slice e)) (h : DataW.trod enc P w base spare held fuel t [v] = some x) : ∃ a len cap, v = .slice a len cap := by
  rcases DataW.trod_slice ht h with ⟨h0, _⟩ | ⟨a, len, cap, _, _, _, _, h0, _⟩
  · simp at h0; exact ⟨none, 0, 0, h0⟩
  · simp at h0; exact ⟨some a, len, cap, h0⟩
end

theorem hdCells : Try.prog.cellsOf 35 = 6 := by kernel_rfl
theorem tabCells : Try.prog.cellsOf 25 = 2 := by kernel_rfl
def okHd (h : Hd) : Prop := (-9223372036854775808 ≤ h.r ∧ h.r ≤ 9223372036854775807) ∧ (-9223372036854775808 ≤ h.p ∧ h.p ≤ 9223372036854775807) ∧ (-9223372036854775808 ≤ h.l ∧ h.l ≤ 9223372036854775807) ∧ (-9223372036854775808 ≤ h.s ∧ h.s ≤ 9223372036854775807)
/-- A handle that comes in, at six cells. -/
theorem open_hd {H : Type} {enc : TypeId × Value → H} {W : World} {fuel : Nat} {cs : List Value} {x : DataW H × List MemPlace}
    (h : DataW.trod enc Try.prog W 0 (fun _ => true) true fuel 35 cs = some x) :
    ∃ g : Hd, cs.length = 6 ∧ (cs[0]? = some (.bool g.u) ∧ cs[1]? = some (.int .i64 g.r) ∧ cs[2]? = some (.int .i64 g.p) ∧ cs[3]? = some (.bool g.o) ∧ cs[4]? = some (.int .i64 g.l) ∧ cs[5]? = some (.int .i64 g.s)) ∧ okHd g := by
  obtain ⟨hl, hf⟩ := trod_fieldT Try.underlying35 (by kernel_rfl) hdCells h
  obtain ⟨v0, y0, n0, e0, h0⟩ := hf 0 _ rfl
  obtain ⟨v1, y1, n1, e1, h1⟩ := hf 1 _ rfl
  obtain ⟨v2, y2, n2, e2, h2⟩ := hf 2 _ rfl
  obtain ⟨v3, y3, n3, e3, h3⟩ := hf 3 _ rfl
  obtain ⟨v4, y4, n4, e4, h4⟩ := hf 4 _ rfl
  obtain ⟨v5, y5, n5, e5, h5⟩ := hf 5 _ rfl
  obtain ⟨u, r0, _⟩ := DataW.trod_bool Try.underlying4 h0
  obtain ⟨r, r1, _, w1⟩ := DataW.trod_int Try.underlying3 h1
  obtain ⟨p, r2, _, w2⟩ := DataW.trod_int Try.underlying3 h2
  obtain ⟨o, r3, _⟩ := DataW.trod_bool Try.underlying4 h3
  obtain ⟨l, r4, _, w4⟩ := DataW.trod_int Try.underlying3 h4
  obtain ⟨s, r5, _, w5⟩ := DataW.trod_int Try.underlying3 h5
  simp at r0 r1 r2 r3 r4 r5
  subst r0 r1 r2 r3 r4 r5
  exact ⟨⟨u, r, p, o, l, s⟩, hl, ⟨e0, e1, e2, e3, e4, e5⟩, bounds_i64 w1, bounds_i64 w2, bounds_i64 w4, bounds_i64 w5⟩

theorem open_hds {H : Type} {enc : TypeId × Value → H} {W : World} {a : Option Addr} {len cap : Nat} {fuel : Nat} {x : DataW H × List MemPlace}
    (h : DataW.trod enc Try.prog W 0 (fun _ => true) true fuel 22 [.slice a len cap] = some x) : ∃ L : List Hd, len = L.length ∧ Hds W a L ∧ L.length ≤ 9223372036854775807 ∧ ∀ f ∈ L, okHd f := by
  rcases open_slice Try.underlying22 h with ⟨h0, _⟩ | ⟨ad, l, c, m, n, D, Pl, hcs, _, hl, hm, hmm, _, hx⟩
  · simp at h0
    obtain ⟨rfl, rfl, rfl⟩ := h0
    exact ⟨[], rfl, fun h => absurd rfl h, by simp, by simp⟩
  · simp at hcs
    obtain ⟨rfl, rfl, rfl⟩ := hcs
    unfold maxLen at hm
    have hm' : m = cap := by simpa using hmm
    subst hm'
    have each : ∀ i, i < m → ∃ f : Hd, (W.cell? (ad.add (i * 6)) = some (.bool f.u) ∧ W.cell? (ad.add (i * 6 + 1)) = some (.int .i64 f.r) ∧ W.cell? (ad.add (i * 6 + 2)) = some (.int .i64 f.p) ∧ W.cell? (ad.add (i * 6 + 3)) = some (.bool f.o) ∧ W.cell? (ad.add (i * 6 + 4)) = some (.int .i64 f.l) ∧ W.cell? (ad.add (i * 6 + 5)) = some (.int .i64 f.s)) ∧ okHd f := fun i hi => by
      obtain ⟨cs', h1, h2⟩ := hx i hi
      rw [hdCells] at h1
      obtain ⟨_, hlen, hcell⟩ := World.cells?_some h1
      obtain ⟨f, _, ⟨e0, e1, e2, e3, e4, e5⟩, hok⟩ := open_hd h2
      have c0 := hcell 0 (by omega)
      have c1 := hcell 1 (by omega)
      have c2 := hcell 2 (by omega)
      have c3 := hcell 3 (by omega)
      have c4 := hcell 4 (by omega)
      have c5 := hcell 5 (by omega)
      rw [add_add] at c0 c1 c2 c3 c4 c5
      exact ⟨f, ⟨by rw [← e0]; simpa using c0, by rw [← e1]; exact c1, by rw [← e2]; exact c2, by rw [← e3]; exact c3, by rw [← e4]; exact c4, by rw [← e5]; exact c5⟩, hok⟩
    have inh : Inhabited Hd := ⟨zH⟩
    obtain ⟨f, hf⟩ := choose_lt each
    refine ⟨(List.range len).map f, by simp, fun hn => ?_, by simp; omega, fun g hg => ?_⟩
    · have h0 : 0 < len := by
        rcases Nat.eq_zero_or_pos len with h | h
        · subst h; simp at hn
        · exact h
      obtain ⟨b, off, spot⟩ := ad
      obtain ⟨⟨hc0, _⟩, _⟩ := hf 0 (by omega)
      have hspot : spot = none := by simpa [Addr.add] using World.cell?_spot hc0
      subst hspot
      have hadd : ∀ j, (⟨b, off, none⟩ : Addr).add j = ⟨b, off + j, none⟩ := fun j => by rw [Addr.add_lit]
      refine ⟨b, off, rfl, iblock_of_cell (by rw [hadd] at hc0; exact hc0), fun i hi => ?_⟩
      have hi' : i < len := by simpa using hi
      obtain ⟨⟨c0, c1, c2, c3, c4, c5⟩, _⟩ := hf i (by omega)
      rw [hadd] at c0 c1 c2 c3 c4 c5
      simp only [List.getElem_map, List.getElem_range]
      exact ⟨c0, c1, c2, c3, c4, c5⟩
    · obtain ⟨i, hi, rfl⟩ := List.mem_map.1 hg
      exact (hf i (by have := List.mem_range.1 hi; omega)).2

theorem list2T {α : Type} {cs : List α} (h : cs.length = 2) : ∃ c0 c1, cs = [c0, c1] := by
  match cs, h with
  | [c0, c1], _ => exact ⟨c0, c1, rfl⟩
theorem list6T {α : Type} {cs : List α} (h : cs.length = 6) : ∃ c0 c1 c2 c3 c4 c5, cs = [c0, c1, c2, c3, c4, c5] := by
  match cs, h with
  | [c0, c1, c2, c3, c4, c5], _ => exact ⟨c0, c1, c2, c3, c4, c5, rfl⟩

set_option maxRecDepth 100000 in
theorem open_table {H : Type} {enc : TypeId × Value → H} {W : World} {b0 : Nat} {v : Value} {d : DataW H} {p : List MemPlace} (hv : Value.okWide Try.prog W .any b0 25 v)
    (h : DataW.Trod enc Try.prog W 0 (fun _ => true) true 25 v d p) : ∃ a c b d S F, v = tabV a (List.length S) c b (List.length F) d ∧ IsTab W a b S F := by
  obtain ⟨⟨cs⟩, rfl, hsz⟩ := okWide_struct Try.underlying25 hv
  rw [tabCells] at hsz
  obtain ⟨c0, c1, rfl⟩ := list2T (by simpa using hsz)
  obtain ⟨fuel, hf⟩ := h
  have hf : DataW.trod enc Try.prog W 0 (fun _ => true) true fuel 25 [c0, c1] = some (d, p) := hf
  obtain ⟨_, hf⟩ := trod_fieldT Try.underlying25 (by kernel_rfl) tabCells hf
  obtain ⟨v0, y0, n0, e0, h0⟩ := hf 0 _ rfl
  obtain ⟨v1, y1, n1, e1, h1⟩ := hf 1 _ rfl
  simp at e0 e1
  subst e0 e1
  obtain ⟨a, n, c, rfl⟩ := trod_sliceT Try.underlying22 h0
  obtain ⟨b, m, d, rfl⟩ := trod_sliceT Try.underlying23 h1
  obtain ⟨S, rfl, hS, lS, okS⟩ := open_hds h0
  obtain ⟨F, rfl, hF, lF, okF⟩ := opened_ints ⟨_, h1⟩
  exact ⟨a, c, b, d, S, F, rfl, hS, hF, lS, lF, okS, fun x hx => bounds_i64 (okF x hx)⟩

set_option maxRecDepth 100000 in
theorem open_handle {H : Type} {enc : TypeId × Value → H} {W : World} {b0 : Nat} {v : Value} {d : DataW H} {p : List MemPlace} (hv : Value.okWide Try.prog W .any b0 35 v)
    (h : DataW.Trod enc Try.prog W 0 (fun _ => true) true 35 v d p) : ∃ h, v = hdV h ∧ okHd h := by
  obtain ⟨⟨cs⟩, rfl, hsz⟩ := okWide_struct Try.underlying35 hv
  rw [hdCells] at hsz
  obtain ⟨c0, c1, c2, c3, c4, c5, rfl⟩ := list6T (by simpa using hsz)
  obtain ⟨fuel, hf⟩ := h
  have hf : DataW.trod enc Try.prog W 0 (fun _ => true) true fuel 35 [c0, c1, c2, c3, c4, c5] = some (d, p) := hf
  obtain ⟨g, _, ⟨e0, e1, e2, e3, e4, e5⟩, hok⟩ := open_hd hf
  simp at e0 e1 e2 e3 e4 e5
  subst e0 e1 e2 e3 e4 e5
  exact ⟨g, rfl, hok⟩

end Go.Proofs.Ytfblofcmjplfhaa
