/-
  What is read of a module that comes in.
-/
import Derived.Test.YtbliopgdkphoaaaGMod
import Derived.Test.YtbliopgdkphoaaaCOpen
import Derived.Deep.Fields
namespace Go.Proofs.Ytbliopgdkphoaaa
open Go.ChangeShapes Go.WideShapes Go.ChangeAt Go.RowKit Go.Deep

section
variable {H : Type} {enc : TypeId × Value → H} {P : Program} {w : World} {base : Nat} {spare : Nat → Bool} {held : Bool}
/-- A struct's fields of one cell each. -/
theorem trod_field {t : TypeId} {fs : Array Field} {fuel : Nat} {cs : List Value} {x : DataW H × List MemPlace} (ht : P.underlying t = some (.struct fs)) (hone : oneCellFields P fs = true) (hC : P.cellsOf t = fs.size)
    (h : DataW.trod enc P w base spare held fuel t cs = some x) : cs.length = fs.size ∧ ∀ (i : Nat) (f : Field), fs[i]? = some f → ∃ v y n, cs[i]? = some v ∧ DataW.trod enc P w base spare held n f.type [v] = some y := by
  obtain ⟨xs, n, _, _, hl, hlen, hf⟩ := DataW.trod_struct ht h
  refine ⟨hl.trans hC, fun i f hi => ?_⟩
  obtain ⟨o, k⟩ := hone_of hone i f hi
  have hlt : i < fs.size := by
    rcases Nat.lt_or_ge i fs.size with h' | h'
    · exact h'
    · rw [Array.getElem?_eq_none h'] at hi; simp at hi
  have h1 := hf i f hi
  rw [o, k] at h1
  have hcl : i < cs.length := by omega
  have e1 : (cs.drop i).take 1 = [cs[i]] := by
    rw [List.drop_eq_getElem_cons hcl]; rfl
  rw [e1, List.getElem?_eq_getElem (by omega)] at h1
  exact ⟨cs[i], _, n, List.getElem?_eq_getElem hcl, h1⟩
/-- A cell that holds a slice. -/
theorem trod_sliceV {t e : TypeId} {fuel : Nat} {v : Value} {x : DataW H × List MemPlace} (ht : P.underlying t = some (.slice e)) (h : DataW.trod enc P w base spare held fuel t [v] = some x) : ∃ a len cap, v = .slice a len cap := by
  rcases DataW.trod_slice ht h with ⟨h0, _⟩ | ⟨a, len, cap, _, _, _, _, h0, _⟩
  · simp at h0; exact ⟨none, 0, 0, h0⟩
  · simp at h0; exact ⟨some a, len, cap, h0⟩
end

theorem funCells : Try.prog.cellsOf 103 = 4 := by kernel_rfl
theorem gloCells : Try.prog.cellsOf 114 = 3 := by kernel_rfl
theorem modCells : Try.prog.cellsOf 25 = 6 := by kernel_rfl

/-- A func that comes in, at four cells. -/
theorem open_fun {H : Type} {enc : TypeId × Value → H} {W : World} {fuel : Nat} {cs : List Value} {x : DataW H × List MemPlace}
    (h : DataW.trod enc Try.prog W 0 (fun _ => true) true fuel 103 cs = some x) :
    ∃ f pa pc la lc ba bc, cs[0]? = some (.slice pa f.ps.length pc) ∧ cs[1]? = some (.int .i64 f.res) ∧ cs[2]? = some (.slice la f.ls.length lc) ∧ cs[3]? = some (.slice ba f.body.length bc) ∧ FunRows W pa la ba f ∧ okF f := by
  obtain ⟨_, hf⟩ := trod_field Try.underlying103 (by kernel_rfl) funCells h
  obtain ⟨v0, y0, n0, e0, h0⟩ := hf 0 _ rfl
  obtain ⟨v1, y1, n1, e1, h1⟩ := hf 1 _ rfl
  obtain ⟨v2, y2, n2, e2, h2⟩ := hf 2 _ rfl
  obtain ⟨v3, y3, n3, e3, h3⟩ := hf 3 _ rfl
  obtain ⟨pa, pl, pc, rfl⟩ := trod_sliceV Try.underlying72 h0
  obtain ⟨res, hr, _, _⟩ := DataW.trod_int Try.underlying3 h1
  obtain ⟨la, ll, lc, rfl⟩ := trod_sliceV Try.underlying72 h2
  obtain ⟨ba, bl, bc, rfl⟩ := trod_sliceV Try.underlying101 h3
  simp at hr
  subst hr
  obtain ⟨ps, rfl, hp, hpl, _⟩ := opened_ints (enc := enc) (W := W) (d := y0.1) (p := y0.2) ⟨n0, h0⟩
  obtain ⟨ls, rfl, hq, hql, _⟩ := opened_ints (enc := enc) (W := W) (d := y2.1) (p := y2.2) ⟨n2, h2⟩
  obtain ⟨body, rfl, b, off, hb, hi, hbl, hfit⟩ := open_inss (enc := enc) (W := W) (fuel := n3) (x := y3) h3
  exact ⟨⟨ps, res, ls, body⟩, pa, pc, la, lc, ba, bc, e0, e1, e2, e3, ⟨hp, hq, fun hn => ⟨b, off, (hb hn).1, (hb hn).2, hi⟩⟩, hpl, hql, hbl, hfit⟩
/-- A global that comes in, at three cells. -/
theorem open_glo {H : Type} {enc : TypeId × Value → H} {W : World} {fuel : Nat} {cs : List Value} {x : DataW H × List MemPlace}
    (h : DataW.trod enc Try.prog W 0 (fun _ => true) true fuel 114 cs = some x) :
    ∃ g : Glo7, cs[0]? = some (.int .i64 g.ty) ∧ cs[1]? = some (.bool g.fixed) ∧ cs[2]? = some (.int .u64 g.bits) ∧ okG g := by
  obtain ⟨_, hf⟩ := trod_field Try.underlying114 (by kernel_rfl) gloCells h
  obtain ⟨v0, y0, n0, e0, h0⟩ := hf 0 _ rfl
  obtain ⟨v1, y1, n1, e1, h1⟩ := hf 1 _ rfl
  obtain ⟨v2, y2, n2, e2, h2⟩ := hf 2 _ rfl
  obtain ⟨ty, hr0, _, _⟩ := DataW.trod_int Try.underlying3 h0
  obtain ⟨fx, hr1, _⟩ := DataW.trod_bool Try.underlying4 h1
  obtain ⟨bits, hr2, _, hw⟩ := DataW.trod_int Try.underlying77 h2
  simp at hr0 hr1 hr2
  subst hr0 hr1 hr2
  exact ⟨⟨ty, fx, bits⟩, e0, e1, e2, bounds_u64 hw⟩

theorem open_funs {H : Type} {enc : TypeId × Value → H} {W : World} {a : Option Addr} {len cap : Nat} {fuel : Nat} {x : DataW H × List MemPlace}
    (h : DataW.trod enc Try.prog W 0 (fun _ => true) true fuel 22 [.slice a len cap] = some x) : ∃ L : List Fun7, len = L.length ∧ Funs W a L ∧ L.length ≤ 9223372036854775807 ∧ ∀ f ∈ L, okF f := by
  rcases open_slice Try.underlying22 h with ⟨h0, _⟩ | ⟨ad, l, c, m, n, D, Pl, hcs, _, hl, hm, hmm, _, hx⟩
  · simp at h0
    obtain ⟨rfl, rfl, rfl⟩ := h0
    exact ⟨[], rfl, fun h => absurd rfl h, by simp, by simp⟩
  · simp at hcs
    obtain ⟨rfl, rfl, rfl⟩ := hcs
    unfold maxLen at hm
    have hm' : m = cap := by simpa using hmm
    subst hm'
    have each : ∀ i, i < m → ∃ f : Fun7, (∃ pa pc la lc ba bc, W.cell? (ad.add (i * 4)) = some (.slice pa f.ps.length pc) ∧ W.cell? (ad.add (i * 4 + 1)) = some (.int .i64 f.res) ∧ W.cell? (ad.add (i * 4 + 2)) = some (.slice la f.ls.length lc) ∧ W.cell? (ad.add (i * 4 + 3)) = some (.slice ba f.body.length bc) ∧ FunRows W pa la ba f) ∧ okF f := fun i hi => by
      obtain ⟨cs', h1, h2⟩ := hx i hi
      rw [funCells] at h1
      obtain ⟨_, hlen, hcell⟩ := World.cells?_some h1
      obtain ⟨f, pa, pc, la, lc, ba, bc, e0, e1, e2, e3, hr, hok⟩ := open_fun h2
      have c0 := hcell 0 (by omega)
      have c1 := hcell 1 (by omega)
      have c2 := hcell 2 (by omega)
      have c3 := hcell 3 (by omega)
      rw [add_add] at c0 c1 c2 c3
      exact ⟨f, ⟨pa, pc, la, lc, ba, bc, by rw [← e0]; simpa using c0, by rw [← e1]; exact c1, by rw [← e2]; exact c2, by rw [← e3]; exact c3, hr⟩, hok⟩
    have inh : Inhabited Fun7 := ⟨⟨[], 0, [], []⟩⟩
    obtain ⟨f, hf⟩ := choose_lt each
    refine ⟨(List.range len).map f, by simp, fun hn => ?_, by simp; omega, fun g hg => ?_⟩
    · have h0 : 0 < len := by
        rcases Nat.eq_zero_or_pos len with h | h
        · subst h; simp at hn
        · exact h
      obtain ⟨b, off, spot⟩ := ad
      obtain ⟨⟨_, _, _, _, _, _, hc0, _⟩, _⟩ := hf 0 (by omega)
      have hspot : spot = none := by simpa [Addr.add] using World.cell?_spot hc0
      subst hspot
      have hadd : ∀ j, (⟨b, off, none⟩ : Addr).add j = ⟨b, off + j, none⟩ := fun j => by rw [Addr.add_lit]
      refine ⟨b, off, rfl, block_of_cell (by rw [hadd] at hc0; exact hc0), fun i hi => ?_⟩
      have hi' : i < len := by simpa using hi
      obtain ⟨⟨pa, pc, la, lc, ba, bc, c0, c1, c2, c3, hr⟩, _⟩ := hf i (by omega)
      rw [hadd] at c0 c1 c2 c3
      simp only [List.getElem_map, List.getElem_range]
      exact ⟨pa, pc, la, lc, ba, bc, c0, c1, c2, c3, hr⟩
    · obtain ⟨i, hi, rfl⟩ := List.mem_map.1 hg
      exact (hf i (by have := List.mem_range.1 hi; omega)).2
theorem open_glos {H : Type} {enc : TypeId × Value → H} {W : World} {a : Option Addr} {len cap : Nat} {fuel : Nat} {x : DataW H × List MemPlace}
    (h : DataW.trod enc Try.prog W 0 (fun _ => true) true fuel 23 [.slice a len cap] = some x) : ∃ L : List Glo7, len = L.length ∧ Glos W a L ∧ L.length ≤ 9223372036854775807 ∧ ∀ f ∈ L, okG f := by
  rcases open_slice Try.underlying23 h with ⟨h0, _⟩ | ⟨ad, l, c, m, n, D, Pl, hcs, _, hl, hm, hmm, _, hx⟩
  · simp at h0
    obtain ⟨rfl, rfl, rfl⟩ := h0
    exact ⟨[], rfl, fun h => absurd rfl h, by simp, by simp⟩
  · simp at hcs
    obtain ⟨rfl, rfl, rfl⟩ := hcs
    unfold maxLen at hm
    have hm' : m = cap := by simpa using hmm
    subst hm'
    have each : ∀ i, i < m → ∃ f : Glo7, (W.cell? (ad.add (i * 3)) = some (.int .i64 f.ty) ∧ W.cell? (ad.add (i * 3 + 1)) = some (.bool f.fixed) ∧ W.cell? (ad.add (i * 3 + 2)) = some (.int .u64 f.bits)) ∧ okG f := fun i hi => by
      obtain ⟨cs', h1, h2⟩ := hx i hi
      rw [gloCells] at h1
      obtain ⟨_, hlen, hcell⟩ := World.cells?_some h1
      obtain ⟨f, e0, e1, e2, hok⟩ := open_glo h2
      have c0 := hcell 0 (by omega)
      have c1 := hcell 1 (by omega)
      have c2 := hcell 2 (by omega)
      rw [add_add] at c0 c1 c2
      exact ⟨f, ⟨by rw [← e0]; simpa using c0, by rw [← e1]; exact c1, by rw [← e2]; exact c2⟩, hok⟩
    have inh : Inhabited Glo7 := ⟨⟨0, false, 0⟩⟩
    obtain ⟨f, hf⟩ := choose_lt each
    refine ⟨(List.range len).map f, by simp, fun hn => ?_, by simp; omega, fun g hg => ?_⟩
    · have h0 : 0 < len := by
        rcases Nat.eq_zero_or_pos len with h | h
        · subst h; simp at hn
        · exact h
      obtain ⟨b, off, spot⟩ := ad
      obtain ⟨⟨hc0, _⟩, _⟩ := hf 0 (by omega)
      have hspot : spot = none := by simpa [Addr.add] using World.cell?_spot hc0
      subst hspot
      have hadd : ∀ j, (⟨b, off, none⟩ : Addr).add j = ⟨b, off + j, none⟩ := fun j => by rw [Addr.add_lit]
      refine ⟨b, off, rfl, block_of_cell (by rw [hadd] at hc0; exact hc0), fun i hi => ?_⟩
      have hi' : i < len := by simpa using hi
      obtain ⟨⟨c0, c1, c2⟩, _⟩ := hf i (by omega)
      rw [hadd] at c0 c1 c2
      simp only [List.getElem_map, List.getElem_range]
      exact ⟨c0, c1, c2⟩
    · obtain ⟨i, hi, rfl⟩ := List.mem_map.1 hg
      exact (hf i (by have := List.mem_range.1 hi; omega)).2

theorem list6 {α : Type} {cs : List α} (h : cs.length = 6) : ∃ c0 c1 c2 c3 c4 c5, cs = [c0, c1, c2, c3, c4, c5] := by
  match cs, h with
  | [c0, c1, c2, c3, c4, c5], _ => exact ⟨c0, c1, c2, c3, c4, c5, rfl⟩
def IsMod (W : World) (l : Loc7) (M : Mod7) : Prop := ModAt W l M ∧ okM M ∧ (-9223372036854775808 ≤ M.start ∧ M.start ≤ 9223372036854775807)

set_option maxRecDepth 100000 in
/-- A module that comes in. -/
theorem open_mod {H : Type} {enc : TypeId × Value → H} {W : World} {b0 : Nat} {v : Value} {d : DataW H} {p : List MemPlace} (hv : Value.okWide Try.prog W .any b0 25 v)
    (h : DataW.Trod enc Try.prog W 0 (fun _ => true) true 25 v d p) : ∃ l M, v = modV l M ∧ IsMod W l M := by
  obtain ⟨⟨cs⟩, rfl, hsz⟩ := okWide_struct Try.underlying25 hv
  rw [modCells] at hsz
  obtain ⟨c0, c1, c2, c3, c4, c5, rfl⟩ := list6 (by simpa using hsz)
  obtain ⟨fuel, hf⟩ := h
  obtain ⟨_, hf⟩ := trod_field Try.underlying25 (by kernel_rfl) modCells hf
  obtain ⟨v0, y0, n0, e0, h0⟩ := hf 0 _ rfl
  obtain ⟨v1, y1, n1, e1, h1⟩ := hf 1 _ rfl
  obtain ⟨v2, y2, n2, e2, h2⟩ := hf 2 _ rfl
  obtain ⟨v3, y3, n3, e3, h3⟩ := hf 3 _ rfl
  obtain ⟨v4, y4, n4, e4, h4⟩ := hf 4 _ rfl
  obtain ⟨v5, y5, n5, e5, h5⟩ := hf 5 _ rfl
  simp [Value.cells] at e0 e1 e2 e3 e4 e5
  subst e0 e1 e2 e3 e4 e5
  obtain ⟨fa, fl, fc, rfl⟩ := trod_sliceV Try.underlying22 h0
  obtain ⟨ga, gl, gc, rfl⟩ := trod_sliceV Try.underlying23 h1
  obtain ⟨mem, r2, _⟩ := DataW.trod_bool Try.underlying4 h2
  obtain ⟨pages, r3, _, _⟩ := DataW.trod_int Try.underlying3 h3
  obtain ⟨most, r4, _, _⟩ := DataW.trod_int Try.underlying3 h4
  obtain ⟨start, r5, _, hw⟩ := DataW.trod_int Try.underlying3 h5
  simp at r2 r3 r4 r5
  subst r2 r3 r4 r5
  obtain ⟨fs, rfl, hF, hFl, hFo⟩ := open_funs h0
  obtain ⟨gs, rfl, hG, hGl, hGo⟩ := open_glos h1
  exact ⟨⟨fa, fc, ga, gc⟩, ⟨fs, gs, mem, pages, most, start⟩, rfl, ⟨hF, hG⟩, ⟨hFl, hGl, hFo, hGo⟩, bounds_i64 hw⟩

end Go.Proofs.Ytbliopgdkphoaaa
