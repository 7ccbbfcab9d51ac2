/-
  The cases of what has a number ahead: the specification's side.
-/
import Derived.Test.YthoenaoanikppaaDoorYPw
import Derived.Maps.AppendAt
namespace Go.Proofs.YthoenaoanikppaaDoor
open Go.ChangeShapes Go.WideShapes Go.ChangeAt Go.RowKit

def casesOf (L : List Nd) (k : Nat) : List (Option Nat) := if kdAt L k = 17 then none :: (kidsOf L k).map some else (kidsOf L k).map some

/-- What lies at a case: nothing, or a part. -/
def EntAt (L : List Nd) (lo hi f : Nat) (w : World) (G j : Nat) (o : Option Nat) : Prop :=
  ∃ kx ny sl', w.cell? ⟨G, j * 3, none⟩ = some (.int .i64 kx) ∧ w.cell? ⟨G, j * 3 + 1, none⟩ = some (.int .i64 ny) ∧ w.cell? ⟨G, j * 3 + 2, none⟩ = some sl' ∧
    ((o = none ∧ kx = 0 ∧ ny = 0 ∧ sl' = .slice none 0 0) ∨ ∃ c, o = some c ∧ kx = kdAt L c ∧ ny = nAt L c ∧ TrRep L lo hi f w c sl')

theorem EntAt.keep {L : List Nd} {lo hi f : Nat} {w w' : World} {G j : Nat} {o : Option Nat} (h : EntAt L lo hi f w G j o) (hG : w'.heap[G]? = w.heap[G]?) (hk : ∀ g, lo ≤ g → g < hi → w'.heap[g]? = w.heap[g]?) : EntAt L lo hi f w' G j o := by
  obtain ⟨kx, ny, sl', h0, h1, h2, h3⟩ := h
  refine ⟨kx, ny, sl', (cell_heap hG _).trans h0, (cell_heap hG _).trans h1, (cell_heap hG _).trans h2, ?_⟩
  rcases h3 with h3 | ⟨c, e1, e2, e3, e4⟩
  · exact Or.inl h3
  · exact Or.inr ⟨c, e1, e2, e3, e4.keep hk⟩
theorem EntAt.shape {L : List Nd} {lo hi f : Nat} {w : World} {G j : Nat} {o : Option Nat} (h : EntAt L lo hi f w G j o) : ∃ kx ny sa sn sc, w.cell? ⟨G, j * 3, none⟩ = some (.int .i64 kx) ∧ w.cell? ⟨G, j * 3 + 1, none⟩ = some (.int .i64 ny) ∧ w.cell? ⟨G, j * 3 + 2, none⟩ = some (.slice sa sn sc) ∧
    ((o = none ∧ kx = 0 ∧ ny = 0 ∧ Value.slice sa sn sc = .slice none 0 0) ∨ ∃ c, o = some c ∧ kx = kdAt L c ∧ ny = nAt L c ∧ TrRep L lo hi f w c (.slice sa sn sc)) := by
  obtain ⟨kx, ny, sl', h0, h1, h2, h3⟩ := h
  rcases h3 with ⟨e1, e2, e3, rfl⟩ | ⟨c, e1, e2, e3, e4⟩
  · exact ⟨kx, ny, none, 0, 0, h0, h1, h2, Or.inl ⟨e1, e2, e3, rfl⟩⟩
  · cases f with
    | zero => exact e4.elim
    | succ f =>
      have h4 := e4
      obtain ⟨a, c', rfl, _⟩ := h4
      exact ⟨kx, ny, _, _, _, h0, h1, h2, Or.inr ⟨c, e1, e2, e3, e4⟩⟩

theorem TrRep.ents {L : List Nd} {lo hi f : Nat} {w : World} {k : Nat} {sl : Value} (h : TrRep L lo hi (f + 1) w k sl) (h0 : 0 < (kidsOf L k).length) :
    ∃ G cap, sl = .slice (some ⟨G, 0, none⟩) (kidsOf L k).length cap ∧ lo ≤ G ∧ G < hi ∧ ∀ j (h : j < (kidsOf L k).length), EntAt L lo hi f w G j (some (kidsOf L k)[j]) := by
  obtain ⟨a, cap, rfl, hh⟩ := h
  obtain ⟨g, _, rfl, l1, l2, _⟩ := hh 0 h0
  refine ⟨g, cap, rfl, l1, l2, fun j hj => ?_⟩
  obtain ⟨g', sl', e1, _, _, x0, x1, x2, x3⟩ := hh j hj
  simp at e1
  subst e1
  exact ⟨_, _, sl', x0, x1, x2, Or.inr ⟨_, rfl, rfl, rfl, x3⟩⟩

set_option maxRecDepth 100000 in
set_option maxHeartbeats 3200000 in
theorem specCases (L : List Nd) (f k : Nat) (w : World) (lo hi : Nat) (sl : Value) (htr : TrRep L lo hi (f + 1) w k sl) (hhi : hi ≤ w.heap.size) (h0 : 0 < (kidsOf L k).length) (h1 : kdAt L k = 17 → (kidsOf L k).length = 1) :
    Calls Tryd.prog 23 #[.agg #[.int .i64 (kdAt L k), .int .i64 (nAt L k), sl]] w fun e w' => ∃ G cap, e = .returned (.slice (some ⟨G, 0, none⟩) (casesOf L k).length cap) ∧ (G < hi ∨ w.heap.size ≤ G) ∧ G < w'.heap.size ∧ (∀ j (h : j < (casesOf L k).length), EntAt L lo hi f w' G j (casesOf L k)[j]) ∧ Below w.heap.size w w' := by
  obtain ⟨i0, hi0, hz0, hz1, hz2⟩ := info_parts Tryd.infoTr
  obtain ⟨G, cap, rfl, l1, l2, hE⟩ := htr.ents h0
  by_cases hx : kdAt L k = 17
  · have hK1 := h1 hx
    obtain ⟨c, hc⟩ : ∃ c, kidsOf L k = [c] := by
      match e : kidsOf L k, hK1 with
      | [c], _ => exact ⟨c, rfl⟩
    have hcs : casesOf L k = [none, some c] := by unfold casesOf; rw [if_pos hx, hc]; rfl
    obtain ⟨kx, ny, sa, sn, sc, d0, d1, d2, hent⟩ := (hE 0 (by omega)).shape
    rw [show (kidsOf L k)[0]'(by omega) = c by simp [hc]] at hent
    rw [hcs, hK1, hx]
    simp only [Nat.zero_mul, Nat.zero_add] at d0 d1 d2
    have HE : Hid (∃ c', some c = some c' ∧ kx = kdAt L c' ∧ ny = nAt L c' ∧ TrRep L lo hi f w c' (.slice sa sn sc)) := by
      rcases hent with h | h
      · exact absurd h.1 (by simp)
      · exact h
    clear hE htr hcs hent hc hK1 h1 h0
    obtain ⟨y, hy⟩ : ∃ y, nAt L k = y := ⟨_, rfl⟩
    rw [hy]
    clear hy
    have hrow0 : ∀ W : World, W.heap.size = w.heap.size + 1 → (W.alloc (.cells #[.int .i64 0, .int .i64 0, .slice none 0 0] 34)).ownsRow w.heap.size 34 3 (.slice (some ⟨w.heap.size + 1, 0, none⟩) 1 1) 1 [.int .i64 0, .int .i64 0, .slice none 0 0] := fun W hW =>
      ⟨rfl, Or.inr ⟨w.heap.size + 1, 1, #[.int .i64 0, .int .i64 0, .slice none 0 0], rfl, by omega, by rw [← hW]; exact heap_alloc_new _ _, by omega, by unfold maxLen; omega, rfl, rfl⟩⟩
    have hGl : G < w.heap.size := by omega
    have hnews : ∀ (W : World) (o1 o2 : Obj), W = (w.alloc o1).alloc o2 → ∀ j u, [Value.int .i64 kx, .int .i64 ny, .slice sa sn sc][j]? = some u → W.cell? ((⟨G, 0, none⟩ : Addr).add j) = some u := fun W o1 o2 hW j u hu => by
      subst hW
      rw [Addr.add_lit, Nat.zero_add]
      match j, hu with
      | 0, hu => simp at hu; subst hu; exact pastCell (by simp; omega) (pastCell hGl d0)
      | 1, hu => simp at hu; subst hu; exact pastCell (by simp; omega) (pastCell hGl d1)
      | 2, hu => simp at hu; subst hu; exact pastCell (by simp; omega) (pastCell hGl d2)
    go_enter Tryd.func23, Tryd.ntmps23
    go_wp2_with (at_builtin; refine wpList_append_own_at _ rfl _ _ 32 rfl w.heap.size 34 i0 (.agg #[.int .i64 0, .int .i64 0, .slice none 0 0]) 3 40 Tryd.underlying32 hi0 hz0 hz1 hz2 rfl (by decide) _ _ _ rfl (hrow0 _ (by simp)) ⟨G, 0, none⟩ 1 _ [.int .i64 kx, .int .i64 ny, .slice sa sn sc] rfl rfl (hnews _ _ _ rfl) (by intro u hu; simp at hu; rcases hu with rfl | rfl | rfl <;> rfl) (by unfold maxLen; omega) (by omega) (by simp; omega) ?_)
    intro v' w5 hown5 hgrow5 _ hloc
    obtain ⟨gN, cN, rfl, _⟩ := own_pos hown5 (by omega)
    obtain ⟨cu, hcu, hgN⟩ := own_at hown5 (g := gN) rfl
    have hgl := lt_of_block hcu
    have hbel : Below w.heap.size w w5 := ((((Below.refl _ _).alloc (Nat.le_refl _) _).alloc (by simp) _)).grown hgrow5 (by simp; omega) (fun k hk => by simp [Value.ownBlock] at hk; omega)
    have HF : Hid (∀ j (h : j < [none, some c].length), EntAt L lo hi f w5 gN j [none, some c][j]) := fun j hj => by
      match j, hj with
      | 0, _ => exact ⟨0, 0, _, hown5.cellAt 0 (by omega), hown5.cellAt 1 (by omega), hown5.cellAt 2 (by omega), Or.inl ⟨rfl, rfl, rfl, rfl⟩⟩
      | 1, _ =>
        obtain ⟨c', e1, e2, e3, e4⟩ := HE.out
        exact ⟨kx, ny, _, hown5.cellAt 3 (by omega), hown5.cellAt 4 (by omega), hown5.cellAt 5 (by omega), Or.inr ⟨c', e1, e2, e3, e4.below hbel hhi⟩⟩
    clear hgrow5 hown5 hnews hrow0 hloc hcu
    go_wp2
    go_ret
    exact ⟨gN, cN, rfl, Or.inr hgN, hgl, HF.out, hbel⟩
  · have hcs : casesOf L k = (kidsOf L k).map some := by unfold casesOf; rw [if_neg hx]
    obtain ⟨x, hxe⟩ : ∃ x, kdAt L k = x := ⟨_, rfl⟩
    obtain ⟨y, hy⟩ : ∃ y, nAt L k = y := ⟨_, rfl⟩
    rw [hxe] at hx ⊢
    rw [hy]
    have e17 : (x == 17) = false := by simpa using hx
    have HF : Hid (∀ j (h : j < (casesOf L k).length), EntAt L lo hi f w G j (casesOf L k)[j]) := by
      rw [hcs]
      intro j hj
      have hj2 : j < (kidsOf L k).length := by simpa using hj
      have := hE j hj2
      rw [List.getElem_map]
      exact this
    have hl : (casesOf L k).length = (kidsOf L k).length := by rw [hcs]; simp
    rw [← hl]
    obtain ⟨cs, hcse⟩ : ∃ cs, casesOf L k = cs := ⟨_, rfl⟩
    rw [hcse] at HF ⊢
    have hGl : G < w.heap.size := by omega
    clear hE htr hcs h1 hx hcse hl h0 hxe hy
    have hba := fun o => (Below.refl w.heap.size w).alloc (Nat.le_refl _) o
    go_enter Tryd.func23, Tryd.ntmps23
    go_wp2
    go_ret
    refine ⟨G, cap, rfl, Or.inl l2, by simp; omega, fun j hj => ?_, hba _⟩
    exact (HF.out j hj).keep ((hba _).block G hGl) (fun g _ hg => (hba _).block g (by omega))

end Go.Proofs.YthoenaoanikppaaDoor
