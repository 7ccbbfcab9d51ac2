/-
  The way through a body from the back: what is no body by its size, its instructions or its last one.
-/
import Derived.Test.YtbliopgdkphoaaaCOut4
namespace Go.Proofs.Ytbliopgdkphoaaa
open Go.ChangeShapes Go.WideShapes Go.ChangeAt Go.RowKit

theorem bk_last : ∀ (l : List Int) (i : Nat) (h : l ≠ []), l.getLast h ≠ 11 → bk i l = none
  | [op], i, _, h2 => by simp at h2; simp [bk, bkStep, h2]
  | op :: x :: r, i, _, h2 => by
    have h3 : (x :: r).getLast (by simp) ≠ 11 := by simpa using h2
    have := bk_last (x :: r) (i + 1) (by simp) h3
    show (bk (i + 1) (x :: r)).bind _ = none
    rw [this]; rfl
theorem insAt_nilW {w w' : World} {b off : Nat} {L : List (Int × Int)} (h : Below w.heap.size w w') (hb : L ≠ [] → b < w.heap.size) (hL : insAt w b off L) : insAt w' b off L := by
  by_cases e : L = []
  · subst e; intro i hi; simp at hi
  · exact fun i hi => ⟨(h.cell (p := ⟨b, off + i * 2, none⟩) (hb e)).trans (hL i hi).1, (h.cell (p := ⟨b, off + i * 2 + 1, none⟩) (hb e)).trans (hL i hi).2⟩
def ToldO (w : World) (L : List (Int × Int)) (r : Ending) (w' : World) : Prop := ∃ va ve d, ((∃ p q c, va = Value.slice p q c) ∧ ∃ p q c, ve = Value.slice p q c) ∧ r = .returned (.tuple #[.agg #[va, ve, .int .i64 d], .bool (eo L).isSome]) ∧ (∀ E D, eo L = some (E, D) → d = ((D : Nat) : Int) ∧ w'.ownsRow w.heap.size 3 1 ve E.length (nv E)) ∧ Below w.heap.size w w'
theorem toldO_no {w w' : World} {L : List (Int × Int)} {va ve : Value} {d : Int} (h : eo L = none) (hb : Below w.heap.size w w') (hv : (∃ p q c, va = Value.slice p q c) ∧ ∃ p q c, ve = Value.slice p q c := by exact ⟨⟨_, _, _, rfl⟩, ⟨_, _, _, rfl⟩⟩) : ToldO w L (.returned (.tuple #[.agg #[va, ve, .int .i64 d], .bool false])) w' :=
  ⟨va, ve, d, hv, by rw [h]; rfl, fun E D he => by rw [h] at he; simp at he, hb⟩
/-- The cells of the answer. -/
structure AnsAt (w : World) (b : Nat) : Prop where
  c0 : w.cell? ⟨b, 0, none⟩ = some (.slice none 0 0)
  c1 : w.cell? ⟨b, 1, none⟩ = some (.slice none 0 0)
  c2 : w.cell? ⟨b, 2, none⟩ = some (.int .i64 0)
  f0 : w.frozen? ⟨b, 0, none⟩ = false
  f1 : w.frozen? ⟨b, 1, none⟩ = false
  f2 : w.frozen? ⟨b, 2, none⟩ = false
theorem AnsAt.keep {w w' : World} {B b : Nat} (h : AnsAt w b) (hb : Below B w w') (hlt : b < B) : AnsAt w' b :=
  ⟨keepCell hb hlt h.c0, keepCell hb hlt h.c1, keepCell hb hlt h.c2, keepFree hb hlt h.f0, keepFree hb hlt h.f1, keepFree hb hlt h.f2⟩
theorem AnsAt.new (w : World) : AnsAt (w.alloc (.cells #[.slice none 0 0, .slice none 0 0, .int .i64 0] 133)) w.heap.size := by
  constructor <;> simp

set_option maxRecDepth 100000 in
set_option maxHeartbeats 3200000 in
theorem outline_bad (a : Option Addr) (b off cap : Nat) (L : List (Int × Int)) (w : World) (ha : Hid (L ≠ [] → a = some ⟨b, off, none⟩ ∧ b < w.heap.size)) (hL : insAt w b off L) (hf : fits L) (hlen : L.length ≤ 1048576) (hg : (allG L && decide (L.length ≤ 200)) = false ∨ L = []) :
    Calls Try.prog 79 #[.slice a L.length cap] w fun e w' => ToldO w L e w' := by
  obtain ⟨g, hgs⟩ : ∃ g, w.heap.size = g := ⟨_, rfl⟩
  obtain ⟨W, hW⟩ : ∃ W, w.alloc (.cells #[.slice none 0 0, .slice none 0 0, .int .i64 0] 133) = W := ⟨_, rfl⟩
  have hBW : Below w.heap.size w W := by rw [← hW]; exact (Below.refl _ _).alloc (Nat.le_refl _) _
  have hA : AnsAt W g := by rw [← hW, ← hgs]; exact AnsAt.new w
  have hWs : W.heap.size = g + 1 := by rw [← hW, ← hgs]; simp
  have hsz := hBW.size
  have HG := implAll a b off cap L W (fun h => ⟨(ha.out h).1, by have := (ha.out h).2; omega⟩) (insAt_nilW hBW (fun h => (ha.out h).2) hL) hf hlen
  have he : Hid (eo L = none) := by
    unfold Hid eo
    rcases hg with h | rfl
    · rw [h]; rfl
    · rfl
  have HBW : Hid (Below w.heap.size w W) := hBW
  have HA : Hid (AnsAt W g) := hA
  have hgL : Hid ((allG L && decide (L.length ≤ 200)) = false ∨ L.length = 0) := hg.imp id (fun h => by rw [h]; rfl)
  clear hg hlen hBW hA hL hf ha hsz
  rcases hgL.out with h0 | h0
  · rw [h0] at HG
    clear h0 hgL
    go_enter Try.func79, Try.ntmps79
    go_wp2_with fail
    refine HG.mono ?_
    rintro r0 w0 ⟨rfl, hb0⟩
    obtain ⟨p0, p1, p2, q0, q1, q2⟩ := HA.out.keep hb0 (by omega)
    have HB0 : Hid (Below w.heap.size w w0) := below2 HBW.out hb0
    clear HG hb0 HA HBW
    go_wp2
    refine bodyPost_ret (v := .tuple #[.agg #[.slice none 0 0, .slice none 0 0, .int .i64 0], .bool false]) (by simp [results, Try.results79, go_sem, p0, p1, p2]) rfl (toldO_no he.out ?_)
    exact ((HB0.out.setCell (by simp; omega) _).setCell (by simp; omega) _).setCell (by simp; omega) _
  · by_cases h1 : (allG L && decide (L.length ≤ 200)) = false
    · rw [h1] at HG
      clear h0 h1 hgL
      go_enter Try.func79, Try.ntmps79
      go_wp2_with fail
      refine HG.mono ?_
      rintro r0 w0 ⟨rfl, hb0⟩
      obtain ⟨p0, p1, p2, q0, q1, q2⟩ := HA.out.keep hb0 (by omega)
      have HB0 : Hid (Below w.heap.size w w0) := below2 HBW.out hb0
      clear HG hb0 HA HBW
      go_wp2
      refine bodyPost_ret (v := .tuple #[.agg #[.slice none 0 0, .slice none 0 0, .int .i64 0], .bool false]) (by simp [results, Try.results79, go_sem, p0, p1, p2]) rfl (toldO_no he.out ?_)
      exact ((HB0.out.setCell (by simp; omega) _).setCell (by simp; omega) _).setCell (by simp; omega) _
    · have h1' : (allG L && decide (L.length ≤ 200)) = true := by simpa using h1
      rw [h1'] at HG
      have hl0 : (L.length : Int) = 0 := by omega
      clear h0 h1 h1' hgL
      go_enter Try.func79, Try.ntmps79
      go_wp2_with fail
      refine HG.mono ?_
      rintro r0 w0 ⟨rfl, hb0⟩
      obtain ⟨p0, p1, p2, q0, q1, q2⟩ := HA.out.keep hb0 (by omega)
      have HB0 : Hid (Below w.heap.size w w0) := below2 HBW.out hb0
      clear HG hb0 HA HBW
      go_wp2
      refine bodyPost_ret (v := .tuple #[.agg #[.slice none 0 0, .slice none 0 0, .int .i64 0], .bool false]) (by simp [results, Try.results79, go_sem, p0, p1, p2]) rfl (toldO_no he.out ?_)
      exact ((HB0.out.setCell (by simp; omega) _).setCell (by simp; omega) _).setCell (by simp; omega) _

set_option maxRecDepth 100000 in
set_option maxHeartbeats 3200000 in
theorem outline_last (b off cap : Nat) (L : List (Int × Int)) (w : World) (hb : b < w.heap.size) (hL : insAt w b off L) (hf : fits L) (hg : (allG L && decide (L.length ≤ 200)) = true) (m : Nat) (hm : L.length = m + 1) (hop : (L[m]'(by omega)).1 ≠ 11) :
    Calls Try.prog 79 #[.slice (some ⟨b, off, none⟩) L.length cap] w fun e w' => ToldO w L e w' := by
  obtain ⟨g, hgs⟩ : ∃ g, w.heap.size = g := ⟨_, rfl⟩
  obtain ⟨W, hW⟩ : ∃ W, w.alloc (.cells #[.slice none 0 0, .slice none 0 0, .int .i64 0] 133) = W := ⟨_, rfl⟩
  have hBW : Below w.heap.size w W := by rw [← hW]; exact (Below.refl _ _).alloc (Nat.le_refl _) _
  have hA : AnsAt W g := by rw [← hW, ← hgs]; exact AnsAt.new w
  have hWs : W.heap.size = g + 1 := by rw [← hW, ← hgs]; simp
  have hsz := hBW.size
  have hm2 : m < 200 := by
    simp only [Bool.and_eq_true, decide_eq_true_eq] at hg; omega
  have HG := implAll (some ⟨b, off, none⟩) b off cap L W (fun h => ⟨rfl, by omega⟩) (insAt_nilW hBW (fun _ => hb) hL) hf (by omega)
  rw [hg] at HG
  have he : Hid (eo L = none) := by
    unfold Hid eo
    rw [hg]
    have h1 : ops L ≠ [] := by intro h; have : (ops L).length = 0 := by rw [h]; rfl
                               simp [ops] at this; rw [this] at hm; simp at hm
    have h2 : (ops L).getLast h1 ≠ 11 := by
      rw [List.getLast_eq_getElem]
      have e1 : (ops L).length - 1 = m := by simp [ops]; omega
      simp only [e1]
      simpa [ops] using hop
    simp [bodyOf, bk_last (ops L) 0 h1 h2]
  have HBW : Hid (Below w.heap.size w W) := hBW
  have HA : Hid (AnsAt W g) := hA
  have hc := hL m (by omega)
  obtain ⟨x, hx⟩ : ∃ x, x = (L[m]'(by omega)) := ⟨_, rfl⟩
  rw [← hx] at hc hop
  obtain ⟨op, y⟩ := x
  clear hx
  simp only at hc hop
  have hcW : W.cell? ⟨b, off + m * 2, none⟩ = some (.int .i64 op) := (hBW.cell (p := ⟨b, off + m * 2, none⟩) hb).trans hc.1
  rw [hm] at HG ⊢
  have ho2 : (op == 11) = false := by simpa using hop
  have hi1 := i64n m (by omega)
  have hi2 := w64m m (by omega)
  have hmm : (m : Int) < (m : Int) + 1 := by omega
  have hmz : ((m : Int) + 1 == 0) = false := by simp; omega
  have hbW : b < W.heap.size := by omega
  clear hg hBW hA hL hf hsz hm hop hc hm2
  go_enter Try.func79, Try.ntmps79
  go_wp2_with fail
  refine HG.mono ?_
  rintro r0 w0 ⟨rfl, hb0⟩
  obtain ⟨p0, p1, p2, q0, q1, q2⟩ := HA.out.keep hb0 (by omega)
  have HB0 : Hid (Below w.heap.size w w0) := below2 HBW.out hb0
  have hc0 : w0.cell? ⟨b, off + m * 2, none⟩ = some (.int .i64 op) := (hb0.cell (p := ⟨b, off + m * 2, none⟩) hbW).trans hcW
  clear HG hb0 HA HBW hcW
  go_wp2
  refine bodyPost_ret (v := .tuple #[.agg #[.slice none 0 0, .slice none 0 0, .int .i64 0], .bool false]) (by simp [results, Try.results79, go_sem, p0, p1, p2]) rfl (toldO_no he.out ?_)
  exact ((HB0.out.setCell (by simp; omega) _).setCell (by simp; omega) _).setCell (by simp; omega) _

end Go.Proofs.Ytbliopgdkphoaaa
