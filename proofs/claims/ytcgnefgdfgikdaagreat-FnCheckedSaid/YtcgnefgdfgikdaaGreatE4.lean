/-
  The way through a body from the back: the whole of it.
-/
import Derived.Test.YtcgnefgdfgikdaaGreatE2
import Derived.Test.YtcgnefgdfgikdaaGreatE3
import Derived.Test.YtcgnefgdfgikdaaGreatU4
namespace Go.Proofs.YtcgnefgdfgikdaaGreat
open Go.ChangeShapes Go.WideShapes Go.ChangeAt Go.RowKit

/-- One instruction met, whatever it is. -/
theorem meet_step (B go_ ge n k : Nat) (st : List (Nat × Bool)) (e : Nat → Nat) (d : Nat) (va : Value) (op : Int) (w : World) (h : OI w B go_ ge n st e d va) (hk : k < n) (hst : st.length ≤ 200) (hne : st ≠ [] ∨ op = 11) :
    (bkStep k op st = none ∧ Calls Tryz.prog 64 #[.pointer (some ⟨go_, 0, none⟩), .int .i64 (k : Int), .int .i64 op] w fun r w' => r = .returned (.bool false) ∧ Below B w w') ∨
    ∃ st', bkStep k op st = some st' ∧ Calls Tryz.prog 64 #[.pointer (some ⟨go_, 0, none⟩), .int .i64 (k : Int), .int .i64 op] w fun r w' => ∃ va', r = .returned (.bool true) ∧ OI w' B go_ ge n st' (fun q => if q = k then bkTop k op st else e q) (if op = 11 then max d (st.length + 1) else d) va' ∧ Below B w w' := by
  by_cases h11 : op = 11
  · right
    refine ⟨(k, false) :: st, by simp [bkStep, h11], ?_⟩
    refine (meet_end B go_ ge n k st e d va op w h hk (by rw [h11]; rfl) hst).mono ?_
    rintro r w' ⟨ga, c, hr, ho, hb⟩
    refine ⟨.slice (some ⟨ga, 0, none⟩) (st.length + 1) c, hr, ?_, hb⟩
    rw [if_pos h11]
    have e1 : (fun q => if q = k then bkTop k op st else e q) = fun q => if q = k then k else e q := by simp [bkTop, h11]
    rw [e1]; exact ho
  · cases st with
    | nil => exact absurd rfl (hne.resolve_right h11)
    | cons y t =>
      obtain ⟨x, dd⟩ := y
      obtain ⟨ga, c, rfl, hc⟩ := own_pos h.ar (by simp)
      have hO : OpenAt w B go_ ge n x dd t e d ga c t.length := ⟨by simpa using h, rfl, by simp at hst; omega, by simp at hc; omega⟩
      have hT : bkTop k op ((x, dd) :: t) = x := by simp [bkTop, h11]
      rw [hT]
      simp only [h11, if_false]
      by_cases h5 : op = 5
      · cases dd with
        | true =>
          left
          refine ⟨by simp [bkStep, h5], ?_⟩
          refine (meet_else B go_ ge n k x true t e d ga c t.length op w hO hk (by rw [h5]; rfl)).mono ?_
          rintro r w' ⟨hr, _, hb⟩
          exact ⟨hr, hb⟩
        | false =>
          right
          refine ⟨(x, true) :: t, by simp [bkStep, h5], ?_⟩
          refine (meet_else B go_ ge n k x false t e d ga c t.length op w hO hk (by rw [h5]; rfl)).mono ?_
          rintro r w' ⟨hr, ho, hb⟩
          exact ⟨_, hr, ho, hb⟩
      · by_cases ho : opens op = true
        · have hr : role op = 1 := by
            simp only [opens, Bool.or_eq_true, beq_iff_eq] at ho
            unfold role; rw [if_pos (by omega)]
          by_cases ht : t = []
          · left
            refine ⟨by simp [bkStep, h11, h5, ho, ht], ?_⟩
            exact meet_first B go_ ge n k x dd t e d ga c t.length op w hO hk hr (by unfold Hid; rw [ht]; rfl)
          · have hj : 0 < t.length := List.length_pos_iff.2 ht
            by_cases hb : dd = true ∧ op ≠ 4
            · left
              refine ⟨by simp [bkStep, h11, h5, ho, hb.1, hb.2], ?_⟩
              exact meet_bad B go_ ge n k x dd t e d ga c t.length op w hO hk hr hj hb.1 (by simpa using hb.2)
            · right
              refine ⟨t, by simp only [bkStep, h11, if_false, h5, ho, if_true]; rw [if_neg (fun h => h.elim ht hb)], ?_⟩
              refine (meet_open B go_ ge n k x dd t e d ga c t.length op w hO hk hr hj ?_).mono ?_
              · by_cases hd : dd = true
                · right; by_cases h4 : op = 4
                  · simp [h4]
                  · exact absurd ⟨hd, h4⟩ hb
                · left; simpa using hd
              · rintro r w' ⟨hr2, ho2, hb2⟩
                exact ⟨_, hr2, ho2, hb2⟩
        · right
          have ho' : opens op = false := by simpa using ho
          refine ⟨(x, dd) :: t, by simp [bkStep, h11, h5, ho'], ?_⟩
          have hr : role op = 0 := by
            simp only [opens, Bool.or_eq_false_iff, beq_eq_false_iff_ne] at ho'
            unfold role; rw [if_neg (by omega), if_neg h5, if_neg h11]
          refine (meet_other B go_ ge n k x dd t e d ga c t.length op w hO hk hr).mono ?_
          rintro r w' ⟨hr2, ho2, hb2⟩
          exact ⟨_, hr2, ho2, hb2⟩

end Go.Proofs.YtcgnefgdfgikdaaGreat

namespace Go.Proofs.YtcgnefgdfgikdaaGreat
open Go.ChangeShapes Go.WideShapes Go.ChangeAt Go.RowKit

theorem bk_last : ∀ (l : List Int) (i : Nat) (h : l ≠ []), l.getLast h ≠ 11 → bk i l = none
  | [op], i, _, h2 => by simp at h2; simp [bk, bkStep, h2]
  | op :: x :: r, i, _, h2 => by
    have h3 : (x :: r).getLast (by simp) ≠ 11 := by simpa using h2
    have := bk_last (x :: r) (i + 1) (by simp) h3
    show (bk (i + 1) (x :: r)).bind _ = none
    rw [this]; rfl
theorem insAt_nilW {w w' : World} {b off : Nat} {L : List (Int × Int)} (h : Below w.heap.size w w') (hb : L ≠ [] → b < w.heap.size) (hL : insAt w b off L) : insAt w' b off L := by
  by_cases e : L = []
  · subst e; intro i hi; simp at hi
  · exact fun i hi => ⟨(h.cell (p := ⟨b, off + i * 2, none⟩) (hb e)).trans (hL i hi).1, (h.cell (p := ⟨b, off + i * 2 + 1, none⟩) (hb e)).trans (hL i hi).2⟩
def ToldO (w : World) (L : List (Int × Int)) (r : Ending) (w' : World) : Prop := ∃ va ve d, ((∃ p q c, va = Value.slice p q c) ∧ ∃ p q c, ve = Value.slice p q c) ∧ r = .returned (.tuple #[.agg #[va, ve, .int .i64 d], .bool (eo L).isSome]) ∧ (∀ E D, eo L = some (E, D) → d = ((D : Nat) : Int) ∧ w'.ownsRow w.heap.size 3 1 ve E.length (nv E)) ∧ Below w.heap.size w w'
theorem toldO_no {w w' : World} {L : List (Int × Int)} {va ve : Value} {d : Int} (h : eo L = none) (hb : Below w.heap.size w w') (hv : (∃ p q c, va = Value.slice p q c) ∧ ∃ p q c, ve = Value.slice p q c := by exact ⟨⟨_, _, _, rfl⟩, ⟨_, _, _, rfl⟩⟩) : ToldO w L (.returned (.tuple #[.agg #[va, ve, .int .i64 d], .bool false])) w' :=
  ⟨va, ve, d, hv, by rw [h]; rfl, fun E D he => by rw [h] at he; simp at he, hb⟩
/-- The cells of the answer. -/
structure AnsAt (w : World) (b : Nat) : Prop where
  c0 : w.cell? ⟨b, 0, none⟩ = some (.slice none 0 0)
  c1 : w.cell? ⟨b, 1, none⟩ = some (.slice none 0 0)
  c2 : w.cell? ⟨b, 2, none⟩ = some (.int .i64 0)
  f0 : w.frozen? ⟨b, 0, none⟩ = false
  f1 : w.frozen? ⟨b, 1, none⟩ = false
  f2 : w.frozen? ⟨b, 2, none⟩ = false
theorem AnsAt.keep {w w' : World} {B b : Nat} (h : AnsAt w b) (hb : Below B w w') (hlt : b < B) : AnsAt w' b :=
  ⟨keepCell hb hlt h.c0, keepCell hb hlt h.c1, keepCell hb hlt h.c2, keepFree hb hlt h.f0, keepFree hb hlt h.f1, keepFree hb hlt h.f2⟩
theorem AnsAt.new (w : World) : AnsAt (w.alloc (.cells #[.slice none 0 0, .slice none 0 0, .int .i64 0] 88)) w.heap.size := by
  constructor <;> simp

set_option maxRecDepth 100000 in
set_option maxHeartbeats 3200000 in
theorem outline_bad (a : Option Addr) (b off cap : Nat) (L : List (Int × Int)) (w : World) (ha : Hid (L ≠ [] → a = some ⟨b, off, none⟩ ∧ b < w.heap.size)) (hL : insAt w b off L) (hf : fits L) (hlen : L.length ≤ 1048576) (hg : (allG L && decide (L.length ≤ 200)) = false ∨ L = []) :
    Calls Tryz.prog 42 #[.slice a L.length cap] w fun e w' => ToldO w L e w' := by
  obtain ⟨g, hgs⟩ : ∃ g, w.heap.size = g := ⟨_, rfl⟩
  obtain ⟨W, hW⟩ : ∃ W, w.alloc (.cells #[.slice none 0 0, .slice none 0 0, .int .i64 0] 88) = W := ⟨_, rfl⟩
  have hBW : Below w.heap.size w W := by rw [← hW]; exact (Below.refl _ _).alloc (Nat.le_refl _) _
  have hA : AnsAt W g := by rw [← hW, ← hgs]; exact AnsAt.new w
  have hWs : W.heap.size = g + 1 := by rw [← hW, ← hgs]; simp
  have hsz := hBW.size
  have HG := implAll a b off cap L W (fun h => ⟨(ha.out h).1, by have := (ha.out h).2; omega⟩) (insAt_nilW hBW (fun h => (ha.out h).2) hL) hf hlen
  have he : Hid (eo L = none) := by
    unfold Hid eo
    rcases hg with h | rfl
    · rw [h]; rfl
    · rfl
  have HBW : Hid (Below w.heap.size w W) := hBW
  have HA : Hid (AnsAt W g) := hA
  have hgL : Hid ((allG L && decide (L.length ≤ 200)) = false ∨ L.length = 0) := hg.imp id (fun h => by rw [h]; rfl)
  clear hg hlen hBW hA hL hf ha hsz
  rcases hgL.out with h0 | h0
  · rw [h0] at HG
    clear h0 hgL
    go_enter Tryz.func42, Tryz.ntmps42
    go_wp2_with fail
    refine HG.mono ?_
    rintro r0 w0 ⟨rfl, hb0⟩
    obtain ⟨p0, p1, p2, q0, q1, q2⟩ := HA.out.keep hb0 (by omega)
    have HB0 : Hid (Below w.heap.size w w0) := below2 HBW.out hb0
    clear HG hb0 HA HBW
    go_wp2
    refine bodyPost_ret (v := .tuple #[.agg #[.slice none 0 0, .slice none 0 0, .int .i64 0], .bool false]) (by simp [results, Tryz.results42, go_sem, p0, p1, p2]) rfl (toldO_no he.out ?_)
    exact ((HB0.out.setCell (by simp; omega) _).setCell (by simp; omega) _).setCell (by simp; omega) _
  · by_cases h1 : (allG L && decide (L.length ≤ 200)) = false
    · rw [h1] at HG
      clear h0 h1 hgL
      go_enter Tryz.func42, Tryz.ntmps42
      go_wp2_with fail
      refine HG.mono ?_
      rintro r0 w0 ⟨rfl, hb0⟩
      obtain ⟨p0, p1, p2, q0, q1, q2⟩ := HA.out.keep hb0 (by omega)
      have HB0 : Hid (Below w.heap.size w w0) := below2 HBW.out hb0
      clear HG hb0 HA HBW
      go_wp2
      refine bodyPost_ret (v := .tuple #[.agg #[.slice none 0 0, .slice none 0 0, .int .i64 0], .bool false]) (by simp [results, Tryz.results42, go_sem, p0, p1, p2]) rfl (toldO_no he.out ?_)
      exact ((HB0.out.setCell (by simp; omega) _).setCell (by simp; omega) _).setCell (by simp; omega) _
    · have h1' : (allG L && decide (L.length ≤ 200)) = true := by simpa using h1
      rw [h1'] at HG
      have hl0 : (L.length : Int) = 0 := by omega
      clear h0 h1 h1' hgL
      go_enter Tryz.func42, Tryz.ntmps42
      go_wp2_with fail
      refine HG.mono ?_
      rintro r0 w0 ⟨rfl, hb0⟩
      obtain ⟨p0, p1, p2, q0, q1, q2⟩ := HA.out.keep hb0 (by omega)
      have HB0 : Hid (Below w.heap.size w w0) := below2 HBW.out hb0
      clear HG hb0 HA HBW
      go_wp2
      refine bodyPost_ret (v := .tuple #[.agg #[.slice none 0 0, .slice none 0 0, .int .i64 0], .bool false]) (by simp [results, Tryz.results42, go_sem, p0, p1, p2]) rfl (toldO_no he.out ?_)
      exact ((HB0.out.setCell (by simp; omega) _).setCell (by simp; omega) _).setCell (by simp; omega) _

set_option maxRecDepth 100000 in
set_option maxHeartbeats 3200000 in
theorem outline_last (b off cap : Nat) (L : List (Int × Int)) (w : World) (hb : b < w.heap.size) (hL : insAt w b off L) (hf : fits L) (hg : (allG L && decide (L.length ≤ 200)) = true) (m : Nat) (hm : L.length = m + 1) (hop : (L[m]'(by omega)).1 ≠ 11) :
    Calls Tryz.prog 42 #[.slice (some ⟨b, off, none⟩) L.length cap] w fun e w' => ToldO w L e w' := by
  obtain ⟨g, hgs⟩ : ∃ g, w.heap.size = g := ⟨_, rfl⟩
  obtain ⟨W, hW⟩ : ∃ W, w.alloc (.cells #[.slice none 0 0, .slice none 0 0, .int .i64 0] 88) = W := ⟨_, rfl⟩
  have hBW : Below w.heap.size w W := by rw [← hW]; exact (Below.refl _ _).alloc (Nat.le_refl _) _
  have hA : AnsAt W g := by rw [← hW, ← hgs]; exact AnsAt.new w
  have hWs : W.heap.size = g + 1 := by rw [← hW, ← hgs]; simp
  have hsz := hBW.size
  have hm2 : m < 200 := by
    simp only [Bool.and_eq_true, decide_eq_true_eq] at hg; omega
  have HG := implAll (some ⟨b, off, none⟩) b off cap L W (fun h => ⟨rfl, by omega⟩) (insAt_nilW hBW (fun _ => hb) hL) hf (by omega)
  rw [hg] at HG
  have he : Hid (eo L = none) := by
    unfold Hid eo
    rw [hg]
    have h1 : ops L ≠ [] := by intro h; have : (ops L).length = 0 := by rw [h]; rfl
                               simp [ops] at this; rw [this] at hm; simp at hm
    have h2 : (ops L).getLast h1 ≠ 11 := by
      rw [List.getLast_eq_getElem]
      have e1 : (ops L).length - 1 = m := by simp [ops]; omega
      simp only [e1]
      simpa [ops] using hop
    simp [bodyOf, bk_last (ops L) 0 h1 h2]
  have HBW : Hid (Below w.heap.size w W) := hBW
  have HA : Hid (AnsAt W g) := hA
  have hc := hL m (by omega)
  obtain ⟨x, hx⟩ : ∃ x, x = (L[m]'(by omega)) := ⟨_, rfl⟩
  rw [← hx] at hc hop
  obtain ⟨op, y⟩ := x
  clear hx
  simp only at hc hop
  have hcW : W.cell? ⟨b, off + m * 2, none⟩ = some (.int .i64 op) := (hBW.cell (p := ⟨b, off + m * 2, none⟩) hb).trans hc.1
  rw [hm] at HG ⊢
  have ho2 : (op == 11) = false := by simpa using hop
  have hi1 := i64n m (by omega)
  have hi2 := w64m m (by omega)
  have hmm : (m : Int) < (m : Int) + 1 := by omega
  have hmz : ((m : Int) + 1 == 0) = false := by simp; omega
  have hbW : b < W.heap.size := by omega
  clear hg hBW hA hL hf hsz hm hop hc hm2
  go_enter Tryz.func42, Tryz.ntmps42
  go_wp2_with fail
  refine HG.mono ?_
  rintro r0 w0 ⟨rfl, hb0⟩
  obtain ⟨p0, p1, p2, q0, q1, q2⟩ := HA.out.keep hb0 (by omega)
  have HB0 : Hid (Below w.heap.size w w0) := below2 HBW.out hb0
  have hc0 : w0.cell? ⟨b, off + m * 2, none⟩ = some (.int .i64 op) := (hb0.cell (p := ⟨b, off + m * 2, none⟩) hbW).trans hcW
  clear HG hb0 HA HBW hcW
  go_wp2
  refine bodyPost_ret (v := .tuple #[.agg #[.slice none 0 0, .slice none 0 0, .int .i64 0], .bool false]) (by simp [results, Tryz.results42, go_sem, p0, p1, p2]) rfl (toldO_no he.out ?_)
  exact ((HB0.out.setCell (by simp; omega) _).setCell (by simp; omega) _).setCell (by simp; omega) _

end Go.Proofs.YtcgnefgdfgikdaaGreat

namespace Go.Proofs.YtcgnefgdfgikdaaGreat
open Go.ChangeShapes Go.WideShapes Go.ChangeAt Go.RowKit

theorem bk_cons (L : List (Int × Int)) (k : Nat) (h : k < L.length) (st : List (Nat × Bool)) (hb : bk (k + 1) ((ops L).drop (k + 1)) = some st) : bk k ((ops L).drop k) = bkStep k L[k].1 st ∧ bkE k ((ops L).drop k) = bkTop k L[k].1 st :: bkE (k + 1) ((ops L).drop (k + 1)) ∧ bkD k ((ops L).drop k) = if L[k].1 = 11 then max (bkD (k + 1) ((ops L).drop (k + 1))) (st.length + 1) else bkD (k + 1) ((ops L).drop (k + 1)) := by
  rw [fw_op L k h]
  simp [bk, bkE, bkD, hb]
theorem bk_up : ∀ (l : List Int) (i : Nat), bk i l = none → ∀ (p : List Int) (j : Nat), j + p.length = i → bk j (p ++ l) = none
  | l, i, h, [], j, hj => by simp at hj; subst hj; exact h
  | l, i, h, x :: p, j, hj => by
    have := bk_up l i h p (j + 1) (by simp at hj; omega)
    simp [bk, this]
theorem eo_stop {L : List (Int × Int)} {k : Nat} (h : eo L = bodyOf (ops L)) (hb : bk k ((ops L).drop k) = none) (hk : k ≤ L.length) : eo L = none := by
  have h1 := bk_up _ k hb ((ops L).take k) 0 (by simp [ops]; omega)
  rw [List.take_append_drop] at h1
  rw [h]; unfold bodyOf; rw [h1]
theorem eo_yes {L : List (Int × Int)} (x : Nat) (h : eo L = bodyOf (ops L)) (hb : bk 0 (ops L) = some [(x, false)]) : eo L = some (bkE 0 (ops L), bkD 0 (ops L)) := by
  rw [h]; unfold bodyOf; rw [hb]
theorem eo_not {L : List (Int × Int)} (st : List (Nat × Bool)) (h : eo L = bodyOf (ops L)) (hb : bk 0 (ops L) = some st) (hne : ∀ x, st ≠ [(x, false)]) : eo L = none := by
  rw [h]; unfold bodyOf; rw [hb]
  split
  · rename_i x hx
    simp only [Option.some.injEq] at hx
    exact absurd hx (hne x)
  · rfl
theorem w64s (k : Nat) (h : k ≤ 400) : wrap64 ((k : Int) - 1) = (k : Int) - 1 := by unfold wrap64; omega
/-- What the walk from the back has found so far. -/
def found (L : List (Int × Int)) (k n : Nat) (st : List (Nat × Bool)) (e : Nat → Nat) (d : Nat) : Prop :=
  bk k ((ops L).drop k) = some st ∧ (∀ q, k ≤ q → q < n → some (e q) = (bkE k ((ops L).drop k))[q - k]?) ∧ d = bkD k ((ops L).drop k) ∧ st.length ≤ n - k
theorem found_next {L : List (Int × Int)} {k n : Nat} {st st' : List (Nat × Bool)} {e : Nat → Nat} {d : Nat} (hn : L.length = n) (hk : k < n) (h : found L (k + 1) n st e d) (hs : bkStep k (L[k]'(by omega)).1 st = some st') :
    found L k n st' (fun q => if q = k then bkTop k (L[k]'(by omega)).1 st else e q) (if (L[k]'(by omega)).1 = 11 then max d (st.length + 1) else d) := by
  obtain ⟨h1, h2, h3, h4⟩ := h
  obtain ⟨b1, b2, b3⟩ := bk_cons L k (by omega) st h1
  refine ⟨by rw [b1, hs], fun q hq hqn => ?_, by rw [b3, h3], ?_⟩
  · rw [b2]
    by_cases hqk : q = k
    · subst hqk; simp
    · obtain ⟨j, rfl⟩ : ∃ j, q = k + 1 + j := ⟨q - (k + 1), by omega⟩
      rw [show k + 1 + j - k = j + 1 by omega, List.getElem?_cons_succ]
      simp only [hqk, if_false]
      have := h2 (k + 1 + j) (by omega) hqn
      rw [show k + 1 + j - (k + 1) = j by omega] at this
      exact this
  · have : st'.length ≤ st.length + 1 := by
      unfold bkStep at hs
      split at hs
      · simp only [Option.some.injEq] at hs; subst hs; simp
      · cases st with
        | nil => simp at hs
        | cons y t =>
          simp only at hs
          repeat' split at hs
          all_goals simp only [Option.some.injEq, reduceCtorEq] at hs
          all_goals subst hs
          all_goals first | (simp; done) | (simp; omega)
    omega

/-- A region with one store that floats, some operations guarded away. -/
structure WF (P : Program) (ops : Array Oper) (C : Bool → World → Prop) (s : Nat) (Q : Act → Prop) (k : Nat) (l : List Oper) (a : Act) : Prop where
  out : wpFlag P ops C s Q k l a
section
variable {P : Program} {ops : Array Oper} {C : Bool → World → Prop} {s : Nat} {Q : Act → Prop} {a : Act} {o : Oper} {rest : List Oper} {k : Nat}
theorem wf_go (v : Value) (hw : Region.wanted o (yielded ops a.tmps) = true) (st : Bool) (hst : (k == s) = st)
    (h1 : ∀ b w, (st = true → b = false) → C b w → uponF P (C (b || st)) v ((execOp a.eval o).run P w)) (h2 : WF P ops C s Q (k + 1) rest (a.put o.dst v)) : WF P ops C s Q k (o :: rest) a := ⟨wpFlag_go v hw st hst h1 h2.out⟩
theorem wf_no (hw : Region.wanted o (yielded ops a.tmps) = false) (hk : k ≠ s) (h2 : WF P ops C s Q (k + 1) rest (a.put o.dst undef)) : WF P ops C s Q k (o :: rest) a := by
  refine ⟨?_⟩
  unfold wpFlag
  rw [if_neg (by rw [hw]; exact Bool.false_ne_true)]
  exact ⟨hk, h2.out⟩
theorem wf_nil (h : Q a) : WF P ops C s Q k [] a := ⟨h⟩
end
/-- Worlds that keep W; behind the store: that keep V. -/
def KG (W V : World) (b : Bool) (w : World) : Prop := Keeps (if b then V else W) w
structure KGany (W V w : World) : Prop where
  ex : ∃ b, KG W V b w
theorem KG.any {W V w : World} {b : Bool} (h : KG W V b w) : KGany W V w := ⟨b, h⟩
theorem gcall {W V w : World} {v : Value} {b : Bool} (hq : KG W V b w) {P : Program} {f : FuncId} {args : Array Value} (h : Calls P f args w fun e w' => e = .returned v ∧ Below w.heap.size w w') :
    Calls P f args w fun e w' => e = .returned v ∧ KG W V b w' := h.mono fun _ _ ⟨he, hb⟩ => ⟨he, Keeps.step hq hb⟩
/-- Three cells of one block are written. -/
def put3 (W : World) (g : Nat) (x y z : Value) : World := ((W.setCell ⟨g, 0, none⟩ x).setCell ⟨g, 1, none⟩ y).setCell ⟨g, 2, none⟩ z
theorem kg_store {W w : World} {g : Nat} {x y z : Value} (h : KG W (put3 W g x y z) false w) : KG W (put3 W g x y z) true (((w.setCell ⟨g, 0, none⟩ x).setCell ⟨g, 1, none⟩ y).setCell ⟨g, 2, none⟩ z) := by
  have h0 : KeepsB W ⟨g, 0, none⟩ x false w := h
  have h1 : KeepsB (W.setCell ⟨g, 0, none⟩ x) ⟨g, 1, none⟩ y false (w.setCell ⟨g, 0, none⟩ x) := keepsB_store h0
  have h2 : KeepsB ((W.setCell ⟨g, 0, none⟩ x).setCell ⟨g, 1, none⟩ y) ⟨g, 2, none⟩ z false ((w.setCell ⟨g, 0, none⟩ x).setCell ⟨g, 1, none⟩ y) := keepsB_store h1
  exact keepsB_store h2
theorem put3_other {W : World} {g q : Nat} {x y z : Value} (h : q ≠ g) : (put3 W g x y z).heap[q]? = W.heap[q]? := by
  unfold put3
  rw [heap_setCell_other _ _ _ _ h, heap_setCell_other _ _ _ _ h, heap_setCell_other _ _ _ _ h]
theorem put3_size {W : World} {g : Nat} {x y z : Value} : (put3 W g x y z).heap.size = W.heap.size := by simp [put3]
theorem KGany.block {W w : World} {g q : Nat} {x y z : Value} (h : KGany W (put3 W g x y z) w) (hq : q < W.heap.size) (hne : q ≠ g) : w.heap[q]? = W.heap[q]? := by
  obtain ⟨b, hb⟩ := h
  unfold KG at hb
  cases b
  · exact (Keeps.below hb).block q hq
  · exact ((Keeps.below (W := put3 W g x y z) hb).block q (by rw [put3_size]; exact hq)).trans (put3_other hne)
theorem KGany.cell {W w : World} {g q o : Nat} {x y z v : Value} (h : KGany W (put3 W g x y z) w) (hq : q < W.heap.size) (hne : q ≠ g) (hc : W.cell? ⟨q, o, none⟩ = some v) : w.cell? ⟨q, o, none⟩ = some v :=
  (World.cell?_of_block (a := ⟨q, o, none⟩) (h.block hq hne)).trans hc
theorem put3_cells {W : World} {g : Nat} {x y z : Value} (h : AnsAt W g) : (put3 W g x y z).cell? ⟨g, 0, none⟩ = some x ∧ (put3 W g x y z).cell? ⟨g, 1, none⟩ = some y ∧ (put3 W g x y z).cell? ⟨g, 2, none⟩ = some z := by
  obtain ⟨c0, c1, c2, _, _, _⟩ := h
  unfold put3
  refine ⟨?_, ?_, ?_⟩ <;> simp [go_sem, c0, c1, c2]

set_option maxRecDepth 100000 in
set_option maxHeartbeats 6400000 in
theorem outline_good (b off cap : Nat) (L : List (Int × Int)) (w : World) (hb : b < w.heap.size) (hL : insAt w b off L) (hf : fits L) (hg : (allG L && decide (L.length ≤ 200)) = true) (m : Nat) (hm : L.length = m + 1) (hop : (L[m]'(by omega)).1 = 11) :
    Calls Tryz.prog 42 #[.slice (some ⟨b, off, none⟩) L.length cap] w fun e w' => ToldO w L e w' := by
  obtain ⟨g, hgs⟩ : ∃ g, w.heap.size = g := ⟨_, rfl⟩
  obtain ⟨W, hW⟩ : ∃ W, w.alloc (.cells #[.slice none 0 0, .slice none 0 0, .int .i64 0] 88) = W := ⟨_, rfl⟩
  have hBW : Below w.heap.size w W := by rw [← hW]; exact (Below.refl _ _).alloc (Nat.le_refl _) _
  have hA : AnsAt W g := by rw [← hW, ← hgs]; exact AnsAt.new w
  have hWs : W.heap.size = g + 1 := by rw [← hW, ← hgs]; simp
  have hsz := hBW.size
  have hm2 : m < 200 := by
    simp only [Bool.and_eq_true, decide_eq_true_eq] at hg; omega
  have HG := implAll (some ⟨b, off, none⟩) b off cap L W (fun h => ⟨rfl, by omega⟩) (insAt_nilW hBW (fun _ => hb) hL) hf (by omega)
  rw [hg] at HG
  have hres : Hid (eo L = bodyOf (ops L)) := by unfold Hid eo; rw [hg]; rfl
  have HBW : Hid (Below w.heap.size w W) := hBW
  have HA : Hid (AnsAt W g) := hA
  have HLW : Hid (insAt W b off L) := insAt_nilW hBW (fun _ => hb) hL
  have hcW : W.cell? ⟨b, off + m * 2, none⟩ = some (.int .i64 11) := by
    have hc := hL m (by omega)
    rw [hop] at hc
    exact (hBW.cell (p := ⟨b, off + m * 2, none⟩) hb).trans hc.1
  obtain ⟨i0, i0i, i00, i01, i02⟩ := info_parts Tryz.infoI
  obtain ⟨n, hn⟩ : ∃ n, m + 1 = n := ⟨_, rfl⟩
  have hmk : ∀ X : World, (Instr.makeSlice 36 (.int .i64 ((m : Int) + 1)) (.int .i64 ((m : Int) + 1))).run Tryz.prog X = .ok (.slice (some ⟨X.heap.size, 0, none⟩) (m + 1) (m + 1)) (X.alloc (.cells (outRow (fun _ => 0) (m + 1)) 3)) := fun X => by
    have h := run_make (P := Tryz.prog) X 36 3 i0 _ Tryz.underlying36 i0i i00 .i64 .i64 (((m + 1 : Nat)) : Int) (((m + 1 : Nat)) : Int) (by omega) (by omega) (by rw [i02]; omega) (by omega)
    rw [i01] at h
    rw [← made_i64]
    simpa using h
  have HN : Hid (L.length = m + 1 ∧ m < 200) := ⟨hm, hm2⟩
  have HOP : Hid (∀ (k : Nat) (hk : k < L.length), k = m → (L[k]'hk).1 = 11) := fun k hk e => by subst e; exact hop
  rw [hm] at HG ⊢
  have hmm : (m : Int) < (m : Int) + 1 := by omega
  have hmz : ((m : Int) + 1 == 0) = false := by simp; omega
  have hbW : b < W.heap.size := by omega
  have hm4 : m ≤ 400 := by omega
  clear hg hBW hA hL hf hsz hm hop hm2 hn
  go_enter Tryz.func42, Tryz.ntmps42
  go_wp2_with fail
  refine HG.mono ?_
  rintro r0 w0 ⟨rfl, hb0⟩
  have HA0 : Hid (AnsAt w0 g) := HA.out.keep hb0 (by omega)
  have HB0 : Hid (Below w.heap.size w w0) := below2 HBW.out hb0
  have hc0 : w0.cell? ⟨b, off + m * 2, none⟩ = some (.int .i64 11) := (hb0.cell (p := ⟨b, off + m * 2, none⟩) hbW).trans hcW
  have HL0 : Hid (insAt w0 b off L) := insAt_nilW hb0 (fun _ => hbW) HLW.out
  have hgB : Hid (g < w0.heap.size ∧ b < w0.heap.size) := by have := hb0.size; unfold Hid; omega
  have HB3 : Hid (Below w0.heap.size w0 ((w0.alloc (.cells (outRow (fun _ => 0) (m + 1)) 3)).alloc (.cells #[.slice none 0 0, .slice (some ⟨w0.heap.size, 0, none⟩) (m + 1) (m + 1), .int .i64 0] 88))) := ((Below.refl _ _).alloc (Nat.le_refl _) _).alloc (by simp) _
  have HOI : Hid (OI ((w0.alloc (.cells (outRow (fun _ => 0) (m + 1)) 3)).alloc (.cells #[.slice none 0 0, .slice (some ⟨w0.heap.size, 0, none⟩) (m + 1) (m + 1), .int .i64 0] 88)) w0.heap.size (w0.heap.size + 1) w0.heap.size (m + 1) [] (fun _ => 0) 0 (.slice none 0 0)) := by
    refine ⟨?_, ?_, World.ownsRow_nil _ _ _ _, by omega, by omega⟩
    · have h := heap_alloc_new (w0.alloc (.cells (outRow (fun _ => 0) (m + 1)) 3)) (.cells #[.slice none 0 0, .slice (some ⟨w0.heap.size, 0, none⟩) (m + 1) (m + 1), .int .i64 0] 88)
      simp only [World.size_alloc] at h
      exact h
    · exact (Below.heap_alloc _ _ _ (by simp)).trans (heap_alloc_new w0 (.cells (outRow (fun _ => 0) (m + 1)) 3))
  clear HG hb0 HA HBW hcW HLW
  have hi1 := i64n m hm4
  have hi2 := w64m m hm4
  go_wp2
  clear hi1 hi2 hmm hmz hmk
  obtain ⟨B, hBs⟩ : ∃ B, w0.heap.size = B := ⟨_, rfl⟩
  rw [hBs] at HOI HB3 hgB ⊢
  go_loopw [5] (fun ix wr => ∃ (k : Nat) (st : List (Nat × Bool)) (e : Nat → Nat) (d : Nat) (va : Value), k ≤ m + 1 ∧ ix = .int .i64 ((k : Int) - 1) ∧ Hid (found L k (m + 1) st e d) ∧ Hid (OI wr B (B + 1) B (m + 1) st e d va) ∧ Below B w0 wr) (fun i _ => ((intOf i) + 1).toNat)
  case atStart =>
    refine ⟨m + 1, [], fun _ => 0, 0, .slice none 0 0, by omega, by go_num, ⟨?_, fun q h1 h2 => absurd h2 (by omega), ?_, by simp⟩, HOI.out, HB3.out⟩
    · rw [List.drop_of_length_le (by have := HN.out.1; simp [ops]; omega)]; rfl
    · rw [List.drop_of_length_le (by have := HN.out.1; simp [ops]; omega)]; rfl
  case round =>
    clear HOI HB3 hc0
    obtain ⟨k1, st, e, d, va, hk1, rfl, hfo, hOI, hnx⟩ := hrel
    cases k1 with
    | zero =>
      have hfo0 := hfo.out
      simp only [found, List.drop_zero] at hfo0
      obtain ⟨hb0, he0, hd0, hl0⟩ := hfo0
      by_cases h1 : st.length = 1
      · obtain ⟨⟨x, dd⟩, rfl⟩ := List.length_eq_one_iff.1 h1
        obtain ⟨ga, c, rfl, hcc⟩ := own_pos hOI.out.ar (by simp)
        simp only [List.length_cons, List.length_nil, Nat.zero_add] at hOI
        have HO : OpenAt wr B (B + 1) B (m + 1) x dd [] e d ga c 0 := ⟨hOI.out, rfl, by omega, by simpa using hcc⟩
        have hlo := lt_of_block hOI.out.o
        have hgl : g < wr.heap.size := by have := hgB.out; omega
        have HANS0 : Hid (AnsAt wr g) := HA0.out.keep hnx hgB.out.1
        have a0 : wr.cell? ⟨B + 1, 0, none⟩ = some (.slice (some ⟨ga, 0, none⟩) 1 c) := by rw [cell_of_block hOI.out.o]; rfl
        have a1 : wr.cell? ⟨B + 1, 1, none⟩ = some (.slice (some ⟨B, 0, none⟩) (m + 1) (m + 1)) := by rw [cell_of_block hOI.out.o]; rfl
        have a2 : wr.cell? ⟨B + 1, 2, none⟩ = some (.int .i64 (d : Int)) := by rw [cell_of_block hOI.out.o]; rfl
        have hBg1 : B + 1 ≠ g := by have := hgB.out.1; omega
        have k0 : ∀ w', KGany wr (put3 wr g (.slice (some ⟨ga, 0, none⟩) 1 c) (.slice (some ⟨B, 0, none⟩) (m + 1) (m + 1)) (.int .i64 (d : Int))) w' → w'.cell? ⟨B + 1, 0, none⟩ = some (.slice (some ⟨ga, 0, none⟩) 1 c) := fun w' h => h.cell hlo hBg1 a0
        have k1 : ∀ w', KGany wr (put3 wr g (.slice (some ⟨ga, 0, none⟩) 1 c) (.slice (some ⟨B, 0, none⟩) (m + 1) (m + 1)) (.int .i64 (d : Int))) w' → w'.cell? ⟨B + 1, 1, none⟩ = some (.slice (some ⟨B, 0, none⟩) (m + 1) (m + 1)) := fun w' h => h.cell hlo hBg1 a1
        have k2 : ∀ w', KGany wr (put3 wr g (.slice (some ⟨ga, 0, none⟩) 1 c) (.slice (some ⟨B, 0, none⟩) (m + 1) (m + 1)) (.int .i64 (d : Int))) w' → w'.cell? ⟨B + 1, 2, none⟩ = some (.int .i64 (d : Int)) := fun w' h => h.cell hlo hBg1 a2
        have kA : ∀ w', KG wr (put3 wr g (.slice (some ⟨ga, 0, none⟩) 1 c) (.slice (some ⟨B, 0, none⟩) (m + 1) (m + 1)) (.int .i64 (d : Int))) false w' → AnsAt w' g := fun w' h => HANS0.out.keep (Keeps.below (W := wr) h) hgl
        have HANS : Hid (AnsAt wr g) := HA0.out.keep hnx hgB.out.1
        have HOK : Hid (OI wr B (B + 1) B (m + 1) [(x, dd)] e d (.slice (some ⟨ga, 0, none⟩) 1 c)) := hOI.out
        have hBw : Hid (Below w.heap.size w wr) := HB0.out.trans (hnx.mono (by have := HB0.out.size; omega))
        have cd := HO.cells.2.1
        simp only [Nat.zero_mul, Nat.zero_add] at cd
        have hla : ga < wr.heap.size := by obtain ⟨cur, hc9, _⟩ := own_at hOI.out.ar (g := ga) rfl; exact lt_of_block hc9
        have hgag : ga ≠ g := fun h9 => by (obtain ⟨cur, hc9, hB9⟩ := own_at hOI.out.ar (g := ga) rfl; have := hgB.out.1; omega)
        have k3 : ∀ w', KGany wr (put3 wr g (.slice (some ⟨ga, 0, none⟩) 1 c) (.slice (some ⟨B, 0, none⟩) (m + 1) (m + 1)) (.int .i64 (d : Int))) w' → w'.cell? ⟨ga, 1, none⟩ = some (.bool dd) := fun w' h => h.cell hla hgag cd
        have HI : ∀ w2 : World, KGany wr (put3 wr g (.slice (some ⟨ga, 0, none⟩) 1 c) (.slice (some ⟨B, 0, none⟩) (m + 1) (m + 1)) (.int .i64 (d : Int))) w2 → Calls Tryz.prog 65 #[.pointer (some ⟨B + 1, 0, none⟩)] w2 fun r w' => r = .returned (.pointer (some ⟨ga, 0, none⟩)) ∧ Below w2.heap.size w2 w' := fun w2 h2 => by
          have h9 := innermost_at (B + 1) ga 0 c _ _ w2 ((h2.block hlo hBg1).trans hOI.out.o) (by omega)
          simpa using h9
        have HF : Hid (found L 0 (m + 1) [(x, dd)] e d) := hfo.out
        clear hOI HO cd a0 a1 a2 hfo hb0 he0 hd0 hl0 hcc hlo hla h1
        go_wp2_with fail
        refine region_flag (C := KG wr (put3 wr g (.slice (some ⟨ga, 0, none⟩) 1 c) (.slice (some ⟨B, 0, none⟩) (m + 1) (m + 1)) (.int .i64 (d : Int)))) 13 12 (by kernel_rfl) (by kernel_rfl) (by omega) (Keeps.drew wr) ?_
        apply WF.out
        (iterate 12
          (apply wf_go _ (by rfl) false (by rfl)
           · intro bq wq _ hq
             have hx := hq.any
             go_simp
             first
               | (apply uponF_call; go_at_call 65; exact gcall hq (HI wq hx))
               | exact uponF_value hq rfl
           simp only [Act.put, List.setIfInBounds_toArray, List.set_cons_succ, List.set_cons_zero]))
        (apply wf_go _ (by rfl) true (by rfl)
         · intro bq wq hb hq
           obtain rfl := hb rfl
           obtain ⟨p0, p1, p2, q0, q1, q2⟩ := kA wq hq
           go_simp
           first
             | exact uponF_skip (kg_store hq) rfl
             | exact uponF_value (kg_store hq) rfl
         simp only [Act.put])
        refine wf_nil ?_
        intro wz hkz
        have hkz' : Keeps (put3 wr g (.slice (some ⟨ga, 0, none⟩) 1 c) (.slice (some ⟨B, 0, none⟩) (m + 1) (m + 1)) (.int .i64 (d : Int))) wz := hkz
        obtain ⟨v0, v1, v2⟩ := put3_cells (x := .slice (some ⟨ga, 0, none⟩) 1 c) (y := .slice (some ⟨B, 0, none⟩) (m + 1) (m + 1)) (z := .int .i64 (d : Int)) HANS.out
        have p0 := hkz'.cell (by rw [put3_size]; exact hgl) v0
        have p1 := hkz'.cell (by rw [put3_size]; exact hgl) v1
        have p2 := hkz'.cell (by rw [put3_size]; exact hgl) v2
        have hBl : B < wr.heap.size := lt_of_block HOK.out.en
        have hBg : B ≠ g := fun h9 => by have := hgB.out.1; omega
        have HEN : Hid (wz.heap[B]? = some (.cells (outRow e (m + 1)) 3 (0, 0))) := ((hkz'.below.block B (by rw [put3_size]; exact hBl)).trans (put3_other hBg)).trans HOK.out.en
        have HZ : Hid (Below w.heap.size w wz) := (((hBw.out.setCell (by simp; omega) _).setCell (by simp; omega) _).setCell (by simp; omega) _).trans (hkz'.below.mono (by rw [put3_size]; exact hBw.out.size))
        clear hkz hkz' k0 k1 k2 kA HOK HANS HANS0 hBw v0 v1 v2
        go_wp2
        refine bodyPost_ret (v := .tuple #[.agg #[.slice (some ⟨ga, 0, none⟩) 1 c, .slice (some ⟨B, 0, none⟩) (m + 1) (m + 1), .int .i64 (d : Int)], .bool (!dd)]) (by simp [results, Tryz.results42, go_sem, p0, p1, p2]) rfl ?_
        have hB3 := HZ.out
        have hf9 := HF.out
        simp only [found, List.drop_zero, Nat.sub_zero] at hf9
        cases dd with
        | true => exact toldO_no (eo_not _ hres.out hf9.1 (by intro x h9; simp at h9)) hB3
        | false =>
          have he9 := eo_yes x hres.out hf9.1
          refine ⟨_, _, _, ⟨⟨_, _, _, rfl⟩, ⟨_, _, _, rfl⟩⟩, by rw [he9]; rfl, fun E D h9 => ?_, hB3⟩
          rw [he9] at h9
          simp only [Option.some.injEq, Prod.mk.injEq] at h9
          obtain ⟨rfl, rfl⟩ := h9
          have hEl : (bkE 0 (ops L)).length = m + 1 := by rw [bkE_len]; simp [ops]; exact HN.out.1
          refine ⟨by rw [hf9.2.2.1], by rw [nv_len]; omega, Or.inr ⟨B, m + 1, outRow e (m + 1), by rw [hEl], by have := HB0.out.size; omega, HEN.out, by omega, by unfold maxLen; have := HN.out.2; omega, by simp [outRow], ?_⟩⟩
          · rw [hEl, Nat.mul_one, List.take_of_length_le (by simp [outRow])]
            exact outRow_nv e _ _ hEl (fun q hq => hf9.2.1 q (by omega) hq)
      · have hz0 : 0 < st.length := by
          rcases Nat.eq_zero_or_pos st.length with h9 | h9
          · exfalso
            have h8 := hb0
            have hL0 : 0 < L.length := by have := HN.out.1; omega
            have e9 := fw_op L 0 hL0
            rw [List.drop_zero] at e9
            rw [e9] at h8
            exact bk_ne _ _ _ _ h8 (List.length_eq_zero_iff.1 h9)
          · exact h9
        obtain ⟨ga, c, rfl, hcc⟩ := own_pos hOI.out.ar hz0
        have he : Hid (eo L = none) := eo_not st hres.out hb0 (fun x h9 => h1 (by rw [h9]; rfl))
        obtain ⟨z, hz⟩ : ∃ z, st.length = z := ⟨_, rfl⟩
        rw [hz] at hOI
        have hz1 : ((z : Int) == 1) = false := by simp; omega
        have hlo := lt_of_block hOI.out.o
        have hgl : g < wr.heap.size := by have := hgB.out; omega
        have HANS0 : Hid (AnsAt wr g) := HA0.out.keep hnx hgB.out.1
        have a0 : wr.cell? ⟨B + 1, 0, none⟩ = some (.slice (some ⟨ga, 0, none⟩) z c) := by rw [cell_of_block hOI.out.o]; rfl
        have a1 : wr.cell? ⟨B + 1, 1, none⟩ = some (.slice (some ⟨B, 0, none⟩) (m + 1) (m + 1)) := by rw [cell_of_block hOI.out.o]; rfl
        have a2 : wr.cell? ⟨B + 1, 2, none⟩ = some (.int .i64 (d : Int)) := by rw [cell_of_block hOI.out.o]; rfl
        have hBg1 : B + 1 ≠ g := by have := hgB.out.1; omega
        have k0 : ∀ w', KGany wr (put3 wr g (.slice (some ⟨ga, 0, none⟩) z c) (.slice (some ⟨B, 0, none⟩) (m + 1) (m + 1)) (.int .i64 (d : Int))) w' → w'.cell? ⟨B + 1, 0, none⟩ = some (.slice (some ⟨ga, 0, none⟩) z c) := fun w' h => h.cell hlo hBg1 a0
        have k1 : ∀ w', KGany wr (put3 wr g (.slice (some ⟨ga, 0, none⟩) z c) (.slice (some ⟨B, 0, none⟩) (m + 1) (m + 1)) (.int .i64 (d : Int))) w' → w'.cell? ⟨B + 1, 1, none⟩ = some (.slice (some ⟨B, 0, none⟩) (m + 1) (m + 1)) := fun w' h => h.cell hlo hBg1 a1
        have k2 : ∀ w', KGany wr (put3 wr g (.slice (some ⟨ga, 0, none⟩) z c) (.slice (some ⟨B, 0, none⟩) (m + 1) (m + 1)) (.int .i64 (d : Int))) w' → w'.cell? ⟨B + 1, 2, none⟩ = some (.int .i64 (d : Int)) := fun w' h => h.cell hlo hBg1 a2
        have kA : ∀ w', KG wr (put3 wr g (.slice (some ⟨ga, 0, none⟩) z c) (.slice (some ⟨B, 0, none⟩) (m + 1) (m + 1)) (.int .i64 (d : Int))) false w' → AnsAt w' g := fun w' h => HANS0.out.keep (Keeps.below (W := wr) h) hgl
        have HANS : Hid (AnsAt wr g) := HA0.out.keep hnx hgB.out.1
        have HOK : Hid (OI wr B (B + 1) B (m + 1) st e d (.slice (some ⟨ga, 0, none⟩) z c)) := hOI.out
        have hBw : Hid (Below w.heap.size w wr) := HB0.out.trans (hnx.mono (by have := HB0.out.size; omega))
        clear hOI a0 a1 a2 hfo hb0 he0 hd0 hl0 hcc hlo h1 hz0 hz
        go_wp2_with fail
        refine region_flag (C := KG wr (put3 wr g (.slice (some ⟨ga, 0, none⟩) z c) (.slice (some ⟨B, 0, none⟩) (m + 1) (m + 1)) (.int .i64 (d : Int)))) 13 12 (by kernel_rfl) (by kernel_rfl) (by omega) (Keeps.drew wr) ?_
        apply WF.out
        (iterate 6
          (apply wf_go _ (by rfl) false (by rfl)
           · intro bq wq _ hq
             have hx := hq.any
             go_simp
             first
               | fail
               | exact uponF_value hq rfl
           simp only [Act.put, List.setIfInBounds_toArray, List.set_cons_succ, List.set_cons_zero]))
        (iterate 5
          (refine wf_no (by rfl) (by decide) ?_
           simp only [Act.put, List.setIfInBounds_toArray, List.set_cons_succ, List.set_cons_zero]))
        (iterate 1
          (apply wf_go _ (by rfl) false (by rfl)
           · intro bq wq _ hq
             have hx := hq.any
             go_simp
             first
               | fail
               | exact uponF_value hq rfl
           simp only [Act.put, List.setIfInBounds_toArray, List.set_cons_succ, List.set_cons_zero]))
        (apply wf_go _ (by rfl) true (by rfl)
         · intro bq wq hb hq
           obtain rfl := hb rfl
           obtain ⟨p0, p1, p2, q0, q1, q2⟩ := kA wq hq
           go_simp
           first
             | exact uponF_skip (kg_store hq) rfl
             | exact uponF_value (kg_store hq) rfl
         simp only [Act.put])
        refine wf_nil ?_
        intro wz hkz
        have hkz' : Keeps (put3 wr g (.slice (some ⟨ga, 0, none⟩) z c) (.slice (some ⟨B, 0, none⟩) (m + 1) (m + 1)) (.int .i64 (d : Int))) wz := hkz
        obtain ⟨v0, v1, v2⟩ := put3_cells (x := .slice (some ⟨ga, 0, none⟩) z c) (y := .slice (some ⟨B, 0, none⟩) (m + 1) (m + 1)) (z := .int .i64 (d : Int)) HANS.out
        have p0 := hkz'.cell (by rw [put3_size]; exact hgl) v0
        have p1 := hkz'.cell (by rw [put3_size]; exact hgl) v1
        have p2 := hkz'.cell (by rw [put3_size]; exact hgl) v2
        have hBl : B < wr.heap.size := lt_of_block HOK.out.en
        have hBg : B ≠ g := fun h9 => by have := hgB.out.1; omega
        have HEN : Hid (wz.heap[B]? = some (.cells (outRow e (m + 1)) 3 (0, 0))) := ((hkz'.below.block B (by rw [put3_size]; exact hBl)).trans (put3_other hBg)).trans HOK.out.en
        have HZ : Hid (Below w.heap.size w wz) := (((hBw.out.setCell (by simp; omega) _).setCell (by simp; omega) _).setCell (by simp; omega) _).trans (hkz'.below.mono (by rw [put3_size]; exact hBw.out.size))
        clear hkz hkz' k0 k1 k2 kA HOK HANS HANS0 hBw v0 v1 v2
        go_wp2
        refine bodyPost_ret (v := .tuple #[.agg #[.slice (some ⟨ga, 0, none⟩) z c, .slice (some ⟨B, 0, none⟩) (m + 1) (m + 1), .int .i64 (d : Int)], .bool false]) (by simp [results, Tryz.results42, go_sem, p0, p1, p2]) rfl ?_
        exact toldO_no he.out HZ.out
    | succ k =>
      have hkL : k < L.length := by have := HN.out; omega
      have hkn : k < m + 1 := by omega
      have hc := HL0.out k hkL
      have hop2 := HOP.out k hkL
      have hnext := fun st' hs => found_next (st' := st') (n := m + 1) HN.out.1 hkn hfo.out hs
      have hcons := (bk_cons L k hkL st hfo.out.1).1
      obtain ⟨x, hx⟩ : ∃ x, x = L[k] := ⟨_, rfl⟩
      rw [← hx] at hc hop2 hcons
      simp only [← hx] at hnext
      obtain ⟨op, y⟩ := x
      clear hx
      simp only at hc hop2 hnext hcons
      have hck : wr.cell? ⟨b, off + k * 2, none⟩ = some (.int .i64 op) := (hnx.cell (p := ⟨b, off + k * 2, none⟩) hgB.out.2).trans hc.1
      have hst2 : st.length ≤ 200 := by have := hfo.out.2.2.2; have := HN.out.2; omega
      have hne : st ≠ [] ∨ op = 11 := by
        by_cases hkm : k = m
        · exact Or.inr (hop2 hkm)
        · left
          have h1 := hfo.out.1
          have hk2 : k + 1 < L.length := by have := HN.out; omega
          rw [fw_op L (k + 1) hk2] at h1
          exact bk_ne _ _ _ _ h1
      have hkI : (k : Int) < (m : Int) + 1 := by omega
      rcases meet_step B (B + 1) B (m + 1) k st e d va op wr hOI.out hkn hst2 hne with ⟨hs, M⟩ | ⟨st', hs, M⟩
      · have he : Hid (eo L = none) := eo_stop (k := k) hres.out (by rw [hcons, hs]) (by omega)
        have HM : Hid (Calls Tryz.prog 64 #[.pointer (some ⟨B + 1, 0, none⟩), .int .i64 (k : Int), .int .i64 op] wr fun r w' => r = .returned (.bool false) ∧ Below B wr w') := M
        clear M hs hfo hOI hnext hcons hne hop2 hc hst2
        go_wp2_with fail
        refine HM.out.mono ?_
        rintro r1 w1 ⟨rfl, hb1⟩
        have hbb : Hid (Below B w0 w1) := hnx.trans hb1
        obtain ⟨p0, p1, p2, q0, q1, q2⟩ := HA0.out.keep hbb.out hgB.out.1
        have hBw : Hid (Below w.heap.size w w1) := HB0.out.trans (hbb.out.mono (by have := HB0.out.size; omega))
        clear HM hb1
        go_wp2
        refine bodyPost_ret (v := .tuple #[.agg #[.slice none 0 0, .slice none 0 0, .int .i64 0], .bool false]) (by simp [results, Tryz.results42, go_sem, p0, p1, p2]) rfl (toldO_no he.out ?_)
        exact ((hBw.out.setCell (by simp; omega) _).setCell (by simp; omega) _).setCell (by simp; omega) _
      · have HFO : Hid (found L k (m + 1) st' (fun q => if q = k then bkTop k op st else e q) (if op = 11 then max d (st.length + 1) else d)) := hnext st' hs
        have HM : Hid (Calls Tryz.prog 64 #[.pointer (some ⟨B + 1, 0, none⟩), .int .i64 (k : Int), .int .i64 op] wr fun r w' => ∃ va', r = .returned (.bool true) ∧ OI w' B (B + 1) B (m + 1) st' (fun q => if q = k then bkTop k op st else e q) (if op = 11 then max d (st.length + 1) else d) va' ∧ Below B wr w') := M
        clear M hs hfo hOI hnext hcons hne hop2 hc hst2
        have hwk1 : wrap64 ((k : Int) - 1) = (k : Int) - 1 := w64s k (by have := HN.out; omega)
        go_wp2_with fail
        refine HM.out.mono ?_
        rintro r1 w1 ⟨va', rfl, ho1, hb1⟩
        have HO1 : Hid (OI w1 B (B + 1) B (m + 1) st' (fun q => if q = k then bkTop k op st else e q) (if op = 11 then max d (st.length + 1) else d) va') := ho1
        have hbb : Below B w0 w1 := hnx.trans hb1
        clear HM hb1 ho1
        go_wp2
        go_roundw
        case rel =>
          try rw [hwk1]
          clear hwk1
          exact ⟨k, st', _, _, va', by omega, by go_num, HFO.out, HO1.out, hbb⟩
        case measure => (try rw [hwk1]); clear hwk1; simp [intOf]

end Go.Proofs.YtcgnefgdfgikdaaGreat
