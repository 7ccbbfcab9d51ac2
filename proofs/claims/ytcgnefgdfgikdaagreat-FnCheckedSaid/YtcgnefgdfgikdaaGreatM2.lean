/-
  Modules with shape: what both sides tell; funcs.
-/
import Derived.Test.YtcgnefgdfgikdaaGreatE5
import Derived.Test.YtcgnefgdfgikdaaGreatA2
namespace Go.Proofs.YtcgnefgdfgikdaaGreat
open Go.ChangeShapes Go.WideShapes Go.ChangeAt Go.RowKit

def isT (a : Int) : Bool := decide (125 ≤ a) && decide (a ≤ 127)
def allT (l : List Int) (m : Nat) : Bool := l.all isT && decide (l.length ≤ m)
def goodF (f : Fun7) : Bool := (((eo f.body).isSome && allT f.ps 6) && allT f.ls 20) && mayK 1 f.res
def goodG (g : Glo7) : Bool := isT g.ty && (decide (g.ty = 126) || decide (g.bits ≤ 4294967295))
def goodP (M : Mod7) : Bool := if M.mem then (decide (0 ≤ M.most) && decide (M.most ≤ 8)) && (decide (0 ≤ M.pages) && decide (M.pages ≤ M.most)) else decide (M.pages = 0) && decide (M.most = 0)
def goodS (M : Mod7) : Bool := decide (M.start = -1) || (decide (0 ≤ M.start) && (match M.fs[M.start.toNat]? with | some f => decide (f.ps.length = 0) && decide (f.res = 64) | none => false))
def shape (M : Mod7) : Bool := ((((decide (M.fs.length ≤ 10) && decide (M.gs.length ≤ 6)) && M.fs.all goodF) && M.gs.all goodG) && goodP M) && goodS M

theorem all_take {α : Type} (p : α → Bool) (L : List α) (k : Nat) (h : k < L.length) : (L.take (k + 1)).all p = ((L.take k).all p && p L[k]) := by
  rw [List.take_succ_eq_append_getElem h, List.all_append]; simp
theorem all_no {α : Type} (p : α → Bool) (L : List α) (k : Nat) (h : k < L.length) (hg : p L[k] = false) : L.all p = false := by
  rw [List.all_eq_false]
  exact ⟨L[k], List.getElem_mem h, by simp [hg]⟩

set_option maxRecDepth 100000 in
set_option maxHeartbeats 800000 in
theorem specTypes (a : Option Addr) (cap m : Nat) (L : List Int) (w : World) (hI : Hid (Ints w a L)) (hlen : L.length ≤ 1048576) :
    Calls Tryz.prog 37 #[.slice a L.length cap, .int .i64 (m : Int)] w fun e w' => e = .returned (.bool (allT L m)) ∧ Below w.heap.size w w' := by
  go_enter Tryz.func37, Tryz.ntmps37
  go_wp2
  go_loopw [9] (fun i wr => ∃ k : Nat, k ≤ L.length ∧ i = .int .i64 k ∧ Hid ((L.take k).all isT = true) ∧ Below w.heap.size w wr) (fun i _ => L.length - (intOf i).toNat)
  case atStart => exact ⟨0, by omega, rfl, by simp [Hid], Below.refl _ _⟩
  case round =>
    obtain ⟨k, hk, rfl, hg, hnx⟩ := hrel
    by_cases hlt : k < L.length
    · obtain ⟨b, off, rfl, hb, hc⟩ := hI.out.at k hlt
      have ht := all_take isT L k hlt
      have hn := all_no isT L k hlt
      obtain ⟨x, hx⟩ : ∃ x, x = L[k] := ⟨_, rfl⟩
      rw [← hx] at hc ht hn
      clear hx
      have hc0 : wr.cell? ⟨b, off + k, none⟩ = some (.int .i64 x) := (hnx.cell (by exact hb)).trans hc
      obtain ⟨r, hr⟩ : ∃ r, isT x = r := ⟨_, rfl⟩
      have HR : Hid ((decide (125 ≤ x) && decide (x ≤ 127)) = r) := hr
      rw [hr] at ht hn
      have HT : Hid ((L.take (k + 1)).all isT = ((L.take k).all isT && r)) := ht
      have HN : Hid (r = false → L.all isT = false) := hn
      clear hc ht hn hr
      cases r
      · go_wp2_with (go_at_call 19; refine (specType _ _ (by assumption) _).mono ?_; rintro e w1 ⟨rfl, hw⟩; obtain rfl := hw.symm)
        go_ret
        exact ⟨by unfold allT; rw [HN.out (by trivial)]; rfl, hnx⟩
      · go_wp2_with (go_at_call 19; refine (specType _ _ (by assumption) _).mono ?_; rintro e w1 ⟨rfl, hw⟩; obtain rfl := hw.symm)
        go_roundw
        case rel => exact ⟨k + 1, by omega, by go_num, by unfold Hid; rw [HT.out, hg.out]; rfl, hnx⟩
        case measure => simp [intOf]; omega
    · have e : L.take k = L := List.take_of_length_le (by omega)
      have hg' : Hid (L.all isT = true) := by have h := hg.out; rw [e] at h; exact h
      obtain ⟨y, hy⟩ : ∃ y, decide ((L.length : Int) ≤ (m : Int)) = y := ⟨_, rfl⟩
      have hx : Hid (decide (L.length ≤ m) = y) := by unfold Hid; rw [← hy]; simp
      clear hg e hlen
      go_wp2
      go_ret
      exact ⟨by unfold allT; rw [hg'.out, hx.out]; rfl, hnx⟩

set_option maxRecDepth 100000 in
set_option maxHeartbeats 800000 in
theorem implTypes (a : Option Addr) (cap m : Nat) (L : List Int) (w : World) (hI : Hid (Ints w a L)) (hlen : L.length ≤ 1048576) (hm : m ≤ 20) :
    Calls Tryz.prog 40 #[.slice a L.length cap, .int .i64 (m : Int)] w fun e w' => e = .returned (.bool (allT L m)) ∧ Below w.heap.size w w' := by
  by_cases h2 : L.length ≤ m
  · have hD : Hid (decide (L.length ≤ m) = true) := by unfold Hid; simpa using h2
    have hD2 : ¬ (m : Int) < (L.length : Int) := by omega
    go_enter Tryz.func40, Tryz.ntmps40
    go_wp2
    clear hD2
    go_loopw [13] (fun i wr => ∃ k : Nat, k ≤ L.length ∧ i = .int .i64 k ∧ Hid ((L.take k).all isT = true) ∧ Below w.heap.size w wr) (fun i _ => L.length - (intOf i).toNat)
    case atStart => exact ⟨0, by omega, rfl, by simp [Hid], Below.refl _ _⟩
    case round =>
      obtain ⟨k, hk, rfl, hg, hnx⟩ := hrel
      by_cases hlt : k < L.length
      · obtain ⟨b, off, rfl, hb, hc⟩ := hI.out.at k hlt
        have ht := all_take isT L k hlt
        have hn := all_no isT L k hlt
        obtain ⟨x, hx⟩ : ∃ x, x = L[k] := ⟨_, rfl⟩
        rw [← hx] at hc ht hn
        clear hx
        have hc0 : wr.cell? ⟨b, off + k, none⟩ = some (.int .i64 x) := (hnx.cell (by exact hb)).trans hc
        have I := isType_eq x
        obtain ⟨r, hr⟩ : ∃ r, isT x = r := ⟨_, rfl⟩
        rw [show (decide (125 ≤ x) && decide (x ≤ 127)) = r from hr] at I
        rw [hr] at ht hn
        have HT : Hid ((L.take (k + 1)).all isT = ((L.take k).all isT && r)) := ht
        have HN : Hid (r = false → L.all isT = false) := hn
        clear hc ht hn hr
        cases r
        · go_wp2_with (go_at_call 38; refine (I _).mono ?_; rintro e w1 ⟨rfl, hw⟩; obtain rfl := hw.symm; clear I)
          go_ret
          exact ⟨by unfold allT; rw [HN.out (by trivial)]; rfl, hnx⟩
        · go_wp2_with (go_at_call 38; refine (I _).mono ?_; rintro e w1 ⟨rfl, hw⟩; obtain rfl := hw.symm; clear I)
          go_roundw
          case rel => exact ⟨k + 1, by omega, by go_num, by unfold Hid; rw [HT.out, hg.out]; rfl, hnx⟩
          case measure => simp [intOf]; omega
      · have e : L.take k = L := List.take_of_length_le (by omega)
        have hg' : Hid (L.all isT = true) := by have h := hg.out; rw [e] at h; exact h
        clear hg e hlen
        go_wp2
        go_ret
        exact ⟨by unfold allT; rw [hg'.out, hD.out]; rfl, hnx⟩
  · have hD : Hid (decide (L.length ≤ m) = false) := by unfold Hid; simpa using h2
    have hD2 : (m : Int) < (L.length : Int) := by omega
    go_enter Tryz.func40, Tryz.ntmps40
    go_wp2
    go_ret
    exact ⟨by unfold allT; rw [hD.out, Bool.and_false]; rfl, Below.refl _ _⟩

set_option maxRecDepth 100000 in
set_option maxHeartbeats 1600000 in
theorem specFun1 (pa la ba : Option Addr) (pc lc bc : Nat) (f : Fun7) (w : World) (hR : Hid (FunRows w pa la ba f)) (hs : Hid (smF f)) :
    Calls Tryz.prog 18 #[.agg #[.slice pa f.ps.length pc, .int .i64 f.res, .slice la f.ls.length lc, .slice ba f.body.length bc]] w fun e w' => e = .returned (.bool (goodF f)) ∧ Below w.heap.size w w' := by
  obtain ⟨ps, res, ls, body⟩ := f
  simp only
  obtain ⟨e1, h1⟩ : ∃ x, (eo body).isSome = x := ⟨_, rfl⟩
  obtain ⟨e2, h2⟩ : ∃ x, allT ps 6 = x := ⟨_, rfl⟩
  obtain ⟨e3, h3⟩ : ∃ x, allT ls 20 = x := ⟨_, rfl⟩
  obtain ⟨e4, h4⟩ : ∃ x, isT res = x := ⟨_, rfl⟩
  obtain ⟨e5, h5⟩ : ∃ x, (res == 64) = x := ⟨_, rfl⟩
  have HG : Hid (goodF ⟨ps, res, ls, body⟩ = (((e1 && e2) && e3) && (e4 || e5))) := by
    unfold Hid goodF; simp only; rw [h1, h2, h3, ← h4, ← h5]; rfl
  have hb0 : Below w.heap.size w (w.alloc (.cells #[.slice pa ps.length pc, .int .i64 res, .slice la ls.length lc, .slice ba body.length bc] 39)) := (Below.refl _ _).alloc (Nat.le_refl _) _
  obtain ⟨bb, bo, k1, k2⟩ := (hR.out.2.2.below hb0).parts
  have S := specEnds ba bb bo bc body _ k1 k2 hs.out.2.2.1
  have hx0 : (w.alloc (.cells #[.slice pa ps.length pc, .int .i64 res, .slice la ls.length lc, .slice ba body.length bc] 39)).heap[w.heap.size]? = some (.cells #[.slice pa ps.length pc, .int .i64 res, .slice la ls.length lc, .slice ba body.length bc] 39 (0, 0)) := heap_alloc_new _ _
  have H4 : Hid ((decide (125 ≤ res) && decide (res ≤ 127)) = e4) := h4
  clear k1 k2 h4
  go_enter Tryz.func18, Tryz.ntmps18
  go_wp2_with fail
  refine S.mono ?_
  rintro r w1 ⟨v, d, rfl, _, hb1⟩
  rw [h1]
  have HB1 : Hid (Below w.heap.size w w1) := bel_step hb0 hb1
  have hx1 := (hb1.block w.heap.size (by simp)).trans hx0
  clear S hb1 hb0 hx0 h1
  have c0 := (cell_of_block hx1 0).trans rfl
  have hl1 := lt_of_block hx1
  cases e1
  · go_wp2
    go_ret
    exact ⟨by rw [HG.out]; rfl, HB1.out⟩
  · go_wp2_with fail
    refine (specTypes pa pc 6 ps w1 (hR.out.1.below HB1.out) hs.out.1).mono ?_
    rw [h2]
    rintro e w2 ⟨rfl, hb2⟩
    have HB2 : Hid (Below w.heap.size w w2) := bel_step HB1.out hb2
    have hx2 := (hb2.block w.heap.size hl1).trans hx1
    have hl2 := lt_of_block hx2
    clear hb2 hx1 c0 hl1 HB1 h2
    have c0 := (cell_of_block hx2 2).trans rfl
    cases e2
    · go_wp2
      go_ret
      exact ⟨by rw [HG.out]; rfl, HB2.out⟩
    · go_wp2_with fail
      refine (specTypes la lc 20 ls w2 (hR.out.2.1.below HB2.out) hs.out.2.1).mono ?_
      rw [h3]
      rintro e w3 ⟨rfl, hb3⟩
      have HB3 : Hid (Below w.heap.size w w3) := bel_step HB2.out hb3
      have hx3 := (hb3.block w.heap.size hl2).trans hx2
      clear hb3 hx2 c0 hl2 HB2 h3
      have c0 := (cell_of_block hx3 1).trans rfl
      cases e3
      · go_wp2
        go_ret
        exact ⟨by rw [HG.out]; rfl, HB3.out⟩
      · cases e4
        all_goals
          go_wp2_with (go_at_call 19; refine (specType _ _ (by assumption) _).mono ?_; rintro e w1 ⟨rfl, hw⟩; obtain rfl := hw.symm)
          go_ret
          exact ⟨by rw [HG.out]; rfl, HB3.out⟩

set_option maxRecDepth 100000 in
set_option maxHeartbeats 1600000 in
theorem implFun1 (pa la ba : Option Addr) (pc lc bc : Nat) (f : Fun7) (w : World) (hR : Hid (FunRows w pa la ba f)) (hs : Hid (smF f)) :
    Calls Tryz.prog 23 #[.agg #[.slice pa f.ps.length pc, .int .i64 f.res, .slice la f.ls.length lc, .slice ba f.body.length bc]] w fun e w' => e = .returned (.bool (goodF f)) ∧ Below w.heap.size w w' := by
  obtain ⟨ps, res, ls, body⟩ := f
  simp only
  obtain ⟨e1, h1⟩ : ∃ x, (eo body).isSome = x := ⟨_, rfl⟩
  obtain ⟨e2, h2⟩ : ∃ x, allT ps 6 = x := ⟨_, rfl⟩
  obtain ⟨e3, h3⟩ : ∃ x, allT ls 20 = x := ⟨_, rfl⟩
  obtain ⟨e4, h4⟩ : ∃ x, mayK 1 res = x := ⟨_, rfl⟩
  have HG : Hid (goodF ⟨ps, res, ls, body⟩ = (((e1 && e2) && e3) && e4)) := by
    unfold Hid goodF; simp only; rw [h1, h2, h3, ← h4]
  have hb0 : Below w.heap.size w (w.alloc (.cells #[.slice pa ps.length pc, .int .i64 res, .slice la ls.length lc, .slice ba body.length bc] 39)) := (Below.refl _ _).alloc (Nat.le_refl _) _
  have hx0 : (w.alloc (.cells #[.slice pa ps.length pc, .int .i64 res, .slice la ls.length lc, .slice ba body.length bc] 39)).heap[w.heap.size]? = some (.cells #[.slice pa ps.length pc, .int .i64 res, .slice la ls.length lc, .slice ba body.length bc] 39 (0, 0)) := heap_alloc_new _ _
  have M := may1 res
  rw [h4] at M
  go_enter Tryz.func23, Tryz.ntmps23
  go_wp2_with fail
  refine (implTypes pa pc 6 ps _ (hR.out.1.below hb0) hs.out.1 (by omega)).mono ?_
  rw [h2]
  rintro e w1 ⟨rfl, hb1⟩
  have HB1 : Hid (Below w.heap.size w w1) := bel_step hb0 hb1
  have hx1 := (hb1.block w.heap.size (by simp)).trans hx0
  clear hb1 hb0 hx0 h2 h4
  have c0 := (cell_of_block hx1 2).trans rfl
  have hl1 := lt_of_block hx1
  cases e2
  · go_wp2
    go_ret
    exact ⟨by rw [HG.out, Bool.and_false]; rfl, HB1.out⟩
  · go_wp2_with fail
    refine (implTypes la lc 20 ls w1 (hR.out.2.1.below HB1.out) hs.out.2.1 (by omega)).mono ?_
    rw [h3]
    rintro e w2 ⟨rfl, hb2⟩
    have HB2 : Hid (Below w.heap.size w w2) := bel_step HB1.out hb2
    have hx2 := (hb2.block w.heap.size hl1).trans hx1
    have hl2 := lt_of_block hx2
    clear hb2 hx1 c0 hl1 HB1 h3
    have c0 := (cell_of_block hx2 1).trans rfl
    cases e3
    · go_wp2
      go_ret
      exact ⟨by rw [HG.out]; simp, HB2.out⟩
    · go_wp2_with fail
      refine (M _).mono ?_
      rintro e w3 ⟨rfl, hb3⟩
      have HB3 : Hid (Below w.heap.size w w3) := bel_step HB2.out hb3
      have hx3 := (hb3.block w.heap.size hl2).trans hx2
      clear hb3 hx2 c0 hl2 HB2 M
      have c0 := (cell_of_block hx3 3).trans rfl
      cases e4
      · go_wp2
        go_ret
        exact ⟨by rw [HG.out]; simp, HB3.out⟩
      · obtain ⟨bb, bo, k1, k2⟩ := (hR.out.2.2.below HB3.out).parts
        have S := implOutline ba bb bo bc body w3 k1 k2 hs.out.2.2.2 hs.out.2.2.1
        clear k1 k2
        go_wp2_with fail
        refine S.mono ?_
        rintro r w4 ⟨va, ve, d, ⟨⟨p1, n1, c1, rfl⟩, ⟨p2, n2, c2, rfl⟩⟩, rfl, _, hb⟩
        rw [h1]
        have HB4 : Hid (Below w.heap.size w w4) := bel_step HB3.out hb
        clear hb S hx3 c0
        go_wp2
        go_ret
        exact ⟨by rw [HG.out]; simp, bel_alloc HB4.out _⟩

end Go.Proofs.YtcgnefgdfgikdaaGreat
