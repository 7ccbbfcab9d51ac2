/-
  The core types of a type: both functions, and the law.
-/
import Derived.Test.YtendmemcgbmmlabDoorYFl8
import Derived.Test.YtendmemcgbmmlabDoorYFl5
import Derived.Test.YtendmemcgbmmlabDoorCMarkI
import Derived.Test.YtendmemcgbmmlabDoorCKeep
namespace Go.Proofs.YtendmemcgbmmlabDoor
open Go.ChangeShapes Go.WideShapes Go.ChangeAt Go.RowKit Go.Deep

theorem iy_iv (l : List Int) : iy l = iv l := rfl
theorem ndAt_nil {w w' : World} {b off : Nat} {L : List Nd} (h : Below w.heap.size w w') (hb : L ≠ [] → b < w.heap.size) (hL : ndAt w b off L) : ndAt w' b off L := by
  by_cases e : L = []
  · subst e; intro i hi; simp at hi
  · exact hL.below h (hb e)
/-- Whether the core types are told. -/
def fb (L : List Nd) : Bool := goodT L && decide ((flat L L.length 0).length ≤ 40)
def fo (L : List Nd) : List Int := if fb L = true then flat L L.length 0 else []
theorem fo_len (L : List Nd) : (fo L).length ≤ 40 := by
  unfold fo
  split
  · rename_i h
    unfold fb at h
    simp at h
    exact h.2
  · simp

set_option maxRecDepth 100000 in
set_option maxHeartbeats 1600000 in
theorem implFlatOf (a : Option Addr) (b off cap : Nat) (L : List Nd) (w : World) (ha : Hid (L ≠ [] → a = some ⟨b, off, none⟩ ∧ b < w.heap.size)) (hL : ndAt w b off L) (hlen : L.length ≤ 1048576) (hT : Tabs w) :
    Calls Tryd.prog 19 #[.slice a L.length cap] w fun e w' => ∃ v, e = .returned (.tuple #[v, .bool (fb L)]) ∧ w'.ownsRow w.heap.size 3 1 v (fo L).length (iv (fo L)) ∧ Below w.heap.size w w' := by
  have HG := implGood a b off cap L w ha hL hlen hT
  obtain ⟨G, hG⟩ : ∃ G, Hid (goodT L = G) := ⟨_, rfl⟩
  rw [hG.out] at HG
  cases G with
  | false =>
    have hf : fb L = false := by unfold fb; rw [hG.out]; rfl
    have hfo : fo L = [] := by unfold fo; rw [hf]; rfl
    rw [hf, hfo]
    clear hf hfo
    go_enter Tryd.func19, Tryd.ntmps19
    go_wp2_with (go_at_call 26; refine HG.mono ?_; rintro e w1 ⟨rfl, hb1⟩; clear HG)
    go_ret2
    exact ⟨_, rfl, World.ownsRow_nil _ _ _ _, hb1⟩
  | true =>
    have hU := ups_good hG.out
    have h40 : 1 ≤ L.length ∧ L.length ≤ 40 := ⟨hU.1, hU.2.1⟩
    obtain ⟨rfl, hb⟩ := ha.out (fun h => by simp [h] at h40)
    have HF := implFlat L hG.out L.length 0 L.length (by omega) (isEnd_whole hU)
    rw [FlatTold, segL_whole hU] at HF
    have hFl := flat_len hU L.length 0 L.length (isEnd_whole hU)
    have hfb : fb L = decide ((flat L L.length 0).length ≤ 40) := by unfold fb; rw [hG.out]; rfl
    have hfo : fo L = if (flat L L.length 0).length ≤ 40 then flat L L.length 0 else [] := by unfold fo; rw [hfb]; simp
    obtain ⟨D, hD⟩ : ∃ D, flat L L.length 0 = D := ⟨_, rfl⟩
    rw [hD] at HF hFl hfb hfo
    rw [hfb, hfo]
    clear hD hfb hfo hU
    by_cases hl : D.length ≤ 40
    · rw [if_pos hl, decide_eq_true hl]
      have hl2 : ¬ (40 : Int) < D.length := by omega
      go_enter Tryd.func19, Tryd.ntmps19
      go_wp2_with fail
      refine HG.mono ?_
      rintro e w1 ⟨rfl, hb1⟩
      clear HG
      have HC := HF w1 b off cap (Nat.lt_of_lt_of_le hb hb1.size) (hL.below hb1 hb)
      clear HF
      go_wp2_with fail
      refine HC.mono ?_
      rintro e w2 ⟨v, rfl, hown, hb2⟩
      clear HC
      obtain ⟨va, vc, rfl⟩ := ownsRow_shape hown
      have hbb := below2 hb1 hb2
      go_wp2
      go_ret2
      exact ⟨_, rfl, own_base hown hb1.size, hbb⟩
    · rw [if_neg hl, decide_eq_false hl]
      have hl2 : (40 : Int) < D.length := by omega
      go_enter Tryd.func19, Tryd.ntmps19
      go_wp2_with fail
      refine HG.mono ?_
      rintro e w1 ⟨rfl, hb1⟩
      clear HG
      have HC := HF w1 b off cap (Nat.lt_of_lt_of_le hb hb1.size) (hL.below hb1 hb)
      clear HF
      go_wp2_with fail
      refine HC.mono ?_
      rintro e w2 ⟨v, rfl, hown, hb2⟩
      clear HC
      obtain ⟨va, vc, rfl⟩ := ownsRow_shape hown
      have hbb := below2 hb1 hb2
      go_wp2
      go_ret2
      exact ⟨_, rfl, World.ownsRow_nil _ _ _ _, hbb⟩

set_option maxRecDepth 100000 in
set_option maxHeartbeats 1600000 in
theorem specFlatOf (a : Option Addr) (b off cap : Nat) (L : List Nd) (w : World) (ha : Hid (L ≠ [] → a = some ⟨b, off, none⟩ ∧ b < w.heap.size)) (hL : ndAt w b off L) (hlen : L.length ≤ 1048576) :
    Calls Tryd.prog 18 #[.slice a L.length cap] w fun e w' => ∃ v, e = .returned (.tuple #[v, .bool (fb L)]) ∧ w'.ownsRow w.heap.size 3 1 v (fo L).length (iv (fo L)) ∧ Below w.heap.size w w' := by
  have HG := specGood a b off cap L w ha hL hlen
  obtain ⟨G, hG⟩ : ∃ G, Hid (goodT L = G) := ⟨_, rfl⟩
  rw [hG.out] at HG
  cases G with
  | false =>
    have hf : fb L = false := by unfold fb; rw [hG.out]; rfl
    have hfo : fo L = [] := by unfold fo; rw [hf]; rfl
    rw [hf, hfo]
    clear hf hfo
    go_enter Tryd.func18, Tryd.ntmps18
    go_wp2_with (go_at_call 22; refine HG.mono ?_; rintro e w1 ⟨rfl, hb1⟩; clear HG)
    go_ret2
    exact ⟨_, rfl, World.ownsRow_nil _ _ _ _, hb1⟩
  | true =>
    have hU := ups_good hG.out
    have h40 : 1 ≤ L.length ∧ L.length ≤ 40 := ⟨hU.1, hU.2.1⟩
    obtain ⟨rfl, hb⟩ := ha.out (fun h => by simp [h] at h40)
    have HF := specCore L hG.out L.length 0 (by omega) (by omega)
    have hFl := flat_len hU L.length 0 L.length (isEnd_whole hU)
    have hfb : fb L = decide ((flat L L.length 0).length ≤ 40) := by unfold fb; rw [hG.out]; rfl
    have hfo : fo L = if (flat L L.length 0).length ≤ 40 then flat L L.length 0 else [] := by unfold fo; rw [hfb]; simp
    rw [CoreTold] at HF
    obtain ⟨D, hD⟩ : ∃ D, flat L L.length 0 = D := ⟨_, rfl⟩
    rw [hD] at HF hFl hfb hfo
    rw [hfb, hfo]
    clear hD hfb hfo hU
    by_cases hl : D.length ≤ 40
    · rw [if_pos hl, decide_eq_true hl]
      have hl2 : ¬ (40 : Int) < D.length := by omega
      go_enter Tryd.func18, Tryd.ntmps18
      go_wp2_with fail
      refine HG.mono ?_
      rintro e w1 ⟨rfl, hb1⟩
      clear HG
      have HT := specTree L h40.2 b off cap L.length 0 (by omega) (by omega) w1 (Nat.lt_of_lt_of_le hb hb1.size) (hL.below hb1 hb)
      go_wp2_with fail
      refine HT.mono ?_
      rintro e w2 ⟨sl, rfl, htr, hb2⟩
      clear HT
      have HC := HF w2 _ _ sl htr (Nat.le_refl _)
      clear HF
      go_wp2_with fail
      refine HC.mono ?_
      rintro e w3 ⟨v, rfl, hown, hb3⟩
      clear HC
      obtain ⟨va, vc, rfl⟩ := ownsRow_shape hown
      have hb12 := below2 hb1 hb2
      have hbb := below2 hb12 hb3
      go_wp2
      go_ret2
      exact ⟨_, rfl, own_base hown hb12.size, hbb⟩
    · rw [if_neg hl, decide_eq_false hl]
      have hl2 : (40 : Int) < D.length := by omega
      go_enter Tryd.func18, Tryd.ntmps18
      go_wp2_with fail
      refine HG.mono ?_
      rintro e w1 ⟨rfl, hb1⟩
      clear HG
      have HT := specTree L h40.2 b off cap L.length 0 (by omega) (by omega) w1 (Nat.lt_of_lt_of_le hb hb1.size) (hL.below hb1 hb)
      go_wp2_with fail
      refine HT.mono ?_
      rintro e w2 ⟨sl, rfl, htr, hb2⟩
      clear HT
      have HC := HF w2 _ _ sl htr (Nat.le_refl _)
      clear HF
      go_wp2_with fail
      refine HC.mono ?_
      rintro e w3 ⟨v, rfl, hown, hb3⟩
      clear HC
      obtain ⟨va, vc, rfl⟩ := ownsRow_shape hown
      have hb12 := below2 hb1 hb2
      have hbb := below2 hb12 hb3
      go_wp2
      go_ret2
      exact ⟨_, rfl, World.ownsRow_nil _ _ _ _, hbb⟩

set_option maxRecDepth 100000 in
set_option maxHeartbeats 1600000 in
theorem markNds (a : Option Addr) (g n cap : Nat) (arr : Array Value) (w : World) (hn : n ≤ 1048576) (ha : Hid (0 < n → a = some ⟨g, 0, none⟩ ∧ w.heap[g]? = some (.cells arr 46 (0, 0)) ∧ n * 3 ≤ arr.size)) :
    Calls Tryd.prog 15 #[.slice a n cap, .int .i64 1] w fun e w' => e = .returned (.int .i64 (1 + 3 * (n : Int))) ∧ Below g w w' ∧ (∀ q, q ≠ g → w'.heap[q]? = w.heap[q]?) ∧ w'.heap.size = w.heap.size := by
  go_enter Tryd.func15, Tryd.ntmps15
  go_wp2
  go_loopw [1, 5] (fun m i wr => ∃ k : Nat, k ≤ n ∧ i = .int .i64 k ∧ m = .int .i64 (1 + 3 * (k : Int)) ∧ Hid (0 < n → ∃ cur : Array Value, wr.heap[g]? = some (.cells cur 46 (0, 0)) ∧ n * 3 ≤ cur.size) ∧ Below g w wr ∧ Hid ((∀ q, q ≠ g → wr.heap[q]? = w.heap[q]?) ∧ wr.heap.size = w.heap.size)) (fun _ i _ => n - (intOf i).toNat)
  case atStart => exact ⟨0, by omega, rfl, rfl, fun h => ⟨arr, (ha.out h).2.1, (ha.out h).2.2⟩, Below.refl _ _, ⟨fun _ _ => rfl, rfl⟩⟩
  case round =>
    obtain ⟨k, hk, rfl, rfl, hcur, hnx, hno⟩ := hrel
    by_cases hlt : k < n
    · obtain ⟨rfl, _, _⟩ := ha.out (by omega)
      obtain ⟨cur, hc, hcs⟩ := hcur.out (by omega)
      have hgl := lt_of_block hc
      obtain ⟨o0, ho0⟩ : ∃ o, cur[k * 3]? = some o := ⟨_, Array.getElem?_eq_getElem (by omega)⟩
      obtain ⟨o1, ho1⟩ : ∃ o, cur[k * 3 + 1]? = some o := ⟨_, Array.getElem?_eq_getElem (by omega)⟩
      have d0 := (cell_of_block hc (k * 3)).trans ho0
      have f0 := free_of_block hc (k * 3)
      have hc1 : (wr.setCell ⟨g, k * 3, none⟩ (.int .i64 (1 + 3 * (k : Int)))).heap[g]? = some (.cells (cur.setIfInBounds (k * 3) (.int .i64 (1 + 3 * (k : Int)))) 46 (0, 0)) := heap_setCell_same _ _ _ _ _ _ hc
      have d1 := (cell_of_block hc1 (k * 3 + 1)).trans ((Array.getElem?_setIfInBounds_ne (by omega)).trans ho1)
      have f1 := free_of_block hc1 (k * 3 + 1)
      have hc2 : ((wr.setCell ⟨g, k * 3, none⟩ (.int .i64 (1 + 3 * (k : Int)))).setCell ⟨g, k * 3 + 1, none⟩ (.int .i64 (1 + 3 * (k : Int) + 1))).heap[g]? = some (.cells ((cur.setIfInBounds (k * 3) (.int .i64 (1 + 3 * (k : Int)))).setIfInBounds (k * 3 + 1) (.int .i64 (1 + 3 * (k : Int) + 1))) 46 (0, 0)) := heap_setCell_same _ _ _ _ _ _ hc1
      obtain ⟨o2, ho2⟩ : ∃ o, cur[k * 3 + 2]? = some o := ⟨_, Array.getElem?_eq_getElem (by omega)⟩
      have d2 := (cell_of_block hc2 (k * 3 + 2)).trans ((Array.getElem?_setIfInBounds_ne (by omega)).trans ((Array.getElem?_setIfInBounds_ne (by omega)).trans ho2))
      have f2 := free_of_block hc2 (k * 3 + 2)
      have HC2 : Hid (((wr.setCell ⟨g, k * 3, none⟩ (.int .i64 (1 + 3 * (k : Int)))).setCell ⟨g, k * 3 + 1, none⟩ (.int .i64 (1 + 3 * (k : Int) + 1))).heap[g]? = some (.cells ((cur.setIfInBounds (k * 3) (.int .i64 (1 + 3 * (k : Int)))).setIfInBounds (k * 3 + 1) (.int .i64 (1 + 3 * (k : Int) + 1))) 46 (0, 0))) := hc2
      clear hc hc1 hc2
      go_wp2
      go_roundw
      case rel =>
        refine ⟨k + 1, by omega, by go_num, by go_num, fun _ => ⟨_, heap_setCell_same _ _ _ _ _ _ HC2.out, by simpa using hcs⟩, ((hnx.setCell (Nat.le_refl _) _).setCell (Nat.le_refl _) _).setCell (Nat.le_refl _) _, ⟨fun q hq => ?_, by simpa using hno.out.2⟩⟩
        rw [heap_setCell_other _ _ _ _ hq, heap_setCell_other _ _ _ _ hq, heap_setCell_other _ _ _ _ hq]; exact hno.out.1 q hq
      case measure => simp [intOf]; omega
    · obtain rfl : k = n := by omega
      go_wp2
      go_ret
      exact ⟨rfl, hnx, hno.out.1, hno.out.2⟩

set_option maxRecDepth 100000 in
set_option maxHeartbeats 3200000 in
theorem flat_law (a : Option Addr) (b off cap : Nat) (L : List Nd) (w : World) (ha : Hid (L ≠ [] → a = some ⟨b, off, none⟩ ∧ b < w.heap.size)) (hL : Hid (ndAt w b off L)) (hlen : Hid (L.length ≤ 9223372036854775807)) (hT : Hid (Tabs w)) :
    Calls Tryd.prog 5 #[.slice a L.length cap] w fun e w' => e = .returned (.bool true) ∧ Below w.heap.size w w' := by
  go_enter Tryd.func5, Tryd.ntmps5
  go_wp2_with fail
  refine (szNds a cap L.length w hlen.out).mono ?_
  rintro e w1 ⟨r, rfl, hr, hw1⟩
  obtain rfl := hw1.symm
  clear hw1
  by_cases hr0 : r < 0
  · clear hr
    go_wp2
    go_ret
    exact ⟨rfl, Below.refl _ _⟩
  · have hlen2 : L.length ≤ 1048576 := hr (by omega)
    clear hr
    have hbl : Hid (L ≠ [] → b < w.heap.size) := fun h => (ha.out h).2
    go_wp2_with fail
    refine (toNds a b off cap L w ha hL.out hlen2).mono ?_
    rintro e w2 ⟨rfl, hs2, hL2, _, hb2⟩
    have HB2 : Hid (Below w.heap.size w w2) := hb2
    clear hb2
    have hel := fo_len L
    go_wp2_with fail
    refine (specFlatOf (some ⟨w.heap.size, 0, none⟩) w.heap.size 0 L.length L w2 (fun _ => ⟨rfl, hs2⟩) hL2 hlen2).mono ?_
    rintro e w3 ⟨v0, rfl, ho0, hb3⟩
    obtain ⟨y, hyy⟩ : ∃ y, fb L = y := ⟨_, rfl⟩
    obtain ⟨E, hE⟩ : ∃ E, fo L = E := ⟨_, rfl⟩
    rw [hE] at ho0 hel
    rw [hyy]
    have HEY : Hid (fo L = E ∧ fb L = y) := ⟨hE, hyy⟩
    clear hE hyy
    obtain ⟨a0, c0, rfl, hI0⟩ := ints_of_row ho0
    have HB3 : Hid (Below w.heap.size w w3) := below2 HB2.out hb3
    have HI0 : Hid (Ints w3 a0 E) := hI0
    clear hb3 hL2 hs2 ho0 hI0
    go_wp2_with fail
    refine (toNds a b off cap L w3 (fun h => ⟨(ha.out h).1, Nat.lt_of_lt_of_le (ha.out h).2 HB3.out.size⟩) (ndAt_nil HB3.out hbl.out hL.out) hlen2).mono ?_
    rintro e w4 ⟨rfl, hs4, hL4, ⟨arr, hblk, hars⟩, hb4⟩
    obtain ⟨xg, hxg⟩ : ∃ xg, w3.heap.size = xg := ⟨_, rfl⟩
    rw [hxg] at hs4 hL4 hblk ⊢
    have HX4 : Hid (xg < w4.heap.size ∧ w3.heap.size = xg) := ⟨hs4, hxg⟩
    clear hxg
    have HB34 : Hid (Below w3.heap.size w3 w4) := hb4
    clear hb4
    go_wp2_with fail
    refine (implFlatOf (some ⟨xg, 0, none⟩) xg 0 L.length L w4 (fun _ => ⟨rfl, hs4⟩) hL4 hlen2 (hT.out.below (below2 HB3.out HB34.out) (Nat.le_refl _))).mono ?_
    rintro e w5 ⟨v1, rfl, ho1, hb5⟩
    rw [HEY.out.1] at ho1
    rw [HEY.out.2]
    obtain ⟨a1, c1, hv1, hI1⟩ := ints_of_row ho1
    subst hv1
    have hblk5 : w5.heap[xg]? = some (.cells arr 46 (0, 0)) := (hb5.block xg hs4).trans hblk
    have hL5 := hL4.below hb5 hs4
    have hs5 : xg < w5.heap.size := Nat.lt_of_lt_of_le hs4 hb5.size
    have HB35 : Hid (Below w3.heap.size w3 w5) := below2 HB34.out hb5
    have HO1 : Hid (w5.ownsRow w4.heap.size 3 1 (.slice a1 E.length c1) E.length (iv E)) := ho1
    clear hb5 hL4 hs4 hblk ho1 HB34
    go_wp2_with fail
    refine (eqInts a1 a0 c1 c0 E w5 hI1 (HI0.out.below HB35.out) (by omega)).mono ?_
    rintro e w6 ⟨rfl, hb6⟩
    have hblk6 : w6.heap[xg]? = some (.cells arr 46 (0, 0)) := (hb6.block xg hs5).trans hblk5
    have hL6 := hL5.below hb6 hs5
    have hs6 : xg < w6.heap.size := Nat.lt_of_lt_of_le hs5 hb6.size
    have HB36 : Hid (Below w3.heap.size w3 w6) := below2 HB35.out hb6
    have HO6 : Hid (w6.ownsRow w4.heap.size 3 1 (.slice a1 E.length c1) E.length (iv E)) := owns_below HO1.out hb6
    clear hb6 hI1 hL5 hs5 hblk5 HO1 HB35
    cases y
    all_goals
      go_wp2_with fail
      refine (toNds a b off cap L w6 (fun h => ⟨(ha.out h).1, Nat.lt_of_lt_of_le (ha.out h).2 (below2 HB3.out HB36.out).size⟩) (ndAt_nil (below2 HB3.out HB36.out) hbl.out hL.out) hlen2).mono ?_
      rintro e w7 ⟨rfl, hs7, hL7, _, hb7⟩
      have hL67 := hL6.below hb7 hs6
      have hs67 : xg < w7.heap.size := Nat.lt_of_lt_of_le hs6 hb7.size
      have hblk7 : w7.heap[xg]? = some (.cells arr 46 (0, 0)) := (hb7.block xg hs6).trans hblk6
      have HB37 : Hid (Below w3.heap.size w3 w7) := below2 HB36.out hb7
      have HO7 : Hid (w7.ownsRow w4.heap.size 3 1 (.slice a1 E.length c1) E.length (iv E)) := owns_below HO6.out hb7
      clear hb7
      go_wp2_with fail
      refine (eqNds (some ⟨xg, 0, none⟩) (some ⟨w6.heap.size, 0, none⟩) xg 0 L.length w6.heap.size 0 L.length L w7 (fun _ => ⟨rfl, hs67⟩) (fun _ => ⟨rfl, hs7⟩) hL67 hL7 (by omega)).mono ?_
      rintro e w8 ⟨rfl, hb8⟩
      have hblk8 : w8.heap[xg]? = some (.cells arr 46 (0, 0)) := (hb8.block xg hs67).trans hblk7
      have HB38 : Hid (Below w3.heap.size w3 w8) := below2 HB37.out hb8
      have HO8 : Hid (w8.ownsRow w4.heap.size 3 1 (.slice a1 E.length c1) E.length (iv E)) := owns_below HO7.out hb8
      clear hb8 hL67 hL7 hs7 hblk7 hs67 HO7 HB37
      go_wp2_with fail
      refine (markNds (some ⟨xg, 0, none⟩) xg L.length L.length arr w8 (by omega) (fun _ => ⟨rfl, hblk8, by omega⟩)).mono ?_
      rintro e w9 ⟨rfl, hb9, hfar, hsz9⟩
      have HB39 : Hid (Below w3.heap.size w3 w9) := HB38.out.trans (by have h9 := HX4.out.2; rw [h9]; exact hb9)
      have HO9 : Hid (w9.ownsRow w4.heap.size 3 1 (.slice a1 E.length c1) E.length (iv E)) := own_keep HO8.out (fun q hq => by
        obtain ⟨cur, hc, hB⟩ := own_at HO8.out hq
        exact hfar q (fun e9 => by have := HX4.out.1; omega))
      have hI9 : Ints w9 a1 E := by
        obtain ⟨a', c', e', h'⟩ := ints_of_row HO9.out
        simp only [Value.slice.injEq] at e'
        rw [e'.1]; exact h'
      have hkn : ¬ 1 + 3 * (L.length : Int) < 0 := by omega
      clear hb9 hfar hsz9 hblk8 HB38 HO8
      go_wp2_with fail
      refine (eqInts a1 a0 c1 c0 E w9 hI9 (HI0.out.below HB39.out) (by omega)).mono ?_
      rintro e w10 ⟨rfl, hb10⟩
      have HB310 : Hid (Below w3.heap.size w3 w10) := below2 HB39.out hb10
      have HO10 : Hid (w10.ownsRow w4.heap.size 3 1 (.slice a1 E.length c1) E.length (iv E)) := owns_below HO9.out hb10
      clear hb10 hI9 HB39 HO9
      go_wp2_with fail
      refine (markInts w4.heap.size _ E w10 HO10.out (by omega)).mono ?_
      rintro e w11 ⟨rfl, ho11, hb11⟩
      have HB311 : Hid (Below w3.heap.size w3 w11) := HB310.out.trans (hb11.mono (by have := HX4.out; omega))
      have hI11 : Ints w11 a1 (marksI E.length) := by
        obtain ⟨a', c', e', h'⟩ := ints_of_row ho11
        simp only [Value.slice.injEq] at e'
        rw [e'.1]; exact h'
      clear ho11 hb11 HB310 HO10
      go_wp2_with fail
      refine (heldInts a1 E.length c1 w11 hI11 (by omega)).mono ?_
      rintro e w12 ⟨rfl, hb12⟩
      have hI12 := hI11.below hb12
      have HB312 : Hid (Below w3.heap.size w3 w12) := below2 HB311.out hb12
      have hqn : ¬ 1 + (E.length : Int) < 0 := by omega
      clear hb12 hI11 HB311
      go_wp2_with fail
      refine (toNds a b off cap L w12 (fun h => ⟨(ha.out h).1, Nat.lt_of_lt_of_le (ha.out h).2 (below2 HB3.out HB312.out).size⟩) (ndAt_nil (below2 HB3.out HB312.out) hbl.out hL.out) hlen2).mono ?_
      rintro e w13 ⟨rfl, hs13, hL13, _, hb13⟩
      have hI13 := hI12.below hb13
      have HB313 : Hid (Below w3.heap.size w3 w13) := below2 HB312.out hb13
      clear hb13 hI12
      go_wp2_with fail
      refine (implFlatOf (some ⟨w12.heap.size, 0, none⟩) w12.heap.size 0 L.length L w13 (fun _ => ⟨rfl, hs13⟩) hL13 hlen2 (hT.out.below (below2 HB3.out HB313.out) (Nat.le_refl _))).mono ?_
      rintro e w14 ⟨v2, rfl, ho14, hb14⟩
      rw [HEY.out.1] at ho14
      rw [HEY.out.2]
      obtain ⟨a2, c2, hv2, hI14⟩ := ints_of_row ho14
      subst hv2
      have hI114 := hI13.below hb14
      have HB314 : Hid (Below w3.heap.size w3 w14) := below2 HB313.out hb14
      clear hb14 hI13 ho14 hL13 hs13 HB313
      go_wp2_with fail
      refine (eqInts a2 a0 c2 c0 E w14 hI14 (HI0.out.below HB314.out) (by omega)).mono ?_
      rintro e w15 ⟨rfl, hb15⟩
      have hI15 := hI114.below hb15
      have HB315 : Hid (Below w3.heap.size w3 w15) := below2 HB314.out hb15
      clear hb15 hI114 hI14 HB314
      go_wp2_with fail
      refine (heldInts a1 E.length c1 w15 hI15 (by omega)).mono ?_
      rintro e w16 ⟨rfl, hb16⟩
      have HB16 : Hid (Below w.heap.size w w16) := below2 HB3.out (below2 HB315.out hb16)
      clear hb16 hI15
      go_wp2
      go_ret
      exact ⟨rfl, HB16.out⟩

theorem flatOf_walk (a : Option Addr) (cap : Nat) (L : List Nd) (w : World) (hw : IsNds w a L) (hT : Tabs w) :
    Calls Tryd.prog 5 #[.slice a L.length cap] w fun e w' => e = .returned (.bool true) ∧ Below w.heap.size w w' := by
  obtain ⟨b, off, ha, hL, hlen, _⟩ := hw
  exact flat_law a b off cap L w ha hL hlen hT

end Go.Proofs.YtendmemcgbmmlabDoor
