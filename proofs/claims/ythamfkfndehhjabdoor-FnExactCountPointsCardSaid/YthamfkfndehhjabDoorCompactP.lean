/-
  The walks of the laws on points of compact bytes, and on how many points a text has.
-/
import Derived.Test.YthamfkfndehhjabDoorDecLaw
import Derived.Test.YthamfkfndehhjabDoorSize
namespace Go.Proofs.YthamfkfndehhjabDoor
open Go.ChangeShapes Go.WideShapes Go.ChangeAt Go.RowKit Go.PlainAid

/-- The points of compact bytes. -/
def cpF (wide : Bool) (s : ByteArray) : Option (List Int) := if wide = true then (match gd 2 s with
  | some L => if L.all (fitC 3) = true then none else some L
  | none => none) else gd 3 s
theorem cp_lat (s : ByteArray) : cpF false s = gd 3 s := rfl
theorem cp_none {s : ByteArray} (h : gd 2 s = none) : cpF true s = none := by unfold cpF; rw [if_pos rfl, h]
theorem cp_fit {s : ByteArray} {L : List Int} (h : gd 2 s = some L) (h2 : L.all (fitC 3) = true) : cpF true s = none := by unfold cpF; rw [if_pos rfl, h]; simp only; rw [if_pos h2]
theorem cp_wide {s : ByteArray} {L : List Int} (h : gd 2 s = some L) (h2 : L.all (fitC 3) = false) : cpF true s = some L := by unfold cpF; rw [if_pos rfl, h]; simp only; rw [if_neg (by rw [h2]; simp)]
theorem cp_len {wide : Bool} {s : ByteArray} : (ptsR (cpF wide s)).length ≤ 300 := by
  cases wide
  · rw [cp_lat]
    rcases h : gd 3 s with _ | L
    · simp [ptsR]
    · exact (okL_iff.1 (gd_some h).2).1
  · rcases h : gd 2 s with _ | L
    · rw [cp_none h]; simp [ptsR]
    · rcases h2 : L.all (fitC 3) with _ | _
      · rw [cp_wide h h2]; exact (okL_iff.1 (gd_some h).2).1
      · rw [cp_fit h h2]; simp [ptsR]
theorem own_len {w : World} {B : Nat} {v : Value} {L : List Int} (ho : w.ownsRow B 3 1 v L.length (iv L)) : L.length ≤ 9223372036854775807 := by
  obtain ⟨_, h⟩ := ho
  rcases h with ⟨_, h⟩ | ⟨g, cap', cur, e, _, _, h3, h4, _⟩
  · omega
  · unfold maxLen at h4; omega

set_option maxRecDepth 100000 in
set_option maxHeartbeats 800000 in
theorem specCompactPoints (s : ByteArray) (wide : Bool) (hs : s.size ≤ 1048576) (w : World) :
    Calls Tryd.prog 5 #[.string s, .bool wide] w fun e w' => ToldN w w' e (cpF wide s) := by
  cases wide
  · have H0 := specDecode s 3 hs
    go_enter Tryd.func5, Tryd.ntmps5
    go_wp2_with fail
    refine (H0 _).mono ?_
    rintro e w1 ⟨⟨L, v, hg, rfl, ho⟩ | ⟨hg, v, rfl⟩, hb⟩
    · obtain ⟨a, cap, rfl, hI⟩ := ints_of_row ho
      have H1 := specEncode a cap L 3 w1 hI (okAll_of (gd_some hg).2)
      have HG : Hid (cpF false s = some L) := hg
      obtain ⟨x, y, hxy⟩ : ∃ x y, encR 3 L = .tuple #[.string x, .bool y] := by
        rcases h : L.all (fitC 3) with _ | _
        · exact ⟨_, _, encR_no h⟩
        · exact ⟨_, _, encR_yes h⟩
      rw [hxy] at H1
      clear H0 hg hI hxy
      go_wp2_with (go_at_call 13; refine H1.mono ?_; rintro e w2 ⟨rfl, hb2⟩; have ho2 := own_below ho hb2; have hb3 := ibelow hb hb2; clear H1)
      go_ret2
      exact ⟨.inl ⟨L, _, HG.out, rfl, by assumption⟩, by assumption⟩
    · have HG : Hid (cpF false s = none) := hg
      clear H0 hg
      go_wp2
      go_ret2
      exact ⟨.inr ⟨HG.out, rfl⟩, hb⟩
  · have H0 := specDecode s 2 hs
    go_enter Tryd.func5, Tryd.ntmps5
    go_wp2_with fail
    refine (H0 _).mono ?_
    rintro e w1 ⟨⟨L, v, hg, rfl, ho⟩ | ⟨hg, v, rfl⟩, hb⟩
    · obtain ⟨a, cap, rfl, hI⟩ := ints_of_row ho
      have H1 := specEncode a cap L 3 w1 hI (okAll_of (gd_some hg).2)
      rcases h : L.all (fitC 3) with _ | _
      · have HG : Hid (cpF true s = some L) := cp_wide hg h
        rw [encR_no h] at H1
        clear H0 hg hI h
        go_wp2_with (go_at_call 13; refine H1.mono ?_; rintro e w2 ⟨rfl, hb2⟩; have ho2 := own_below ho hb2; have hb3 := ibelow hb hb2; clear H1)
        go_ret2
        exact ⟨.inl ⟨L, _, HG.out, rfl, by assumption⟩, by assumption⟩
      · have HG : Hid (cpF true s = none) := cp_fit hg h
        rw [encR_yes h] at H1
        clear H0 hg hI h
        go_wp2_with (go_at_call 13; refine H1.mono ?_; rintro e w2 ⟨rfl, hb2⟩; have hb3 := ibelow hb hb2; clear H1)
        go_ret2
        exact ⟨.inr ⟨HG.out, rfl⟩, by assumption⟩
    · have HG : Hid (cpF true s = none) := cp_none hg
      clear H0 hg
      go_wp2
      go_ret2
      exact ⟨.inr ⟨HG.out, rfl⟩, hb⟩

set_option maxRecDepth 100000 in
set_option maxHeartbeats 800000 in
theorem implCompactPoints (s : ByteArray) (wide : Bool) (hs : s.size ≤ 1048576) (w : World) (hT : Tabs w) :
    Calls Tryd.prog 6 #[.string s, .bool wide] w fun e w' => ToldN w w' e (cpF wide s) := by
  cases wide
  · have H0 := implDecodePoints s 3 hs w hT
    rw [show gdF 3 s = cpF false s from gdF_in (by omega)] at H0
    go_enter Tryd.func6, Tryd.ntmps6
    go_wp2_with fail
    refine H0.mono ?_
    rintro e w1 ⟨⟨L, v, hg, rfl, ho⟩ | ⟨hg, rfl⟩, hb⟩
    · have HG : Hid (cpF false s = some L) := hg
      clear H0 hg
      go_wp2
      go_ret2
      exact ⟨.inl ⟨L, _, HG.out, rfl, ho⟩, hb⟩
    · have HG : Hid (cpF false s = none) := hg
      clear H0 hg
      go_wp2
      go_ret2
      exact ⟨.inr ⟨HG.out, rfl⟩, hb⟩
  · have H0 := implDecodePoints s 2 hs w hT
    rw [show gdF 2 s = gd 2 s from gdF_in (by omega)] at H0
    go_enter Tryd.func6, Tryd.ntmps6
    go_wp2_with fail
    refine H0.mono ?_
    rintro e w1 ⟨⟨L, v, hg, rfl, ho⟩ | ⟨hg, rfl⟩, hb⟩
    · have hl := own_len ho
      obtain ⟨a, cap, rfl, hI⟩ := ints_of_row ho
      have H1 := implSizeAs a cap L 3 w1 hI hl
      have hsure : sureC 3 L = true := by unfold sureC; rw [(gd_some hg).2]; rfl
      rcases h : L.all (fitC 3) with _ | _
      · have HG : Hid (cpF true s = some L) := cp_wide hg h
        rw [sizeF_no2 h] at H1
        clear H0 hg hI h hl hsure
        go_wp2_with (go_at_call 15; refine H1.mono ?_; rintro e w2 ⟨rfl, hw⟩; obtain rfl := hw.symm; clear H1 hw)
        go_ret2
        exact ⟨.inl ⟨L, _, HG.out, rfl, ho⟩, hb⟩
      · have HG : Hid (cpF true s = none) := cp_fit hg h
        rw [sizeF_yes hsure h] at H1
        clear H0 hg hI h hl hsure
        go_wp2_with (go_at_call 15; refine H1.mono ?_; rintro e w2 ⟨rfl, hw⟩; obtain rfl := hw.symm; clear H1 hw)
        go_ret2
        exact ⟨.inr ⟨HG.out, rfl⟩, hb⟩
    · have HG : Hid (cpF true s = none) := cp_none hg
      clear H0 hg
      go_wp2
      go_ret2
      exact ⟨.inr ⟨HG.out, rfl⟩, hb⟩

set_option maxRecDepth 100000 in
set_option maxHeartbeats 3200000 in
theorem compactPoints_walk (s : ByteArray) (wide : Bool) (w0 : s.size ≤ maxLen) (w : World) (hT : Tabs w) :
    Calls Tryd.prog 3 #[.string s, .bool wide] w fun e w' => e = .returned (.bool true) ∧ Below w.heap.size w w' := by
  unfold maxLen at w0
  by_cases hs : s.size ≤ 1048576
  · have hs' : ¬ (1048576 : Int) < s.size := by omega
    have H0 := specCompactPoints s wide hs
    have H1 := implCompactPoints s wide hs
    have hlen := cp_len (wide := wide) (s := s)
    obtain ⟨r, hr⟩ : ∃ r, r = cpF wide s := ⟨_, rfl⟩
    rw [← hr] at H0 H1 hlen
    clear hr w0
    obtain ⟨y, hy⟩ : ∃ y, y = okR r := ⟨_, rfl⟩
    have HT : Hid (Tabs w) := hT
    clear hT hs
    go_enter Tryd.func3, Tryd.ntmps3
    go_wp2_with fail
    refine (H0 w).mono ?_
    intro e w1 h1
    obtain ⟨v0, rfl, ho0, hb1⟩ := told_form h1
    rw [← hy]
    obtain ⟨a0, c0, rfl, hI0⟩ := ints_of_row ho0
    clear h1 ho0 H0
    have HB1 : Hid (Below w.heap.size w w1) := hb1
    go_wp2_with fail
    refine (H1 w1 (tabs_below HT.out hb1)).mono ?_
    intro e w2 h2
    obtain ⟨v1, rfl, ho1, hb2⟩ := told_form h2
    rw [← hy]
    obtain ⟨a1, c1, rfl, hI1⟩ := ints_of_row ho1
    clear h2 hb1
    obtain ⟨L, hL⟩ : ∃ L, L = ptsR r := ⟨_, rfl⟩
    rw [← hL] at hI0 hI1 ho1 hlen ⊢
    have HL : Hid (L = ptsR r) := hL
    clear hL
    go_wp2_with fail
    refine (eqInts a1 a0 c1 c0 L w2 hI1 (hI0.below hb2) (by omega)).mono ?_
    rintro e w3 ⟨rfl, hb3⟩
    have ho3 := own_below ho1 hb3
    have HB3 : Hid (Below w1.heap.size w1 w3) := hb2.trans (hb3.mono hb2.size)
    clear hI1 ho1 hb2 hb3
    have HY : Hid (y = okR r) := hy
    clear hy
    cases y
    all_goals
      go_wp2_with fail
      refine (markInts w1.heap.size _ L w3 ho3 (by omega)).mono ?_
      rintro e w4 ⟨rfl, ho4, hb4⟩
      have HB4 : Hid (Below w1.heap.size w1 w4) := HB3.out.trans hb4
      clear ho3 hb4
      have hI4 : Ints w4 a1 (marksI L.length) := by
        obtain ⟨a, c, e, h⟩ := ints_of_row ho4
        simp only [Value.slice.injEq] at e
        rw [e.1]; exact h
      go_wp2_with fail
      refine (heldInts a1 L.length c1 w4 hI4 (by omega)).mono ?_
      rintro e w5 ⟨rfl, hb5⟩
      have hI5 := hI4.below hb5
      have HB5 : Hid (Below w1.heap.size w1 w5) := HB4.out.trans (hb5.mono HB4.out.size)
      clear hI4 hb5 ho4
      go_wp2_with fail
      refine (H1 w5 (tabs_below HT.out (ibelow HB1.out HB5.out))).mono ?_
      intro e w6 h6
      obtain ⟨v2, rfl, ho6, hb6⟩ := told_form h6
      rw [← HY.out]
      rw [← HL.out] at ho6
      obtain ⟨a2, c2, rfl, hI6⟩ := ints_of_row ho6
      have hI56 := hI5.below hb6
      have HB6 : Hid (Below w1.heap.size w1 w6) := HB5.out.trans (hb6.mono HB5.out.size)
      clear h6 ho6 hb6 hI5
      go_wp2_with fail
      refine (eqInts a2 a0 c2 c0 L w6 hI6 (hI0.below HB6.out) (by omega)).mono ?_
      rintro e w7 ⟨rfl, hb7⟩
      have hI7 := hI56.below hb7
      have HB7 : Hid (Below w1.heap.size w1 w7) := HB6.out.trans (hb7.mono HB6.out.size)
      clear hI6 hb7 hI56
      go_wp2_with fail
      refine (heldInts a1 L.length c1 w7 hI7 (by omega)).mono ?_
      rintro e w8 ⟨rfl, hb8⟩
      have HB8 : Hid (Below w.heap.size w w8) := ibelow HB1.out (HB7.out.trans (hb8.mono HB7.out.size))
      clear hI7 hb8
      go_wp2
      go_ret
      exact ⟨rfl, HB8.out⟩
  · have hs' : (1048576 : Int) < s.size := by omega
    go_enter Tryd.func3, Tryd.ntmps3
    go_wp2
    go_ret
    exact ⟨rfl, Below.refl _ _⟩

/-- How many points a text has. -/
def ctF (s : ByteArray) : Value := match gd 1 s with
  | some L => .tuple #[.int .i64 L.length, .bool true]
  | none => .tuple #[.int .i64 0, .bool false]
theorem ct_some {s : ByteArray} {L : List Int} (h : gd 1 s = some L) : ctF s = .tuple #[.int .i64 L.length, .bool true] := by unfold ctF; rw [h]
theorem ct_none {s : ByteArray} (h : gd 1 s = none) : ctF s = .tuple #[.int .i64 0, .bool false] := by unfold ctF; rw [h]
theorem ct_form (s : ByteArray) : ∃ x y, ctF s = .tuple #[.int .i64 x, .bool y] := by
  rcases h : gd 1 s with _ | L
  · exact ⟨_, _, ct_none h⟩
  · exact ⟨_, _, ct_some h⟩

set_option maxRecDepth 100000 in
set_option maxHeartbeats 800000 in
theorem specCount (s : ByteArray) (hs : s.size ≤ 1048576) (w : World) :
    Calls Tryd.prog 10 #[.string s] w fun e w' => e = .returned (ctF s) ∧ Below w.heap.size w w' := by
  have H0 := specDecode s 1 hs
  go_enter Tryd.func10, Tryd.ntmps10
  go_wp2_with fail
  refine (H0 _).mono ?_
  rintro e w1 ⟨⟨L, v, hg, rfl, ho⟩ | ⟨hg, v, rfl⟩, hb⟩
  · obtain ⟨a, cap, rfl, hI⟩ := ints_of_row ho
    have HG : Hid (ctF s = _) := ct_some hg
    clear H0 hg hI ho
    go_wp2
    go_ret2
    exact ⟨by rw [HG.out]; rfl, hb⟩
  · have HG : Hid (ctF s = _) := ct_none hg
    clear H0 hg
    go_wp2
    go_ret2
    exact ⟨by rw [HG.out]; rfl, hb⟩

set_option maxRecDepth 100000 in
set_option maxHeartbeats 800000 in
theorem implCount (s : ByteArray) (hs : s.size ≤ 1048576) (w : World) (hT : Tabs w) :
    Calls Tryd.prog 11 #[.string s] w fun e w' => e = .returned (ctF s) ∧ Below w.heap.size w w' := by
  have H0 := implDecodePoints s 1 hs w hT
  rw [show gdF 1 s = gd 1 s from gdF_in (by omega)] at H0
  go_enter Tryd.func11, Tryd.ntmps11
  go_wp2_with fail
  refine H0.mono ?_
  rintro e w1 ⟨⟨L, v, hg, rfl, ho⟩ | ⟨hg, rfl⟩, hb⟩
  · obtain ⟨a, cap, rfl, hI⟩ := ints_of_row ho
    have HG : Hid (ctF s = _) := ct_some hg
    clear H0 hg hI ho
    go_wp2
    go_ret2
    exact ⟨by rw [HG.out]; rfl, hb⟩
  · have HG : Hid (ctF s = _) := ct_none hg
    clear H0 hg
    go_wp2
    go_ret2
    exact ⟨by rw [HG.out]; rfl, hb⟩

set_option maxRecDepth 100000 in
set_option maxHeartbeats 800000 in
theorem countPoints_walk (s : ByteArray) (w0 : s.size ≤ maxLen) (w : World) (hT : Tabs w) :
    Calls Tryd.prog 4 #[.string s] w fun e w' => e = .returned (.bool true) ∧ Below w.heap.size w w' := by
  unfold maxLen at w0
  by_cases hs : s.size ≤ 1048576
  · have hs' : ¬ (1048576 : Int) < s.size := by omega
    obtain ⟨x, y, hxy⟩ := ct_form s
    have H0 := specCount s hs w
    have H1 : Hid (∀ w1, Below w.heap.size w w1 → Calls Tryd.prog 11 #[.string s] w1 fun e w' => e = .returned (.tuple #[.int .i64 x, .bool y]) ∧ Below w1.heap.size w1 w') := fun w1 hb => by
      have H := implCount s hs w1 (tabs_below hT hb)
      rw [hxy] at H
      exact H
    rw [hxy] at H0
    clear hxy hT hs w0
    cases y
    all_goals
      go_enter Tryd.func4, Tryd.ntmps4
      go_wp2_with fail
      refine H0.mono ?_
      rintro e w1 ⟨rfl, hb1⟩
      have H2 := H1.out w1 hb1
      go_wp2_with (go_at_call 11; refine H2.mono ?_; rintro e w2 ⟨rfl, hb2⟩; clear H2)
      go_ret
      exact ⟨rfl, ibelow hb1 (by assumption)⟩
  · have hs' : (1048576 : Int) < s.size := by omega
    go_enter Tryd.func4, Tryd.ntmps4
    go_wp2
    go_ret
    exact ⟨rfl, Below.refl _ _⟩

end Go.Proofs.YthamfkfndehhjabDoor
