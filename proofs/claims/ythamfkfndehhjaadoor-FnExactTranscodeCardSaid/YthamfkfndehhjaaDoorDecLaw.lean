/-
  The walks of the laws on points of a text, and on a text told in another code.
-/
import Derived.Test.YthamfkfndehhjaaDoorDecBoth
import Derived.Test.YthamfkfndehhjaaDoorMarkI
namespace Go.Proofs.YthamfkfndehhjaaDoor
open Go.ChangeShapes Go.WideShapes Go.ChangeAt Go.RowKit Go.PlainAid

theorem tabs_below {w w' : World} (h : Tabs w) (hb : Below w.heap.size w w') : Tabs w' := Utf8Tabs_below h hb
def okR (r : Option (List Int)) : Bool := r.isSome
def ptsR (r : Option (List Int)) : List Int := r.getD []
theorem told_form {w w' : World} {e : Ending} {r : Option (List Int)} (h : ToldN w w' e r) : ∃ v, e = .returned (.tuple #[v, .bool (okR r)]) ∧ w'.ownsRow w.heap.size 3 1 v (ptsR r).length (iv (ptsR r)) ∧ Below w.heap.size w w' := by
  obtain ⟨⟨L, v, rfl, rfl, ho⟩ | ⟨rfl, rfl⟩, hb⟩ := h
  · exact ⟨v, rfl, ho, hb⟩
  · exact ⟨_, rfl, World.ownsRow_nil _ _ _ _, hb⟩
theorem pts_len {code : Int} {s : ByteArray} : (ptsR (gdF code s)).length ≤ 300 := by
  rcases h : gdF code s with _ | L
  · simp [ptsR]
  · have h2 : gd code s = some L := by
      unfold gdF at h; split at h
      · exact h
      · cases h
    exact (okL_iff.1 (gd_some h2).2).1

set_option maxRecDepth 100000 in
set_option maxHeartbeats 3200000 in
theorem decodePoints_walk (s : ByteArray) (code : Int) (w0 : s.size ≤ maxLen) (_wc : (Lit.int .i64 code).wf = true) (w : World) (hT : Tabs w) :
    Calls Tryd.prog 3 #[.string s, .int .i64 code] w fun e w' => e = .returned (.bool true) ∧ Below w.heap.size w w' := by
  unfold maxLen at w0
  by_cases hs : s.size ≤ 1048576
  · have hs' : ¬ (1048576 : Int) < s.size := by omega
    have H0 := specDecodePoints s code hs
    have H1 := implDecodePoints s code hs
    have hlen := pts_len (code := code) (s := s)
    obtain ⟨r, hr⟩ : ∃ r, r = gdF code s := ⟨_, rfl⟩
    rw [← hr] at H0 H1 hlen
    clear hr w0
    obtain ⟨y, hy⟩ : ∃ y, y = okR r := ⟨_, rfl⟩
    have HT : Hid (Tabs w) := hT
    clear hT hs
    go_enter Tryd.func3, Tryd.ntmps3
    go_wp2_with fail
    refine (H0 w).mono ?_
    intro e w1 h1
    obtain ⟨v0, rfl, ho0, hb1⟩ := told_form h1
    rw [← hy]
    obtain ⟨a0, c0, rfl, hI0⟩ := ints_of_row ho0
    clear h1 ho0 H0
    have HB1 : Hid (Below w.heap.size w w1) := hb1
    go_wp2_with fail
    refine (H1 w1 (tabs_below HT.out hb1)).mono ?_
    intro e w2 h2
    obtain ⟨v1, rfl, ho1, hb2⟩ := told_form h2
    rw [← hy]
    obtain ⟨a1, c1, rfl, hI1⟩ := ints_of_row ho1
    clear h2 hb1
    obtain ⟨L, hL⟩ : ∃ L, L = ptsR r := ⟨_, rfl⟩
    rw [← hL] at hI0 hI1 ho1 hlen ⊢
    have HL : Hid (L = ptsR r) := hL
    clear hL
    go_wp2_with fail
    refine (eqInts a1 a0 c1 c0 L w2 hI1 (hI0.below hb2) (by omega)).mono ?_
    rintro e w3 ⟨rfl, hb3⟩
    have ho3 := own_below ho1 hb3
    have HB3 : Hid (Below w1.heap.size w1 w3) := hb2.trans (hb3.mono hb2.size)
    clear hI1 ho1 hb2 hb3
    have HY : Hid (y = okR r) := hy
    clear hy
    cases y
    all_goals
      go_wp2_with fail
      refine (markInts w1.heap.size _ L w3 ho3 (by omega)).mono ?_
      rintro e w4 ⟨rfl, ho4, hb4⟩
      have HB4 : Hid (Below w1.heap.size w1 w4) := HB3.out.trans hb4
      clear ho3 hb4
      have hI4 : Ints w4 a1 (marksI L.length) := by
        obtain ⟨a, c, e, h⟩ := ints_of_row ho4
        simp only [Value.slice.injEq] at e
        rw [e.1]; exact h
      go_wp2_with fail
      refine (heldInts a1 L.length c1 w4 hI4 (by omega)).mono ?_
      rintro e w5 ⟨rfl, hb5⟩
      have hI5 := hI4.below hb5
      have HB5 : Hid (Below w1.heap.size w1 w5) := HB4.out.trans (hb5.mono HB4.out.size)
      clear hI4 hb5 ho4
      go_wp2_with fail
      refine (H1 w5 (tabs_below HT.out (ibelow HB1.out HB5.out))).mono ?_
      intro e w6 h6
      obtain ⟨v2, rfl, ho6, hb6⟩ := told_form h6
      rw [← HY.out]
      rw [← HL.out] at ho6
      obtain ⟨a2, c2, rfl, hI6⟩ := ints_of_row ho6
      have hI56 := hI5.below hb6
      have HB6 : Hid (Below w1.heap.size w1 w6) := HB5.out.trans (hb6.mono HB5.out.size)
      clear h6 ho6 hb6 hI5
      go_wp2_with fail
      refine (eqInts a2 a0 c2 c0 L w6 hI6 (hI0.below HB6.out) (by omega)).mono ?_
      rintro e w7 ⟨rfl, hb7⟩
      have hI7 := hI56.below hb7
      have HB7 : Hid (Below w1.heap.size w1 w7) := HB6.out.trans (hb7.mono HB6.out.size)
      clear hI6 hb7 hI56
      go_wp2_with fail
      refine (heldInts a1 L.length c1 w7 hI7 (by omega)).mono ?_
      rintro e w8 ⟨rfl, hb8⟩
      have HB8 : Hid (Below w.heap.size w w8) := ibelow HB1.out (HB7.out.trans (hb8.mono HB7.out.size))
      clear hI7 hb8
      go_wp2
      go_ret
      exact ⟨rfl, HB8.out⟩
  · have hs' : (1048576 : Int) < s.size := by omega
    go_enter Tryd.func3, Tryd.ntmps3
    go_wp2
    go_ret
    exact ⟨rfl, Below.refl _ _⟩

end Go.Proofs.YthamfkfndehhjaaDoor
