/-
  The walks of both answers to 'points of a text': the specification's and the program's are the same.
-/
import Derived.Test.YtljnciclbjcinaaGreatDoorDecImpl2
namespace Go.Proofs.YtljnciclbjcinaaGreatDoor
open Go.ChangeShapes Go.WideShapes Go.ChangeAt Go.RowKit Go.PlainAid

/-- The points of a text in any code, where they are good. -/
def gdF (code : Int) (s : ByteArray) : Option (List Int) := if 1 ≤ code ∧ code ≤ 3 then gd code s else none
theorem gdF_in {code : Int} {s : ByteArray} (h : 1 ≤ code ∧ code ≤ 3) : gdF code s = gd code s := by unfold gdF; rw [if_pos h]
theorem gdF_out {code : Int} {s : ByteArray} (h : ¬ (1 ≤ code ∧ code ≤ 3)) : gdF code s = none := by unfold gdF; rw [if_neg h]
theorem gdF_great {code : Int} {s : ByteArray} (h : 1200 < s.size) : gdF code s = none := by
  unfold gdF; split
  · exact gd_great h
  · rfl
/-- What both tell: the points, in memory of their own, and true; or no points, and false. -/
def ToldN (w w' : World) (e : Ending) (r : Option (List Int)) : Prop :=
  ((∃ L v, r = some L ∧ e = .returned (.tuple #[v, .bool true]) ∧ w'.ownsRow w.heap.size 3 1 v L.length (iv L)) ∨ (r = none ∧ e = .returned (.tuple #[.slice none 0 0, .bool false]))) ∧ Below w.heap.size w w'

set_option maxRecDepth 100000 in
set_option maxHeartbeats 800000 in
theorem implPointsOf (s : ByteArray) (code : Int) (hs : s.size ≤ 1200) (h2 : 1 ≤ code ∧ code ≤ 3) (w : World) (hT : UTabs w) :
    Calls Tryz.prog 146 #[.string s, .int .i64 code] w fun e w' => ToldD w w' e code s := by
  by_cases c1 : code = 1
  · subst c1
    have H := impl8 s hs w hT
    go_enter Tryz.func146, Tryz.ntmps146
    go_wp2_with fail
    refine H.mono ?_
    rintro e w1 ⟨⟨L, v, hg, rfl, ho⟩ | ⟨hg, rfl⟩, hb⟩
    · have HG : Hid (dec 1 s.size s = some L) := hg
      clear H hg
      go_wp2
      go_ret2
      exact ⟨.inl ⟨L, _, HG.out, rfl, ho⟩, hb⟩
    · have HG : Hid (gd 1 s = none) := hg
      clear H hg
      go_wp2
      go_ret2
      exact ⟨.inr ⟨HG.out, rfl⟩, hb⟩
  · have n1 : (code == 1) = false := by simpa using c1
    by_cases c2 : code = 2
    · subst c2
      have H := impl16 s hs w
      go_enter Tryz.func146, Tryz.ntmps146
      go_wp2_with fail
      refine H.mono ?_
      rintro e w1 ⟨⟨L, v, hg, rfl, ho⟩ | ⟨hg, rfl⟩, hb⟩
      · have HG : Hid (dec 2 s.size s = some L) := hg
        clear H hg
        go_wp2
        go_ret2
        exact ⟨.inl ⟨L, _, HG.out, rfl, ho⟩, hb⟩
      · have HG : Hid (gd 2 s = none) := hg
        clear H hg
        go_wp2
        go_ret2
        exact ⟨.inr ⟨HG.out, rfl⟩, hb⟩
    · obtain rfl : code = 3 := by omega
      have H := implLatin s hs w
      clear n1 c1 c2 h2
      go_enter Tryz.func146, Tryz.ntmps146
      go_wp2_with fail
      refine H.mono ?_
      rintro e w1 ⟨L, v, hg, rfl, ho, hb⟩
      have HG : Hid (dec 3 s.size s = some L) := hg
      clear H hg
      go_wp2
      go_ret2
      exact ⟨.inl ⟨L, _, HG.out, rfl, ho⟩, hb⟩

set_option maxRecDepth 100000 in
set_option maxHeartbeats 800000 in
theorem implPointsOf_out (s : ByteArray) (code : Int) (h2 : ¬ (1 ≤ code ∧ code ≤ 3)) (w : World) :
    Calls Tryz.prog 146 #[.string s, .int .i64 code] w fun e w' => e = .returned (.tuple #[.slice none 0 0, .bool false]) ∧ w' = w := by
  have n1 : (code == 1) = false := by simp; omega
  have n2 : (code == 2) = false := by simp; omega
  have n3 : (code == 3) = false := by simp; omega
  clear h2
  go_enter Tryz.func146, Tryz.ntmps146
  go_wp2
  go_ret2
  exact ⟨rfl, rfl⟩

set_option maxRecDepth 100000 in
set_option maxHeartbeats 800000 in
theorem implDecodePoints (s : ByteArray) (code : Int) (hs : s.size ≤ 1048576) (w : World) (hT : UTabs w) :
    Calls Tryz.prog 124 #[.string s, .int .i64 code] w fun e w' => ToldN w w' e (gdF code s) := by
  by_cases hg : 1200 < s.size
  · have HF : Hid (gdF code s = none) := gdF_great hg
    have hg' : (1200 : Int) < s.size := by omega
    clear hg
    go_enter Tryz.func124, Tryz.ntmps124
    go_wp2
    go_ret2
    exact ⟨.inr ⟨HF.out, rfl⟩, Below.refl _ _⟩
  · have hg' : ¬ (1200 : Int) < s.size := by omega
    by_cases h2 : 1 ≤ code ∧ code ≤ 3
    · have H := implPointsOf s code (by omega) h2 w hT
      have HF : Hid (gdF code s = gd code s) := gdF_in h2
      clear h2 hg
      go_enter Tryz.func124, Tryz.ntmps124
      go_wp2_with fail
      refine H.mono ?_
      rintro e w1 ⟨⟨L, v, hd, rfl, ho⟩ | ⟨hd, rfl⟩, hb⟩
      · obtain ⟨a, cap, rfl, hI⟩ := ints_of_row ho
        have hlen : L.length ≤ 9223372036854775807 := by
          obtain ⟨_, h⟩ := ho
          rcases h with ⟨_, h⟩ | ⟨g, cap', cur, e, _, _, h3, h4, _⟩
          · omega
          · unfold maxLen at h4; omega
        have HP := implGoodP a cap L w1 hI hlen
        rcases hok : okL L with _ | _
        · rw [hok] at HP
          have HG : Hid (gdF code s = none) := by unfold Hid; rw [HF.out, gd_is hd, hok]; rfl
          clear H hd HF hok hI
          go_wp2_with (go_at_call 147; refine HP.mono ?_; rintro e w' ⟨rfl, hw⟩; obtain rfl := hw.symm; clear HP hw)
          go_ret2
          exact ⟨.inr ⟨HG.out, rfl⟩, hb⟩
        · rw [hok] at HP
          have HG : Hid (gdF code s = some L) := by unfold Hid; rw [HF.out, gd_is hd, hok]; rfl
          clear H hd HF hok hI
          go_wp2_with (go_at_call 147; refine HP.mono ?_; rintro e w' ⟨rfl, hw⟩; obtain rfl := hw.symm; clear HP hw)
          go_ret2
          exact ⟨.inl ⟨L, _, HG.out, rfl, ho⟩, hb⟩
      · have HG : Hid (gdF code s = none) := HF.out.trans hd
        clear H hd HF
        go_wp2
        go_ret2
        exact ⟨.inr ⟨HG.out, rfl⟩, hb⟩
    · have H := implPointsOf_out s code h2 w
      have HG : Hid (gdF code s = none) := gdF_out h2
      clear h2 hg
      go_enter Tryz.func124, Tryz.ntmps124
      go_wp2_with (go_at_call 146; refine H.mono ?_; rintro e w' ⟨rfl, hw⟩; obtain rfl := hw.symm; clear H hw)
      go_ret2
      exact ⟨.inr ⟨HG.out, rfl⟩, Below.refl _ _⟩

end Go.Proofs.YtljnciclbjcinaaGreatDoor
