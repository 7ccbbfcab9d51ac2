/-
  The walks of the laws on points of compact bytes, and on how many points a text has.
-/
import Derived.Test.YtpmfihnhcgmjfaaDoorDecLaw
import Derived.Test.YtpmfihnhcgmjfaaDoorSize
namespace Go.Proofs.YtpmfihnhcgmjfaaDoor
open Go.ChangeShapes Go.WideShapes Go.ChangeAt Go.RowKit Go.PlainAid

/-- The points of compact bytes. -/
def cpF (wide : Bool) (s : ByteArray) : Option (List Int) := if wide = true then (match gd 2 s with
  | some L => if L.all (fitC 3) = true then none else some L
  | none => none) else gd 3 s
theorem cp_lat (s : ByteArray) : cpF false s = gd 3 s := rfl
theorem cp_none {s : ByteArray} (h : gd 2 s = none) : cpF true s = none := by unfold cpF; rw [if_pos rfl, h]
theorem cp_fit {s : ByteArray} {L : List Int} (h : gd 2 s = some L) (h2 : L.all (fitC 3) = true) : cpF true s = none := by unfold cpF; rw [if_pos rfl, h]; simp only; rw [if_pos h2]
theorem cp_wide {s : ByteArray} {L : List Int} (h : gd 2 s = some L) (h2 : L.all (fitC 3) = false) : cpF true s = some L := by unfold cpF; rw [if_pos rfl, h]; simp only; rw [if_neg (by rw [h2]; simp)]
theorem cp_len {wide : Bool} {s : ByteArray} : (ptsR (cpF wide s)).length ≤ 300 := by
  cases wide
  · rw [cp_lat]
    rcases h : gd 3 s with _ | L
    · simp [ptsR]
    · exact (okL_iff.1 (gd_some h).2).1
  · rcases h : gd 2 s with _ | L
    · rw [cp_none h]; simp [ptsR]
    · rcases h2 : L.all (fitC 3) with _ | _
      · rw [cp_wide h h2]; exact (okL_iff.1 (gd_some h).2).1
      · rw [cp_fit h h2]; simp [ptsR]
theorem own_len {w : World} {B : Nat} {v : Value} {L : List Int} (ho : w.ownsRow B 3 1 v L.length (iv L)) : L.length ≤ 9223372036854775807 := by
  obtain ⟨_, h⟩ := ho
  rcases h with ⟨_, h⟩ | ⟨g, cap', cur, e, _, _, h3, h4, _⟩
  · omega
  · unfold maxLen at h4; omega

/-- How many points a text has. -/
def ctF (s : ByteArray) : Value := match gd 1 s with
  | some L => .tuple #[.int .i64 L.length, .bool true]
  | none => .tuple #[.int .i64 0, .bool false]
theorem ct_some {s : ByteArray} {L : List Int} (h : gd 1 s = some L) : ctF s = .tuple #[.int .i64 L.length, .bool true] := by unfold ctF; rw [h]
theorem ct_none {s : ByteArray} (h : gd 1 s = none) : ctF s = .tuple #[.int .i64 0, .bool false] := by unfold ctF; rw [h]
theorem ct_form (s : ByteArray) : ∃ x y, ctF s = .tuple #[.int .i64 x, .bool y] := by
  rcases h : gd 1 s with _ | L
  · exact ⟨_, _, ct_none h⟩
  · exact ⟨_, _, ct_some h⟩

set_option maxRecDepth 100000 in
set_option maxHeartbeats 800000 in
theorem implCount (s : ByteArray) (hs : s.size ≤ 1048576) (w : World) (hT : UTabs w) :
    Calls Tryd.prog 7 #[.string s] w fun e w' => e = .returned (ctF s) ∧ Below w.heap.size w w' := by
  have H0 := implDecodePoints s 1 hs w hT
  rw [show gdF 1 s = gd 1 s from gdF_in (by omega)] at H0
  go_enter Tryd.func7, Tryd.ntmps7
  go_wp2_with fail
  refine H0.mono ?_
  rintro e w1 ⟨⟨L, v, hg, rfl, ho⟩ | ⟨hg, rfl⟩, hb⟩
  · obtain ⟨a, cap, rfl, hI⟩ := ints_of_row ho
    have HG : Hid (ctF s = _) := ct_some hg
    clear H0 hg hI ho
    go_wp2
    go_ret2
    exact ⟨by rw [HG.out]; rfl, hb⟩
  · have HG : Hid (ctF s = _) := ct_none hg
    clear H0 hg
    go_wp2
    go_ret2
    exact ⟨by rw [HG.out]; rfl, hb⟩

end Go.Proofs.YtpmfihnhcgmjfaaDoor
