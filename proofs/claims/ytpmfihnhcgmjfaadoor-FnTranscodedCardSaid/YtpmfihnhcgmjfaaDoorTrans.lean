/-
  The walk of the law on a text told in another code.
-/
import Derived.Test.YtpmfihnhcgmjfaaDoorDecLaw
import Derived.Test.YtpmfihnhcgmjfaaDoorEncLaw
namespace Go.Proofs.YtpmfihnhcgmjfaaDoor
open Go.ChangeShapes Go.WideShapes Go.ChangeAt Go.RowKit Go.PlainAid

/-- What is told of a text in another code. -/
def trF (fr tc : Int) (s : ByteArray) : Value := match gdF fr s with
  | some L => encF tc L
  | none => .tuple #[.string ⟨#[]⟩, .bool false]
theorem trF_some {fr tc : Int} {s : ByteArray} {L : List Int} (h : gdF fr s = some L) : trF fr tc s = encF tc L := by unfold trF; rw [h]
theorem trF_none {fr tc : Int} {s : ByteArray} (h : gdF fr s = none) : trF fr tc s = .tuple #[.string ⟨#[]⟩, .bool false] := by unfold trF; rw [h]
theorem trF_form (fr tc : Int) (s : ByteArray) : ∃ x y, trF fr tc s = .tuple #[.string x, .bool y] := by
  rcases h : gdF fr s with _ | L
  · exact ⟨_, _, trF_none h⟩
  · rw [trF_some h]; exact encF_form tc L
theorem gdF_len {code : Int} {s : ByteArray} {L : List Int} (h : gdF code s = some L) : L.length ≤ 9223372036854775807 := by
  have h1 := pts_len (code := code) (s := s)
  rw [h] at h1
  exact Nat.le_trans h1 (by omega)

set_option maxRecDepth 100000 in
set_option maxHeartbeats 800000 in
theorem specTranscode (s : ByteArray) (fr tc : Int) (hs : s.size ≤ 1048576) (w : World) :
    Calls Tryd.prog 6 #[.string s, .int .i64 fr, .int .i64 tc] w fun e w' => e = .returned (trF fr tc s) ∧ Below w.heap.size w w' := by
  have H0 := specDecodePoints s fr hs w
  go_enter Tryd.func6, Tryd.ntmps6
  go_wp2_with fail
  refine H0.mono ?_
  rintro e w1 ⟨⟨L, v, hg, rfl, ho⟩ | ⟨hg, rfl⟩, hb⟩
  · obtain ⟨a, cap, rfl, hI⟩ := ints_of_row ho
    have H1 := specEncodePoints a cap L tc w1 hI (gdF_len hg)
    obtain ⟨x, y, hxy⟩ := encF_form tc L
    rw [hxy] at H1
    have HG : Hid (trF fr tc s = .tuple #[.string x, .bool y]) := (trF_some hg).trans hxy
    clear H0 hg ho hI hxy
    go_wp2_with (go_at_call 13; refine H1.mono ?_; rintro e w2 ⟨rfl, hb2⟩; clear H1)
    go_ret2
    exact ⟨by rw [HG.out]; rfl, ibelow hb (by assumption)⟩
  · have HG : Hid (trF fr tc s = _) := trF_none hg
    clear H0 hg
    go_wp2
    go_ret2
    exact ⟨by rw [HG.out]; rfl, hb⟩

set_option maxRecDepth 100000 in
set_option maxHeartbeats 800000 in
theorem implTranscode (s : ByteArray) (fr tc : Int) (hs : s.size ≤ 1048576) (w : World) (hT : UTabs w) :
    Calls Tryd.prog 5 #[.string s, .int .i64 fr, .int .i64 tc] w fun e w' => e = .returned (trF fr tc s) ∧ Below w.heap.size w w' := by
  have H0 := implDecodePoints s fr hs w hT
  go_enter Tryd.func5, Tryd.ntmps5
  go_wp2_with fail
  refine H0.mono ?_
  rintro e w1 ⟨⟨L, v, hg, rfl, ho⟩ | ⟨hg, rfl⟩, hb⟩
  · obtain ⟨a, cap, rfl, hI⟩ := ints_of_row ho
    have H1 := implEncodePoints a cap L tc w1 hI (gdF_len hg)
    obtain ⟨x, y, hxy⟩ := encF_form tc L
    rw [hxy] at H1
    have HG : Hid (trF fr tc s = .tuple #[.string x, .bool y]) := (trF_some hg).trans hxy
    clear H0 hg ho hI hxy
    go_wp2_with (go_at_call 11; refine H1.mono ?_; rintro e w2 ⟨rfl, hb2⟩; clear H1)
    go_ret2
    exact ⟨by rw [HG.out]; rfl, ibelow hb (by assumption)⟩
  · have HG : Hid (trF fr tc s = _) := trF_none hg
    clear H0 hg
    go_wp2
    go_ret2
    exact ⟨by rw [HG.out]; rfl, hb⟩

end Go.Proofs.YtpmfihnhcgmjfaaDoor
