/-
  The walks of the specification's answers: points told in a code, and how many bytes they have.
-/
import Derived.Test.YtpmfihnhcgmjfaaDoorEnc
namespace Go.Proofs.YtpmfihnhcgmjfaaDoor
open Go.ChangeShapes Go.WideShapes Go.ChangeAt Go.RowKit

/-- The points are good, and the code is one of the three. -/
def sureC (code : Int) (L : List Int) : Bool := okL L && decide (1 ≤ code ∧ code ≤ 3)
/-- What is told of any points in any code. -/
def encF (code : Int) (L : List Int) : Value := if sureC code L = true then encR code L else .tuple #[.string ⟨#[]⟩, .bool false]
def sizeF (code : Int) (L : List Int) : Value := if sureC code L = true ∧ L.all (fitC code) = true then .tuple #[.int .i64 (encL code L).length, .bool true] else .tuple #[.int .i64 0, .bool false]
theorem encF_yes {code : Int} {L : List Int} (h : sureC code L = true) : encF code L = encR code L := by unfold encF; rw [if_pos h]
theorem encF_no {code : Int} {L : List Int} (h : sureC code L = false) : encF code L = .tuple #[.string ⟨#[]⟩, .bool false] := by unfold encF; rw [if_neg (by rw [h]; simp)]
theorem sizeF_yes {code : Int} {L : List Int} (h : sureC code L = true) (h2 : L.all (fitC code) = true) : sizeF code L = .tuple #[.int .i64 (encL code L).length, .bool true] := by unfold sizeF; rw [if_pos ⟨h, h2⟩]
theorem sizeF_no {code : Int} {L : List Int} (h : sureC code L = false) : sizeF code L = .tuple #[.int .i64 0, .bool false] := by unfold sizeF; rw [if_neg (by rw [h]; simp)]
theorem sizeF_no2 {code : Int} {L : List Int} (h : L.all (fitC code) = false) : sizeF code L = .tuple #[.int .i64 0, .bool false] := by unfold sizeF; rw [if_neg (by rw [h]; simp)]
/-- What is told of points is a text that it hasn't, or the bytes. -/
theorem encF_cases (code : Int) (L : List Int) : (encF code L = .tuple #[.string ⟨#[]⟩, .bool false] ∧ sizeF code L = .tuple #[.int .i64 0, .bool false]) ∨
    (encF code L = .tuple #[.string ⟨(encL code L).toArray⟩, .bool true] ∧ sizeF code L = .tuple #[.int .i64 (encL code L).length, .bool true] ∧ (encL code L).length ≤ 1200) := by
  rcases h : sureC code L with _ | _
  · exact .inl ⟨encF_no h, sizeF_no h⟩
  · rcases h2 : L.all (fitC code) with _ | _
    · exact .inl ⟨(encF_yes h).trans (encR_no h2), sizeF_no2 h2⟩
    · refine .inr ⟨(encF_yes h).trans (encR_yes h2), sizeF_yes h h2, ?_⟩
      have h3 := encL_len code L
      have h4 : okL L = true := by unfold sureC at h; rw [Bool.and_eq_true] at h; exact h.1
      have h5 := (okL_iff.1 h4).1
      omega

set_option maxRecDepth 100000 in
set_option maxHeartbeats 800000 in
theorem specEncodePoints (a : Option Addr) (cap : Nat) (L : List Int) (code : Int) (w : World) (hL : Hid (Ints w a L)) (hlen : L.length ≤ 9223372036854775807) :
    Calls Tryd.prog 13 #[.slice a L.length cap, .int .i64 code] w fun e w' => e = .returned (encF code L) ∧ Below w.heap.size w w' := by
  have H1 := specPoints a cap L w hL hlen
  have H2 := specCode code
  rcases h1 : okL L with _ | _
  · rw [h1] at H1
    have HF : Hid (encF code L = .tuple #[.string ⟨#[]⟩, .bool false]) := encF_no (by unfold sureC; rw [h1]; rfl)
    clear h1 H2
    go_enter Tryd.func13, Tryd.ntmps13
    go_wp2_with (go_at_call 25; refine H1.mono ?_; rintro e w' ⟨rfl, rfl⟩; clear H1)
    go_ret2
    exact ⟨by rw [HF.out]; rfl, Below.refl _ _⟩
  · rw [h1] at H1
    by_cases h2 : 1 ≤ code ∧ code ≤ 3
    · rw [decide_eq_true h2] at H2
      have H3 := specEncode a cap L code w hL (okAll_of h1)
      have HF : Hid (encF code L = encR code L) := encF_yes (by unfold sureC; rw [h1, decide_eq_true h2]; rfl)
      obtain ⟨s, ok, hs⟩ : ∃ s ok, encR code L = .tuple #[.string s, .bool ok] := by
        rcases h : L.all (fitC code) with _ | _
        · exact ⟨_, _, encR_no h⟩
        · exact ⟨_, _, encR_yes h⟩
      rw [hs] at H3
      have HF2 : Hid (encF code L = .tuple #[.string s, .bool ok]) := HF.out.trans hs
      clear h1 h2 HF hs
      go_enter Tryd.func13, Tryd.ntmps13
      go_wp2_with (first | (go_at_call 25; refine H1.mono ?_; rintro e w' ⟨rfl, rfl⟩; clear H1) | (go_at_call 23; refine (H2 _).mono ?_; rintro e w' ⟨rfl, rfl⟩; clear H2) | (go_at_call 26; refine H3.mono ?_; rintro e w' ⟨rfl, hb⟩; clear H3))
      go_ret2
      exact ⟨by rw [HF2.out]; rfl, by assumption⟩
    · rw [decide_eq_false h2] at H2
      have HF : Hid (encF code L = .tuple #[.string ⟨#[]⟩, .bool false]) := encF_no (by unfold sureC; rw [decide_eq_false h2, Bool.and_false])
      clear h1 h2
      go_enter Tryd.func13, Tryd.ntmps13
      go_wp2_with (first | (go_at_call 25; refine H1.mono ?_; rintro e w' ⟨rfl, rfl⟩; clear H1) | (go_at_call 23; refine (H2 _).mono ?_; rintro e w' ⟨rfl, rfl⟩; clear H2))
      go_ret2
      exact ⟨by rw [HF.out]; rfl, Below.refl _ _⟩

theorem utf_len (l : List UInt8) : (ByteArray.mk l.toArray).size = l.length := by simp [ByteArray.size]

end Go.Proofs.YtpmfihnhcgmjfaaDoor
