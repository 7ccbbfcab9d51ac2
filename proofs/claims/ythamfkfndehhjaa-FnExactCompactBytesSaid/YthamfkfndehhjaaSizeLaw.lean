/-
  The walk of the law on how many bytes points have.
-/
import Derived.Test.YthamfkfndehhjaaSize
import Derived.Test.YthamfkfndehhjaaPointsLaw
namespace Go.Proofs.Ythamfkfndehhjaa
open Go.ChangeShapes Go.WideShapes Go.ChangeAt Go.RowKit

theorem sizeF_form (code : Int) (L : List Int) : ∃ x y, sizeF code L = .tuple #[.int .i64 x, .bool y] := by
  rcases encF_cases code L with ⟨_, h⟩ | ⟨_, h, _⟩
  · exact ⟨_, _, h⟩
  · exact ⟨_, _, h⟩

set_option maxRecDepth 100000 in
set_option maxHeartbeats 1600000 in
theorem sizeAs_walk (a : Option Addr) (cap : Nat) (L : List Int) (code : Int) (_wc : (Lit.int .i64 code).wf = true) (w : World) (hL : Hid (Ints w a L)) (hlen : L.length ≤ 9223372036854775807) (_hw : ∀ x ∈ L, (Lit.int .i64 x).wf = true) :
    Calls Try.prog 5 #[.slice a L.length cap, .int .i64 code] w fun e w' => e = .returned (.bool true) ∧ Below w.heap.size w w' := by
  by_cases h0 : L.length ≤ 1048576
  · obtain ⟨x, y, hxy⟩ := sizeF_form code L
    go_enter Try.func5, Try.ntmps5
    go_wp2_with fail
    refine (toInts a cap L w hL h0).mono ?_
    rintro e w1 ⟨rfl, hs1, hI1, hb1⟩
    go_wp2_with fail
    refine (specSizeAs _ _ L code w1 hI1 hlen).mono ?_
    rw [hxy]
    rintro e w1' ⟨rfl, hb1'⟩
    have HB1 : Hid (Below w.heap.size w w1') := ibelow2 hb1 hb1'
    clear hI1 hb1 hb1' hs1
    go_wp2_with fail
    refine (toInts a cap L _ (hL.out.below HB1.out) h0).mono ?_
    rintro e w2 ⟨rfl, hs2, hI2, hb2⟩
    have HB2 : Hid (Below w.heap.size w w2) := ibelow2 HB1.out hb2
    go_wp2_with fail
    refine (implSizeAs _ _ L code w2 hI2 hlen).mono ?_
    rw [hxy]
    rintro e w2' ⟨rfl, rfl⟩
    have HXY : Hid (sizeF code L = .tuple #[.int .i64 x, .bool y]) := hxy
    clear hxy
    cases y
    all_goals
      go_wp2_with fail
      refine (toInts a cap L _ (hL.out.below HB2.out) h0).mono ?_
      rintro e w3 ⟨rfl, hs3, hI3, hb3⟩
      have HB3 : Hid (Below w.heap.size w w3) := ibelow2 HB2.out hb3
      have hI23 := hI2.below hb3
      go_wp2_with fail
      refine (eqInts _ _ _ _ L w3 hI23 hI3 hlen).mono ?_
      rintro e w4 ⟨rfl, hb4⟩
      have HB4 : Hid (Below w.heap.size w w4) := ibelow2 HB3.out hb4
      clear hb4 hb3 hb2 hI23 hI3 hI2
      go_wp2
      go_ret
      exact ⟨rfl, HB4.out⟩
  · go_enter Try.func5, Try.ntmps5
    go_wp2
    go_ret
    exact ⟨rfl, Below.refl _ _⟩

end Go.Proofs.Ythamfkfndehhjaa
