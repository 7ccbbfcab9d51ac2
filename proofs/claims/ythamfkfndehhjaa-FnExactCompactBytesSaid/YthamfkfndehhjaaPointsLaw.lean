/-
  The walk of the law on good points.
-/
import Derived.Test.YthamfkfndehhjaaPoints
namespace Go.Proofs.Ythamfkfndehhjaa
open Go.ChangeShapes Go.WideShapes Go.ChangeAt Go.RowKit

theorem ibelow2 {a b c : World} (h : Below a.heap.size a b) (k : Below b.heap.size b c) : Below a.heap.size a c := h.trans (k.mono h.size)

set_option maxRecDepth 100000 in
set_option maxHeartbeats 1600000 in
theorem goodPoints_walk (a : Option Addr) (cap : Nat) (L : List Int) (w : World) (hL : Hid (Ints w a L)) (hlen : L.length ≤ 9223372036854775807) (_hw : ∀ x ∈ L, (Lit.int .i64 x).wf = true) :
    Calls Try.prog 3 #[.slice a L.length cap] w fun e w' => e = .returned (.bool true) ∧ Below w.heap.size w w' := by
  by_cases h0 : L.length ≤ 1048576
  · go_enter Try.func3, Try.ntmps3
    go_wp2_with fail
    refine (toInts a cap L w hL h0).mono ?_
    rintro e w1 ⟨rfl, hs1, hI1, hb1⟩
    go_wp2_with fail
    refine (specGood _ _ L w1 hI1 hlen).mono ?_
    rintro e w1' ⟨rfl, rfl⟩
    go_wp2_with fail
    refine (toInts a cap L _ (hL.out.below hb1) h0).mono ?_
    rintro e w2 ⟨rfl, hs2, hI2, hb2⟩
    have HB2 : Hid (Below w.heap.size w w2) := ibelow2 hb1 hb2
    clear hI1
    go_wp2_with fail
    refine (implGood _ _ L w2 hI2 hlen).mono ?_
    rintro e w2' ⟨rfl, rfl⟩
    go_wp2_with fail
    refine (toInts a cap L _ (hL.out.below HB2.out) h0).mono ?_
    rintro e w3 ⟨rfl, hs3, hI3, hb3⟩
    have HB3 : Hid (Below w.heap.size w w3) := ibelow2 HB2.out hb3
    have hI23 := hI2.below hb3
    go_wp2_with fail
    refine (eqInts _ _ _ _ L w3 hI23 hI3 hlen).mono ?_
    rintro e w4 ⟨rfl, hb4⟩
    have HB4 : Hid (Below w.heap.size w w4) := ibelow2 HB3.out hb4
    clear hb4 hb3 hb2 hb1 hI23 hI3 hI2
    go_wp2
    go_ret
    exact ⟨rfl, HB4.out⟩
  · go_enter Try.func3, Try.ntmps3
    go_wp2
    go_ret
    exact ⟨rfl, Below.refl _ _⟩

end Go.Proofs.Ythamfkfndehhjaa
