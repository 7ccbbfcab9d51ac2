/-
  The laws on the ends of a body and on how deep it goes: whole.
-/
import Derived.Test.YtkdcbgopbcicfaaCEndsL
namespace Go.Proofs.Ytkdcbgopbcicfaa
open Go.ChangeShapes Go.WideShapes Go.ChangeAt Go.RowKit Go.Deep

theorem insAt_below {w w' : World} {B b off : Nat} {L : List (Int × Int)} (h : Below B w w') (hb : b < B) (hL : insAt w b off L) : insAt w' b off L :=
  fun i hi => ⟨(h.cell (p := ⟨b, off + i * 2, none⟩) hb).trans (hL i hi).1, (h.cell (p := ⟨b, off + i * 2 + 1, none⟩) hb).trans (hL i hi).2⟩
theorem insAt_nil {w w' : World} {b off : Nat} {L : List (Int × Int)} (h : Below w.heap.size w w') (hb : L ≠ [] → b < w.heap.size) (hL : insAt w b off L) : insAt w' b off L := insAt_nilW h hb hL

set_option maxRecDepth 100000 in
set_option maxHeartbeats 1600000 in
theorem deep_law (a : Option Addr) (b off cap : Nat) (L : List (Int × Int)) (w : World) (ha : Hid (L ≠ [] → a = some ⟨b, off, none⟩ ∧ b < w.heap.size)) (hL : Hid (insAt w b off L)) (hlen : Hid (L.length ≤ 9223372036854775807)) (hf : Hid (fits L)) :
    Calls Try.prog 7 #[.slice a L.length cap] w fun e w' => e = .returned (.bool true) ∧ Below w.heap.size w w' := by
  go_enter Try.func7, Try.ntmps7
  go_wp2_with fail
  refine (szIns a cap L.length w hlen.out).mono ?_
  rintro e w1 ⟨r, rfl, hr, hw1⟩
  have hb1 : Below w.heap.size w w1 := below_same hw1
  clear hw1
  by_cases hr0 : r < 0
  · clear hr
    go_wp2
    go_ret
    exact ⟨rfl, hb1⟩
  · have hlen2 : L.length ≤ 1048576 := hr (by omega)
    clear hr
    have hbl : Hid (L ≠ [] → b < w.heap.size) := fun h => (ha.out h).2
    have HB1 : Hid (Below w.heap.size w w1) := hb1
    clear hb1
    go_wp2_with fail
    refine (toInsS a b off cap L w1 (fun h => ⟨(ha.out h).1, Nat.lt_of_lt_of_le (ha.out h).2 HB1.out.size⟩) (insAt_nil HB1.out hbl.out hL.out) hlen2).mono ?_
    rintro e w2 ⟨rfl, hs2, hL2, hb2⟩
    have HB2 : Hid (Below w.heap.size w w2) := below2 HB1.out hb2
    clear hb2
    go_wp2_with fail
    refine (specDeepOf (some ⟨w1.heap.size, 0, none⟩) w1.heap.size 0 L.length L w2 (fun _ => ⟨rfl, hs2⟩) hL2 hlen2).mono ?_
    obtain ⟨x, hxx⟩ : ∃ x, deepOf L = x := ⟨_, rfl⟩
    obtain ⟨y, hyy⟩ : ∃ y, (eo L).isSome = y := ⟨_, rfl⟩
    rw [hxx, hyy]
    rintro e w3 ⟨rfl, hb3⟩
    have HB3 : Hid (Below w.heap.size w w3) := below2 HB2.out hb3
    clear hb3 hL2 hs2
    go_wp2_with fail
    refine (toInsS a b off cap L w3 (fun h => ⟨(ha.out h).1, Nat.lt_of_lt_of_le (ha.out h).2 HB3.out.size⟩) (insAt_nil HB3.out hbl.out hL.out) hlen2).mono ?_
    rintro e w4 ⟨rfl, hs4, hL4, hb4⟩
    have HB4 : Hid (Below w.heap.size w w4) := below2 HB3.out hb4
    clear hb4
    go_wp2_with fail
    refine (implDeepOf (some ⟨w3.heap.size, 0, none⟩) w3.heap.size 0 L.length L w4 (fun _ => ⟨rfl, hs4⟩) hL4 hf.out hlen2).mono ?_
    rw [hxx, hyy]
    rintro e w5 ⟨rfl, hb5⟩
    have HB5 : Hid (Below w.heap.size w w5) := below2 HB4.out hb5
    have hL5 := insAt_below hb5 hs4 hL4
    have hs5 : w3.heap.size < w5.heap.size := Nat.lt_of_lt_of_le hs4 hb5.size
    clear hb5 hL4 hs4
    clear hxx hyy
    cases y
    all_goals
      go_wp2_with fail
      refine (toInsS a b off cap L w5 (fun h => ⟨(ha.out h).1, Nat.lt_of_lt_of_le (ha.out h).2 HB5.out.size⟩) (insAt_nil HB5.out hbl.out hL.out) hlen2).mono ?_
      rintro e w6 ⟨rfl, hs6, hL6, hb6⟩
      have HB6 : Hid (Below w.heap.size w w6) := below2 HB5.out hb6
      have hL56 := insAt_below hb6 hs5 hL5
      have hs56 : w3.heap.size < w6.heap.size := Nat.lt_of_lt_of_le hs5 hb6.size
      clear hb6
      go_wp2_with fail
      refine (eqInsS (some ⟨w3.heap.size, 0, none⟩) (some ⟨w5.heap.size, 0, none⟩) w3.heap.size 0 L.length w5.heap.size 0 L.length L w6 (fun _ => ⟨rfl, hs56⟩) (fun _ => ⟨rfl, hs6⟩) hL56 hL6 (by omega)).mono ?_
      rintro e w7 ⟨rfl, hb7⟩
      have HB7 : Hid (Below w.heap.size w w7) := below2 HB6.out hb7
      clear hb7 hL56 hL6 hs6 hs56
      go_wp2
      go_ret
      exact ⟨rfl, HB7.out⟩

theorem deepestOf_walk (a : Option Addr) (cap : Nat) (L : List (Int × Int)) (w : World) (hw : IsInss w a L) :
    Calls Try.prog 7 #[.slice a L.length cap] w fun e w' => e = .returned (.bool true) ∧ Below w.heap.size w w' := by
  obtain ⟨b, off, ha, hL, hlen, hsz⟩ := hw
  exact deep_law a b off cap L w ha hL hlen hsz

end Go.Proofs.Ytkdcbgopbcicfaa
