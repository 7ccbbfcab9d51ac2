/-
  The law on the ends of a body: whole.
-/
import Derived.Test.YtkdcbgopbcicfaaCEndsW
namespace Go.Proofs.Ytkdcbgopbcicfaa
open Go.ChangeShapes Go.WideShapes Go.ChangeAt Go.RowKit Go.Deep

set_option maxRecDepth 100000 in
set_option maxHeartbeats 3200000 in
theorem ends_law (a : Option Addr) (b off cap : Nat) (L : List (Int × Int)) (w : World) (ha : Hid (L ≠ [] → a = some ⟨b, off, none⟩ ∧ b < w.heap.size)) (hL : Hid (insAt w b off L)) (hlen : Hid (L.length ≤ 9223372036854775807)) (hf : Hid (fits L)) :
    Calls Try.prog 6 #[.slice a L.length cap] w fun e w' => e = .returned (.bool true) ∧ Below w.heap.size w w' := by
  go_enter Try.func6, Try.ntmps6
  go_wp2_with fail
  refine (szIns a cap L.length w hlen.out).mono ?_
  rintro e w1 ⟨r, rfl, hr, hw1⟩
  obtain rfl := hw1.symm
  clear hw1
  by_cases hr0 : r < 0
  · clear hr
    go_wp2
    go_ret
    exact ⟨rfl, Below.refl _ _⟩
  · have hlen2 : L.length ≤ 1048576 := hr (by omega)
    clear hr
    have hbl : Hid (L ≠ [] → b < w.heap.size) := fun h => (ha.out h).2
    go_wp2_with fail
    refine (toInsS a b off cap L w ha hL.out hlen2).mono ?_
    rintro e w2 ⟨rfl, hs2, hL2, hb2⟩
    have HB2 : Hid (Below w.heap.size w w2) := hb2
    clear hb2
    have hel := ends_len L
    go_wp2_with fail
    refine (specEndsOf (some ⟨w.heap.size, 0, none⟩) w.heap.size 0 L.length L w2 (fun _ => ⟨rfl, hs2⟩) hL2 hlen2).mono ?_
    rintro e w3 ⟨v0, rfl, ho0, hb3⟩
    obtain ⟨y, hyy⟩ : ∃ y, (eo L).isSome = y := ⟨_, rfl⟩
    obtain ⟨E, hE⟩ : ∃ E, endsOf L = E := ⟨_, rfl⟩
    rw [hE] at ho0 hel
    rw [hyy]
    have HEY : Hid (endsOf L = E ∧ (eo L).isSome = y) := ⟨hE, hyy⟩
    clear hE hyy
    obtain ⟨a0, c0, rfl, hI0⟩ := ints_of_row ho0
    have HB3 : Hid (Below w.heap.size w w3) := below2 HB2.out hb3
    have HI0 : Hid (Ints w3 a0 E) := hI0
    clear hb3 hL2 hs2 ho0 hI0
    go_wp2_with fail
    refine (toInsB a b off cap L w3 (fun h => ⟨(ha.out h).1, Nat.lt_of_lt_of_le (ha.out h).2 HB3.out.size⟩) (insAt_nil HB3.out hbl.out hL.out) hlen2).mono ?_
    rintro e w4 ⟨rfl, hs4, hL4, ⟨arr, hblk, hars⟩, hb4⟩
    obtain ⟨xg, hxg⟩ : ∃ xg, w3.heap.size = xg := ⟨_, rfl⟩
    rw [hxg] at hs4 hL4 hblk ⊢
    have HX4 : Hid (xg < w4.heap.size ∧ w3.heap.size = xg) := ⟨hs4, hxg⟩
    clear hxg
    have HB34 : Hid (Below w3.heap.size w3 w4) := hb4
    clear hb4
    go_wp2_with fail
    refine (implEndsOf (some ⟨xg, 0, none⟩) xg 0 L.length L w4 (fun _ => ⟨rfl, hs4⟩) hL4 hf.out hlen2).mono ?_
    rintro e w5 ⟨v1, rfl, ho1, hb5⟩
    rw [HEY.out.1] at ho1
    rw [HEY.out.2]
    obtain ⟨a1, c1, hv1, hI1⟩ := ints_of_row ho1
    subst hv1
    have hblk5 : w5.heap[xg]? = some (.cells arr 25 (0, 0)) := (hb5.block xg hs4).trans hblk
    have hL5 := insAt_below hb5 hs4 hL4
    have hs5 : xg < w5.heap.size := Nat.lt_of_lt_of_le hs4 hb5.size
    have HB35 : Hid (Below w3.heap.size w3 w5) := below2 HB34.out hb5
    have HO1 : Hid (w5.ownsRow w4.heap.size 3 1 (.slice a1 E.length c1) E.length (iv E)) := ho1
    clear hb5 hL4 hs4 hblk ho1 HB34
    go_wp2_with fail
    refine (eqInts a1 a0 c1 c0 E w5 hI1 (HI0.out.below HB35.out) (by omega)).mono ?_
    rintro e w6 ⟨rfl, hb6⟩
    have hblk6 : w6.heap[xg]? = some (.cells arr 25 (0, 0)) := (hb6.block xg hs5).trans hblk5
    have hL6 := insAt_below hb6 hs5 hL5
    have hs6 : xg < w6.heap.size := Nat.lt_of_lt_of_le hs5 hb6.size
    have HB36 : Hid (Below w3.heap.size w3 w6) := below2 HB35.out hb6
    have HO6 : Hid (w6.ownsRow w4.heap.size 3 1 (.slice a1 E.length c1) E.length (iv E)) := owns_below HO1.out hb6
    clear hb6 hI1 hL5 hs5 hblk5 HO1 HB35
    cases y
    all_goals
      go_wp2_with fail
      refine (toInsS a b off cap L w6 (fun h => ⟨(ha.out h).1, Nat.lt_of_lt_of_le (ha.out h).2 (below2 HB3.out HB36.out).size⟩) (insAt_nil (below2 HB3.out HB36.out) hbl.out hL.out) hlen2).mono ?_
      rintro e w7 ⟨rfl, hs7, hL7, hb7⟩
      have hL67 := insAt_below hb7 hs6 hL6
      have hs67 : xg < w7.heap.size := Nat.lt_of_lt_of_le hs6 hb7.size
      have hblk7 : w7.heap[xg]? = some (.cells arr 25 (0, 0)) := (hb7.block xg hs6).trans hblk6
      have HB37 : Hid (Below w3.heap.size w3 w7) := below2 HB36.out hb7
      have HO7 : Hid (w7.ownsRow w4.heap.size 3 1 (.slice a1 E.length c1) E.length (iv E)) := owns_below HO6.out hb7
      clear hb7
      go_wp2_with fail
      refine (eqInsS (some ⟨xg, 0, none⟩) (some ⟨w6.heap.size, 0, none⟩) xg 0 L.length w6.heap.size 0 L.length L w7 (fun _ => ⟨rfl, hs67⟩) (fun _ => ⟨rfl, hs7⟩) hL67 hL7 (by omega)).mono ?_
      rintro e w8 ⟨rfl, hb8⟩
      have hblk8 : w8.heap[xg]? = some (.cells arr 25 (0, 0)) := (hb8.block xg hs67).trans hblk7
      have HB38 : Hid (Below w3.heap.size w3 w8) := below2 HB37.out hb8
      have HO8 : Hid (w8.ownsRow w4.heap.size 3 1 (.slice a1 E.length c1) E.length (iv E)) := owns_below HO7.out hb8
      clear hb8 hL67 hL7 hs7 hblk7 hs67 HO7 HB37
      go_wp2_with fail
      refine (mark_far (some ⟨xg, 0, none⟩) xg L.length L.length arr w8 (by omega) (fun _ => ⟨rfl, hblk8, by omega⟩)).mono ?_
      rintro e w9 ⟨rfl, hb9, hfar, hsz9⟩
      have HB39 : Hid (Below w3.heap.size w3 w9) := HB38.out.trans (by have h9 := HX4.out.2; rw [h9]; exact hb9)
      have HO9 : Hid (w9.ownsRow w4.heap.size 3 1 (.slice a1 E.length c1) E.length (iv E)) := own_keep HO8.out (fun q hq => by
        obtain ⟨cur, hc, hB⟩ := own_at HO8.out hq
        exact hfar q (fun e9 => by have := HX4.out.1; omega))
      have hI9 : Ints w9 a1 E := by
        obtain ⟨a', c', e', h'⟩ := ints_of_row HO9.out
        simp only [Value.slice.injEq] at e'
        rw [e'.1]; exact h'
      have hkn : ¬ 1 + 2 * (L.length : Int) < 0 := by omega
      clear hb9 hfar hsz9 hblk8 HB38 HO8
      go_wp2_with fail
      refine (eqInts a1 a0 c1 c0 E w9 hI9 (HI0.out.below HB39.out) (by omega)).mono ?_
      rintro e w10 ⟨rfl, hb10⟩
      have HB310 : Hid (Below w3.heap.size w3 w10) := below2 HB39.out hb10
      have HO10 : Hid (w10.ownsRow w4.heap.size 3 1 (.slice a1 E.length c1) E.length (iv E)) := owns_below HO9.out hb10
      clear hb10 hI9 HB39 HO9
      go_wp2_with fail
      refine (markInts w4.heap.size _ E w10 HO10.out (by omega)).mono ?_
      rintro e w11 ⟨rfl, ho11, hb11⟩
      have HB311 : Hid (Below w3.heap.size w3 w11) := HB310.out.trans (hb11.mono (by have := HX4.out; omega))
      have hI11 : Ints w11 a1 (marksI E.length) := by
        obtain ⟨a', c', e', h'⟩ := ints_of_row ho11
        simp only [Value.slice.injEq] at e'
        rw [e'.1]; exact h'
      clear ho11 hb11 HB310 HO10
      go_wp2_with fail
      refine (heldInts a1 E.length c1 w11 hI11 (by omega)).mono ?_
      rintro e w12 ⟨rfl, hb12⟩
      have hI12 := hI11.below hb12
      have HB312 : Hid (Below w3.heap.size w3 w12) := below2 HB311.out hb12
      have hqn : ¬ 1 + (E.length : Int) < 0 := by omega
      clear hb12 hI11 HB311
      go_wp2_with fail
      refine (toInsS a b off cap L w12 (fun h => ⟨(ha.out h).1, Nat.lt_of_lt_of_le (ha.out h).2 (below2 HB3.out HB312.out).size⟩) (insAt_nil (below2 HB3.out HB312.out) hbl.out hL.out) hlen2).mono ?_
      rintro e w13 ⟨rfl, hs13, hL13, hb13⟩
      have hI13 := hI12.below hb13
      have HB313 : Hid (Below w3.heap.size w3 w13) := below2 HB312.out hb13
      clear hb13 hI12
      go_wp2_with fail
      refine (implEndsOf (some ⟨w12.heap.size, 0, none⟩) w12.heap.size 0 L.length L w13 (fun _ => ⟨rfl, hs13⟩) hL13 hf.out hlen2).mono ?_
      rintro e w14 ⟨v2, rfl, ho14, hb14⟩
      rw [HEY.out.1] at ho14
      rw [HEY.out.2]
      obtain ⟨a2, c2, hv2, hI14⟩ := ints_of_row ho14
      subst hv2
      have hI114 := hI13.below hb14
      have HB314 : Hid (Below w3.heap.size w3 w14) := below2 HB313.out hb14
      clear hb14 hI13 ho14 hL13 hs13 HB313
      go_wp2_with fail
      refine (eqInts a2 a0 c2 c0 E w14 hI14 (HI0.out.below HB314.out) (by omega)).mono ?_
      rintro e w15 ⟨rfl, hb15⟩
      have hI15 := hI114.below hb15
      have HB315 : Hid (Below w3.heap.size w3 w15) := below2 HB314.out hb15
      clear hb15 hI114 hI14 HB314
      go_wp2_with fail
      refine (heldInts a1 E.length c1 w15 hI15 (by omega)).mono ?_
      rintro e w16 ⟨rfl, hb16⟩
      have HB16 : Hid (Below w.heap.size w w16) := below2 HB3.out (below2 HB315.out hb16)
      clear hb16 hI15
      go_wp2
      go_ret
      exact ⟨rfl, HB16.out⟩

theorem endsOf_walk (a : Option Addr) (cap : Nat) (L : List (Int × Int)) (w : World) (hw : IsInss w a L) :
    Calls Try.prog 6 #[.slice a L.length cap] w fun e w' => e = .returned (.bool true) ∧ Below w.heap.size w w' := by
  obtain ⟨b, off, ha, hL, hlen, hf⟩ := hw
  exact ends_law a b off cap L w ha hL hlen hf

end Go.Proofs.Ytkdcbgopbcicfaa
