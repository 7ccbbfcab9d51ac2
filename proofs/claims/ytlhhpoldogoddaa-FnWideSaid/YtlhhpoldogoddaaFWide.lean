/-
  The law on products and quotients of two words.
-/
import Derived.Test.YtlhhpoldogoddaaCurD
import Derived.Test.YtlhhpoldogoddaaIMul
import Derived.Test.YtlhhpoldogoddaaIDiv
namespace Go.Proofs.Ytlhhpoldogoddaa
open Go.RowKit

theorem Bys.mono {w : World} {a : Option Addr} {n B B' : Nat} (h : Bys w a n B) (hB : B ≤ B') : Bys w a n B' := fun hn => by
  obtain ⟨b, off, rfl, hl, hc⟩ := h hn
  exact ⟨b, off, rfl, by omega, hc⟩
theorem hid_of {p : Prop} (h : p) : Hid p := h

theorem wide_one (p q : Nat) (hi lo : Int) (hp : p < 18446744073709551616) (hq : 0 < q) (h : hi * 18446744073709551616 + lo = (p : Int) * q ∧ 0 ≤ hi ∧ 0 ≤ lo ∧ lo ≤ 18446744073709551615) :
    hi < q ∧ two hi lo / q = p ∧ two hi lo % q = 0 := by
  obtain ⟨e, h0, l0, l1⟩ := h
  have hm : (p : Int) * q ≤ 18446744073709551615 * q := Int.mul_le_mul_of_nonneg_right (by omega) (by omega)
  refine ⟨by omega, ?_, ?_⟩
  · unfold two; rw [e]; exact Int.mul_ediv_cancel _ (by omega)
  · unfold two; rw [e]; exact Int.mul_emod_left _ _
theorem wide_back (u v d : Int) (u0 : 0 ≤ u) (v0 : 0 ≤ v) (v1 : v ≤ 18446744073709551615) (d1 : d ≤ 18446744073709551615) (hd : u < d) :
    ∃ (R L M : Int) (Qn dn : Nat), (dn : Int) = d ∧ two u v / d = Qn ∧ two u v % d = R ∧ Hid (Qn < 18446744073709551616) ∧ Hid (dn < 18446744073709551616) ∧ mlo Qn dn = L ∧ mhi Qn dn = M ∧ R < d ∧
      IntKind.u64.wrap (L + R) = v ∧ (v < L → IntKind.u64.wrap (M + 1) = u) ∧ (¬ v < L → M = u) := by
  have hq0 : 0 ≤ two u v / d := Int.ediv_nonneg (by unfold two; omega) (by omega)
  have hr0 := Int.emod_nonneg (two u v) (show d ≠ 0 by omega)
  have hr1 := Int.emod_lt_of_pos (two u v) (show 0 < d by omega)
  have hm := Int.emod_add_mul_ediv (two u v) d
  have hql : two u v / d < 18446744073709551616 := by
    rw [Int.ediv_lt_iff_lt_mul (by omega)]
    unfold two
    omega
  obtain ⟨Qn, hQ⟩ := Int.eq_ofNat_of_zero_le hq0
  obtain ⟨dn, rfl⟩ := Int.eq_ofNat_of_zero_le (show 0 ≤ d by omega)
  refine ⟨_, _, _, Qn, dn, rfl, hQ, rfl, hid_of (by omega), hid_of (by omega), rfl, rfl, hr1, ?_⟩
  have e := Nat.div_add_mod (Qn * dn) 18446744073709551616
  have c : ((Qn * dn : Nat) : Int) = (dn : Int) * Qn := by simp [Int.mul_comm]
  rw [hQ, ← c] at hm
  generalize two u v % (dn : Int) = R at *
  unfold mhi mlo
  generalize Qn * dn = z at *
  unfold two at hm
  rw [IntKind.wrap_u64]
  refine ⟨by omega, fun h => ?_, fun h => by omega⟩
  rw [IntKind.wrap_u64]
  omega

set_option maxHeartbeats 2000000 in
theorem wideB (a1 : Option Addr) (n1 c1 : Nat) (a2 : Option Addr) (n2 c2 : Nat) (w : World) (h1 : Bys w a1 n1 w.heap.size) (h2 : Bys w a2 n2 w.heap.size) :
    Calls Try.prog 5 #[.slice a1 n1 c1, .slice a2 n2 c2] w fun e w' => e = .returned (.bool true) ∧ Below w.heap.size w w' := by
  by_cases hlen : 1048576 < wrap64 ((n1 : Int) + n2)
  · go_enter Try.func5, Try.ntmps5
    go_wp2
    go_ret
    exact ⟨rfl, Below.refl _ _⟩
  · go_enter Try.func5, Try.ntmps5
    go_wp2_with fail
    refine (drawMul a1 n1 c1 w h1).mono ?_
    rintro e w1 ⟨x, y, x0, x1, y0, y1, rfl, B1⟩
    obtain ⟨p, rfl⟩ := Int.eq_ofNat_of_zero_le x0
    obtain ⟨q, rfl⟩ := Int.eq_ofNat_of_zero_le y0
    have hp : Hid (p < 18446744073709551616) := hid_of (by omega)
    have hq : Hid (q < 18446744073709551616) := hid_of (by omega)
    clear x0 x1 y0 y1
    obtain ⟨hi, hhi⟩ : ∃ z, mhi p q = z := ⟨_, rfl⟩
    obtain ⟨lo, hlo⟩ : ∃ z, mlo p q = z := ⟨_, rfl⟩
    have IM := fun w => implMul p q hp hq w
    have SM := fun w => specMul p q hp hq w
    rw [hhi, hlo] at IM SM
    have hpr : IntKind.u64.wrap ((p : Int) * q) = lo := by
      rw [← hlo, IntKind.wrap_u64]
      simp [mlo]
    have IMs : Hid (hi * 18446744073709551616 + lo = (p : Int) * q ∧ 0 ≤ hi ∧ 0 ≤ lo ∧ lo ≤ 18446744073709551615) := by
      have e := Nat.div_add_mod (p * q) 18446744073709551616
      unfold Hid
      rw [← hhi, ← hlo]
      unfold mhi mlo
      refine ⟨?_, by omega, by omega, by omega⟩
      have c : ((p * q : Nat) : Int) = (p : Int) * q := by simp
      rw [← c]
      omega
    clear hhi hlo
    by_cases hq0 : 0 < q
    · have HD := wide_one p q hi lo hp.out hq0 IMs.out
      have ID := fun w => implDiv hi lo q IMs.out.2.1 IMs.out.2.2.1 IMs.out.2.2.2 (by have := hq.out; omega) HD.1 w
      rw [HD.2.1, HD.2.2] at ID
      have hlt := HD.1
      have hq1 : (0 : Int) < q := by omega
      clear HD
      go_wp2_with (first | (go_at_call 11; refine (IM _).mono ?_; rintro e w' ⟨rfl, hw⟩; obtain rfl := hw.symm) | (go_at_call 12; refine (SM _).mono ?_; rintro e w' ⟨rfl, hw⟩; obtain rfl := hw.symm) | (go_at_call 13; refine (ID _).mono ?_; rintro e W0 ⟨rfl, B0⟩))
      have BW : Below w.heap.size w W0 := B1.trans (B0.mono B1.size)
      clear ID
      have H2 : Bys W0 a2 n2 W0.heap.size := (h2.below BW).mono BW.size
      clear IM SM hpr IMs
      refine (drawDiv a2 n2 c2 W0 H2).mono ?_
      rintro e w2 ⟨u, v, d, u0, u1, v0, v1, d0, d1, rfl, B2⟩
      have B2' : Below w.heap.size w w2 := BW.trans (B2.mono BW.size)
      by_cases hd : d ≤ u
      · have ID2 := fun w => implDivNo u v d hd w
        have SD := fun w => specDivNo u v d hd w
        clear hd
        go_wp2_with (first | (go_at_call 13; refine (ID2 _).mono ?_; rintro e w' ⟨rfl, hw⟩; obtain rfl := hw.symm) | (go_at_call 15; refine (SD _).mono ?_; rintro e w' ⟨rfl, hw⟩; obtain rfl := hw.symm))
        go_ret
        exact ⟨rfl, B2'⟩
      · have ID2 := implDiv u v d u0 v0 v1 d1 (by omega) w2
        have SD := fun w => specDiv u v d u0 v0 v1 d1 (by omega) w
        obtain ⟨R, L, M, Qn, dn, rfl, hQ, hR, hQl, hdl, hL, hM, R1, hs, F1, F2⟩ := wide_back u v d u0 v0 v1 d1 (by omega)
        rw [hQ, hR] at ID2 SD
        have SM2 := fun w => specMul Qn dn hQl hdl w
        rw [hM, hL] at SM2
        clear hQ hR hL hM u0 u1 v0 v1 d0 d1 hd
        by_cases hc : v < L
        · have F := F1 hc
          clear F1 F2
          go_wp2_with (first | (go_at_call 13; refine ID2.mono ?_; rintro e w3 ⟨rfl, B3⟩) | (go_at_call 15; refine (SD _).mono ?_; rintro e w' ⟨rfl, hw⟩; obtain rfl := hw.symm) | (go_at_call 12; refine (SM2 _).mono ?_; rintro e w' ⟨rfl, hw⟩; obtain rfl := hw.symm))
          go_ret
          exact ⟨rfl, B2'.trans (Below.mono (by assumption) B2'.size)⟩
        · obtain rfl := F2 hc
          clear F1 F2
          go_wp2_with (first | (go_at_call 13; refine ID2.mono ?_; rintro e w3 ⟨rfl, B3⟩) | (go_at_call 15; refine (SD _).mono ?_; rintro e w' ⟨rfl, hw⟩; obtain rfl := hw.symm) | (go_at_call 12; refine (SM2 _).mono ?_; rintro e w' ⟨rfl, hw⟩; obtain rfl := hw.symm))
          go_ret
          exact ⟨rfl, B2'.trans (Below.mono (by assumption) B2'.size)⟩
    · have hq1 : ¬ (0 : Int) < q := by omega
      go_wp2_with (first | (go_at_call 11; refine (IM _).mono ?_; rintro e w' ⟨rfl, hw⟩; obtain rfl := hw.symm) | (go_at_call 12; refine (SM _).mono ?_; rintro e w' ⟨rfl, hw⟩; obtain rfl := hw.symm))
      have BW : Below w.heap.size w w1 := B1
      have H2 : Bys w1 a2 n2 w1.heap.size := (h2.below BW).mono BW.size
      clear IM SM hpr IMs
      refine (drawDiv a2 n2 c2 w1 H2).mono ?_
      rintro e w2 ⟨u, v, d, u0, u1, v0, v1, d0, d1, rfl, B2⟩
      have B2' : Below w.heap.size w w2 := BW.trans (B2.mono BW.size)
      by_cases hd : d ≤ u
      · have ID2 := fun w => implDivNo u v d hd w
        have SD := fun w => specDivNo u v d hd w
        clear hd
        go_wp2_with (first | (go_at_call 13; refine (ID2 _).mono ?_; rintro e w' ⟨rfl, hw⟩; obtain rfl := hw.symm) | (go_at_call 15; refine (SD _).mono ?_; rintro e w' ⟨rfl, hw⟩; obtain rfl := hw.symm))
        go_ret
        exact ⟨rfl, B2'⟩
      · have ID2 := implDiv u v d u0 v0 v1 d1 (by omega) w2
        have SD := fun w => specDiv u v d u0 v0 v1 d1 (by omega) w
        obtain ⟨R, L, M, Qn, dn, rfl, hQ, hR, hQl, hdl, hL, hM, R1, hs, F1, F2⟩ := wide_back u v d u0 v0 v1 d1 (by omega)
        rw [hQ, hR] at ID2 SD
        have SM2 := fun w => specMul Qn dn hQl hdl w
        rw [hM, hL] at SM2
        clear hQ hR hL hM u0 u1 v0 v1 d0 d1 hd
        by_cases hc : v < L
        · have F := F1 hc
          clear F1 F2
          go_wp2_with (first | (go_at_call 13; refine ID2.mono ?_; rintro e w3 ⟨rfl, B3⟩) | (go_at_call 15; refine (SD _).mono ?_; rintro e w' ⟨rfl, hw⟩; obtain rfl := hw.symm) | (go_at_call 12; refine (SM2 _).mono ?_; rintro e w' ⟨rfl, hw⟩; obtain rfl := hw.symm))
          go_ret
          exact ⟨rfl, B2'.trans (Below.mono (by assumption) B2'.size)⟩
        · obtain rfl := F2 hc
          clear F1 F2
          go_wp2_with (first | (go_at_call 13; refine ID2.mono ?_; rintro e w3 ⟨rfl, B3⟩) | (go_at_call 15; refine (SD _).mono ?_; rintro e w' ⟨rfl, hw⟩; obtain rfl := hw.symm) | (go_at_call 12; refine (SM2 _).mono ?_; rintro e w' ⟨rfl, hw⟩; obtain rfl := hw.symm))
          go_ret
          exact ⟨rfl, B2'.trans (Below.mono (by assumption) B2'.size)⟩

end Go.Proofs.Ytlhhpoldogoddaa
