/-
  Two words divided by one: the library's, digit by digit.
-/
import Derived.Test.YtlhhpoldogoddaaIDivM
import Derived.Shelf.Lays
import Derived.Shelf.Strconv.Itoa0
import Derived.Deep.QuietTactic
import Derived.BigQuiet
namespace Go.Proofs.Ytlhhpoldogoddaa
open Go.RowKit

def lenRen : Go.Shelf.Ren := ⟨fun | 129 => 60 | n => n, fun | 3 => 3 | 4 => 4 | 5 => 5 | 9 => 9 | 46 => 58 | 53 => 23 | n => n, fun n => n⟩
theorem lenLaid : Go.Proofs.Lays.n129 Try.prog lenRen := {
  mixed := by kernel_rfl
  f129 := Try.func60.trans (congrArg some (by kernel_rfl))
  t3 := Try.underlying3
  a3 := Try.isAgg3
  z3 := Try.sizeOf3
  v3 := Try.zeroValue3
  t4 := Try.underlying4
  a4 := Try.isAgg4
  z4 := Try.sizeOf4
  v4 := Try.zeroValue4
  t5 := Try.underlying5
  a5 := Try.isAgg5
  z5 := Try.sizeOf5
  v5 := Try.zeroValue5
  t9 := Try.underlying9
  a9 := Try.isAgg9
  z9 := Try.sizeOf9
  v9 := Try.zeroValue9
  t46 := Try.underlying58
  a46 := Try.isAgg58
  z46 := Try.sizeOf58
  v46 := Try.zeroValue58
  t53 := Try.underlying23
  a53 := Try.isAgg23
  z53 := Try.sizeOf23
  v53 := Try.zeroValue23 }
theorem libLen (x : Int) (h0 : 0 ≤ x) (h1 : x ≤ 18446744073709551615) (w : World) :
    Calls Try.prog 60 #[.int .u64 x] w fun e w' => e = .returned (.int .i64 (Lib.bitLen x.toNat)) ∧ w' = w := Any.bits_Len64 lenLaid x w h0 h1

theorem libLead (x s : Int) (h0 : 0 ≤ x) (h1 : x ≤ 18446744073709551615) (hs : (64 : Int) - Lib.bitLen x.toNat = s) (hw : wrap64 s = s) (w : World) :
    Calls Try.prog 58 #[.int .u64 x] w fun e w' => e = .returned (.int .i64 s) ∧ w' = w := by
  go_enter Try.func58, Try.ntmps58
  go_wp2_with (go_at_call 60; refine (libLen x h0 h1 _).mono ?_; rintro e w' ⟨rfl, rfl⟩)
  go_ret
  refine ⟨?_, rfl⟩
  show Ending.returned (.int .i64 (wrap64 s)) = _
  rw [hw]

theorem below_dN (w : World) (n : Nat) : Below w.heap.size w (w.drewN n) := by
  induction n with
  | zero => exact Below.refl _ _
  | succ k ih => exact ih.trans ⟨rfl, rfl, rfl, Nat.le_refl _, fun _ _ => rfl⟩

theorem libDivOne (L D : Int) (L0 : 0 ≤ L) (L1 : L ≤ 18446744073709551615) (D0 : 0 < D) (w : World) :
    Calls Try.prog 29 #[.int .u64 0, .int .u64 L, .int .u64 D] w fun e w' => e = .returned (.tuple #[.int .u64 (L / D), .int .u64 (L % D)]) ∧ Below w.heap.size w w' := by
  have k1 : (D == 0) = false := by simp; omega
  have k2 : ¬ D ≤ 0 := by omega
  have k3 : ¬ D = 0 := by omega
  have k4 : 0 ≤ D := by omega
  clear D0
  go_enter Try.func29, Try.ntmps29
  go_wp2
  go_quiet (fail)
  go_wp2
  go_ret2
  exact ⟨rfl, below_dN _ _⟩

theorem half_mul' {a b : Int} (a0 : 0 ≤ a) (a1 : a ≤ 4294967295) (b0 : 0 ≤ b) (b1 : b ≤ 4294967295) : 0 ≤ a * b ∧ a * b ≤ 18446744065119617025 := by
  refine ⟨Int.mul_nonneg a0 b0, ?_⟩
  have := Int.mul_le_mul a1 b1 b0 (by omega)
  omega

set_option maxHeartbeats 4000000 in
/-- The two digits, where all that is reckoned ahead of them is told by name. -/
theorem libDivTwo (H L D : Int) (s t : Nat) (Y y1 y0 V T u1 u0 W Q1 Q0 Z q r q2 r2 : Int) (D0 : ¬ D ≤ H) (H0 : (H == 0) = false) (Dn : (D == 0) = false)
    (HL : Hid (∀ w, Calls Try.prog 58 #[.int .u64 D] w fun e w' => e = .returned (.int .i64 (s : Int)) ∧ w' = w))
    (hs : IntKind.u64.wrap (s : Int) = s) (hms : min s 64 = s) (ht : IntKind.u64.wrap (64 - (s : Int)) = t) (hmt : min t 64 = t)
    (hY : IntKind.u64.wrap (D * 2 ^ s) = Y) (hy1 : Y / 4294967296 = y1) (hy0 : bits .and .u64 Y 4294967295 = y0) (hV : bits .or .u64 (IntKind.u64.wrap (H * 2 ^ s)) (L / 2 ^ t) = V)
    (hT : IntKind.u64.wrap (L * 2 ^ s) = T) (hu1 : T / 4294967296 = u1) (hu0 : bits .and .u64 T 4294967295 = u0)
    (hq : V / y1 = q) (hr : IntKind.u64.wrap (V - IntKind.u64.wrap (q * y1)) = r) (hq2 : W / y1 = q2) (hr2 : IntKind.u64.wrap (W - IntKind.u64.wrap (q2 * y1)) = r2)
    (hWl : IntKind.u64.wrap (IntKind.u64.wrap (IntKind.u64.wrap (V * 4294967296) + u1) - IntKind.u64.wrap (Q1 * Y)) = W)
    (hZ : IntKind.u64.wrap (IntKind.u64.wrap (IntKind.u64.wrap (W * 4294967296) + u0) - IntKind.u64.wrap (Q0 * Y)) = Z)
    (hR : IntKind.u64.wrap (IntKind.u64.wrap (Q1 * 4294967296) + Q0) = Q1 * 4294967296 + Q0)
    (P1 : Hid (Par Y y1 y0 V u1)) (P2 : Hid (Par Y y1 y0 W u0)) (HQ1 : Hid ((V * 4294967296 + u1) / Y = Q1)) (HQ0 : Hid ((W * 4294967296 + u0) / Y = Q0))
    (D1 : Hid (Dig Y y1 y0 V u1 q r)) (D2 : Hid (Dig Y y1 y0 W u0 q2 r2))
    (hy1n : ¬ y1 = 0) (hy1p : 0 ≤ y1) (hV0 : 0 ≤ V) (hV1 : V ≤ 18446744073709551615) (hW0 : 0 ≤ W) (hW1 : W ≤ 18446744073709551615) (w : World) :
    Calls Try.prog 29 #[.int .u64 H, .int .u64 L, .int .u64 D] w fun e w' => e = .returned (.tuple #[.int .u64 (Q1 * 4294967296 + Q0), .int .u64 (Z / 2 ^ s)]) ∧ w' = w := by
  go_enter Try.func29, Try.ntmps29
  go_wp2_with (go_at_call 58; refine (HL.out _).mono ?_; rintro e w' ⟨rfl, hw⟩; obtain rfl := hw.symm)
  go_loop [15, 16] (fun a b => ∃ (q r : Int), Hid (Dig Y y1 y0 V u1 q r) ∧ a = .int .u64 q ∧ b = .int .u64 r) (fun a _ => (intOf a).toNat)
  case atStart => exact ⟨_, _, D1, by first | rfl | rw [hq], by first | rfl | rw [hr]⟩
  case round =>
    obtain ⟨p, z, I, rfl, rfl⟩ := hrel
    have i0 : 0 ≤ p := Int.le_trans (Int.ediv_nonneg (by have := P1.out.V0; have := P1.out.u0; omega) (by have := P1.out.V0; have := P1.out.V1; omega)) I.out.ge
    have i1 := I.out.le
    have i2 := I.out.r0
    have i3 := I.out.r1
    have j1 := P1.out.y1lo
    have j2 := P1.out.y1hi
    have j3 := P1.out.u0
    have j4 := P1.out.u1
    have e1 : IntKind.u64.wrap (p - 1) = p - 1 ∨ p = 0 := by rw [IntKind.wrap_u64]; omega
    have e2 : IntKind.u64.wrap (z + y1) = z + y1 := by rw [IntKind.wrap_u64]; omega
    have e3 : IntKind.u64.wrap (IntKind.u64.wrap (4294967296 * z) + u1) = 4294967296 * z + u1 := by rw [IntKind.wrap_u64, IntKind.wrap_u64]; omega
    obtain ⟨n, hn⟩ : ∃ n, 4294967296 * z + u1 = n := ⟨_, rfl⟩
    rw [hn] at e3
    obtain ⟨m, hm⟩ : ∃ m, IntKind.u64.wrap (p * y0) = m := ⟨_, rfl⟩
    have hm2 : p < 4294967296 → m = p * y0 := by
      intro hp
      have h1 := P1.out.y0lo
      have h2 := P1.out.y0hi
      have h3 := half_mul' (a := p) (b := y0) i0 (by omega) h1 h2
      rw [← hm, IntKind.wrap_u64]
      omega
    by_cases hbig : 4294967296 ≤ p
    · have hb : 4294967296 ≤ p ∨ 4294967296 * z + u1 < p * y0 := Or.inl hbig
      have e1' : IntKind.u64.wrap (p - 1) = p - 1 := by omega
      by_cases hr : 4294967296 ≤ z + y1
      · have hQ := (dig_break P1.out I.out hb hr).trans HQ1.out
        clear e1 hm2 hn hb i0 i1 i2 i3 j1 j2 j3 j4 I
        rw [hQ] at e1'
        go_wp2
        go_loop [18, 16] (fun a b => ∃ (q r : Int), Hid (Dig Y y1 y0 W u0 q r) ∧ a = .int .u64 q ∧ b = .int .u64 r) (fun a _ => (intOf a).toNat)
        case atStart => exact ⟨_, _, D2, by first | rfl | rw [hq2], by first | rfl | rw [hr2]⟩
        case round =>
          obtain ⟨p, z, I, rfl, rfl⟩ := hrel
          have i0 : 0 ≤ p := Int.le_trans (Int.ediv_nonneg (by have := P2.out.V0; have := P2.out.u0; omega) (by have := P2.out.V0; have := P2.out.V1; omega)) I.out.ge
          have i1 := I.out.le
          have i2 := I.out.r0
          have i3 := I.out.r1
          have j1 := P2.out.y1lo
          have j2 := P2.out.y1hi
          have j3 := P2.out.u0
          have j4 := P2.out.u1
          have e1 : IntKind.u64.wrap (p - 1) = p - 1 ∨ p = 0 := by rw [IntKind.wrap_u64]; omega
          have e2 : IntKind.u64.wrap (z + y1) = z + y1 := by rw [IntKind.wrap_u64]; omega
          have e3 : IntKind.u64.wrap (IntKind.u64.wrap (4294967296 * z) + u0) = 4294967296 * z + u0 := by rw [IntKind.wrap_u64, IntKind.wrap_u64]; omega
          obtain ⟨n, hn⟩ : ∃ n, 4294967296 * z + u0 = n := ⟨_, rfl⟩
          rw [hn] at e3
          obtain ⟨m, hm⟩ : ∃ m, IntKind.u64.wrap (p * y0) = m := ⟨_, rfl⟩
          have hm2 : p < 4294967296 → m = p * y0 := by
            intro hp
            have h1 := P2.out.y0lo
            have h2 := P2.out.y0hi
            have h3 := half_mul' (a := p) (b := y0) i0 (by omega) h1 h2
            rw [← hm, IntKind.wrap_u64]
            omega
          by_cases hbig : 4294967296 ≤ p
          · have hb : 4294967296 ≤ p ∨ 4294967296 * z + u0 < p * y0 := Or.inl hbig
            have e1' : IntKind.u64.wrap (p - 1) = p - 1 := by omega
            by_cases hr : 4294967296 ≤ z + y1
            · have hQ := (dig_break P2.out I.out hb hr).trans HQ0.out
              clear e1 hm2 hn hb i0 i1 i2 i3 j1 j2 j3 j4 I
              rw [hQ] at e1'
              go_wp2
              go_ret2
              exact ⟨rfl, rfl⟩
            · have J : Hid (Dig Y y1 y0 W u0 (p - 1) (z + y1)) := dig_next P2.out I.out hb (by omega)
              clear e1 hm2 hn hb i1 i2 i3 j1 j2 j3 j4 I
              go_wp2
              go_round
              case rel => exact ⟨_, _, J, rfl, rfl⟩
              case measure => simp [intOf]; omega
          · have hmm := hm2 (by omega)
            by_cases hgt : n < m
            · have hb : 4294967296 ≤ p ∨ 4294967296 * z + u0 < p * y0 := Or.inr (by omega)
              have hp0 : p ≠ 0 := by
                intro h
                have h1 := dig_big P2.out I.out hb
                have h2 : 0 ≤ (W * 4294967296 + u0) / Y := Int.ediv_nonneg (by have := P2.out.V0; omega) (by have := P2.out.V0; have := P2.out.V1; omega)
                omega
              have e1' : IntKind.u64.wrap (p - 1) = p - 1 := by omega
              by_cases hr : 4294967296 ≤ z + y1
              · have hQ := (dig_break P2.out I.out hb hr).trans HQ0.out
                clear e1 hm2 hmm hn hb i0 i1 i2 i3 j1 j2 j3 j4 I
                rw [hQ] at e1'
                go_wp2
                go_ret2
                exact ⟨rfl, rfl⟩
              · have J : Hid (Dig Y y1 y0 W u0 (p - 1) (z + y1)) := dig_next P2.out I.out hb (by omega)
                clear e1 hm2 hmm hn hb i1 i2 i3 j1 j2 j3 j4 I
                go_wp2
                go_round
                case rel => exact ⟨_, _, J, rfl, rfl⟩
                case measure => simp [intOf]; omega
            · have hQ := (dig_done P2.out I.out (by omega)).trans HQ0.out
              clear e1 hm2 hmm hn i0 i1 i2 i3 j1 j2 j3 j4 I
              obtain rfl := hQ
              go_wp2
              go_ret2
              exact ⟨rfl, rfl⟩
      · have J : Hid (Dig Y y1 y0 V u1 (p - 1) (z + y1)) := dig_next P1.out I.out hb (by omega)
        clear e1 hm2 hn hb i1 i2 i3 j1 j2 j3 j4 I
        go_wp2
        go_round
        case rel => exact ⟨_, _, J, rfl, rfl⟩
        case measure => simp [intOf]; omega
    · have hmm := hm2 (by omega)
      by_cases hgt : n < m
      · have hb : 4294967296 ≤ p ∨ 4294967296 * z + u1 < p * y0 := Or.inr (by omega)
        have hp0 : p ≠ 0 := by
          intro h
          have h1 := dig_big P1.out I.out hb
          have h2 : 0 ≤ (V * 4294967296 + u1) / Y := Int.ediv_nonneg (by have := P1.out.V0; omega) (by have := P1.out.V0; have := P1.out.V1; omega)
          omega
        have e1' : IntKind.u64.wrap (p - 1) = p - 1 := by omega
        by_cases hr : 4294967296 ≤ z + y1
        · have hQ := (dig_break P1.out I.out hb hr).trans HQ1.out
          clear e1 hm2 hmm hn hb i0 i1 i2 i3 j1 j2 j3 j4 I
          rw [hQ] at e1'
          go_wp2
          go_loop [18, 16] (fun a b => ∃ (q r : Int), Hid (Dig Y y1 y0 W u0 q r) ∧ a = .int .u64 q ∧ b = .int .u64 r) (fun a _ => (intOf a).toNat)
          case atStart => exact ⟨_, _, D2, by first | rfl | rw [hq2], by first | rfl | rw [hr2]⟩
          case round =>
            obtain ⟨p, z, I, rfl, rfl⟩ := hrel
            have i0 : 0 ≤ p := Int.le_trans (Int.ediv_nonneg (by have := P2.out.V0; have := P2.out.u0; omega) (by have := P2.out.V0; have := P2.out.V1; omega)) I.out.ge
            have i1 := I.out.le
            have i2 := I.out.r0
            have i3 := I.out.r1
            have j1 := P2.out.y1lo
            have j2 := P2.out.y1hi
            have j3 := P2.out.u0
            have j4 := P2.out.u1
            have e1 : IntKind.u64.wrap (p - 1) = p - 1 ∨ p = 0 := by rw [IntKind.wrap_u64]; omega
            have e2 : IntKind.u64.wrap (z + y1) = z + y1 := by rw [IntKind.wrap_u64]; omega
            have e3 : IntKind.u64.wrap (IntKind.u64.wrap (4294967296 * z) + u0) = 4294967296 * z + u0 := by rw [IntKind.wrap_u64, IntKind.wrap_u64]; omega
            obtain ⟨n, hn⟩ : ∃ n, 4294967296 * z + u0 = n := ⟨_, rfl⟩
            rw [hn] at e3
            obtain ⟨m, hm⟩ : ∃ m, IntKind.u64.wrap (p * y0) = m := ⟨_, rfl⟩
            have hm2 : p < 4294967296 → m = p * y0 := by
              intro hp
              have h1 := P2.out.y0lo
              have h2 := P2.out.y0hi
              have h3 := half_mul' (a := p) (b := y0) i0 (by omega) h1 h2
              rw [← hm, IntKind.wrap_u64]
              omega
            by_cases hbig : 4294967296 ≤ p
            · have hb : 4294967296 ≤ p ∨ 4294967296 * z + u0 < p * y0 := Or.inl hbig
              have e1' : IntKind.u64.wrap (p - 1) = p - 1 := by omega
              by_cases hr : 4294967296 ≤ z + y1
              · have hQ := (dig_break P2.out I.out hb hr).trans HQ0.out
                clear e1 hm2 hn hb i0 i1 i2 i3 j1 j2 j3 j4 I
                rw [hQ] at e1'
                go_wp2
                go_ret2
                exact ⟨rfl, rfl⟩
              · have J : Hid (Dig Y y1 y0 W u0 (p - 1) (z + y1)) := dig_next P2.out I.out hb (by omega)
                clear e1 hm2 hn hb i1 i2 i3 j1 j2 j3 j4 I
                go_wp2
                go_round
                case rel => exact ⟨_, _, J, rfl, rfl⟩
                case measure => simp [intOf]; omega
            · have hmm := hm2 (by omega)
              by_cases hgt : n < m
              · have hb : 4294967296 ≤ p ∨ 4294967296 * z + u0 < p * y0 := Or.inr (by omega)
                have hp0 : p ≠ 0 := by
                  intro h
                  have h1 := dig_big P2.out I.out hb
                  have h2 : 0 ≤ (W * 4294967296 + u0) / Y := Int.ediv_nonneg (by have := P2.out.V0; omega) (by have := P2.out.V0; have := P2.out.V1; omega)
                  omega
                have e1' : IntKind.u64.wrap (p - 1) = p - 1 := by omega
                by_cases hr : 4294967296 ≤ z + y1
                · have hQ := (dig_break P2.out I.out hb hr).trans HQ0.out
                  clear e1 hm2 hmm hn hb i0 i1 i2 i3 j1 j2 j3 j4 I
                  rw [hQ] at e1'
                  go_wp2
                  go_ret2
                  exact ⟨rfl, rfl⟩
                · have J : Hid (Dig Y y1 y0 W u0 (p - 1) (z + y1)) := dig_next P2.out I.out hb (by omega)
                  clear e1 hm2 hmm hn hb i1 i2 i3 j1 j2 j3 j4 I
                  go_wp2
                  go_round
                  case rel => exact ⟨_, _, J, rfl, rfl⟩
                  case measure => simp [intOf]; omega
              · have hQ := (dig_done P2.out I.out (by omega)).trans HQ0.out
                clear e1 hm2 hmm hn i0 i1 i2 i3 j1 j2 j3 j4 I
                obtain rfl := hQ
                go_wp2
                go_ret2
                exact ⟨rfl, rfl⟩
        · have J : Hid (Dig Y y1 y0 V u1 (p - 1) (z + y1)) := dig_next P1.out I.out hb (by omega)
          clear e1 hm2 hmm hn hb i1 i2 i3 j1 j2 j3 j4 I
          go_wp2
          go_round
          case rel => exact ⟨_, _, J, rfl, rfl⟩
          case measure => simp [intOf]; omega
      · have hQ := (dig_done P1.out I.out (by omega)).trans HQ1.out
        clear e1 hm2 hmm hn i0 i1 i2 i3 j1 j2 j3 j4 I
        obtain rfl := hQ
        go_wp2
        go_loop [18, 16] (fun a b => ∃ (q r : Int), Hid (Dig Y y1 y0 W u0 q r) ∧ a = .int .u64 q ∧ b = .int .u64 r) (fun a _ => (intOf a).toNat)
        case atStart => exact ⟨_, _, D2, by first | rfl | rw [hq2], by first | rfl | rw [hr2]⟩
        case round =>
          obtain ⟨p, z, I, rfl, rfl⟩ := hrel
          have i0 : 0 ≤ p := Int.le_trans (Int.ediv_nonneg (by have := P2.out.V0; have := P2.out.u0; omega) (by have := P2.out.V0; have := P2.out.V1; omega)) I.out.ge
          have i1 := I.out.le
          have i2 := I.out.r0
          have i3 := I.out.r1
          have j1 := P2.out.y1lo
          have j2 := P2.out.y1hi
          have j3 := P2.out.u0
          have j4 := P2.out.u1
          have e1 : IntKind.u64.wrap (p - 1) = p - 1 ∨ p = 0 := by rw [IntKind.wrap_u64]; omega
          have e2 : IntKind.u64.wrap (z + y1) = z + y1 := by rw [IntKind.wrap_u64]; omega
          have e3 : IntKind.u64.wrap (IntKind.u64.wrap (4294967296 * z) + u0) = 4294967296 * z + u0 := by rw [IntKind.wrap_u64, IntKind.wrap_u64]; omega
          obtain ⟨n, hn⟩ : ∃ n, 4294967296 * z + u0 = n := ⟨_, rfl⟩
          rw [hn] at e3
          obtain ⟨m, hm⟩ : ∃ m, IntKind.u64.wrap (p * y0) = m := ⟨_, rfl⟩
          have hm2 : p < 4294967296 → m = p * y0 := by
            intro hp
            have h1 := P2.out.y0lo
            have h2 := P2.out.y0hi
            have h3 := half_mul' (a := p) (b := y0) i0 (by omega) h1 h2
            rw [← hm, IntKind.wrap_u64]
            omega
          by_cases hbig : 4294967296 ≤ p
          · have hb : 4294967296 ≤ p ∨ 4294967296 * z + u0 < p * y0 := Or.inl hbig
            have e1' : IntKind.u64.wrap (p - 1) = p - 1 := by omega
            by_cases hr : 4294967296 ≤ z + y1
            · have hQ := (dig_break P2.out I.out hb hr).trans HQ0.out
              clear e1 hm2 hn hb i0 i1 i2 i3 j1 j2 j3 j4 I
              rw [hQ] at e1'
              go_wp2
              go_ret2
              exact ⟨rfl, rfl⟩
            · have J : Hid (Dig Y y1 y0 W u0 (p - 1) (z + y1)) := dig_next P2.out I.out hb (by omega)
              clear e1 hm2 hn hb i1 i2 i3 j1 j2 j3 j4 I
              go_wp2
              go_round
              case rel => exact ⟨_, _, J, rfl, rfl⟩
              case measure => simp [intOf]; omega
          · have hmm := hm2 (by omega)
            by_cases hgt : n < m
            · have hb : 4294967296 ≤ p ∨ 4294967296 * z + u0 < p * y0 := Or.inr (by omega)
              have hp0 : p ≠ 0 := by
                intro h
                have h1 := dig_big P2.out I.out hb
                have h2 : 0 ≤ (W * 4294967296 + u0) / Y := Int.ediv_nonneg (by have := P2.out.V0; omega) (by have := P2.out.V0; have := P2.out.V1; omega)
                omega
              have e1' : IntKind.u64.wrap (p - 1) = p - 1 := by omega
              by_cases hr : 4294967296 ≤ z + y1
              · have hQ := (dig_break P2.out I.out hb hr).trans HQ0.out
                clear e1 hm2 hmm hn hb i0 i1 i2 i3 j1 j2 j3 j4 I
                rw [hQ] at e1'
                go_wp2
                go_ret2
                exact ⟨rfl, rfl⟩
              · have J : Hid (Dig Y y1 y0 W u0 (p - 1) (z + y1)) := dig_next P2.out I.out hb (by omega)
                clear e1 hm2 hmm hn hb i1 i2 i3 j1 j2 j3 j4 I
                go_wp2
                go_round
                case rel => exact ⟨_, _, J, rfl, rfl⟩
                case measure => simp [intOf]; omega
            · have hQ := (dig_done P2.out I.out (by omega)).trans HQ0.out
              clear e1 hm2 hmm hn i0 i1 i2 i3 j1 j2 j3 j4 I
              obtain rfl := hQ
              go_wp2
              go_ret2
              exact ⟨rfl, rfl⟩


end Go.Proofs.Ytlhhpoldogoddaa
