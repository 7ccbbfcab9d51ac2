/-
  Two words divided by one: the program's side, and the law.
-/
import Derived.Test.YtlhhpoldogoddaaIDivL
import Derived.ProofKit
import Derived.OpenShut
namespace Go.Proofs.Ytlhhpoldogoddaa
open Go.ChangeShapes Go.WideShapes Go.ChangeAt Go.RowKit

/-- Two digits make the quotient. -/
theorem digits (N D p V T Y u1 u0 W Q1 Q0 Z : Int) (hp : 0 < p) (_hD : 0 < D) (hN : N * p = V * 18446744073709551616 + T) (hY : Y = D * p) (hT : T = u1 * 4294967296 + u0)
    (e1 : V * 4294967296 + u1 = Q1 * Y + W) (e2 : W * 4294967296 + u0 = Q0 * Y + Z) (z0 : 0 ≤ Z) (z1 : Z < Y) :
    Q1 * 4294967296 + Q0 = N / D ∧ Z / p = N % D := by
  have hYp : 0 < Y := by omega
  have e : N * p = (Q1 * 4294967296 + Q0) * Y + Z := by
    rw [Int.add_mul, Int.mul_right_comm]
    omega
  have hq : (N * p) / (D * p) = Q1 * 4294967296 + Q0 := by
    rw [← hY, e, Int.add_comm, Int.add_mul_ediv_right _ _ (by omega), Int.ediv_eq_zero_of_lt z0 z1]
    omega
  have hr : (N * p) % (D * p) = Z := by
    rw [← hY, e, Int.add_comm, Int.add_mul_emod_self_right, Int.emod_eq_of_lt z0 z1]
  rw [Int.mul_ediv_mul_of_pos_left _ _ hp] at hq
  rw [Int.mul_comm N, Int.mul_comm D, Int.mul_emod_mul_of_pos _ _ hp] at hr
  refine ⟨hq.symm, ?_⟩
  rw [← hr, Int.mul_ediv_cancel_left _ (by omega)]

theorem par_of (Y V u : Int) (hY : 9223372036854775808 ≤ Y) (hY1 : Y ≤ 18446744073709551615) (v0 : 0 ≤ V) (v1 : V < Y) (u0 : 0 ≤ u) (u1 : u ≤ 4294967295) : Par Y (Y / 4294967296) (Y % 4294967296) V u :=
  ⟨by omega, by omega, by omega, by omega, by omega, v0, v1, u0, u1⟩
theorem dig_of {Y y1 y0 V u : Int} (P : Par Y y1 y0 V u) (_hY1 : Y ≤ 18446744073709551615) : Dig Y y1 y0 V u (V / y1) (IntKind.u64.wrap (V - IntKind.u64.wrap (V / y1 * y1))) := by
  have k := dig_start P
  have p := P.V0; have p1 := P.V1
  have i := k.is; have i0 := k.r0; have i1 := k.r1
  have e : IntKind.u64.wrap (V - IntKind.u64.wrap (V / y1 * y1)) = V - V / y1 * y1 := by
    have hy : 0 < y1 := by have := P.y1lo; omega
    have h0 : 0 ≤ V / y1 * y1 := Int.mul_nonneg (Int.ediv_nonneg p (by omega)) (by omega)
    rw [IntKind.wrap_u64, IntKind.wrap_u64]
    generalize V / y1 * y1 = x at *
    omega
  rw [e]
  exact k

theorem libDiv (H L D : Nat) (hH : H < D) (hL : L < 18446744073709551616) (hD : D < 18446744073709551616) (w : World) :
    Calls Try.prog 29 #[.int .u64 (H : Int), .int .u64 (L : Int), .int .u64 (D : Int)] w fun e w' => e = .returned (.tuple #[.int .u64 (two H L / D), .int .u64 (two H L % D)]) ∧ Below w.heap.size w w' := by
  by_cases h0 : H = 0
  · subst h0
    have e : two ((0 : Nat) : Int) L = L := by unfold two; omega
    rw [e]
    exact libDivOne L D (by omega) (by omega) (by omega) w
  · obtain ⟨s, s1, s2, s3, s4⟩ := front D hD (by omega)
    obtain ⟨f1, f2, f3⟩ := shifted H L D s (64 - s) (by omega) hL hH s4
    have hp : (0 : Int) < 2 ^ s := Int.pow_pos (by omega)
    have cY : ((D * 2 ^ s : Nat) : Int) = (D : Int) * 2 ^ s := by simp
    have hY : IntKind.u64.wrap ((D : Int) * 2 ^ s) = ((D * 2 ^ s : Nat) : Int) := by rw [← cY, IntKind.wrap_u64]; omega
    have cT : ((L * 2 ^ s : Nat) : Int) = (L : Int) * 2 ^ s := by simp
    have hT : IntKind.u64.wrap ((L : Int) * 2 ^ s) = ((L * 2 ^ s % 18446744073709551616 : Nat) : Int) := by rw [← cT, IntKind.wrap_u64]; omega
    have hN : two H L * 2 ^ s = ((H * 2 ^ s + L / 2 ^ (64 - s) : Nat) : Int) * 18446744073709551616 + ((L * 2 ^ s % 18446744073709551616 : Nat) : Int) := by
      have c : (((H * 18446744073709551616 + L) * 2 ^ s : Nat) : Int) = two H L * 2 ^ s := by unfold two; simp
      rw [← c, f3]
      simp
    have hTl : L * 2 ^ s % 18446744073709551616 < 18446744073709551616 := Nat.mod_lt _ (by omega)
    generalize hYe : D * 2 ^ s = Y at *
    generalize hVe : H * 2 ^ s + L / 2 ^ (64 - s) = V at *
    generalize hTe : L * 2 ^ s % 18446744073709551616 = T at *
    have P1 := par_of (Y : Int) (V : Int) ((T : Int) / 4294967296) (by omega) (by omega) (by omega) (by omega) (by omega) (by omega)
    have z0 := Int.emod_nonneg ((V : Int) * 4294967296 + (T : Int) / 4294967296) (show (Y : Int) ≠ 0 by omega)
    have z1 := Int.emod_lt_of_pos ((V : Int) * 4294967296 + (T : Int) / 4294967296) (show (0 : Int) < Y by omega)
    have l1 := dig_left P1 (by omega)
    have E1 := Int.emod_add_mul_ediv ((V : Int) * 4294967296 + (T : Int) / 4294967296) Y
    have t1 := dig_top P1
    have q1 : 0 ≤ ((V : Int) * 4294967296 + (T : Int) / 4294967296) / Y := Int.ediv_nonneg (by omega) (by omega)
    obtain ⟨W, hW⟩ : ∃ W, ((V : Int) * 4294967296 + (T : Int) / 4294967296) % Y = W := ⟨_, rfl⟩
    obtain ⟨Q1, hQ1⟩ : ∃ Q, ((V : Int) * 4294967296 + (T : Int) / 4294967296) / Y = Q := ⟨_, rfl⟩
    rw [hW] at z0 z1 l1 E1
    rw [hQ1] at l1 E1 t1 q1
    have P2 := par_of (Y : Int) W ((T : Int) % 4294967296) (by omega) (by omega) z0 z1 (by omega) (by omega)
    have y0 := Int.emod_nonneg (W * 4294967296 + (T : Int) % 4294967296) (show (Y : Int) ≠ 0 by omega)
    have y1 := Int.emod_lt_of_pos (W * 4294967296 + (T : Int) % 4294967296) (show (0 : Int) < Y by omega)
    have l2 := dig_left P2 (by omega)
    have E2 := Int.emod_add_mul_ediv (W * 4294967296 + (T : Int) % 4294967296) Y
    have t2 := dig_top P2
    have q2 : 0 ≤ (W * 4294967296 + (T : Int) % 4294967296) / Y := Int.ediv_nonneg (by omega) (by omega)
    obtain ⟨Z, hZ⟩ : ∃ Z, (W * 4294967296 + (T : Int) % 4294967296) % Y = Z := ⟨_, rfl⟩
    obtain ⟨Q0, hQ0⟩ : ∃ Q, (W * 4294967296 + (T : Int) % 4294967296) / Y = Q := ⟨_, rfl⟩
    rw [hZ] at y0 y1 l2 E2
    rw [hQ0] at l2 E2 t2 q2
    rw [Int.mul_comm] at E1 E2
    have key := digits (two H L) D (2 ^ s) V T Y ((T : Int) / 4294967296) ((T : Int) % 4294967296) W Q1 Q0 Z hp (by omega) hN cY (by omega) (by omega) (by omega) y0 y1
    have hlead := fun w => libLead (D : Int) (s : Int) (by omega) (by omega) (by simpa using s2) (by unfold wrap64; omega) w
    have := libDivTwo (H : Int) (L : Int) (D : Int) s (64 - s) Y _ _ V T _ _ W Q1 Q0 Z _ _ _ _ (by omega) (by simp; omega) (by simp; omega) hlead (by rw [IntKind.wrap_u64]; omega) (by omega) (by rw [IntKind.wrap_u64]; omega) (by omega)
      hY rfl (and_maskI _ (by omega) (by omega)) f1 hT rfl (and_maskI _ (by omega) (by omega)) rfl rfl rfl rfl l1 l2 (by rw [IntKind.wrap_u64, IntKind.wrap_u64]; omega) P1 P2 hQ1 hQ0 (dig_of P1 (by omega)) (dig_of P2 (by omega)) (by omega) (by omega) (by omega) (by omega) (by omega) (by omega) w
    rw [key.1, key.2] at this
    exact this.mono fun _ _ ⟨h1, h2⟩ => ⟨h1, by rw [h2]; exact Below.refl _ _⟩

theorem implDiv (H L D : Int) (H0 : 0 ≤ H) (L0 : 0 ≤ L) (L1 : L ≤ 18446744073709551615) (D1 : D ≤ 18446744073709551615) (hd : H < D) (w : World) :
    Calls Try.prog 13 #[.int .u64 H, .int .u64 L, .int .u64 D] w fun e w' => e = .returned (.tuple #[.int .u64 (two H L / D), .int .u64 (two H L % D), .bool true]) ∧ Below w.heap.size w w' := by
  obtain ⟨h, rfl⟩ := Int.eq_ofNat_of_zero_le H0
  obtain ⟨l, rfl⟩ := Int.eq_ofNat_of_zero_le L0
  obtain ⟨d, rfl⟩ := Int.eq_ofNat_of_zero_le (show 0 ≤ D by omega)
  have HD : Hid (∀ w, Calls Try.prog 29 #[.int .u64 (h : Int), .int .u64 (l : Int), .int .u64 (d : Int)] w fun e w' => e = .returned (.tuple #[.int .u64 (two h l / d), .int .u64 (two h l % d)]) ∧ Below w.heap.size w w') := fun w => libDiv h l d (by omega) (by omega) (by omega) w
  have hn : ¬ (d : Int) ≤ h := by omega
  obtain ⟨q, hq⟩ : ∃ q, two (h : Int) l / d = q := ⟨_, rfl⟩
  obtain ⟨r, hr⟩ : ∃ r, two (h : Int) l % d = r := ⟨_, rfl⟩
  rw [hq, hr] at HD ⊢
  clear hq hr H0 L0 L1 D1 hd
  go_enter Try.func13, Try.ntmps13
  go_wp2_with (go_at_call 29; refine (HD.out _).mono ?_; rintro e w1 ⟨rfl, hbel⟩)
  go_ret3
  exact ⟨rfl, by assumption⟩

end Go.Proofs.Ytlhhpoldogoddaa
