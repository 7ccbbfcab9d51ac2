/-
  Long division by digits of 32 bits: plain facts.
-/
import Derived.Test.YtlhhpoldogoddaaIDivS
import Derived.Lib.BitFns
namespace Go.Proofs.Ytlhhpoldogoddaa
open Go.RowKit

/-- How many bits a number has. -/
theorem bl_bounds : ∀ (f x : Nat), x < 2 ^ f → x ≠ 0 → 1 ≤ Lib.bitLenAux f x ∧ Lib.bitLenAux f x ≤ f ∧ 2 ^ (Lib.bitLenAux f x - 1) ≤ x ∧ x < 2 ^ Lib.bitLenAux f x
  | 0, x, h, h0 => by simp at h; omega
  | f + 1, x, h, h0 => by
    rw [Lib.bitLenAux, if_neg h0]
    by_cases h2 : x / 2 = 0
    · have hx : x = 1 := by omega
      subst hx
      have e : Lib.bitLenAux f (1 / 2) = 0 := by cases f <;> simp [Lib.bitLenAux]
      rw [e]
      refine ⟨by omega, by omega, by decide, by decide⟩
    · have ih := bl_bounds f (x / 2) (by rw [Nat.pow_succ] at h; omega) h2
      obtain ⟨i1, i2, i3, i4⟩ := ih
      generalize Lib.bitLenAux f (x / 2) = n at *
      obtain ⟨m, rfl⟩ : ∃ m, n = m + 1 := ⟨n - 1, by omega⟩
      refine ⟨by omega, by omega, ?_, ?_⟩
      · rw [show 1 + (m + 1) - 1 = m + 1 by omega, Nat.pow_succ]
        rw [show m + 1 - 1 = m by omega] at i3
        omega
      · rw [show 1 + (m + 1) = m + 1 + 1 by omega, Nat.pow_succ]
        omega

/-- The shift that brings a number's first bit to the front. -/
theorem front (y : Nat) (h : y < 18446744073709551616) (h0 : y ≠ 0) : ∃ s : Nat, s ≤ 63 ∧ (64 : Int) - Lib.bitLen y = s ∧ 9223372036854775808 ≤ y * 2 ^ s ∧ y * 2 ^ s < 18446744073709551616 := by
  obtain ⟨b1, b2, b3, b4⟩ := bl_bounds 64 y (by simpa using h) h0
  have e : Lib.bitLen y = Lib.bitLenAux 64 y := rfl
  rw [e]
  generalize Lib.bitLenAux 64 y = n at *
  refine ⟨64 - n, by omega, by omega, ?_, ?_⟩
  · have h1 := Nat.mul_le_mul_right (2 ^ (64 - n)) b3
    rw [← Nat.pow_add, show n - 1 + (64 - n) = 63 by omega] at h1
    exact h1
  · have h1 := Nat.mul_lt_mul_of_pos_right b4 (Nat.two_pow_pos (64 - n))
    rw [← Nat.pow_add, show n + (64 - n) = 64 by omega] at h1
    exact h1

/-- What is divided, brought to the front: its upper words and its lower one. -/
theorem shifted (H L y : Nat) (s t : Nat) (hst : s + t = 64) (hL : L < 18446744073709551616) (hH : H < y) (hy : y * 2 ^ s < 18446744073709551616) :
    bits .or .u64 (IntKind.u64.wrap ((H : Int) * 2 ^ s)) ((L : Int) / 2 ^ t) = ((H * 2 ^ s + L / 2 ^ t : Nat) : Int) ∧ H * 2 ^ s + L / 2 ^ t < y * 2 ^ s ∧
    (H * 18446744073709551616 + L) * 2 ^ s = (H * 2 ^ s + L / 2 ^ t) * 18446744073709551616 + L * 2 ^ s % 18446744073709551616 := by
  have hp : 0 < 2 ^ s := Nat.two_pow_pos s
  have hq : 0 < 2 ^ t := Nat.two_pow_pos t
  have e64 : 2 ^ t * 2 ^ s = 18446744073709551616 := by rw [← Nat.pow_add, show t + s = 64 by omega]
  have hlt : L / 2 ^ t < 2 ^ s := Nat.div_lt_of_lt_mul (by rw [e64]; exact hL)
  have hle : (H + 1) * 2 ^ s ≤ y * 2 ^ s := Nat.mul_le_mul_right _ hH
  rw [Nat.add_mul, Nat.one_mul] at hle
  have e1 : IntKind.u64.wrap ((H : Int) * 2 ^ s) = ((2 ^ s * H : Nat) : Int) := by
    rw [Nat.mul_comm, show ((H : Int) * 2 ^ s) = ((H * 2 ^ s : Nat) : Int) by simp, IntKind.wrap_u64]
    omega
  have e2 : (L : Int) / 2 ^ t = ((L / 2 ^ t : Nat) : Int) := by simp
  refine ⟨?_, by omega, ?_⟩
  · rw [e1, e2, or_nat _ _ (by rw [Nat.mul_comm]; omega) (by omega), ← Nat.two_pow_add_eq_or_of_lt hlt, Nat.mul_comm]
  · have e3 : L * 2 ^ s / 18446744073709551616 = L / 2 ^ t := by
      rw [← e64]; exact Nat.mul_div_mul_right _ _ hp
    have e4 := Nat.div_add_mod (L * 2 ^ s) 18446744073709551616
    rw [e3] at e4
    rw [Nat.add_mul, Nat.add_mul, Nat.mul_right_comm]
    omega

/-- A digit that is guessed: not too small, at most two too great. -/
structure Dig (Y y1 y0 V u q r : Int) : Prop where
  ge : (V * 4294967296 + u) / Y ≤ q
  le : q ≤ 4294967297
  is : q * y1 + r = V
  r0 : 0 ≤ r
  r1 : r < 4294967296

/-- What holds of a divisor and of what is divided. -/
structure Par (Y y1 y0 V u : Int) : Prop where
  is : Y = y1 * 4294967296 + y0
  y1lo : 2147483648 ≤ y1
  y1hi : y1 ≤ 4294967295
  y0lo : 0 ≤ y0
  y0hi : y0 ≤ 4294967295
  V0 : 0 ≤ V
  V1 : V < Y
  u0 : 0 ≤ u
  u1 : u ≤ 4294967295

theorem dig_exp {Y y1 y0 V u q r : Int} (P : Par Y y1 y0 V u) (D : Dig Y y1 y0 V u q r) : q * Y = (V - r) * 4294967296 + q * y0 := by
  have e := D.is
  rw [P.is, Int.mul_add, ← Int.mul_assoc]
  rw [show q * y1 = V - r by omega]
theorem dig_top {Y y1 y0 V u : Int} (P : Par Y y1 y0 V u) : (V * 4294967296 + u) / Y < 4294967296 := by
  have := P.V0; have := P.V1; have := P.u1
  rw [Int.ediv_lt_iff_lt_mul (by omega)]
  omega
theorem dig_start {Y y1 y0 V u : Int} (P : Par Y y1 y0 V u) : Dig Y y1 y0 V u (V / y1) (V - V / y1 * y1) := by
  obtain ⟨p1, p2, p3, p4, p5, p6, p7, p8, p9⟩ := P
  have hy : 0 < y1 := by omega
  have hm := Int.emod_add_mul_ediv V y1
  have hr0 := Int.emod_nonneg V (show y1 ≠ 0 by omega)
  have hr1 := Int.emod_lt_of_pos V hy
  have hq0 : 0 ≤ V / y1 := Int.ediv_nonneg p6 (by omega)
  have er : V - V / y1 * y1 = V % y1 := by rw [Int.mul_comm]; omega
  rw [er]
  refine ⟨?_, ?_, ?_, hr0, by omega⟩
  · have h : (V * 4294967296 + u) / Y < V / y1 + 1 := by
      rw [Int.ediv_lt_iff_lt_mul (by omega)]
      have e : (V / y1 + 1) * Y = V / y1 * y1 * 4294967296 + V / y1 * y0 + y1 * 4294967296 + y0 := by
        rw [p1, Int.add_mul, Int.mul_add, ← Int.mul_assoc]; omega
      have e2 : 0 ≤ V / y1 * y0 := Int.mul_nonneg hq0 p4
      rw [e]
      rw [Int.mul_comm] at hm
      omega
    omega
  · have h : V / y1 < 4294967298 := by
      rw [Int.ediv_lt_iff_lt_mul hy]
      omega
    omega
  · rw [Int.mul_comm]; omega
theorem dig_done {Y y1 y0 V u q r : Int} (P : Par Y y1 y0 V u) (D : Dig Y y1 y0 V u q r) (h : q * y0 ≤ 4294967296 * r + u) : q = (V * 4294967296 + u) / Y := by
  have e := dig_exp P D
  have hY : 0 < Y := by have := P.V0; have := P.V1; omega
  have h1 : q ≤ (V * 4294967296 + u) / Y := by
    rw [Int.le_ediv_iff_mul_le hY]
    omega
  have := D.ge
  omega
theorem dig_big {Y y1 y0 V u q r : Int} (P : Par Y y1 y0 V u) (D : Dig Y y1 y0 V u q r) (h : 4294967296 ≤ q ∨ 4294967296 * r + u < q * y0) : (V * 4294967296 + u) / Y ≤ q - 1 := by
  rcases h with h | h
  · have := dig_top P; omega
  · have e := dig_exp P D
    have hY : 0 < Y := by have := P.V0; have := P.V1; omega
    have h1 : (V * 4294967296 + u) / Y < q := by
      rw [Int.ediv_lt_iff_lt_mul hY]
      omega
    omega
theorem dig_next {Y y1 y0 V u q r : Int} (P : Par Y y1 y0 V u) (D : Dig Y y1 y0 V u q r) (h : 4294967296 ≤ q ∨ 4294967296 * r + u < q * y0) (hr : r + y1 < 4294967296) : Dig Y y1 y0 V u (q - 1) (r + y1) := by
  have h1 := dig_big P D h
  have := D.le; have := D.is; have := D.r0; have := P.y1lo
  exact ⟨h1, by omega, by rw [Int.sub_mul]; omega, by omega, hr⟩
theorem dig_break {Y y1 y0 V u q r : Int} (P : Par Y y1 y0 V u) (D : Dig Y y1 y0 V u q r) (h : 4294967296 ≤ q ∨ 4294967296 * r + u < q * y0) (hr : 4294967296 ≤ r + y1) : q - 1 = (V * 4294967296 + u) / Y := by
  have h1 := dig_big P D h
  have hY : 0 < Y := by have := P.V0; have := P.V1; omega
  have e := dig_exp P D
  have hq0 : 0 ≤ (V * 4294967296 + u) / Y := Int.ediv_nonneg (by have := P.V0; have := P.u0; omega) (by omega)
  have h2 : q - 1 ≤ (V * 4294967296 + u) / Y := by
    rw [Int.le_ediv_iff_mul_le hY, Int.sub_mul]
    have m : (q - 1) * y0 ≤ 4294967296 * y0 := Int.mul_le_mul_of_nonneg_right (by have := D.le; omega) P.y0lo
    rw [Int.sub_mul] at m
    have := P.is; have := P.y0hi; have := P.u0; have := P.y0lo
    omega
  omega
/-- What is left behind a digit. -/
theorem dig_left {Y y1 y0 V u : Int} (P : Par Y y1 y0 V u) (hY : Y ≤ 18446744073709551615) :
    IntKind.u64.wrap (IntKind.u64.wrap (IntKind.u64.wrap (V * 4294967296) + u) - IntKind.u64.wrap ((V * 4294967296 + u) / Y * Y)) = (V * 4294967296 + u) % Y := by
  have h0 : 0 < Y := by have := P.V0; have := P.V1; omega
  have hm := Int.emod_add_mul_ediv (V * 4294967296 + u) Y
  have hr0 := Int.emod_nonneg (V * 4294967296 + u) (show Y ≠ 0 by omega)
  have hr1 := Int.emod_lt_of_pos (V * 4294967296 + u) h0
  rw [Int.mul_comm Y] at hm
  simp only [IntKind.wrap_u64]
  generalize (V * 4294967296 + u) % Y = z at *
  generalize (V * 4294967296 + u) / Y * Y = x at *
  omega

end Go.Proofs.Ytlhhpoldogoddaa
