/-
  Two words divided by one, bit by bit: the other side.
-/
import Derived.Test.YtlhhpoldogoddaaRows
import Derived.Test.YtlhhpoldogoddaaIOrs
namespace Go.Proofs.Ytlhhpoldogoddaa
open Go.RowKit

/-- What is divided. -/
def two (H L : Int) : Int := H * 18446744073709551616 + L

/-- Behind some steps: the quotient so far, and what is left. -/
structure Inv (N D : Int) (m : Nat) (h q : Int) : Prop where
  is : q * D + h = N / 2 ^ m
  h0 : 0 ≤ h
  h1 : h < D
  q0 : 0 ≤ q
  q1 : (q + 1) * 2 ^ m ≤ 18446744073709551616

theorem half_pow (N : Int) (k : Nat) : N / 2 ^ k = 2 * (N / 2 ^ (k + 1)) + N / 2 ^ k % 2 := by
  rw [Int.pow_succ, ← Int.ediv_ediv_of_nonneg (Int.le_of_lt (Int.pow_pos (by omega)))]
  omega
theorem q_small {N D h q : Int} {k : Nat} (I : Inv N D (k + 1) h q) : q < 9223372036854775808 := by
  have h1 := I.q1
  have hp : (0 : Int) < 2 ^ k := Int.pow_pos (by omega)
  rw [Int.pow_succ] at h1
  have h2 : (q + 1) * 1 ≤ (q + 1) * 2 ^ k := Int.mul_le_mul_of_nonneg_left (by omega) (by have := I.q0; omega)
  rw [← Int.mul_assoc] at h1
  omega
theorem inv_less {N D h q b : Int} {k : Nat} (I : Inv N D (k + 1) h q) (hb : N / 2 ^ k % 2 = b) (hl : 2 * h + b < D) : Inv N D k (2 * h + b) (2 * q) := by
  have hh := half_pow N k
  have hi := I.is
  have h0 := I.h0
  have q0 := I.q0
  have q1 := I.q1
  have hp : (0 : Int) < 2 ^ k := Int.pow_pos (by omega)
  refine ⟨?_, by omega, hl, by omega, ?_⟩
  · rw [hh, hb, ← hi, Int.mul_assoc, Int.mul_add]; omega
  · rw [Int.pow_succ, Int.mul_comm _ 2, ← Int.mul_assoc] at q1
    exact Int.le_trans (Int.mul_le_mul_of_nonneg_right (by omega) (Int.le_of_lt hp)) q1
theorem inv_more {N D h q b : Int} {k : Nat} (I : Inv N D (k + 1) h q) (hb : N / 2 ^ k % 2 = b) (hl : D ≤ 2 * h + b) : Inv N D k (2 * h + b - D) (2 * q + 1) := by
  have hh := half_pow N k
  have hi := I.is
  have h0 := I.h0
  have h1 := I.h1
  have q0 := I.q0
  have q1 := I.q1
  have hp : (0 : Int) < 2 ^ k := Int.pow_pos (by omega)
  refine ⟨?_, by omega, by omega, by omega, ?_⟩
  · rw [hh, hb, ← hi, Int.add_mul, Int.mul_assoc, Int.mul_add]; omega
  · rw [Int.pow_succ, Int.mul_comm _ 2, ← Int.mul_assoc] at q1
    have e : 2 * q + 1 + 1 = (q + 1) * 2 := by omega
    rw [e]
    exact q1
theorem inv_end {N D h q : Int} (I : Inv N D 0 h q) : q = N / D ∧ h = N % D := by
  have hi := I.is
  rw [Int.pow_zero, Int.ediv_one] at hi
  have h0 := I.h0
  have h1 := I.h1
  have hd : 0 < D := by omega
  constructor
  · rw [← hi, Int.add_comm, Int.add_mul_ediv_right _ _ (by omega), Int.ediv_eq_zero_of_lt h0 h1]; omega
  · rw [← hi, Int.add_comm, Int.add_mul_emod_self_right, Int.emod_eq_of_lt h0 h1]
theorem bit_of (H L : Int) (k : Nat) (hk : k ≤ 63) : two H L / 2 ^ k % 2 = L / 2 ^ k % 2 := by
  have hp : (0 : Int) < 2 ^ k := Int.pow_pos (by omega)
  obtain ⟨j, hj⟩ : ∃ j, 64 = k + (j + 1) := ⟨63 - k, by omega⟩
  have e : (18446744073709551616 : Int) = 2 ^ (j + 1) * 2 ^ k := by
    rw [← Int.pow_add, show j + 1 + k = 64 by omega]; rfl
  unfold two
  rw [e, ← Int.mul_assoc, Int.add_comm, Int.add_mul_ediv_right _ _ (by omega), Int.pow_succ, ← Int.mul_assoc]
  omega
theorem and_one (a : Int) (h0 : 0 ≤ a) (h1 : a ≤ 18446744073709551615) : bits .and .u64 a 1 = a % 2 := by
  obtain ⟨n, rfl⟩ := Int.eq_ofNat_of_zero_le h0
  have h := bits_and_u64_nat n 1 (by omega) (by omega)
  have e : n &&& 1 = n % 2 := Nat.and_one_is_mod n
  rw [e] at h
  exact h.trans (by omega)
theorem or_one (a b : Int) (b0 : 0 ≤ b) (b1 : b ≤ 1) : bits .or .u64 (IntKind.u64.wrap (a * 2)) b = IntKind.u64.wrap (a * 2) + b := by
  obtain ⟨d, rfl⟩ := Int.eq_ofNat_of_zero_le b0
  obtain ⟨c, hc⟩ : ∃ c : Nat, IntKind.u64.wrap (a * 2) = ((2 * c : Nat) : Int) := ⟨(IntKind.u64.wrap (a * 2) / 2).toNat, by rw [IntKind.wrap_u64]; omega⟩
  have hl : 2 * c < 18446744073709551616 := by rw [IntKind.wrap_u64] at hc; omega
  have e : 2 * c ||| d = 2 * c + d := (Nat.two_pow_add_eq_or_of_lt (i := 1) (b := d) (by omega) c).symm
  rw [hc, or_nat _ _ hl (by omega), e]
  omega

set_option maxHeartbeats 1000000 in
theorem specDiv (H L D : Int) (H0 : 0 ≤ H) (L0 : 0 ≤ L) (L1 : L ≤ 18446744073709551615) (D1 : D ≤ 18446744073709551615) (hd : H < D) (w : World) :
    Calls Try.prog 15 #[.int .u64 H, .int .u64 L, .int .u64 D] w fun e w' => e = .returned (.tuple #[.int .u64 (two H L / D), .int .u64 (two H L % D), .bool true]) ∧ w' = w := by
  have hn : ¬ D ≤ H := by omega
  have hI : Hid (Inv (two H L) D 64 H 0) := by
    refine ⟨?_, H0, hd, by omega, by decide⟩
    unfold two
    have e : (2 : Int) ^ 64 = 18446744073709551616 := by decide
    rw [e]
    omega
  have HB : Hid (0 ≤ L ∧ L ≤ 18446744073709551615 ∧ D ≤ 18446744073709551615) := ⟨L0, L1, D1⟩
  clear H0 hd L1 D1
  go_enter Try.func15, Try.ntmps15
  go_wp2
  go_loop [0, 9, 10] (fun a b c => ∃ (h q j : Int) (m : Nat), j = m - 1 ∧ m ≤ 64 ∧ Hid (Inv (two H L) D m h q) ∧ a = .int .u64 h ∧ b = .int .u64 q ∧ c = .int .i64 j) (fun _ _ c => (intOf c + 1).toNat)
  case atStart => exact ⟨H, 0, 63, 64, rfl, by omega, hI, rfl, rfl, rfl⟩
  case round =>
    obtain ⟨h, q, j, m, hj, hm, I, rfl, rfl, rfl⟩ := hrel
    by_cases h0 : 0 ≤ j
    · obtain ⟨k, rfl⟩ : ∃ k, m = k + 1 := ⟨m - 1, by omega⟩
      obtain rfl : j = k := by omega
      have hL := HB.out
      have hp : (0 : Int) < 2 ^ k := Int.pow_pos (by omega)
      have hq := q_small I.out
      have i0 := I.out.h0
      have i1 := I.out.h1
      have iq := I.out.q0
      have l0 : 0 ≤ L / 2 ^ k := Int.ediv_nonneg hL.1 (Int.le_of_lt hp)
      have l1 : L / 2 ^ k ≤ L := Int.ediv_le_self _ hL.1
      have hb := bit_of H L k (by omega)
      obtain ⟨b, hb1⟩ : ∃ b, L / 2 ^ k % 2 = b := ⟨_, rfl⟩
      have ha : bits .and .u64 (L / 2 ^ k) 1 = b := (and_one _ l0 (by omega)).trans hb1
      have ho := or_one h b (by omega) (by omega)
      have hw1 : IntKind.u64.wrap (q * 2) = q * 2 := by rw [IntKind.wrap_u64]; omega
      have ho1 := or_one q 1 (by omega) (by omega)
      rw [hw1] at ho1
      have hkw : IntKind.u64.wrap (k : Int) = k := by rw [IntKind.wrap_u64]; omega
      rw [hb1] at hb
      obtain ⟨g, hg⟩ : ∃ g, bits .or .u64 (IntKind.u64.wrap (h * 2)) b = g := ⟨_, rfl⟩
      have hg2 := hg.symm.trans ho
      rw [IntKind.wrap_u64] at hg2
      have hmin : min k 64 = k := by omega
      have hk1 : wrap64 ((k : Int) - 1) = k - 1 := by unfold wrap64; omega
      have hk2 : k ≤ 64 := by omega
      clear ho hj hm l0 l1
      by_cases ht : h / 9223372036854775808 = 1
      · have kt : (h / 9223372036854775808 == 1) = true := by simp [ht]
        have hs : IntKind.u64.wrap (g - D) = 2 * h + b - D := by rw [IntKind.wrap_u64]; omega
        have J : Hid (Inv (two H L) D k (2 * h + b - D) (q * 2 + 1)) := by rw [Int.mul_comm q 2]; exact inv_more I.out hb (by omega)
        clear hg2 hp hq i0 i1 iq hb hb1 hL I
        go_wp2
        go_round
        case rel => exact ⟨_, _, _, k, rfl, hk2, J, rfl, rfl, rfl⟩
        case measure => simp [intOf]
      · have kt : (h / 9223372036854775808 == 1) = false := by simp [ht]
        by_cases hge : D ≤ g
        · have hs : IntKind.u64.wrap (g - D) = 2 * h + b - D := by rw [IntKind.wrap_u64]; omega
          have J : Hid (Inv (two H L) D k (2 * h + b - D) (q * 2 + 1)) := by rw [Int.mul_comm q 2]; exact inv_more I.out hb (by omega)
          clear hg2 hp hq i0 i1 iq hb hb1 hL I ht
          go_wp2
          go_round
          case rel => exact ⟨_, _, _, k, rfl, hk2, J, rfl, rfl, rfl⟩
          case measure => simp [intOf]
        · have e : g = 2 * h + b := by omega
          have J : Hid (Inv (two H L) D k g (q * 2)) := by rw [e, Int.mul_comm q 2]; exact inv_less I.out hb (by omega)
          clear e hg2 hp hq i0 i1 iq hb hb1 hL I ht
          go_wp2
          go_round
          case rel => exact ⟨_, _, _, k, rfl, hk2, J, rfl, rfl, rfl⟩
          case measure => simp [intOf]
    · obtain rfl : j = -1 := by omega
      obtain rfl : m = 0 := by omega
      clear hj hm h0
      go_wp2
      go_ret3
      obtain ⟨e1, e2⟩ := inv_end I.out
      rw [e1, e2]
      exact ⟨rfl, rfl⟩

theorem specDivNo (H L D : Int) (hd : D ≤ H) (w : World) :
    Calls Try.prog 15 #[.int .u64 H, .int .u64 L, .int .u64 D] w fun e w' => e = .returned (.tuple #[.int .u64 0, .int .u64 0, .bool false]) ∧ w' = w := by
  go_enter Try.func15, Try.ntmps15
  go_wp2
  go_ret3
  exact ⟨rfl, rfl⟩
theorem implDivNo (H L D : Int) (hd : D ≤ H) (w : World) :
    Calls Try.prog 13 #[.int .u64 H, .int .u64 L, .int .u64 D] w fun e w' => e = .returned (.tuple #[.int .u64 0, .int .u64 0, .bool false]) ∧ w' = w := by
  go_enter Try.func13, Try.ntmps13
  go_wp2
  go_ret3
  exact ⟨rfl, rfl⟩

end Go.Proofs.Ytlhhpoldogoddaa
