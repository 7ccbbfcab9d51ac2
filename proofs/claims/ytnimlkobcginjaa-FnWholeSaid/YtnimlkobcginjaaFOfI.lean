/-
  FOfInt, both sides, and its law.
-/
import Derived.Test.YtnimlkobcginjaaFRndS
import Derived.Test.YtnimlkobcginjaaFFv
import Derived.OpenShut
namespace Go.Proofs.Ytnimlkobcginjaa
open Go.RowKit

theorem lostB (m T : Nat) (hm : m < 18446744073709551616) (hT : T ≤ 64) (w : World) :
    Calls Try.prog 88 #[.int .u64 (m : Int), .int .i64 (T : Int)] w fun e w' => e = .returned (.bool (decide (m % 2 ^ T ≠ 0))) ∧ w' = w := by
  obtain ⟨K, hK⟩ : ∃ K, m / 2 ^ T = K := ⟨_, rfl⟩
  have edm := Nat.div_add_mod m (2 ^ T)
  rw [hK] at edm
  have f1 : (m : Int) / 2 ^ T = (K : Int) := by rw [← hK]; simp
  have f3 : IntKind.u64.wrap ((K : Int) * 2 ^ T) = (2 ^ T * K : Nat) := by
    rw [show (K : Int) * 2 ^ T = ((2 ^ T * K : Nat) : Int) by simp [Int.mul_comm], IntKind.wrap_u64]; omega
  have f4 : (((2 ^ T * K : Nat) : Int) != (m : Int)) = decide (m % 2 ^ T ≠ 0) := by
    generalize 2 ^ T * K = Z at *
    generalize m % 2 ^ T = L at *
    by_cases hL : L = 0
    · rw [hL, show Z = m by omega]; simp
    · have : Z ≠ m := by omega
      have h2 : (Z : Int) ≠ m := by omega
      simp [hL, h2]
  generalize ((2 ^ T * K : Nat) : Int) = Z at *
  generalize decide (m % 2 ^ T ≠ 0) = b at *
  have g2 : min T 64 = T := by omega
  clear edm hK hm hT
  go_enter Try.func88, Try.ntmps88
  go_wp2
  go_ret
  exact ⟨by rw [← f4]; rfl, rfl⟩

/-- Too many bits are cut. -/
theorem cut60 (A j : Nat) (hA : A < 18446744073709551616) (hx : A / 2 ^ j < 1152921504606846976) (hj : j = 0 ∨ 1152921504606846976 ≤ A / 2 ^ (j - 1)) : max ((Lib.bitLen A : Int) - 60) 0 = j := by
  rcases hj with rfl | hj
  · have h : A < 2 ^ 60 := by simpa using hx
    have := bl_le A 60 hA h
    omega
  · by_cases h0 : j = 0
    · subst h0
      have h : A < 2 ^ 60 := by simpa using hx
      have := bl_le A 60 hA h
      omega
    · have hp := Nat.two_pow_pos j
      have hp1 := Nat.two_pow_pos (j - 1)
      have u : A < 2 ^ (60 + j) := by
        rw [Nat.pow_add]
        exact (Nat.div_lt_iff_lt_mul hp).1 hx
      have v : 2 ^ (60 + j - 1) ≤ A := by
        rw [show 60 + j - 1 = 60 + (j - 1) by omega, Nat.pow_add]
        exact (Nat.le_div_iff_mul_le hp1).1 hj
      rw [bl_eq A (60 + j) hA (by omega) v u]
      omega

set_option maxHeartbeats 1000000 in
theorem ofIntSpec16 (n : Int) (n0 : -9223372036854775808 ≤ n) (n1 : n ≤ 9223372036854775807) (A : Nat) (hA : (A : Int) = if n < 0 then -n else n) (w : World) :
    Calls Try.prog 100 #[(.agg #[.int .u64 5, .int .u64 10]), .int .i64 n] w fun e w' => (∃ j : Nat, j ≤ 5 ∧ max ((Lib.bitLen A : Int) - 60) 0 = j ∧ A / 2 ^ j < 1152921504606846976 ∧ e = .returned (.int .u32 ((decide (n < 0)).toNat * 32768 + ((min (toldOf 10 (-24) (A / 2 ^ j) j (decide (A % 2 ^ j ≠ 0))) 31744 : Nat) : Int)))) ∧ Below w.heap.size w w' := by
  obtain ⟨W, hW⟩ : ∃ W, w.alloc (.cells #[.int .u64 5, .int .u64 10] 97) = W := ⟨_, rfl⟩
  have H : Hid (Below w.heap.size w W) := by unfold Hid; rw [← hW]; (repeat (first | refine Below.alloc ?_ (by first | (simp; done) | (simp; omega)) _ | refine Below.setCell ?_ (by first | (simp; done) | (simp; omega)) _ | refine bel_dN ?_ _ | refine Below.drew ?_ | exact Below.refl _ _))
  obtain ⟨g, hg⟩ : ∃ g, w.heap.size = g := ⟨_, rfl⟩
  have c0 : W.cell? ⟨g, 0, none⟩ = some (.int .u64 5) := by rw [← hW, ← hg]; simp
  have c1 : W.cell? ⟨g, 1, none⟩ = some (.int .u64 10) := by rw [← hW, ← hg]; simp
  have hA64 : A < 18446744073709551616 := by split at hA <;> omega
  obtain ⟨M0, hM0⟩ : ∃ M0, IntKind.u64.wrap n = M0 := ⟨_, rfl⟩
  obtain ⟨sg, hsg⟩ : ∃ sg, decide (n < 0) = sg := ⟨_, rfl⟩
  have hst : (sg = true → IntKind.u64.wrap (-M0) = A) ∧ (sg = false → M0 = A) := by
    rw [IntKind.wrap_u64] at hM0
    rw [← hsg]
    constructor
    · intro h
      have h' : n < 0 := by simpa using h
      rw [if_pos h'] at hA
      rw [IntKind.wrap_u64]; omega
    · intro h
      have h' : ¬ n < 0 := by simpa using h
      rw [if_neg h'] at hA
      omega
  rw [hsg]
  clear n0 n1 hA
  go_enter Try.func100, Try.ntmps100
  go_upto_if 13 with fail
  clear hW
  go_cut [6] (fun s6 wx => s6 = .int .u64 (A : Int) ∧ wx = W)
  case first =>
    cases sg
    · have h1 := hst.2 rfl
      clear hst
      go_wp2
      go_meet
      exact ⟨by first | rfl | rw [h1], rfl⟩
    · have h1 := hst.1 rfl
      clear hst
      go_wp2
      go_meet
      exact ⟨by first | rfl | rw [h1], rfl⟩
  case rest =>
    obtain ⟨rfl, hwc⟩ := hcut
    obtain rfl := hwc.symm
    clear hwc hst hM0
    go_wp2
    go_loopw [6, 7, 8] (fun x y z wr => ∃ j : Nat, Hid (j ≤ 5 ∧ (j = 0 ∨ 1152921504606846976 ≤ A / 2 ^ (j - 1))) ∧ x = .int .u64 ((A / 2 ^ j : Nat) : Int) ∧ y = .int .i64 (j : Int) ∧ z = .bool (decide (A % 2 ^ j ≠ 0)) ∧ wr = W) (fun x _ _ _ => (intOf x).toNat)
    case atStart => exact ⟨0, ⟨by omega, Or.inl rfl⟩, by simp, by simp, by simp [Nat.mod_one], rfl⟩
    case round =>
      obtain ⟨j, hj, rfl, rfl, rfl, hwr⟩ := hrel
      obtain rfl := hwr
      obtain ⟨X, hX⟩ : ∃ X, A / 2 ^ j = X := ⟨_, rfl⟩
      by_cases hx : 1152921504606846976 ≤ X
      · have hj4 : j ≤ 3 := by
          have h1 : A / 2 ^ j ≥ 2 ^ 60 := by rw [hX]; simpa using hx
          have hp := Nat.two_pow_pos j
          have h2 : 2 ^ 60 * 2 ^ j ≤ A := (Nat.le_div_iff_mul_le hp).1 h1
          rw [← Nat.pow_add] at h2
          have h3 : 2 ^ (60 + j) < 2 ^ 64 := Nat.lt_of_le_of_lt h2 (by omega)
          have := (Nat.pow_lt_pow_iff_right (by omega)).1 h3
          omega
        have e1 : A / 2 ^ (j + 1) = X / 2 := by rw [Nat.pow_succ, ← Nat.div_div_eq_div_mul, hX]
        have e2 : A % 2 ^ (j + 1) = A % 2 ^ j + 2 ^ j * (X % 2) := by rw [Nat.pow_succ, Nat.mod_mul, hX]
        have hp := Nat.two_pow_pos j
        have hb : decide (A % 2 ^ (j + 1) ≠ 0) = (decide (A % 2 ^ j ≠ 0) || ((X : Int) % 2 == 1)) := by
          rw [e2]
          by_cases h2 : X % 2 = 1
          · rw [h2, show ((X : Int) % 2 == 1) = true by simp; omega]
            first | (simp; done) | (simp; omega)
          · rw [show X % 2 = 0 by omega, show ((X : Int) % 2 == 1) = false by simp; omega]
            simp
        have hm1 : bits .and .u64 (X : Int) 1 = (X : Int) % 2 := by
          have : X ≤ A := by rw [← hX]; exact Nat.div_le_self _ _
          exact low64 1 (by omega) (X : Int) (by omega) (by omega)
        have HB : Hid (decide (A % 2 ^ (j + 1) ≠ 0) = (decide (A % 2 ^ j ≠ 0) || ((X : Int) % 2 == 1)) ∧ A / 2 ^ (j + 1) = X / 2 ∧ A / 2 ^ j = X ∧ j ≤ 3 ∧ 1152921504606846976 ≤ X) := ⟨hb, e1, hX, hj4, hx⟩
        have hw1 : wrap64 ((j : Int) + 1) = (j : Int) + 1 := by unfold wrap64; omega
        obtain ⟨XI, hXI⟩ : ∃ XI : Int, (X : Int) = XI := ⟨_, rfl⟩
        have hxi : 1152921504606846976 ≤ XI := by omega
        rw [hX]
        rw [hXI] at hm1 HB ⊢
        generalize hq : decide (A % 2 ^ j ≠ 0) = q at *
        clear hx hj4 e1 e2 hp hb hX
        cases q
        · obtain ⟨bb, hbb⟩ : ∃ bb, (XI % 2 == 1) = bb := ⟨_, rfl⟩
          go_wp2
          go_roundw
          case rel =>
            obtain ⟨a1, a2, a3, a4, a5⟩ := HB.out
            refine ⟨j + 1, ⟨by omega, Or.inr ?_⟩, ?_, by first | rw [hw1]; simp | simp, ?_, trivial⟩
            · rw [Nat.add_sub_cancel, a3]; exact a5
            · rw [a2, ← hXI]; simp
            · rw [a1, hbb]; simp
          case measure => simp [intOf]; omega
        · go_wp2
          go_roundw
          case rel =>
            obtain ⟨a1, a2, a3, a4, a5⟩ := HB.out
            refine ⟨j + 1, ⟨by omega, Or.inr ?_⟩, ?_, by first | rw [hw1]; simp | simp, ?_, trivial⟩
            · rw [Nat.add_sub_cancel, a3]; exact a5
            · rw [a2, ← hXI]; simp
            · rw [a1]; simp
          case measure => simp [intOf]; omega
      · have hxx : X < 1152921504606846976 := by omega
        have RR := specRound16 sg X hxx j (by have := hj.out.1; omega) (by have := hj.out.1; omega) (decide (A % 2 ^ j ≠ 0))
        have HF : Hid (j ≤ 5 ∧ max ((Lib.bitLen A : Int) - 60) 0 = j ∧ A / 2 ^ j < 1152921504606846976) := ⟨hj.out.1, cut60 A j hA64 (by rw [hX]; exact hxx) hj.out.2, by rw [hX]; exact hxx⟩
        obtain ⟨r, hr⟩ : ∃ r : Int, (sg.toNat : Int) * 32768 + ((min (toldOf 10 (-24) X j (decide (A % 2 ^ j ≠ 0))) 31744 : Nat) : Int) = r := ⟨_, rfl⟩
        rw [hr] at RR
        have HE : Hid ((sg.toNat : Int) * 32768 + ((min (toldOf 10 (-24) (A / 2 ^ j) j (decide (A % 2 ^ j ≠ 0))) 31744 : Nat) : Int) = r) := by unfold Hid; rw [hX]; exact hr
        rw [hX]
        generalize hq : decide (A % 2 ^ j ≠ 0) = q at *
        obtain ⟨XI, hXI⟩ : ∃ XI : Int, (X : Int) = XI := ⟨_, rfl⟩
        have hxi : XI < 1152921504606846976 := by omega
        rw [hXI] at RR ⊢
        have HQ : Hid (decide (A % 2 ^ j ≠ 0) = q) := hq
        clear hr hx hxx hX hXI hq
        go_wp2_with fail
        refine (RR _).mono ?_
        rintro e' w3 ⟨rfl, B3⟩
        go_wp2
        go_ret
        obtain ⟨b1, b2, b3⟩ := HF.out
        refine ⟨⟨j, b1, b2, b3, ?_⟩, bel_step H.out B3⟩
        rw [HQ.out, HE.out]
        rfl

set_option maxHeartbeats 1000000 in
theorem ofIntSpec32 (n : Int) (n0 : -9223372036854775808 ≤ n) (n1 : n ≤ 9223372036854775807) (A : Nat) (hA : (A : Int) = if n < 0 then -n else n) (w : World) :
    Calls Try.prog 100 #[(.agg #[.int .u64 8, .int .u64 23]), .int .i64 n] w fun e w' => (∃ j : Nat, j ≤ 5 ∧ max ((Lib.bitLen A : Int) - 60) 0 = j ∧ A / 2 ^ j < 1152921504606846976 ∧ e = .returned (.int .u32 ((decide (n < 0)).toNat * 2147483648 + ((min (toldOf 23 (-149) (A / 2 ^ j) j (decide (A % 2 ^ j ≠ 0))) 2139095040 : Nat) : Int)))) ∧ Below w.heap.size w w' := by
  obtain ⟨W, hW⟩ : ∃ W, w.alloc (.cells #[.int .u64 8, .int .u64 23] 97) = W := ⟨_, rfl⟩
  have H : Hid (Below w.heap.size w W) := by unfold Hid; rw [← hW]; (repeat (first | refine Below.alloc ?_ (by first | (simp; done) | (simp; omega)) _ | refine Below.setCell ?_ (by first | (simp; done) | (simp; omega)) _ | refine bel_dN ?_ _ | refine Below.drew ?_ | exact Below.refl _ _))
  obtain ⟨g, hg⟩ : ∃ g, w.heap.size = g := ⟨_, rfl⟩
  have c0 : W.cell? ⟨g, 0, none⟩ = some (.int .u64 8) := by rw [← hW, ← hg]; simp
  have c1 : W.cell? ⟨g, 1, none⟩ = some (.int .u64 23) := by rw [← hW, ← hg]; simp
  have hA64 : A < 18446744073709551616 := by split at hA <;> omega
  obtain ⟨M0, hM0⟩ : ∃ M0, IntKind.u64.wrap n = M0 := ⟨_, rfl⟩
  obtain ⟨sg, hsg⟩ : ∃ sg, decide (n < 0) = sg := ⟨_, rfl⟩
  have hst : (sg = true → IntKind.u64.wrap (-M0) = A) ∧ (sg = false → M0 = A) := by
    rw [IntKind.wrap_u64] at hM0
    rw [← hsg]
    constructor
    · intro h
      have h' : n < 0 := by simpa using h
      rw [if_pos h'] at hA
      rw [IntKind.wrap_u64]; omega
    · intro h
      have h' : ¬ n < 0 := by simpa using h
      rw [if_neg h'] at hA
      omega
  rw [hsg]
  clear n0 n1 hA
  go_enter Try.func100, Try.ntmps100
  go_upto_if 13 with fail
  clear hW
  go_cut [6] (fun s6 wx => s6 = .int .u64 (A : Int) ∧ wx = W)
  case first =>
    cases sg
    · have h1 := hst.2 rfl
      clear hst
      go_wp2
      go_meet
      exact ⟨by first | rfl | rw [h1], rfl⟩
    · have h1 := hst.1 rfl
      clear hst
      go_wp2
      go_meet
      exact ⟨by first | rfl | rw [h1], rfl⟩
  case rest =>
    obtain ⟨rfl, hwc⟩ := hcut
    obtain rfl := hwc.symm
    clear hwc hst hM0
    go_wp2
    go_loopw [6, 7, 8] (fun x y z wr => ∃ j : Nat, Hid (j ≤ 5 ∧ (j = 0 ∨ 1152921504606846976 ≤ A / 2 ^ (j - 1))) ∧ x = .int .u64 ((A / 2 ^ j : Nat) : Int) ∧ y = .int .i64 (j : Int) ∧ z = .bool (decide (A % 2 ^ j ≠ 0)) ∧ wr = W) (fun x _ _ _ => (intOf x).toNat)
    case atStart => exact ⟨0, ⟨by omega, Or.inl rfl⟩, by simp, by simp, by simp [Nat.mod_one], rfl⟩
    case round =>
      obtain ⟨j, hj, rfl, rfl, rfl, hwr⟩ := hrel
      obtain rfl := hwr
      obtain ⟨X, hX⟩ : ∃ X, A / 2 ^ j = X := ⟨_, rfl⟩
      by_cases hx : 1152921504606846976 ≤ X
      · have hj4 : j ≤ 3 := by
          have h1 : A / 2 ^ j ≥ 2 ^ 60 := by rw [hX]; simpa using hx
          have hp := Nat.two_pow_pos j
          have h2 : 2 ^ 60 * 2 ^ j ≤ A := (Nat.le_div_iff_mul_le hp).1 h1
          rw [← Nat.pow_add] at h2
          have h3 : 2 ^ (60 + j) < 2 ^ 64 := Nat.lt_of_le_of_lt h2 (by omega)
          have := (Nat.pow_lt_pow_iff_right (by omega)).1 h3
          omega
        have e1 : A / 2 ^ (j + 1) = X / 2 := by rw [Nat.pow_succ, ← Nat.div_div_eq_div_mul, hX]
        have e2 : A % 2 ^ (j + 1) = A % 2 ^ j + 2 ^ j * (X % 2) := by rw [Nat.pow_succ, Nat.mod_mul, hX]
        have hp := Nat.two_pow_pos j
        have hb : decide (A % 2 ^ (j + 1) ≠ 0) = (decide (A % 2 ^ j ≠ 0) || ((X : Int) % 2 == 1)) := by
          rw [e2]
          by_cases h2 : X % 2 = 1
          · rw [h2, show ((X : Int) % 2 == 1) = true by simp; omega]
            first | (simp; done) | (simp; omega)
          · rw [show X % 2 = 0 by omega, show ((X : Int) % 2 == 1) = false by simp; omega]
            simp
        have hm1 : bits .and .u64 (X : Int) 1 = (X : Int) % 2 := by
          have : X ≤ A := by rw [← hX]; exact Nat.div_le_self _ _
          exact low64 1 (by omega) (X : Int) (by omega) (by omega)
        have HB : Hid (decide (A % 2 ^ (j + 1) ≠ 0) = (decide (A % 2 ^ j ≠ 0) || ((X : Int) % 2 == 1)) ∧ A / 2 ^ (j + 1) = X / 2 ∧ A / 2 ^ j = X ∧ j ≤ 3 ∧ 1152921504606846976 ≤ X) := ⟨hb, e1, hX, hj4, hx⟩
        have hw1 : wrap64 ((j : Int) + 1) = (j : Int) + 1 := by unfold wrap64; omega
        obtain ⟨XI, hXI⟩ : ∃ XI : Int, (X : Int) = XI := ⟨_, rfl⟩
        have hxi : 1152921504606846976 ≤ XI := by omega
        rw [hX]
        rw [hXI] at hm1 HB ⊢
        generalize hq : decide (A % 2 ^ j ≠ 0) = q at *
        clear hx hj4 e1 e2 hp hb hX
        cases q
        · obtain ⟨bb, hbb⟩ : ∃ bb, (XI % 2 == 1) = bb := ⟨_, rfl⟩
          go_wp2
          go_roundw
          case rel =>
            obtain ⟨a1, a2, a3, a4, a5⟩ := HB.out
            refine ⟨j + 1, ⟨by omega, Or.inr ?_⟩, ?_, by first | rw [hw1]; simp | simp, ?_, trivial⟩
            · rw [Nat.add_sub_cancel, a3]; exact a5
            · rw [a2, ← hXI]; simp
            · rw [a1, hbb]; simp
          case measure => simp [intOf]; omega
        · go_wp2
          go_roundw
          case rel =>
            obtain ⟨a1, a2, a3, a4, a5⟩ := HB.out
            refine ⟨j + 1, ⟨by omega, Or.inr ?_⟩, ?_, by first | rw [hw1]; simp | simp, ?_, trivial⟩
            · rw [Nat.add_sub_cancel, a3]; exact a5
            · rw [a2, ← hXI]; simp
            · rw [a1]; simp
          case measure => simp [intOf]; omega
      · have hxx : X < 1152921504606846976 := by omega
        have RR := specRound32 sg X hxx j (by have := hj.out.1; omega) (by have := hj.out.1; omega) (decide (A % 2 ^ j ≠ 0))
        have HF : Hid (j ≤ 5 ∧ max ((Lib.bitLen A : Int) - 60) 0 = j ∧ A / 2 ^ j < 1152921504606846976) := ⟨hj.out.1, cut60 A j hA64 (by rw [hX]; exact hxx) hj.out.2, by rw [hX]; exact hxx⟩
        obtain ⟨r, hr⟩ : ∃ r : Int, (sg.toNat : Int) * 2147483648 + ((min (toldOf 23 (-149) X j (decide (A % 2 ^ j ≠ 0))) 2139095040 : Nat) : Int) = r := ⟨_, rfl⟩
        rw [hr] at RR
        have HE : Hid ((sg.toNat : Int) * 2147483648 + ((min (toldOf 23 (-149) (A / 2 ^ j) j (decide (A % 2 ^ j ≠ 0))) 2139095040 : Nat) : Int) = r) := by unfold Hid; rw [hX]; exact hr
        rw [hX]
        generalize hq : decide (A % 2 ^ j ≠ 0) = q at *
        obtain ⟨XI, hXI⟩ : ∃ XI : Int, (X : Int) = XI := ⟨_, rfl⟩
        have hxi : XI < 1152921504606846976 := by omega
        rw [hXI] at RR ⊢
        have HQ : Hid (decide (A % 2 ^ j ≠ 0) = q) := hq
        clear hr hx hxx hX hXI hq
        go_wp2_with fail
        refine (RR _).mono ?_
        rintro e' w3 ⟨rfl, B3⟩
        go_wp2
        go_ret
        obtain ⟨b1, b2, b3⟩ := HF.out
        refine ⟨⟨j, b1, b2, b3, ?_⟩, bel_step H.out B3⟩
        rw [HQ.out, HE.out]
        rfl

set_option maxHeartbeats 1000000 in
theorem ofIntImpl16 (n : Int) (n0 : -9223372036854775808 ≤ n) (n1 : n ≤ 9223372036854775807) (A j : Nat) (hA : (A : Int) = if n < 0 then -n else n) (hj : max ((Lib.bitLen A : Int) - 60) 0 = j) (hj5 : j ≤ 5) (hx : A / 2 ^ j < 1152921504606846976) (w : World) :
    Calls Try.prog 39 #[.int .i64 16, .int .i64 n] w fun e w' => e = .returned (.int .u32 ((decide (n < 0)).toNat * 32768 + ((min (toldOf 10 (-24) (A / 2 ^ j) j (decide (A % 2 ^ j ≠ 0))) 31744 : Nat) : Int))) ∧ Below w.heap.size w w' := by
  have hA64 : A < 18446744073709551616 := by split at hA <;> omega
  obtain ⟨M0, hM0⟩ : ∃ M0, IntKind.u64.wrap n = M0 := ⟨_, rfl⟩
  obtain ⟨sg, hsg⟩ : ∃ sg, decide (n < 0) = sg := ⟨_, rfl⟩
  have hst : (sg = true → IntKind.u64.wrap (-M0) = A) ∧ (sg = false → M0 = A) := by
    rw [IntKind.wrap_u64] at hM0
    rw [← hsg]
    constructor
    · intro h
      have h' : n < 0 := by simpa using h
      rw [if_pos h'] at hA
      rw [IntKind.wrap_u64]; omega
    · intro h
      have h' : ¬ n < 0 := by simpa using h
      rw [if_neg h'] at hA
      omega
  have LN := len64F A hA64
  have LO := lostB A j hA64 (by omega)
  have RR := implRound16 sg (A / 2 ^ j) hx j (by omega) (by omega) (decide (A % 2 ^ j ≠ 0))
  rw [hsg]
  generalize (sg.toNat : Int) * 32768 + ((min (toldOf 10 (-24) (A / 2 ^ j) j (decide (A % 2 ^ j ≠ 0))) 31744 : Nat) : Int) = r at *
  generalize decide (A % 2 ^ j ≠ 0) = q at *
  have hbl : Lib.bitLen A ≤ 64 := bl_le A 64 hA64 (by simpa using hA64)
  obtain ⟨X, hX⟩ : ∃ X, A / 2 ^ j = X := ⟨_, rfl⟩
  have f1 : (A : Int) / 2 ^ j = (X : Int) := by rw [← hX]; simp
  have g2 : min j 64 = j := by omega
  rw [hX] at RR
  generalize Lib.bitLen A = bl at *
  have v1 : wrap64 ((bl : Int) - 60) = (bl : Int) - 60 := by unfold wrap64; omega
  clear n0 n1 hA hX hx hbl hj5 hA64
  cases sg
  · have h1 := hst.2 rfl
    have hn : ¬ n < 0 := by simpa using hsg
    clear hst
    go_enter Try.func39, Try.ntmps39
    go_wp2_with fail
    refine (form16 _).mono ?_
    rintro e' w1 ⟨rfl, B1⟩
    go_wp2_with fail
    refine (LN _).mono ?_
    rintro e' w2 ⟨rfl, hw⟩
    obtain rfl := hw.symm
    go_wp2_with fail
    have k0 : ∀ w, Keeps (w1.alloc (.cells #[.int .i64 10, .int .i64 15, .int .u32 31] 84)) w → w.cell? ⟨w1.heap.size, 0, none⟩ = some (.int .i64 10) := fun w h => h.cell (by simp) (by simp)
    have k1 : ∀ w, Keeps (w1.alloc (.cells #[.int .i64 10, .int .i64 15, .int .u32 31] 84)) w → w.cell? ⟨w1.heap.size, 1, none⟩ = some (.int .i64 15) := fun w h => h.cell (by simp) (by simp)
    have k2 : ∀ w, Keeps (w1.alloc (.cells #[.int .i64 10, .int .i64 15, .int .u32 31] 84)) w → w.cell? ⟨w1.heap.size, 2, none⟩ = some (.int .u32 31) := fun w h => h.cell (by simp) (by simp)
    refine region_q (C := Keeps (w1.alloc (.cells #[.int .i64 10, .int .i64 15, .int .u32 31] 84))) (by kernel_rfl) (by kernel_rfl) (Keeps.drew _) ?_
    (iterate 12
      (apply wpQuiet_go _ (by rfl)
       · intro wq hq
         go_simp
         first
           | (go_at_call 88; exact qsame hq (LO _))
           | (go_at_call 79; exact qcall hq (RR _))
           | exact rfl
       simp only [Act.put, List.setIfInBounds_toArray, List.set_cons_succ, List.set_cons_zero]))
    refine wpQuiet_nil ?_
    intro w3 hk
    have hb := hk.below
    clear k0 k1 k2 hk
    go_wp2
    go_ret
    refine ⟨rfl, ?_⟩
    ((repeat (first | refine bel_alloc ?_ _ | refine bel_dN ?_ _ | refine Below.drew ?_ | refine Below.setCell ?_ (by first | (simp; done) | (simp; omega)) _)); refine bel_step ?_ hb; (repeat (first | refine bel_alloc ?_ _ | refine bel_dN ?_ _ | refine Below.drew ?_ | refine Below.setCell ?_ (by first | (simp; done) | (simp; omega)) _)); refine bel_step ?_ B1; (repeat (first | refine bel_alloc ?_ _ | refine bel_dN ?_ _ | refine Below.drew ?_ | refine Below.setCell ?_ (by first | (simp; done) | (simp; omega)) _)); exact Below.refl _ _)
  · have h1 := hst.1 rfl
    have hn : n < 0 := by simpa using hsg
    clear hst
    go_enter Try.func39, Try.ntmps39
    go_wp2_with fail
    refine (form16 _).mono ?_
    rintro e' w1 ⟨rfl, B1⟩
    go_wp2_with fail
    refine (LN _).mono ?_
    rintro e' w2 ⟨rfl, hw⟩
    obtain rfl := hw.symm
    go_wp2_with fail
    have k0 : ∀ w, Keeps (w1.alloc (.cells #[.int .i64 10, .int .i64 15, .int .u32 31] 84)) w → w.cell? ⟨w1.heap.size, 0, none⟩ = some (.int .i64 10) := fun w h => h.cell (by simp) (by simp)
    have k1 : ∀ w, Keeps (w1.alloc (.cells #[.int .i64 10, .int .i64 15, .int .u32 31] 84)) w → w.cell? ⟨w1.heap.size, 1, none⟩ = some (.int .i64 15) := fun w h => h.cell (by simp) (by simp)
    have k2 : ∀ w, Keeps (w1.alloc (.cells #[.int .i64 10, .int .i64 15, .int .u32 31] 84)) w → w.cell? ⟨w1.heap.size, 2, none⟩ = some (.int .u32 31) := fun w h => h.cell (by simp) (by simp)
    refine region_q (C := Keeps (w1.alloc (.cells #[.int .i64 10, .int .i64 15, .int .u32 31] 84))) (by kernel_rfl) (by kernel_rfl) (Keeps.drew _) ?_
    (iterate 12
      (apply wpQuiet_go _ (by rfl)
       · intro wq hq
         go_simp
         first
           | (go_at_call 88; exact qsame hq (LO _))
           | (go_at_call 79; exact qcall hq (RR _))
           | exact rfl
       simp only [Act.put, List.setIfInBounds_toArray, List.set_cons_succ, List.set_cons_zero]))
    refine wpQuiet_nil ?_
    intro w3 hk
    have hb := hk.below
    clear k0 k1 k2 hk
    go_wp2
    go_ret
    refine ⟨rfl, ?_⟩
    ((repeat (first | refine bel_alloc ?_ _ | refine bel_dN ?_ _ | refine Below.drew ?_ | refine Below.setCell ?_ (by first | (simp; done) | (simp; omega)) _)); refine bel_step ?_ hb; (repeat (first | refine bel_alloc ?_ _ | refine bel_dN ?_ _ | refine Below.drew ?_ | refine Below.setCell ?_ (by first | (simp; done) | (simp; omega)) _)); refine bel_step ?_ B1; (repeat (first | refine bel_alloc ?_ _ | refine bel_dN ?_ _ | refine Below.drew ?_ | refine Below.setCell ?_ (by first | (simp; done) | (simp; omega)) _)); exact Below.refl _ _)

set_option maxHeartbeats 1000000 in
theorem ofIntImpl32 (n : Int) (n0 : -9223372036854775808 ≤ n) (n1 : n ≤ 9223372036854775807) (A j : Nat) (hA : (A : Int) = if n < 0 then -n else n) (hj : max ((Lib.bitLen A : Int) - 60) 0 = j) (hj5 : j ≤ 5) (hx : A / 2 ^ j < 1152921504606846976) (w : World) :
    Calls Try.prog 39 #[.int .i64 32, .int .i64 n] w fun e w' => e = .returned (.int .u32 ((decide (n < 0)).toNat * 2147483648 + ((min (toldOf 23 (-149) (A / 2 ^ j) j (decide (A % 2 ^ j ≠ 0))) 2139095040 : Nat) : Int))) ∧ Below w.heap.size w w' := by
  have hA64 : A < 18446744073709551616 := by split at hA <;> omega
  obtain ⟨M0, hM0⟩ : ∃ M0, IntKind.u64.wrap n = M0 := ⟨_, rfl⟩
  obtain ⟨sg, hsg⟩ : ∃ sg, decide (n < 0) = sg := ⟨_, rfl⟩
  have hst : (sg = true → IntKind.u64.wrap (-M0) = A) ∧ (sg = false → M0 = A) := by
    rw [IntKind.wrap_u64] at hM0
    rw [← hsg]
    constructor
    · intro h
      have h' : n < 0 := by simpa using h
      rw [if_pos h'] at hA
      rw [IntKind.wrap_u64]; omega
    · intro h
      have h' : ¬ n < 0 := by simpa using h
      rw [if_neg h'] at hA
      omega
  have LN := len64F A hA64
  have LO := lostB A j hA64 (by omega)
  have RR := implRound32 sg (A / 2 ^ j) hx j (by omega) (by omega) (decide (A % 2 ^ j ≠ 0))
  rw [hsg]
  generalize (sg.toNat : Int) * 2147483648 + ((min (toldOf 23 (-149) (A / 2 ^ j) j (decide (A % 2 ^ j ≠ 0))) 2139095040 : Nat) : Int) = r at *
  generalize decide (A % 2 ^ j ≠ 0) = q at *
  have hbl : Lib.bitLen A ≤ 64 := bl_le A 64 hA64 (by simpa using hA64)
  obtain ⟨X, hX⟩ : ∃ X, A / 2 ^ j = X := ⟨_, rfl⟩
  have f1 : (A : Int) / 2 ^ j = (X : Int) := by rw [← hX]; simp
  have g2 : min j 64 = j := by omega
  rw [hX] at RR
  generalize Lib.bitLen A = bl at *
  have v1 : wrap64 ((bl : Int) - 60) = (bl : Int) - 60 := by unfold wrap64; omega
  clear n0 n1 hA hX hx hbl hj5 hA64
  cases sg
  · have h1 := hst.2 rfl
    have hn : ¬ n < 0 := by simpa using hsg
    clear hst
    go_enter Try.func39, Try.ntmps39
    go_wp2_with fail
    refine (form32 _).mono ?_
    rintro e' w1 ⟨rfl, B1⟩
    go_wp2_with fail
    refine (LN _).mono ?_
    rintro e' w2 ⟨rfl, hw⟩
    obtain rfl := hw.symm
    go_wp2_with fail
    have k0 : ∀ w, Keeps (w1.alloc (.cells #[.int .i64 23, .int .i64 127, .int .u32 255] 84)) w → w.cell? ⟨w1.heap.size, 0, none⟩ = some (.int .i64 23) := fun w h => h.cell (by simp) (by simp)
    have k1 : ∀ w, Keeps (w1.alloc (.cells #[.int .i64 23, .int .i64 127, .int .u32 255] 84)) w → w.cell? ⟨w1.heap.size, 1, none⟩ = some (.int .i64 127) := fun w h => h.cell (by simp) (by simp)
    have k2 : ∀ w, Keeps (w1.alloc (.cells #[.int .i64 23, .int .i64 127, .int .u32 255] 84)) w → w.cell? ⟨w1.heap.size, 2, none⟩ = some (.int .u32 255) := fun w h => h.cell (by simp) (by simp)
    refine region_q (C := Keeps (w1.alloc (.cells #[.int .i64 23, .int .i64 127, .int .u32 255] 84))) (by kernel_rfl) (by kernel_rfl) (Keeps.drew _) ?_
    (iterate 12
      (apply wpQuiet_go _ (by rfl)
       · intro wq hq
         go_simp
         first
           | (go_at_call 88; exact qsame hq (LO _))
           | (go_at_call 79; exact qcall hq (RR _))
           | exact rfl
       simp only [Act.put, List.setIfInBounds_toArray, List.set_cons_succ, List.set_cons_zero]))
    refine wpQuiet_nil ?_
    intro w3 hk
    have hb := hk.below
    clear k0 k1 k2 hk
    go_wp2
    go_ret
    refine ⟨rfl, ?_⟩
    ((repeat (first | refine bel_alloc ?_ _ | refine bel_dN ?_ _ | refine Below.drew ?_ | refine Below.setCell ?_ (by first | (simp; done) | (simp; omega)) _)); refine bel_step ?_ hb; (repeat (first | refine bel_alloc ?_ _ | refine bel_dN ?_ _ | refine Below.drew ?_ | refine Below.setCell ?_ (by first | (simp; done) | (simp; omega)) _)); refine bel_step ?_ B1; (repeat (first | refine bel_alloc ?_ _ | refine bel_dN ?_ _ | refine Below.drew ?_ | refine Below.setCell ?_ (by first | (simp; done) | (simp; omega)) _)); exact Below.refl _ _)
  · have h1 := hst.1 rfl
    have hn : n < 0 := by simpa using hsg
    clear hst
    go_enter Try.func39, Try.ntmps39
    go_wp2_with fail
    refine (form32 _).mono ?_
    rintro e' w1 ⟨rfl, B1⟩
    go_wp2_with fail
    refine (LN _).mono ?_
    rintro e' w2 ⟨rfl, hw⟩
    obtain rfl := hw.symm
    go_wp2_with fail
    have k0 : ∀ w, Keeps (w1.alloc (.cells #[.int .i64 23, .int .i64 127, .int .u32 255] 84)) w → w.cell? ⟨w1.heap.size, 0, none⟩ = some (.int .i64 23) := fun w h => h.cell (by simp) (by simp)
    have k1 : ∀ w, Keeps (w1.alloc (.cells #[.int .i64 23, .int .i64 127, .int .u32 255] 84)) w → w.cell? ⟨w1.heap.size, 1, none⟩ = some (.int .i64 127) := fun w h => h.cell (by simp) (by simp)
    have k2 : ∀ w, Keeps (w1.alloc (.cells #[.int .i64 23, .int .i64 127, .int .u32 255] 84)) w → w.cell? ⟨w1.heap.size, 2, none⟩ = some (.int .u32 255) := fun w h => h.cell (by simp) (by simp)
    refine region_q (C := Keeps (w1.alloc (.cells #[.int .i64 23, .int .i64 127, .int .u32 255] 84))) (by kernel_rfl) (by kernel_rfl) (Keeps.drew _) ?_
    (iterate 12
      (apply wpQuiet_go _ (by rfl)
       · intro wq hq
         go_simp
         first
           | (go_at_call 88; exact qsame hq (LO _))
           | (go_at_call 79; exact qcall hq (RR _))
           | exact rfl
       simp only [Act.put, List.setIfInBounds_toArray, List.set_cons_succ, List.set_cons_zero]))
    refine wpQuiet_nil ?_
    intro w3 hk
    have hb := hk.below
    clear k0 k1 k2 hk
    go_wp2
    go_ret
    refine ⟨rfl, ?_⟩
    ((repeat (first | refine bel_alloc ?_ _ | refine bel_dN ?_ _ | refine Below.drew ?_ | refine Below.setCell ?_ (by first | (simp; done) | (simp; omega)) _)); refine bel_step ?_ hb; (repeat (first | refine bel_alloc ?_ _ | refine bel_dN ?_ _ | refine Below.drew ?_ | refine Below.setCell ?_ (by first | (simp; done) | (simp; omega)) _)); refine bel_step ?_ B1; (repeat (first | refine bel_alloc ?_ _ | refine bel_dN ?_ _ | refine Below.drew ?_ | refine Below.setCell ?_ (by first | (simp; done) | (simp; omega)) _)); exact Below.refl _ _)

theorem ofIntBoth16 (n : Int) (n0 : -9223372036854775808 ≤ n) (n1 : n ≤ 9223372036854775807) : ∃ r : Int,
    (∀ w, Calls Try.prog 100 #[(.agg #[.int .u64 5, .int .u64 10]), .int .i64 n] w fun e w' => e = .returned (.int .u32 r) ∧ Below w.heap.size w w') ∧
    (∀ w, Calls Try.prog 39 #[.int .i64 16, .int .i64 n] w fun e w' => e = .returned (.int .u32 r) ∧ Below w.heap.size w w') := by
  obtain ⟨A, hA⟩ : ∃ A : Nat, (A : Int) = if n < 0 then -n else n := by
    by_cases h : n < 0
    · exact ⟨(-n).toNat, by rw [if_pos h]; omega⟩
    · exact ⟨n.toNat, by rw [if_neg h]; omega⟩
  have hA64 : A < 18446744073709551616 := by split at hA <;> omega
  have hbl : Lib.bitLen A ≤ 64 := bl_le A 64 hA64 (by simpa using hA64)
  obtain ⟨j, hj⟩ : ∃ j : Nat, max ((Lib.bitLen A : Int) - 60) 0 = j := ⟨(max ((Lib.bitLen A : Int) - 60) 0).toNat, by omega⟩
  have hx : A / 2 ^ j < 1152921504606846976 := by
    have hp := Nat.two_pow_pos j
    rw [Nat.div_lt_iff_lt_mul hp]
    by_cases h0 : A = 0
    · rw [h0]; exact Nat.mul_pos (by omega) hp
    · have h4 := (bl_is A hA64 h0).2.2.2
      have : (1152921504606846976 : Nat) = 2 ^ 60 := by decide
      rw [this, ← Nat.pow_add]
      exact Nat.lt_of_lt_of_le h4 (Nat.pow_le_pow_right (by omega) (by omega))
  refine ⟨_, fun w => (ofIntSpec16 n n0 n1 A hA w).mono ?_, ofIntImpl16 n n0 n1 A j hA hj (by omega) hx⟩
  rintro e w' ⟨⟨j', hj'5, hj', _, he⟩, hb⟩
  obtain rfl : j' = j := by omega
  exact ⟨he, hb⟩

theorem ofIntBoth32 (n : Int) (n0 : -9223372036854775808 ≤ n) (n1 : n ≤ 9223372036854775807) : ∃ r : Int,
    (∀ w, Calls Try.prog 100 #[(.agg #[.int .u64 8, .int .u64 23]), .int .i64 n] w fun e w' => e = .returned (.int .u32 r) ∧ Below w.heap.size w w') ∧
    (∀ w, Calls Try.prog 39 #[.int .i64 32, .int .i64 n] w fun e w' => e = .returned (.int .u32 r) ∧ Below w.heap.size w w') := by
  obtain ⟨A, hA⟩ : ∃ A : Nat, (A : Int) = if n < 0 then -n else n := by
    by_cases h : n < 0
    · exact ⟨(-n).toNat, by rw [if_pos h]; omega⟩
    · exact ⟨n.toNat, by rw [if_neg h]; omega⟩
  have hA64 : A < 18446744073709551616 := by split at hA <;> omega
  have hbl : Lib.bitLen A ≤ 64 := bl_le A 64 hA64 (by simpa using hA64)
  obtain ⟨j, hj⟩ : ∃ j : Nat, max ((Lib.bitLen A : Int) - 60) 0 = j := ⟨(max ((Lib.bitLen A : Int) - 60) 0).toNat, by omega⟩
  have hx : A / 2 ^ j < 1152921504606846976 := by
    have hp := Nat.two_pow_pos j
    rw [Nat.div_lt_iff_lt_mul hp]
    by_cases h0 : A = 0
    · rw [h0]; exact Nat.mul_pos (by omega) hp
    · have h4 := (bl_is A hA64 h0).2.2.2
      have : (1152921504606846976 : Nat) = 2 ^ 60 := by decide
      rw [this, ← Nat.pow_add]
      exact Nat.lt_of_lt_of_le h4 (Nat.pow_le_pow_right (by omega) (by omega))
  refine ⟨_, fun w => (ofIntSpec32 n n0 n1 A hA w).mono ?_, ofIntImpl32 n n0 n1 A j hA hj (by omega) hx⟩
  rintro e w' ⟨⟨j', hj'5, hj', _, he⟩, hb⟩
  obtain rfl : j' = j := by omega
  exact ⟨he, hb⟩

end Go.Proofs.Ytnimlkobcginjaa
