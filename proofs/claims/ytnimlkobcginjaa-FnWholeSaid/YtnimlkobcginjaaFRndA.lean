/-
  Rounding: the smaller functions of both sides.
-/
import Derived.Test.YtnimlkobcginjaaFBase
import Derived.Test.YtnimlkobcginjaaFMath
import Derived.BigQuiet
import Derived.Shelf.Lays
import Derived.Shelf.Strconv.Itoa0
namespace Go.Proofs.Ytnimlkobcginjaa
open Go.RowKit

def lenRenF : Go.Shelf.Ren := ⟨fun | 129 => 87 | n => n, fun | 3 => 3 | 4 => 4 | 5 => 5 | 9 => 9 | 46 => 29 | 53 => 23 | n => n, fun n => n⟩
theorem lenLaidF : Go.Proofs.Lays.n129 Try.prog lenRenF := {
  mixed := by kernel_rfl
  f129 := Try.func87.trans (congrArg some (by kernel_rfl))
  t3 := Try.underlying3
  a3 := Try.isAgg3
  z3 := Try.sizeOf3
  v3 := Try.zeroValue3
  t4 := Try.underlying4
  a4 := Try.isAgg4
  z4 := Try.sizeOf4
  v4 := Try.zeroValue4
  t5 := Try.underlying5
  a5 := Try.isAgg5
  z5 := Try.sizeOf5
  v5 := Try.zeroValue5
  t9 := Try.underlying9
  a9 := Try.isAgg9
  z9 := Try.sizeOf9
  v9 := Try.zeroValue9
  t46 := Try.underlying29
  a46 := Try.isAgg29
  z46 := Try.sizeOf29
  v46 := Try.zeroValue29
  t53 := Try.underlying23
  a53 := Try.isAgg23
  z53 := Try.sizeOf23
  v53 := Try.zeroValue23 }
theorem len64F (m : Nat) (h : m < 18446744073709551616) (w : World) :
    Calls Try.prog 87 #[.int .u64 (m : Int)] w fun e w' => e = .returned (.int .i64 (Lib.bitLen m)) ∧ w' = w := by
  have H := Any.bits_Len64 lenLaidF (m : Int) w (by omega) (by omega)
  rw [show ((m : Int).toNat) = m by omega] at H
  exact H

theorem l4LenB (m : Nat) (h : m < 18446744073709551616) (w : World) :
    Calls Try.prog 107 #[.int .u64 (m : Int)] w fun e w' => e = .returned (.int .i64 (Lib.bitLen m)) ∧ w' = w := by
  go_enter Try.func107, Try.ntmps107
  go_wp2
  go_loopw [0, 3] (fun x c wr => ∃ (k j : Nat), Hid (k < 18446744073709551616 ∧ j ≤ 64 ∧ j + Lib.bitLen k = Lib.bitLen m) ∧ x = .int .u64 (k : Int) ∧ c = .int .i64 (j : Int) ∧ wr = w) (fun x _ _ => (intOf x).toNat)
  case atStart => exact ⟨m, 0, ⟨h, by omega, by omega⟩, rfl, rfl, rfl⟩
  case round =>
    obtain ⟨k, j, hk, rfl, rfl, hwr⟩ := hrel
    obtain rfl := hwr
    by_cases h0 : k = 0
    · subst h0
      have e : (j : Int) = Lib.bitLen m := by have := hk.out.2.2; rw [bl_zero] at this; omega
      go_wp2
      go_ret
      exact ⟨congrArg (fun z => Ending.returned (.int .i64 z)) e, rfl⟩
    · have hp : (0 : Int) < k := by omega
      have hw1 : wrap64 ((j : Int) + 1) = (j : Int) + 1 := by have := hk.out.2.1; unfold wrap64; omega
      go_wp2
      go_roundw
      case rel =>
        obtain ⟨h1, h2, h3⟩ := hk.out
        have hb : Lib.bitLen k = 1 + Lib.bitLen (k / 2) := by
          by_cases h2 : k / 2 = 0
          · have : k = 1 := by omega
            subst this
            decide
          · obtain ⟨a1, a2, a3, a4⟩ := bl_is (k / 2) (by omega) h2
            generalize Lib.bitLen (k / 2) = n at *
            obtain ⟨n', rfl⟩ : ∃ n', n = n' + 1 := ⟨n - 1, by omega⟩
            refine bl_eq k _ h1 (by omega) ?_ ?_
            · rw [show 1 + (n' + 1) - 1 = n' + 1 by omega, Nat.pow_succ]
              rw [show n' + 1 - 1 = n' by omega] at a3
              omega
            · rw [show 1 + (n' + 1) = n' + 1 + 1 by omega, Nat.pow_succ]
              omega
        refine ⟨k / 2, j + 1, ⟨by omega, ?_, by omega⟩, by simp, by rw [hw1]; simp, trivial⟩
        have : Lib.bitLen m ≤ 64 := bl_le m 64 h (by simpa using h)
        omega
      case measure => simp [intOf]; omega

theorem nearest (m T : Nat) (more : Bool) (hT : 1 ≤ T) (hm : m < 1152921504606846976) (hT2 : T ≤ 100000) (w : World) :
    Calls Try.prog 103 #[.int .u64 (m : Int), .int .i64 (T : Int), .bool more] w fun e w' => e = .returned (.int .u64 (nsh m T more : Nat)) ∧ Below w.heap.size w w' := by
  by_cases h60 : 60 < (T : Int)
  · have e : nsh m T more = 0 := nsh_far m T more (by
      have : (2 : Nat) ^ 61 ≤ 2 ^ T := Nat.pow_le_pow_right (by omega) (by omega)
      omega)
    rw [e]
    clear hm hT hT2
    go_enter Try.func103, Try.ntmps103
    go_wp2
    go_ret
    exact ⟨rfl, Below.refl _ _⟩
  · have hp := Nat.two_pow_pos T
    obtain ⟨K, hK⟩ : ∃ K, m / 2 ^ T = K := ⟨_, rfl⟩
    obtain ⟨L, hL⟩ : ∃ L, m % 2 ^ T = L := ⟨_, rfl⟩
    obtain ⟨H, hH⟩ : ∃ H : Nat, 2 ^ (T - 1) = H := ⟨_, rfl⟩
    have hm60 : (2 : Nat) ^ T ≤ 2 ^ 60 := Nat.pow_le_pow_right (by omega) (by omega)
    have e2 : 2 ^ T = 2 * H := by rw [← hH, ← Nat.pow_succ', show (T - 1).succ = T by omega]
    have edm := Nat.div_add_mod m (2 ^ T)
    rw [hK, hL] at edm
    have f1 : (m : Int) / 2 ^ T = (K : Int) := by rw [← hK]; simp
    have f2 : IntKind.u64.wrap ((2 : Int) ^ (T - 1)) = (H : Int) := by
      rw [show (2 : Int) ^ (T - 1) = ((2 ^ (T - 1) : Nat) : Int) by simp, hH, IntKind.wrap_u64]; omega
    have f3 : IntKind.u64.wrap ((K : Int) * 2 ^ T) = (2 ^ T * K : Nat) := by
      rw [show (K : Int) * 2 ^ T = ((2 ^ T * K : Nat) : Int) by simp [Int.mul_comm], IntKind.wrap_u64]; omega
    have f4 : IntKind.u64.wrap ((m : Int) - (2 ^ T * K : Nat)) = (L : Int) := by rw [IntKind.wrap_u64]; omega
    generalize ((2 ^ T * K : Nat) : Int) = Z at f3 f4
    have g1 : IntKind.i64.wrap ((T : Int) - 1) = (T : Int) - 1 := by rw [IntKind.wrap_i64]; omega
    have g2 : min T 64 = T := by omega
    have g3 : ((T : Int) - 1).toNat = T - 1 := by omega
    have g4 : min (T - 1) 64 = T - 1 := by omega
    have g5 : 0 ≤ (T : Int) - 1 := by omega
    unfold nsh
    rw [hK, hL, e2]
    have hK1 : IntKind.u64.wrap ((K : Int) + 1) = (K : Int) + 1 := by
      have : K ≤ m := by rw [← hK]; exact Nat.div_le_self _ _
      rw [IntKind.wrap_u64]; omega
    have h60' : (T : Int) ≤ 60 := by omega
    clear edm hm60 hK hL hH hm hT hT2 hp e2 h60
    rcases Nat.lt_trichotomy H L with h | h | h
    · rw [if_pos (by omega)]
      have c1 : (H : Int) < L := by omega
      clear h
      go_enter Try.func103, Try.ntmps103
      go_wp2
      go_quiet (fail)
      go_wp2
      go_ret
      refine ⟨by simp, ?_⟩
      (repeat (first | refine Below.alloc ?_ (by first | (simp; done) | (simp; omega)) _ | refine Below.setCell ?_ (by first | (simp; done) | (simp; omega)) _ | refine bel_dN ?_ _ | refine Below.drew ?_ | exact Below.refl _ _))
    · subst h
      cases more
      · by_cases hk : K % 2 = 1
        · rw [if_pos (by omega)]
          have c1 : ((K : Int) % 2 == 1) = true := by simp; omega
          clear hk
          go_enter Try.func103, Try.ntmps103
          go_wp2
          go_quiet (fail)
          go_wp2
          go_ret
          refine ⟨by simp, ?_⟩
          (repeat (first | refine Below.alloc ?_ (by first | (simp; done) | (simp; omega)) _ | refine Below.setCell ?_ (by first | (simp; done) | (simp; omega)) _ | refine bel_dN ?_ _ | refine Below.drew ?_ | exact Below.refl _ _))
        · rw [if_neg (by simp; omega)]
          have c1 : ((K : Int) % 2 == 1) = false := by simp; omega
          clear hk
          go_enter Try.func103, Try.ntmps103
          go_wp2
          go_quiet (fail)
          go_wp2
          go_ret
          refine ⟨rfl, ?_⟩
          (repeat (first | refine Below.alloc ?_ (by first | (simp; done) | (simp; omega)) _ | refine Below.setCell ?_ (by first | (simp; done) | (simp; omega)) _ | refine bel_dN ?_ _ | refine Below.drew ?_ | exact Below.refl _ _))
      · rw [if_pos (by simp)]
        go_enter Try.func103, Try.ntmps103
        go_wp2
        go_quiet (fail)
        go_wp2
        go_ret
        refine ⟨by simp, ?_⟩
        (repeat (first | refine Below.alloc ?_ (by first | (simp; done) | (simp; omega)) _ | refine Below.setCell ?_ (by first | (simp; done) | (simp; omega)) _ | refine bel_dN ?_ _ | refine Below.drew ?_ | exact Below.refl _ _))
    · rw [if_neg (by omega)]
      have c1 : ¬ (H : Int) < L := by omega
      have c2 : ((L : Int) == H) = false := by simp; omega
      clear h
      go_enter Try.func103, Try.ntmps103
      go_wp2
      go_quiet (fail)
      go_wp2
      go_ret
      refine ⟨rfl, ?_⟩
      (repeat (first | refine Below.alloc ?_ (by first | (simp; done) | (simp; omega)) _ | refine Below.setCell ?_ (by first | (simp; done) | (simp; omega)) _ | refine bel_dN ?_ _ | refine Below.drew ?_ | exact Below.refl _ _))

end Go.Proofs.Ytnimlkobcginjaa
