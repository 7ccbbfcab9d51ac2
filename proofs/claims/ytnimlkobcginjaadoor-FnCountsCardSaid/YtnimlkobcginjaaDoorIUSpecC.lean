/-
  Unary of the other side.
-/
import Derived.Test.YtnimlkobcginjaaDoorIWid
import Derived.Test.YtnimlkobcginjaaDoorIULib
import Derived.Test.YtnimlkobcginjaaDoorIPopM
import Derived.Test.YtnimlkobcginjaaDoorIUSpecA
namespace Go.Proofs.YtnimlkobcginjaaDoor
open Go.RowKit

set_option maxHeartbeats 1000000 in
theorem us_ctz (b a z : Int) (hb : b = 32 ∨ b = 64) (a0 : 0 ≤ a) (a1 : a ≤ 18446744073709551615) (x : Nat) (hx : cutW b a = x) (hxl : Hid (x < 2 ^ b.toNat ∧ x < 18446744073709551616)) (hz : Hid (min b (Lib.ctz 64 x : Int) = z)) (w : World) :
    Calls Tryd.prog 21 #[.int .i64 b, .int .i64 23, .int .u64 a] w fun e w' => e = .returned (.tuple #[.int .u64 (cutW b z), .int .i64 0]) ∧ w' = w := by
  have HB : Hid (b = 32 ∨ b = 64) := hb
  go_enter Tryd.func21, Tryd.ntmps21
  go_wp2_with (go_at_call 24; refine (maskC _ _ hb (by assumption) (by assumption) _).mono ?_; rintro e w' ⟨rfl, hw⟩; obtain rfl := hw.symm)
  go_loop [8, 10] (fun p c => ∃ (n : Int) (k : Nat), (k : Int) ≤ b ∧ Hid (n = k) ∧ Hid (x % 2 ^ k = 0) ∧ p = .int .u64 n ∧ c = .int .i64 (k : Int)) (fun _ c => (b - intOf c).toNat)
  case atStart => exact ⟨0, 0, by omega, rfl, by unfold Hid; simp [Nat.mod_one], rfl, rfl⟩
  case round =>
    obtain ⟨n, k, hm, N, I, rfl, rfl⟩ := hrel
    have hn := N.out
    have hxs := hxl.out.2
    have n0 : 0 ≤ n := by omega
    have n1 : n ≤ 18446744073709551615 := by omega
    by_cases h0 : (k : Int) < b
    · skip
      have hp : (0 : Int) < 2 ^ k := Int.pow_pos (by omega)
      have l0 : 0 ≤ (x : Int) / 2 ^ k := Int.ediv_nonneg (by omega) (Int.le_of_lt hp)
      have l1 : (x : Int) / 2 ^ k ≤ x := Int.ediv_le_self _ (by omega)
      have hc : (x : Int) / 2 ^ k = ((x / 2 ^ k : Nat) : Int) := by simp
      obtain ⟨t, ht⟩ : ∃ t : Nat, x / 2 ^ k % 2 = t := ⟨_, rfl⟩
      have ha : bits .and .u64 ((x : Int) / 2 ^ k) 1 = (t : Int) := (and_one' _ l0 (by omega)).trans (by rw [hc, ← ht]; simp)
      have hkw : IntKind.u64.wrap (k : Int) = k := by rw [IntKind.wrap_u64]; omega
      have hmin : min k 64 = k := by omega
      clear l0 l1 hp hc
      by_cases h2 : t = 0
      · subst h2
        have J : Hid (x % 2 ^ (k + 1) = 0) := by
          have i := I.out
          have e := Nat.mod_mul (x := x) (a := 2 ^ k) (b := 2)
          unfold Hid
          rw [Nat.pow_succ, e, i, ht, Nat.mul_zero]
        have hn1 : IntKind.u64.wrap (n + 1) = n + 1 := nearU _ (by clear ht ha; omega) (by have := bits_le hb; clear ht ha; omega)
        have N2 : Hid (n + 1 = ((k + 1 : Nat) : Int)) := by unfold Hid; clear ht ha; omega
        have hk1 : wrap64 ((k : Int) + 1) = (k : Int) + 1 := near64 _ (by omega) (by have := bits_le hb; clear ht ha; omega)
        have hkb : Hid (((k + 1 : Nat) : Int) ≤ b) := by unfold Hid; clear ht ha; omega
        clear hxs ht I hm n0 n1 hn N hb a0 a1 hx hxl hz HB
        go_wp2
        go_round
        case rel => exact ⟨_, k + 1, hkb.out, N2, J, rfl, rfl⟩
        case measure => clear ha; simp [intOf]; omega
      · have kt : ((t : Int) == 0) = false := by simp; omega
        have hx0 : x ≠ 0 := by
          intro h
          rw [h] at ht
          simp at ht
          omega
        have e := ctz_exact 64 k x (by omega) I.out (by omega)
        have hr : min b (Lib.ctz 64 x : Int) = n := by
          rw [Lib.ctz, if_neg hx0, e]
          omega
        obtain rfl := hr.symm.trans hz.out
        clear hz hxs ht I hm hr e hx0 hn N hb a0 a1 hx hxl
        go_wp2_with (go_at_call 24; refine (maskC _ _ HB.out (by assumption) (by assumption) _).mono ?_; rintro e w' ⟨rfl, hw⟩; obtain rfl := hw.symm)
        go_ret2
        exact ⟨rfl, rfl⟩
    · have hkb : (k : Int) = b := by omega
      have hx0 : x = 0 := by
        have h1 := hxl.out.1
        have h2 := I.out
        rw [show b.toNat = k by omega] at h1
        rwa [Nat.mod_eq_of_lt h1] at h2
      have hr : min b (Lib.ctz 64 x : Int) = n := by
        rw [hx0]
        have : Lib.ctz 64 0 = 64 := rfl
        rw [this]
        omega
      obtain rfl := hr.symm.trans hz.out
      clear hz hxs I hm hr hx0 hkb hn N hb a0 a1 hx hxl
      go_wp2_with (go_at_call 24; refine (maskC _ _ HB.out (by assumption) (by assumption) _).mono ?_; rintro e w' ⟨rfl, hw⟩; obtain rfl := hw.symm)
      go_ret2
      exact ⟨rfl, rfl⟩

end Go.Proofs.YtnimlkobcginjaaDoor
