/-
  Unary of the other side.
-/
import Derived.Test.YtnimlkobcginjaaDoorIWid
import Derived.Test.YtnimlkobcginjaaDoorIULib
import Derived.Test.YtnimlkobcginjaaDoorIPopM
import Derived.Test.YtnimlkobcginjaaDoorIUSpecA
namespace Go.Proofs.YtnimlkobcginjaaDoor
open Go.RowKit

set_option maxHeartbeats 1000000 in
theorem us_clz (b a z : Int) (hb : b = 32 ∨ b = 64) (a0 : 0 ≤ a) (a1 : a ≤ 18446744073709551615) (x : Nat) (hx : cutW b a = x) (hxl : Hid (x < 2 ^ b.toNat ∧ x < 18446744073709551616)) (hz : Hid (b - (Lib.bitLen x : Int) = z)) (w : World) :
    Calls Tryd.prog 21 #[.int .i64 b, .int .i64 22, .int .u64 a] w fun e w' => e = .returned (.tuple #[.int .u64 (cutW b z), .int .i64 0]) ∧ w' = w := by
  have hb1 : wrap64 (b - 1) = b - 1 := by unfold wrap64; omega
  have HB : Hid (b = 32 ∨ b = 64) := hb
  go_enter Tryd.func21, Tryd.ntmps21
  go_wp2_with (go_at_call 24; refine (maskC _ _ hb (by assumption) (by assumption) _).mono ?_; rintro e w' ⟨rfl, hw⟩; obtain rfl := hw.symm)
  go_loop [8, 9] (fun p c => ∃ (n j : Int) (m : Nat), j = m - 1 ∧ (m : Int) ≤ b ∧ n = b - m ∧ Hid (x < 2 ^ m) ∧ p = .int .u64 n ∧ c = .int .i64 j) (fun _ c => (intOf c + 1).toNat)
  case atStart => exact ⟨0, b - 1, b.toNat, by omega, by omega, by omega, hxl.out.1, rfl, rfl⟩
  case round =>
    obtain ⟨n, j, m, hj, hm, hn, I, rfl, rfl⟩ := hrel
    have hxs := hxl.out.2
    have n0 : 0 ≤ n := by omega
    have n1 : n ≤ 18446744073709551615 := by omega
    by_cases h0 : 0 ≤ j
    · obtain ⟨k, rfl⟩ : ∃ k, m = k + 1 := ⟨m - 1, by omega⟩
      obtain rfl : j = k := by omega
      have hp : (0 : Int) < 2 ^ k := Int.pow_pos (by omega)
      have l0 : 0 ≤ (x : Int) / 2 ^ k := Int.ediv_nonneg (by omega) (Int.le_of_lt hp)
      have l1 : (x : Int) / 2 ^ k ≤ x := Int.ediv_le_self _ (by omega)
      have hc : (x : Int) / 2 ^ k = ((x / 2 ^ k : Nat) : Int) := by simp
      obtain ⟨t, ht⟩ : ∃ t : Nat, x / 2 ^ k % 2 = t := ⟨_, rfl⟩
      have ha : bits .and .u64 ((x : Int) / 2 ^ k) 1 = (t : Int) := (and_one' _ l0 (by omega)).trans (by rw [hc, ← ht]; simp)
      have hkw : IntKind.u64.wrap (k : Int) = k := by rw [IntKind.wrap_u64]; omega
      have hmin : min k 64 = k := by omega
      clear l0 l1 hp hc
      by_cases h2 : t = 0
      · subst h2
        have J : Hid (x < 2 ^ k) := by
          have i := I.out
          have hp : 0 < 2 ^ k := Nat.two_pow_pos k
          rw [Nat.pow_succ] at i
          apply Nat.lt_of_not_le
          intro hle
          have e : x / 2 ^ k = 1 := by
            apply Nat.div_eq_of_lt_le
            · omega
            · omega
          rw [e] at ht
          omega
        have hn1 : IntKind.u64.wrap (n + 1) = n + 1 := by rw [IntKind.wrap_u64]; omega
        have hk1 : wrap64 ((k : Int) - 1) = k - 1 := by unfold wrap64; omega
        have hkb : (k : Int) ≤ b := by omega
        have hnk : Hid (n + 1 = b - k) := by unfold Hid; omega
        clear hxs ht I hj hm hn n0 n1
        go_wp2
        go_round
        case rel => exact ⟨_, _, k, rfl, hkb, hnk.out, J, rfl, rfl⟩
        case measure => simp [intOf]
      · have kt : ((t : Int) == 0) = false := by simp; omega
        have e := bl_exact x k (by omega) I.out (by omega)
        have hr : b - (Lib.bitLen x : Int) = n := by rw [e]; omega
        obtain rfl := hr.symm.trans hz.out
        clear hz hxs ht I hj hm hn hr e
        go_wp2_with (go_at_call 24; refine (maskC _ _ hb (by assumption) (by assumption) _).mono ?_; rintro e w' ⟨rfl, hw⟩; obtain rfl := hw.symm)
        go_ret2
        exact ⟨rfl, rfl⟩
    · obtain rfl : j = -1 := by omega
      obtain rfl : m = 0 := by omega
      have hx0 : x = 0 := by have := I.out; simpa using this
      have hr : b - (Lib.bitLen x : Int) = n := by rw [hx0, bl_zero]; omega
      obtain rfl := hr.symm.trans hz.out
      clear hz hxs I hj hm hn h0 hr hx0
      go_wp2_with (go_at_call 24; refine (maskC _ _ hb (by assumption) (by assumption) _).mono ?_; rintro e w' ⟨rfl, hw⟩; obtain rfl := hw.symm)
      go_ret2
      exact ⟨rfl, rfl⟩

end Go.Proofs.YtnimlkobcginjaaDoor
