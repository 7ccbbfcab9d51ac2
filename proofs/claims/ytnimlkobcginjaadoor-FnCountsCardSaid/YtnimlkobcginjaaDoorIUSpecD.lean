/-
  Unary of the other side.
-/
import Derived.Test.YtnimlkobcginjaaDoorIWid
import Derived.Test.YtnimlkobcginjaaDoorIULib
import Derived.Test.YtnimlkobcginjaaDoorIPopM
import Derived.Test.YtnimlkobcginjaaDoorIUSpecA
namespace Go.Proofs.YtnimlkobcginjaaDoor
open Go.RowKit

set_option maxHeartbeats 1000000 in
theorem us_popcnt (b a z : Int) (hb : b = 32 ∨ b = 64) (a0 : 0 ≤ a) (a1 : a ≤ 18446744073709551615) (x : Nat) (hx : cutW b a = x) (hxl : Hid (x < 18446744073709551616)) (hz : Hid (((pc b.toNat x : Nat) : Int) = z)) (w : World) :
    Calls Tryd.prog 21 #[.int .i64 b, .int .i64 24, .int .u64 a] w fun e w' => e = .returned (.tuple #[.int .u64 (cutW b z), .int .i64 0]) ∧ w' = w := by
  have HB : Hid (b = 32 ∨ b = 64) := hb
  go_enter Tryd.func21, Tryd.ntmps21
  go_wp2_with (go_at_call 24; refine (maskC _ _ hb (by assumption) (by assumption) _).mono ?_; rintro e w' ⟨rfl, hw⟩; obtain rfl := hw.symm)
  go_loop [8, 11] (fun p c => ∃ (k : Nat) (n : Int), (k : Int) ≤ b ∧ Hid (0 ≤ n ∧ n ≤ k ∧ n + (pc (b.toNat - k) (x / 2 ^ k) : Int) = pc b.toNat x) ∧ p = .int .u64 n ∧ c = .int .i64 (k : Int)) (fun _ c => (b - intOf c).toNat)
  case atStart => exact ⟨0, 0, by omega, by unfold Hid; simp, rfl, rfl⟩
  case round =>
    obtain ⟨k, n, hm, I, rfl, rfl⟩ := hrel
    have hn0 := I.out.1
    have hn := I.out.2.1
    have hxs := hxl.out
    have n0 : 0 ≤ n := by omega
    have n1 : n ≤ 18446744073709551615 := by omega
    by_cases h0 : (k : Int) < b
    · have hb64 := bits_le hb
      have HN : ∀ u : Int, 0 ≤ u → u ≤ 1 → IntKind.u64.wrap (n + u) = n + u := fun u u0 u1 => nearU _ (by omega) (by omega)
      have hk1 : wrap64 ((k : Int) + 1) = (k : Int) + 1 := near64 _ (by omega) (by omega)
      have hkb : Hid (((k + 1 : Nat) : Int) ≤ b) := by unfold Hid; omega
      have hp : (0 : Int) < 2 ^ k := Int.pow_pos (by omega)
      have l0 : 0 ≤ (x : Int) / 2 ^ k := Int.ediv_nonneg (by omega) (Int.le_of_lt hp)
      have l1 : (x : Int) / 2 ^ k ≤ x := Int.ediv_le_self _ (by omega)
      have hc : (x : Int) / 2 ^ k = ((x / 2 ^ k : Nat) : Int) := by simp
      obtain ⟨t, ht⟩ : ∃ t : Nat, x / 2 ^ k % 2 = t := ⟨_, rfl⟩
      have ha : bits .and .u64 ((x : Int) / 2 ^ k) 1 = (t : Int) := (and_one' _ l0 (by omega)).trans (by rw [hc, ← ht]; simp)
      have hkw : IntKind.u64.wrap (k : Int) = k := by rw [IntKind.wrap_u64]; omega
      have hmin : min k 64 = k := by omega
      clear l0 l1 hp hc
      have ht2 : t ≤ 1 := by omega
      have J : Hid (0 ≤ n + t ∧ n + t ≤ ((k + 1 : Nat) : Int) ∧ n + t + (pc (b.toNat - (k + 1)) (x / 2 ^ (k + 1)) : Int) = pc b.toNat x) := by
        have i := I.out.2.2
        obtain ⟨g, hg⟩ : ∃ g, b.toNat - k = g + 1 := ⟨b.toNat - k - 1, by omega⟩
        rw [hg] at i
        have e : pc (g + 1) (x / 2 ^ k) = x / 2 ^ k % 2 + pc g (x / 2 ^ (k + 1)) := by
          rw [pc, Nat.div_div_eq_div_mul, ← Nat.pow_succ]
        rw [e, ht] at i
        refine ⟨by omega, by omega, ?_⟩
        rw [show b.toNat - (k + 1) = g by omega]
        omega
      obtain ⟨u, hu⟩ : ∃ u : Int, (t : Int) = u := ⟨_, rfl⟩
      rw [hu] at ha J
      have hn1 := HN u (by omega) (by omega)
      clear hxs ht I hm n0 n1 ht2 hn hn0 hu hb a0 a1 hx hxl hz HB HN hb64
      go_wp2
      go_round
      case rel => exact ⟨k + 1, n + u, hkb.out, J, rfl, rfl⟩
      case measure => clear ha; simp [intOf]; omega
    · have hr : ((pc b.toNat x : Nat) : Int) = n := by
        have i := I.out.2.2
        rw [show b.toNat - k = 0 by omega, pc] at i
        omega
      obtain rfl := hr.symm.trans hz.out
      clear hz hxs I hm hr hn hn0 hb a0 a1 hx hxl
      go_wp2_with (go_at_call 24; refine (maskC _ _ HB.out (by assumption) (by assumption) _).mono ?_; rintro e w' ⟨rfl, hw⟩; obtain rfl := hw.symm)
      go_ret2
      exact ⟨rfl, rfl⟩

end Go.Proofs.YtnimlkobcginjaaDoor
