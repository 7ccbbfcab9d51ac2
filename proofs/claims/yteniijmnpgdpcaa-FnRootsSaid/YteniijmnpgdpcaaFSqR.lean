/-
  The law's root, bit by bit.
-/
import Derived.Test.YteniijmnpgdpcaaFSqM
import Derived.Test.YteniijmnpgdpcaaIOrs
import Derived.Test.YteniijmnpgdpcaaFBase
import Derived.Deep.DeepCutAuto
namespace Go.Proofs.Yteniijmnpgdpcaa
open Go.RowKit

theorem rootBit (k j r : Nat) (hr : r = k * 2 ^ (j + 1)) (h1 : r < 1073741824) (hj : j ≤ 30) : bits .or .u64 (r : Int) ((2 ^ j : Nat) : Int) = ((r + 2 ^ j : Nat) : Int) := by
  have hp : 2 ^ j ≤ 2 ^ 30 := Nat.pow_le_pow_right (by omega) hj
  have hlt : 2 ^ j < 2 ^ (j + 1) := Nat.pow_lt_pow_right (by omega) (by omega)
  rw [or_nat _ _ (by omega) (by omega)]
  have e := (Nat.two_pow_add_eq_or_of_lt (i := j + 1) (b := 2 ^ j) hlt k).symm
  rw [Nat.mul_comm (2 ^ (j + 1)) k, ← hr] at e
  rw [e]

/-- Where the law's root stands: the bits below i are to come. -/
def RootAt (m i r : Nat) : Prop := i ≤ 31 ∧ (∃ k, r = k * 2 ^ i) ∧ r * r ≤ m ∧ m < (r + 2 ^ i) * (r + 2 ^ i)

theorem RootAt.yes {m j r : Nat} (h : RootAt m (j + 1) r) (hx : (r + 2 ^ j) * (r + 2 ^ j) ≤ m) : RootAt m j (r + 2 ^ j) := by
  obtain ⟨a, ⟨k, b⟩, c, d⟩ := h
  refine ⟨by omega, ⟨2 * k + 1, ?_⟩, hx, ?_⟩
  · rw [b, Nat.add_mul, Nat.one_mul, Nat.pow_succ, Nat.mul_comm (2 ^ j) 2, ← Nat.mul_assoc, Nat.mul_comm k 2]
  · rw [show r + 2 ^ j + 2 ^ j = r + 2 ^ (j + 1) by rw [Nat.pow_succ]; omega]
    exact d
theorem RootAt.no {m j r : Nat} (h : RootAt m (j + 1) r) (hx : m < (r + 2 ^ j) * (r + 2 ^ j)) : RootAt m j r := by
  obtain ⟨a, ⟨k, b⟩, c, d⟩ := h
  refine ⟨by omega, ⟨2 * k, ?_⟩, c, hx⟩
  rw [b, Nat.pow_succ, Nat.mul_comm (2 ^ j) 2, ← Nat.mul_assoc, Nat.mul_comm k 2]

theorem l4RootS (m : Nat) (hm : m < 1152921504606846976) (w : World) :
    Calls Try.prog 66 #[.int .u64 (m : Int)] w fun e w' => (∃ s : Nat, s * s ≤ m ∧ m < (s + 1) * (s + 1) ∧ e = .returned (.int .u64 (s : Int))) ∧ w' = w := by
  have HM : Hid (m < 1152921504606846976) := hm
  have H0 : Hid (RootAt m 31 0) := ⟨by omega, ⟨0, by omega⟩, by omega, by simp; omega⟩
  clear hm
  go_enter Try.func66, Try.ntmps66
  go_wp2
  go_loopw [3, 4] (fun x y wr => ∃ (i r : Nat), Hid (RootAt m i r) ∧ x = .int .u64 (r : Int) ∧ y = .int .u64 ((2 ^ i / 2 : Nat) : Int) ∧ wr = w) (fun _ y _ => (intOf y).toNat)
  case atStart => exact ⟨31, 0, H0, rfl, rfl, rfl⟩
  case round =>
    obtain ⟨i, r, hk, rfl, rfl, hwr⟩ := hrel
    obtain rfl := hwr
    rcases i with _ | j
    · have hz : ((2 ^ 0 / 2 : Nat) : Int) = 0 := by decide
      rw [hz]
      go_wp2
      go_ret
      refine ⟨⟨r, hk.out.2.2.1, ?_, rfl⟩, rfl⟩
      have h := hk.out.2.2.2
      simpa using h
    · have hz : 2 ^ (j + 1) / 2 = 2 ^ j := by rw [Nat.pow_succ]; omega
      rw [hz]
      obtain ⟨hj, ⟨k, hkr⟩, hrr, hup⟩ := hk.out
      have hr30 : r < 1073741824 := root_down m r 1073741824 (by have := HM.out; omega) hrr
      have hor := rootBit k j r hkr hr30 (by omega)
      have hp : 2 ^ j ≤ 2 ^ 30 := Nat.pow_le_pow_right (by omega) (by omega)
      have hp0 := Nat.two_pow_pos j
      have YES : (r + 2 ^ j) * (r + 2 ^ j) ≤ m → Hid (RootAt m j (r + 2 ^ j)) := fun h => hk.out.yes h
      have NO : m < (r + 2 ^ j) * (r + 2 ^ j) → Hid (RootAt m j r) := fun h => hk.out.no h
      have hs2 : ((2 ^ j : Nat) : Int) / 2 = ((2 ^ j / 2 : Nat) : Int) := by omega
      have HL : Hid (2 ^ j / 2 < 2 ^ j) := by unfold Hid; omega
      obtain ⟨b, hb⟩ : ∃ b, 2 ^ j = b := ⟨_, rfl⟩
      obtain ⟨x, hx⟩ : ∃ x, r + 2 ^ j = x := ⟨_, rfl⟩
      have hx31 : x ≤ 2147483648 := by omega
      rw [hx] at YES NO hor
      rw [hb] at hs2 hor ⊢
      have hxx : x * x ≤ 2147483648 * 2147483648 := Nat.mul_le_mul hx31 hx31
      have hsq : IntKind.u64.wrap ((x : Int) * (x : Int)) = ((x * x : Nat) : Int) := by
        rw [show (x : Int) * (x : Int) = ((x * x : Nat) : Int) by simp, IntKind.wrap_u64]; omega
      have hb0 : (0 : Int) < (b : Int) := by omega
      obtain ⟨z, hz2⟩ : ∃ z, b / 2 = z := ⟨_, rfl⟩
      rw [hz2] at hs2
      have HZ : Hid (z < b ∧ 2 ^ j / 2 = z) := ⟨by have := HL.out; rw [hb, hz2] at this; exact this, by rw [hb, hz2]⟩
      obtain ⟨X, hX⟩ : ∃ X, x * x = X := ⟨_, rfl⟩
      rw [hX] at hsq YES NO
      clear hkr hrr hup hr30 hp hp0 hb hx hxx hx31 hX HL hz hz2 hk hj
      by_cases hc : X ≤ m
      · have hc' : (X : Int) ≤ (m : Int) := by omega
        have Y := YES hc
        clear YES NO hc
        go_wp2
        go_roundw
        case rel => exact ⟨j, x, Y, rfl, by rw [HZ.out.2], by trivial⟩
        case measure => have := HZ.out.1; simp only [intOf]; omega
      · have hc' : ¬ (X : Int) ≤ (m : Int) := by omega
        have Y := NO (by omega)
        clear YES NO hc
        go_wp2
        go_roundw
        case rel => exact ⟨j, r, Y, rfl, by rw [HZ.out.2], by trivial⟩
        case measure => have := HZ.out.1; simp only [intOf]; omega

end Go.Proofs.Yteniijmnpgdpcaa
