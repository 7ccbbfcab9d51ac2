/-
  The library's length and trailing noughts of a number, by the contracts that the library holds for them, at this program's numbers; plain facts on both.
-/
import Derived.Test.YtnimlkobcginjaaDoorRows
import Derived.Shelf.Lays
import Derived.Shelf.Lays7
import Derived.Shelf.Strconv.Itoa0
import Derived.Shelf.Spec.TrailingZeros
import Derived.WalkKit
import Derived.Below
namespace Go.Proofs.YtnimlkobcginjaaDoor
open Go.RowKit

def lenRen : Go.Shelf.Ren := ⟨fun | 129 => 36 | n => n, fun | 3 => 3 | 4 => 4 | 5 => 5 | 9 => 9 | 46 => 55 | 53 => 23 | n => n, fun n => n⟩
theorem lenLaid : Go.Proofs.Lays.n129 Tryd.prog lenRen := {
  mixed := by kernel_rfl
  f129 := Tryd.func36.trans (congrArg some (by kernel_rfl))
  t3 := Tryd.underlying3
  a3 := Tryd.isAgg3
  z3 := Tryd.sizeOf3
  v3 := Tryd.zeroValue3
  t4 := Tryd.underlying4
  a4 := Tryd.isAgg4
  z4 := Tryd.sizeOf4
  v4 := Tryd.zeroValue4
  t5 := Tryd.underlying5
  a5 := Tryd.isAgg5
  z5 := Tryd.sizeOf5
  v5 := Tryd.zeroValue5
  t9 := Tryd.underlying9
  a9 := Tryd.isAgg9
  z9 := Tryd.sizeOf9
  v9 := Tryd.zeroValue9
  t46 := Tryd.underlying55
  a46 := Tryd.isAgg55
  z46 := Tryd.sizeOf55
  v46 := Tryd.zeroValue55
  t53 := Tryd.underlying23
  a53 := Tryd.isAgg23
  z53 := Tryd.sizeOf23
  v53 := Tryd.zeroValue23 }
theorem libLen (x : Int) (h0 : 0 ≤ x) (h1 : x ≤ 18446744073709551615) (w : World) :
    Calls Tryd.prog 36 #[.int .u64 x] w fun e w' => e = .returned (.int .i64 (Lib.bitLen x.toNat)) ∧ w' = w := Any.bits_Len64 lenLaid x w h0 h1

def tzRen : Go.Shelf.Ren := ⟨fun | 29 => 37 | n => n, fun | 0 => 0 | 3 => 3 | 4 => 4 | 5 => 5 | 22 => 23 | 25 => 55 | 54 => 62 | n => n, fun | 1 => 0 | n => n⟩
theorem tzLaid : Go.Proofs.Lays7.n29 Tryd.prog tzRen := {
  mixed := by kernel_rfl
  f29 := Tryd.func37.trans (congrArg some (by kernel_rfl))
  t0 := Tryd.underlying0
  a0 := Tryd.isAgg0
  z0 := Tryd.sizeOf0
  v0 := Tryd.zeroValue0
  i0 := by kernel_rfl
  t3 := Tryd.underlying3
  a3 := Tryd.isAgg3
  z3 := Tryd.sizeOf3
  v3 := Tryd.zeroValue3
  i3 := by kernel_rfl
  t4 := Tryd.underlying4
  a4 := Tryd.isAgg4
  z4 := Tryd.sizeOf4
  v4 := Tryd.zeroValue4
  i4 := by kernel_rfl
  t5 := Tryd.underlying5
  a5 := Tryd.isAgg5
  z5 := Tryd.sizeOf5
  v5 := Tryd.zeroValue5
  i5 := by kernel_rfl
  t22 := Tryd.underlying23
  a22 := Tryd.isAgg23
  z22 := Tryd.sizeOf23
  v22 := Tryd.zeroValue23
  i22 := by kernel_rfl
  t25 := Tryd.underlying55
  a25 := Tryd.isAgg55
  z25 := Tryd.sizeOf55
  v25 := Tryd.zeroValue55
  i25 := by kernel_rfl
  t54 := Tryd.underlying62
  a54 := Tryd.isAgg62
  z54 := Tryd.sizeOf62
  g1 := by kernel_rfl }
/-- The table lies as its initialiser lays it. -/
def Tabs (w : World) : Prop := TabAt 0 Lib.deBruijn64tab w
theorem tabs_below {w w' : World} (h : Tabs w) (hb : ∀ j, w'.cell? ⟨0, j, none⟩ = w.cell? ⟨0, j, none⟩) : Tabs w' := fun j hj => (hb j).trans (h j hj)
theorem libTz (x : Nat) (hx : x < 18446744073709551616) (w : World) (hT : Tabs w) :
    Calls Tryd.prog 37 #[.int .u64 (x : Int)] w fun e w' => e = .returned (.int .i64 (Lib.ctz 64 x)) ∧ w' = w := Any7.bits_TrailingZeros64 tzLaid x hx w (fun _ => hT)

/-- How many bits a number has. -/
theorem bl_bounds : ∀ (f x : Nat), x < 2 ^ f → x ≠ 0 → 1 ≤ Lib.bitLenAux f x ∧ Lib.bitLenAux f x ≤ f ∧ 2 ^ (Lib.bitLenAux f x - 1) ≤ x ∧ x < 2 ^ Lib.bitLenAux f x
  | 0, x, h, h0 => by simp at h; omega
  | f + 1, x, h, h0 => by
    rw [Lib.bitLenAux, if_neg h0]
    by_cases h2 : x / 2 = 0
    · have hx : x = 1 := by omega
      subst hx
      have e : Lib.bitLenAux f (1 / 2) = 0 := by cases f <;> simp [Lib.bitLenAux]
      rw [e]
      refine ⟨by omega, by omega, by decide, by decide⟩
    · have ih := bl_bounds f (x / 2) (by rw [Nat.pow_succ] at h; omega) h2
      obtain ⟨i1, i2, i3, i4⟩ := ih
      generalize Lib.bitLenAux f (x / 2) = n at *
      obtain ⟨m, rfl⟩ : ∃ m, n = m + 1 := ⟨n - 1, by omega⟩
      refine ⟨by omega, by omega, ?_, ?_⟩
      · rw [show 1 + (m + 1) - 1 = m + 1 by omega, Nat.pow_succ]
        rw [show m + 1 - 1 = m by omega] at i3
        omega
      · rw [show 1 + (m + 1) = m + 1 + 1 by omega, Nat.pow_succ]
        omega
theorem bl_exact (x k : Nat) (hk : k < 64) (h1 : x < 2 ^ (k + 1)) (h2 : x / 2 ^ k % 2 = 1) : Lib.bitLen x = k + 1 := by
  have hx : 2 ^ k ≤ x := by
    apply Nat.le_of_not_lt
    intro h
    rw [Nat.div_eq_of_lt h] at h2
    omega
  have h64 : x < 2 ^ 64 := Nat.lt_of_lt_of_le h1 (Nat.pow_le_pow_right (by omega) (by omega))
  have hp : 0 < 2 ^ k := Nat.two_pow_pos k
  obtain ⟨b1, b2, b3, b4⟩ := bl_bounds 64 x h64 (by omega)
  have e : Lib.bitLen x = Lib.bitLenAux 64 x := rfl
  rw [e]
  generalize Lib.bitLenAux 64 x = n at *
  have c1 : k < n := (Nat.pow_lt_pow_iff_right (a := 2) (by omega)).1 (Nat.lt_of_le_of_lt hx b4)
  have c2 : n - 1 < k + 1 := (Nat.pow_lt_pow_iff_right (a := 2) (by omega)).1 (Nat.lt_of_le_of_lt b3 h1)
  omega
theorem bl_zero : Lib.bitLen 0 = 0 := rfl
theorem ctz_exact : ∀ (f k x : Nat), k < f → x % 2 ^ k = 0 → x / 2 ^ k % 2 = 1 → Lib.ctzFrom f x = k
  | 0, k, x, h, _, _ => by omega
  | f + 1, 0, x, h, h1, h2 => by
    rw [Lib.ctzFrom, if_pos (by simpa using h2)]
  | f + 1, k + 1, x, h, h1, h2 => by
    have e1 : x % 2 = 0 := by
      have := Nat.mod_mod_of_dvd x (show 2 ∣ 2 ^ (k + 1) from ⟨2 ^ k, by rw [Nat.pow_succ']⟩)
      rw [h1] at this
      omega
    rw [Lib.ctzFrom, if_neg (by omega), ctz_exact f k (x / 2) (by omega) ?_ ?_]
    · omega
    · have := Nat.mod_mul_right_div_self (m := x) (n := 2) (k := 2 ^ k)
      rw [← this, ← Nat.pow_succ', h1]
    · rw [Nat.div_div_eq_div_mul, ← Nat.pow_succ']; exact h2

end Go.Proofs.YtnimlkobcginjaaDoor
