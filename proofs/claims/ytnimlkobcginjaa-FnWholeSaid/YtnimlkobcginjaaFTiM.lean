/-
  FToInt: what is held, and a float opened again that was rounded of a whole number.
-/
import Derived.Test.YtnimlkobcginjaaFRndS
import Derived.Test.YtnimlkobcginjaaFFv
namespace Go.Proofs.Ytnimlkobcginjaa
open Go.RowKit

/-- What has its place in the bits. -/
def hol (T M : Int) (neg : Bool) (V : Int) (sg : Bool) : Bool := match sg, neg with
  | true, true => decide (V ≤ T)
  | true, false => decide (V < T)
  | false, true => V == 0
  | false, false => decide (V < M)
/-- What FToInt answers. -/
def toi (T M : Int) (neg : Bool) (V : Int) (sg : Bool) : Value := if hol T M neg V sg = true then .tuple #[.int .u64 ((if neg = true then -V else V) % M), .int .i64 0] else .tuple #[.int .u64 0, .int .i64 2]
def tooGreat : Value := .tuple #[.int .u64 0, .int .i64 2]

/-- The size of what a float means, towards nought. -/
def sizeOf (m : Nat) (e : Int) : Nat := if 0 ≤ e then m * 2 ^ e.toNat else m / 2 ^ (-e).toNat

/-- A number that needs no rounding, as it is told. -/
theorem told_exact16 (m : Nat) (e : Int) (hm : m ≠ 0) (hb : m < 2 * 1024) (h0 : (-24) ≤ e + Lib.bitLen m - 10 - 1) :
    toldOf 10 (-24) m e false = ((e + Lib.bitLen m - 10 - 1 - (-24)).toNat) * 1024 + m * 2 ^ (10 + 1 - Lib.bitLen m) ∧ 1024 ≤ m * 2 ^ (10 + 1 - Lib.bitLen m) ∧ m * 2 ^ (10 + 1 - Lib.bitLen m) < 2 * 1024 ∧ 1 ≤ Lib.bitLen m ∧ Lib.bitLen m ≤ 10 + 1 := by
  obtain ⟨l1, _, l3, l4⟩ := bl_is m (by omega) hm
  have l5 : Lib.bitLen m ≤ 10 + 1 := bl_le m (10 + 1) (by omega) (by rw [show (2 : Nat) ^ (10 + 1) = 2 * 1024 by decide]; exact hb)
  have e1 : lastOf 10 (-24) m e = e + Lib.bitLen m - 10 - 1 := by unfold lastOf; omega
  have e2 : keptOf 10 (-24) m e false = m * 2 ^ (10 + 1 - Lib.bitLen m) := by
    unfold keptOf
    rw [e1]
    rw [if_neg (by omega), show (e - (e + (Lib.bitLen m : Int) - 10 - 1)).toNat = 10 + 1 - Lib.bitLen m by omega]
  have g1 : 2 ^ 10 ≤ m * 2 ^ (10 + 1 - Lib.bitLen m) := by
    have h := Nat.mul_le_mul_right (2 ^ (10 + 1 - Lib.bitLen m)) l3
    rw [← Nat.pow_add, show Lib.bitLen m - 1 + (10 + 1 - Lib.bitLen m) = 10 by omega] at h
    exact h
  have g2 : m * 2 ^ (10 + 1 - Lib.bitLen m) < 2 ^ (10 + 1) := by
    have h := Nat.mul_lt_mul_of_pos_right l4 (Nat.two_pow_pos (10 + 1 - Lib.bitLen m))
    rw [← Nat.pow_add, show Lib.bitLen m + (10 + 1 - Lib.bitLen m) = 10 + 1 by omega] at h
    exact h
  refine ⟨?_, by rw [show (1024 : Nat) = 2 ^ 10 by decide]; exact g1, by rw [show (2 * 1024 : Nat) = 2 ^ (10 + 1) by decide]; exact g2, l1, l5⟩
  unfold toldOf
  rw [if_neg hm, e1, e2, show (2 : Nat) ^ 10 = 1024 by decide]

/-- A number that needs no rounding, as it is told. -/
theorem told_exact32 (m : Nat) (e : Int) (hm : m ≠ 0) (hb : m < 2 * 8388608) (h0 : (-149) ≤ e + Lib.bitLen m - 23 - 1) :
    toldOf 23 (-149) m e false = ((e + Lib.bitLen m - 23 - 1 - (-149)).toNat) * 8388608 + m * 2 ^ (23 + 1 - Lib.bitLen m) ∧ 8388608 ≤ m * 2 ^ (23 + 1 - Lib.bitLen m) ∧ m * 2 ^ (23 + 1 - Lib.bitLen m) < 2 * 8388608 ∧ 1 ≤ Lib.bitLen m ∧ Lib.bitLen m ≤ 23 + 1 := by
  obtain ⟨l1, _, l3, l4⟩ := bl_is m (by omega) hm
  have l5 : Lib.bitLen m ≤ 23 + 1 := bl_le m (23 + 1) (by omega) (by rw [show (2 : Nat) ^ (23 + 1) = 2 * 8388608 by decide]; exact hb)
  have e1 : lastOf 23 (-149) m e = e + Lib.bitLen m - 23 - 1 := by unfold lastOf; omega
  have e2 : keptOf 23 (-149) m e false = m * 2 ^ (23 + 1 - Lib.bitLen m) := by
    unfold keptOf
    rw [e1]
    rw [if_neg (by omega), show (e - (e + (Lib.bitLen m : Int) - 23 - 1)).toNat = 23 + 1 - Lib.bitLen m by omega]
  have g1 : 2 ^ 23 ≤ m * 2 ^ (23 + 1 - Lib.bitLen m) := by
    have h := Nat.mul_le_mul_right (2 ^ (23 + 1 - Lib.bitLen m)) l3
    rw [← Nat.pow_add, show Lib.bitLen m - 1 + (23 + 1 - Lib.bitLen m) = 23 by omega] at h
    exact h
  have g2 : m * 2 ^ (23 + 1 - Lib.bitLen m) < 2 ^ (23 + 1) := by
    have h := Nat.mul_lt_mul_of_pos_right l4 (Nat.two_pow_pos (23 + 1 - Lib.bitLen m))
    rw [← Nat.pow_add, show Lib.bitLen m + (23 + 1 - Lib.bitLen m) = 23 + 1 by omega] at h
    exact h
  refine ⟨?_, by rw [show (8388608 : Nat) = 2 ^ 23 by decide]; exact g1, by rw [show (2 * 8388608 : Nat) = 2 ^ (23 + 1) by decide]; exact g2, l1, l5⟩
  unfold toldOf
  rw [if_neg hm, e1, e2, show (2 : Nat) ^ 23 = 8388608 by decide]

/-- It is opened as it was told. -/
theorem openExact16 (sg : Bool) (m : Nat) (e : Int) (hm : m ≠ 0) (hb : m < 2 * 1024) (h0 : (-24) ≤ e + Lib.bitLen m - 10 - 1) (h1 : e + Lib.bitLen m - 10 - 1 ≤ 31 + (-24) - 2) (w : World) :
    Calls Try.prog 82 #[(.agg #[.int .u64 5, .int .u64 10]), .int .u32 (sg.toNat * 32768 + ((min (toldOf 10 (-24) m e false) 31744 : Nat) : Int))] w fun x w' => x = .returned (.agg #[.bool sg, .bool false, .bool false, .int .u64 ((m * 2 ^ (10 + 1 - Lib.bitLen m) : Nat) : Int), .int .i64 (e + Lib.bitLen m - 10 - 1)]) ∧ Below w.heap.size w w' := by
  obtain ⟨t, k1, k2, l1, l2⟩ := told_exact16 m e hm hb h0
  rw [t]
  generalize m * 2 ^ (10 + 1 - Lib.bitLen m) = K at *
  obtain ⟨D, hD⟩ : ∃ D : Nat, (e + Lib.bitLen m - 10 - 1 - (-24)).toNat = D := ⟨_, rfl⟩
  have hD2 : e + (Lib.bitLen m : Int) - 10 - 1 = D + (-24) := by omega
  rw [hD, hD2]
  have hD3 : D ≤ 31 - 2 := by omega
  have hmin : min (D * 1024 + K) 31744 = D * 1024 + K := by omega
  rw [hmin]
  clear hD hD2 t hmin h0 h1 hb
  obtain ⟨b, b0, b1, b2⟩ : ∃ b : Int, 0 ≤ b ∧ b ≤ 1 ∧ (sg.toNat : Int) = b := ⟨_, by cases sg <;> decide, by cases sg <;> decide, rfl⟩
  have hs : (b == 1) = sg := by rw [← b2]; cases sg <;> rfl
  rw [b2]
  obtain ⟨A, hA⟩ : ∃ A : Int, b * 32768 + ((D * 1024 + K : Nat) : Int) = A := ⟨_, rfl⟩
  rw [hA]
  have hO := open16 A (by omega) (by omega) w
  have x1 : A / 1024 % 32 = D + 1 := by omega
  have x2 : A % 1024 = K - 1024 := by omega
  have x3 : A / 32768 % 2 = b := by omega
  have y1 : cl16 A = 0 := by unfold cl16; rw [x1, if_neg (by omega)]
  have y2 : vm16 A = K := by unfold vm16; rw [x1, x2, if_neg (by omega), if_neg (by omega)]; omega
  have y3 : ve16 A = D + (-24) := by unfold ve16; rw [x1, if_neg (by omega), if_neg (by omega)]; omega
  rw [y1, y2, y3, x3, hs] at hO
  exact hO

/-- It is opened as it was told. -/
theorem openExact32 (sg : Bool) (m : Nat) (e : Int) (hm : m ≠ 0) (hb : m < 2 * 8388608) (h0 : (-149) ≤ e + Lib.bitLen m - 23 - 1) (h1 : e + Lib.bitLen m - 23 - 1 ≤ 255 + (-149) - 2) (w : World) :
    Calls Try.prog 82 #[(.agg #[.int .u64 8, .int .u64 23]), .int .u32 (sg.toNat * 2147483648 + ((min (toldOf 23 (-149) m e false) 2139095040 : Nat) : Int))] w fun x w' => x = .returned (.agg #[.bool sg, .bool false, .bool false, .int .u64 ((m * 2 ^ (23 + 1 - Lib.bitLen m) : Nat) : Int), .int .i64 (e + Lib.bitLen m - 23 - 1)]) ∧ Below w.heap.size w w' := by
  obtain ⟨t, k1, k2, l1, l2⟩ := told_exact32 m e hm hb h0
  rw [t]
  generalize m * 2 ^ (23 + 1 - Lib.bitLen m) = K at *
  obtain ⟨D, hD⟩ : ∃ D : Nat, (e + Lib.bitLen m - 23 - 1 - (-149)).toNat = D := ⟨_, rfl⟩
  have hD2 : e + (Lib.bitLen m : Int) - 23 - 1 = D + (-149) := by omega
  rw [hD, hD2]
  have hD3 : D ≤ 255 - 2 := by omega
  have hmin : min (D * 8388608 + K) 2139095040 = D * 8388608 + K := by omega
  rw [hmin]
  clear hD hD2 t hmin h0 h1 hb
  obtain ⟨b, b0, b1, b2⟩ : ∃ b : Int, 0 ≤ b ∧ b ≤ 1 ∧ (sg.toNat : Int) = b := ⟨_, by cases sg <;> decide, by cases sg <;> decide, rfl⟩
  have hs : (b == 1) = sg := by rw [← b2]; cases sg <;> rfl
  rw [b2]
  obtain ⟨A, hA⟩ : ∃ A : Int, b * 2147483648 + ((D * 8388608 + K : Nat) : Int) = A := ⟨_, rfl⟩
  rw [hA]
  have hO := open32 A (by omega) (by omega) w
  have x1 : A / 8388608 % 256 = D + 1 := by omega
  have x2 : A % 8388608 = K - 8388608 := by omega
  have x3 : A / 2147483648 % 2 = b := by omega
  have y1 : cl32 A = 0 := by unfold cl32; rw [x1, if_neg (by omega)]
  have y2 : vm32 A = K := by unfold vm32; rw [x1, x2, if_neg (by omega), if_neg (by omega)]; omega
  have y3 : ve32 A = D + (-149) := by unfold ve32; rw [x1, if_neg (by omega), if_neg (by omega)]; omega
  rw [y1, y2, y3, x3, hs] at hO
  exact hO

theorem openNought16 (sg : Bool) (w : World) :
    Calls Try.prog 82 #[(.agg #[.int .u64 5, .int .u64 10]), .int .u32 (sg.toNat * 32768 + ((0 : Nat) : Int))] w fun x w' => x = .returned (.agg #[.bool sg, .bool false, .bool false, .int .u64 0, .int .i64 (-24)]) ∧ Below w.heap.size w w' := by
  cases sg
  · have hO := open16 0 (by omega) (by omega) w
    exact hO
  · have hO := open16 32768 (by omega) (by omega) w
    exact hO

theorem openNought32 (sg : Bool) (w : World) :
    Calls Try.prog 82 #[(.agg #[.int .u64 8, .int .u64 23]), .int .u32 (sg.toNat * 2147483648 + ((0 : Nat) : Int))] w fun x w' => x = .returned (.agg #[.bool sg, .bool false, .bool false, .int .u64 0, .int .i64 (-149)]) ∧ Below w.heap.size w w' := by
  cases sg
  · have hO := open32 0 (by omega) (by omega) w
    exact hO
  · have hO := open32 2147483648 (by omega) (by omega) w
    exact hO

end Go.Proofs.Ytnimlkobcginjaa
