/-
  Sums of finite floats of other signs and the same exponent: both sides tell the same.
-/
import Derived.Test.YteniijmnpgdpcaaFAddL
namespace Go.Proofs.Yteniijmnpgdpcaa
open Go.RowKit

/-- The same exponent, other signs, the first one greater. -/
theorem finEgI16 (s : Bool) (m1 m2 : Nat) (e : Int) (h1 : m1 < 2 * 1024) (h : m2 < m1) (he0 : -200 ≤ e) (he1 : e ≤ 200) (r : Int)
    (hr : s.toNat * 32768 + ((min (toldOf 10 (-24) (m1 - m2) e false) 31744 : Nat) : Int) = r) :
    (∀ w, Calls Try.prog 50 #[(.agg #[.int .i64 10, .int .i64 15, .int .u32 31]), (.agg #[.int .i64 0, .bool s, .int .u64 (m1 : Int), .int .i64 e]), (.agg #[.int .i64 0, .bool (!s), .int .u64 (m2 : Int), .int .i64 e])] w fun e w' => e = .returned (.int .u32 r) ∧ Below w.heap.size w w') ∧
    (∀ w, Calls Try.prog 50 #[(.agg #[.int .i64 10, .int .i64 15, .int .u32 31]), (.agg #[.int .i64 0, .bool (!s), .int .u64 (m2 : Int), .int .i64 e]), (.agg #[.int .i64 0, .bool s, .int .u64 (m1 : Int), .int .i64 e])] w fun e w' => e = .returned (.int .u32 r) ∧ Below w.heap.size w w') := by
  obtain ⟨A, hA⟩ : ∃ A, m1 * 1073741824 = A := ⟨_, rfl⟩
  obtain ⟨B, hB⟩ : ∃ B, m2 * 1073741824 = B := ⟨_, rfl⟩
  obtain ⟨X, hX⟩ : ∃ X, A = B + X := ⟨A - B, by omega⟩
  have hA1 : A < 36028797018963968 := by omega
  have I := implRound16 s X (by omega) (e - 30) (by omega) (by omega) false
  rw [near_told 10 (-24) (m1 - m2) X 0 e e (by omega) (by omega) (by show X = (m1 - m2) * 1073741824; omega) (by omega), hr] at I
  have hE : IntKind.i64.wrap (e - 30) = e - 30 := by rw [IntKind.wrap_i64]; omega
  have vA := mul_u64 m1 A hA (by omega)
  have vB := mul_u64 m2 B hB (by omega)
  have k3 : ((m1 : Int) == (m2 : Int)) = false := by simp; omega
  have vX := sub_u64 A B X hX (by omega)
  have vM : IntKind.u64.wrap ((X : Int) - ((false.toNat : Nat) : Int)) = (X : Int) := by
    rw [show (X : Int) - ((false.toNat : Nat) : Int) = (X : Int) by simp]; exact u64n X (by omega)
  have LT := lost0 B (by omega)
  have k1 : (m2 : Int) < (m1 : Int) := by omega
  have k2 : ¬ (m1 : Int) < (m2 : Int) := by omega
  clear hA hB hX hA1 hr h h1 he0 he1
  exact ⟨addO1d16 s false m1 m2 e A B X (e - 30) r k2 k3 vA vB X vX vM hE LT I, addW1d16 s false m1 m2 e A B X (e - 30) r k1 k3 vA vB X vX vM hE LT I⟩

/-- The same exponent, other signs, the first one greater. -/
theorem finEgI32 (s : Bool) (m1 m2 : Nat) (e : Int) (h1 : m1 < 2 * 8388608) (h : m2 < m1) (he0 : -200 ≤ e) (he1 : e ≤ 200) (r : Int)
    (hr : s.toNat * 2147483648 + ((min (toldOf 23 (-149) (m1 - m2) e false) 2139095040 : Nat) : Int) = r) :
    (∀ w, Calls Try.prog 50 #[(.agg #[.int .i64 23, .int .i64 127, .int .u32 255]), (.agg #[.int .i64 0, .bool s, .int .u64 (m1 : Int), .int .i64 e]), (.agg #[.int .i64 0, .bool (!s), .int .u64 (m2 : Int), .int .i64 e])] w fun e w' => e = .returned (.int .u32 r) ∧ Below w.heap.size w w') ∧
    (∀ w, Calls Try.prog 50 #[(.agg #[.int .i64 23, .int .i64 127, .int .u32 255]), (.agg #[.int .i64 0, .bool (!s), .int .u64 (m2 : Int), .int .i64 e]), (.agg #[.int .i64 0, .bool s, .int .u64 (m1 : Int), .int .i64 e])] w fun e w' => e = .returned (.int .u32 r) ∧ Below w.heap.size w w') := by
  obtain ⟨A, hA⟩ : ∃ A, m1 * 1073741824 = A := ⟨_, rfl⟩
  obtain ⟨B, hB⟩ : ∃ B, m2 * 1073741824 = B := ⟨_, rfl⟩
  obtain ⟨X, hX⟩ : ∃ X, A = B + X := ⟨A - B, by omega⟩
  have hA1 : A < 36028797018963968 := by omega
  have I := implRound32 s X (by omega) (e - 30) (by omega) (by omega) false
  rw [near_told 23 (-149) (m1 - m2) X 0 e e (by omega) (by omega) (by show X = (m1 - m2) * 1073741824; omega) (by omega), hr] at I
  have hE : IntKind.i64.wrap (e - 30) = e - 30 := by rw [IntKind.wrap_i64]; omega
  have vA := mul_u64 m1 A hA (by omega)
  have vB := mul_u64 m2 B hB (by omega)
  have k3 : ((m1 : Int) == (m2 : Int)) = false := by simp; omega
  have vX := sub_u64 A B X hX (by omega)
  have vM : IntKind.u64.wrap ((X : Int) - ((false.toNat : Nat) : Int)) = (X : Int) := by
    rw [show (X : Int) - ((false.toNat : Nat) : Int) = (X : Int) by simp]; exact u64n X (by omega)
  have LT := lost0 B (by omega)
  have k1 : (m2 : Int) < (m1 : Int) := by omega
  have k2 : ¬ (m1 : Int) < (m2 : Int) := by omega
  clear hA hB hX hA1 hr h h1 he0 he1
  exact ⟨addO1d32 s false m1 m2 e A B X (e - 30) r k2 k3 vA vB X vX vM hE LT I, addW1d32 s false m1 m2 e A B X (e - 30) r k1 k3 vA vB X vX vM hE LT I⟩

theorem finEd16 (s : Bool) (m1 m2 : Nat) (e : Int) (h1 : m1 < 2 * 1024) (h2 : m2 < 2 * 1024) (he0 : -200 ≤ e) (he1 : e ≤ 200) : ∃ r, FinBoth16 s (!s) m1 m2 e e r := by
  have w0 : IntKind.u64.wrap (wrap64 (e - e)) = ((0 : Nat) : Int) := by rw [Int.sub_self]; unfold wrap64; rw [IntKind.wrap_u64]; decide
  have w1 : IntKind.u64.wrap ((m1 : Int) * 2 ^ 0) = (m1 : Int) := by rw [IntKind.wrap_u64]; simp; omega
  rcases Nat.lt_trichotomy m1 m2 with h | h | h
  · have S := specRound16 (!s) (m2 - m1) (by omega) e (by omega) (by omega) false
    generalize hr : ((!s).toNat : Int) * 32768 + ((min (toldOf 10 (-24) (m2 - m1) e false) 31744 : Nat) : Int) = r at S
    have H := finEgI16 (!s) m2 m1 e h2 h he0 he1 r hr
    rw [Bool.not_not] at H
    have v := sub_u64 m2 m1 (m2 - m1) (by omega) (by omega)
    have k : (m1 : Int) < (m2 : Int) := by omega
    generalize m2 - m1 = X at *
    clear hr
    exact ⟨r, sumNb16 s m1 m2 e e m1 X r 0 (by omega) w0 (by decide) (by decide) w1 k v S, H.2, H.1⟩
  · subst h
    have H := addO1z16 (!s) m1 e
    rw [Bool.not_not] at H
    exact ⟨0, sumNz16 s m1 m1 e e m1 0 (by omega) w0 (by decide) (by decide) w1 (by omega) (by rw [Int.sub_self]; decide), addO1z16 s m1 e, H⟩
  · have S := specRound16 s (m1 - m2) (by omega) e (by omega) (by omega) false
    generalize hr : (s.toNat : Int) * 32768 + ((min (toldOf 10 (-24) (m1 - m2) e false) 31744 : Nat) : Int) = r at S
    have H := finEgI16 s m1 m2 e h1 h he0 he1 r hr
    have v := sub_u64 m1 m2 (m1 - m2) (by omega) (by omega)
    have k : ¬ (m1 : Int) < (m2 : Int) := by omega
    have k5 : (((m1 - m2 : Nat) : Int) == 0) = false := by simp; omega
    generalize m1 - m2 = X at *
    clear hr
    exact ⟨r, sumNa16 s m1 m2 e e m1 X r 0 (by omega) w0 (by decide) (by decide) w1 k v k5 S, H.1, H.2⟩

theorem finEd32 (s : Bool) (m1 m2 : Nat) (e : Int) (h1 : m1 < 2 * 8388608) (h2 : m2 < 2 * 8388608) (he0 : -200 ≤ e) (he1 : e ≤ 200) : ∃ r, FinBoth32 s (!s) m1 m2 e e r := by
  have w0 : IntKind.u64.wrap (wrap64 (e - e)) = ((0 : Nat) : Int) := by rw [Int.sub_self]; unfold wrap64; rw [IntKind.wrap_u64]; decide
  have w1 : IntKind.u64.wrap ((m1 : Int) * 2 ^ 0) = (m1 : Int) := by rw [IntKind.wrap_u64]; simp; omega
  rcases Nat.lt_trichotomy m1 m2 with h | h | h
  · have S := specRound32 (!s) (m2 - m1) (by omega) e (by omega) (by omega) false
    generalize hr : ((!s).toNat : Int) * 2147483648 + ((min (toldOf 23 (-149) (m2 - m1) e false) 2139095040 : Nat) : Int) = r at S
    have H := finEgI32 (!s) m2 m1 e h2 h he0 he1 r hr
    rw [Bool.not_not] at H
    have v := sub_u64 m2 m1 (m2 - m1) (by omega) (by omega)
    have k : (m1 : Int) < (m2 : Int) := by omega
    generalize m2 - m1 = X at *
    clear hr
    exact ⟨r, sumNb32 s m1 m2 e e m1 X r 0 (by omega) w0 (by decide) (by decide) w1 k v S, H.2, H.1⟩
  · subst h
    have H := addO1z32 (!s) m1 e
    rw [Bool.not_not] at H
    exact ⟨0, sumNz32 s m1 m1 e e m1 0 (by omega) w0 (by decide) (by decide) w1 (by omega) (by rw [Int.sub_self]; decide), addO1z32 s m1 e, H⟩
  · have S := specRound32 s (m1 - m2) (by omega) e (by omega) (by omega) false
    generalize hr : (s.toNat : Int) * 2147483648 + ((min (toldOf 23 (-149) (m1 - m2) e false) 2139095040 : Nat) : Int) = r at S
    have H := finEgI32 s m1 m2 e h1 h he0 he1 r hr
    have v := sub_u64 m1 m2 (m1 - m2) (by omega) (by omega)
    have k : ¬ (m1 : Int) < (m2 : Int) := by omega
    have k5 : (((m1 - m2 : Nat) : Int) == 0) = false := by simp; omega
    generalize m1 - m2 = X at *
    clear hr
    exact ⟨r, sumNa32 s m1 m2 e e m1 X r 0 (by omega) w0 (by decide) (by decide) w1 k v k5 S, H.1, H.2⟩

end Go.Proofs.Yteniijmnpgdpcaa
