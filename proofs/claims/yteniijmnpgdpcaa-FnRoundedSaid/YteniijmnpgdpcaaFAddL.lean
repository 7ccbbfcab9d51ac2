/-
  Sums of finite floats: both sides tell the same.
-/
import Derived.Test.YteniijmnpgdpcaaFAddI
import Derived.Test.YteniijmnpgdpcaaFAddJ
import Derived.Test.YteniijmnpgdpcaaFSum
import Derived.Test.YteniijmnpgdpcaaFSumF
import Derived.Test.YteniijmnpgdpcaaFAddN
namespace Go.Proofs.Yteniijmnpgdpcaa
open Go.RowKit

def FinBoth16 (s1 s2 : Bool) (m1 m2 e1 e2 r : Int) : Prop :=
  (∀ w, Calls Try.prog 37 #[(.agg #[.int .u64 5, .int .u64 10]), (.agg #[.bool s1, .bool false, .bool false, .int .u64 m1, .int .i64 e1]), (.agg #[.bool s2, .bool false, .bool false, .int .u64 m2, .int .i64 e2])] w fun e w' => e = .returned (.int .u32 r) ∧ Below w.heap.size w w') ∧
  (∀ w, Calls Try.prog 50 #[(.agg #[.int .i64 10, .int .i64 15, .int .u32 31]), (.agg #[.int .i64 0, .bool s1, .int .u64 m1, .int .i64 e1]), (.agg #[.int .i64 0, .bool s2, .int .u64 m2, .int .i64 e2])] w fun e w' => e = .returned (.int .u32 r) ∧ Below w.heap.size w w') ∧
  (∀ w, Calls Try.prog 50 #[(.agg #[.int .i64 10, .int .i64 15, .int .u32 31]), (.agg #[.int .i64 0, .bool s2, .int .u64 m2, .int .i64 e2]), (.agg #[.int .i64 0, .bool s1, .int .u64 m1, .int .i64 e1])] w fun e w' => e = .returned (.int .u32 r) ∧ Below w.heap.size w w')

def FinBoth32 (s1 s2 : Bool) (m1 m2 e1 e2 r : Int) : Prop :=
  (∀ w, Calls Try.prog 37 #[(.agg #[.int .u64 8, .int .u64 23]), (.agg #[.bool s1, .bool false, .bool false, .int .u64 m1, .int .i64 e1]), (.agg #[.bool s2, .bool false, .bool false, .int .u64 m2, .int .i64 e2])] w fun e w' => e = .returned (.int .u32 r) ∧ Below w.heap.size w w') ∧
  (∀ w, Calls Try.prog 50 #[(.agg #[.int .i64 23, .int .i64 127, .int .u32 255]), (.agg #[.int .i64 0, .bool s1, .int .u64 m1, .int .i64 e1]), (.agg #[.int .i64 0, .bool s2, .int .u64 m2, .int .i64 e2])] w fun e w' => e = .returned (.int .u32 r) ∧ Below w.heap.size w w') ∧
  (∀ w, Calls Try.prog 50 #[(.agg #[.int .i64 23, .int .i64 127, .int .u32 255]), (.agg #[.int .i64 0, .bool s2, .int .u64 m2, .int .i64 e2]), (.agg #[.int .i64 0, .bool s1, .int .u64 m1, .int .i64 e1])] w fun e w' => e = .returned (.int .u32 r) ∧ Below w.heap.size w w')

theorem lost0 (B : Nat) (hB : B < 9223372036854775808) (w : World) : Calls Try.prog 67 #[.int .u64 (B : Int), .int .i64 0] w fun e w' => e = .returned (.bool false) ∧ w' = w := by
  have H := lostAny B 0 hB w
  rw [show decide (B % 2 ^ 0 ≠ 0) = false by simp [Nat.mod_one]] at H
  exact H

theorem u64n (n : Nat) (h : n < 18446744073709551616) : IntKind.u64.wrap (n : Int) = (n : Int) := by rw [IntKind.wrap_u64]; omega

/-- The same exponent, the same sign. -/
theorem finEs16 (s : Bool) (m1 m2 : Nat) (e : Int) (h1 : m1 < 2 * 1024) (h2 : m2 < 2 * 1024) (he0 : -200 ≤ e) (he1 : e ≤ 200) : ∃ r, FinBoth16 s s m1 m2 e e r := by
  have S := specRound16 s (m1 + m2) (by omega) e (by omega) (by omega) false
  have I := implRound16 s (m1 * 1073741824 + m2 * 1073741824) (by omega) (e - 30) (by omega) (by omega) false
  rw [near_told 10 (-24) (m1 + m2) _ 0 e e (by omega) (by omega) (by omega) (by omega)] at I
  refine ⟨_, sumNs16 s m1 m2 e e m1 ((m1 + m2 : Nat) : Int) _ 0 (by omega) (by rw [Int.sub_self]; unfold wrap64; rw [IntKind.wrap_u64]; decide) (by decide) (by decide) (by rw [IntKind.wrap_u64]; simp; omega) (by rw [IntKind.wrap_u64]; omega) S, ?_⟩
  have hE : IntKind.i64.wrap (e - 30) = e - 30 := by rw [IntKind.wrap_i64]; omega
  have hA : IntKind.u64.wrap ((m1 : Int) * 1073741824) = ((m1 * 1073741824 : Nat) : Int) := by rw [IntKind.wrap_u64]; omega
  have hB : IntKind.u64.wrap ((m2 : Int) * 1073741824) = ((m2 * 1073741824 : Nat) : Int) := by rw [IntKind.wrap_u64]; omega
  rcases Nat.lt_trichotomy m1 m2 with h | h | h
  · have k3 : ((m2 : Int) == (m1 : Int)) = false := by simp; omega
    have hM : IntKind.u64.wrap (((m2 * 1073741824 : Nat) : Int) + ((m1 * 1073741824 : Nat) : Int)) = ((m1 * 1073741824 + m2 * 1073741824 : Nat) : Int) := by rw [IntKind.wrap_u64]; omega
    exact ⟨addW1s16 s false m2 m1 e _ _ _ _ _ (by omega) k3 hB hA hM hE (lost0 (m1 * 1073741824) (by omega)) I, addO1s16 s false m2 m1 e _ _ _ _ _ (by omega) k3 hB hA hM hE (lost0 (m1 * 1073741824) (by omega)) I⟩
  · subst h
    have hM : IntKind.u64.wrap (((m1 * 1073741824 : Nat) : Int) + ((m1 * 1073741824 : Nat) : Int)) = ((m1 * 1073741824 + m1 * 1073741824 : Nat) : Int) := by rw [IntKind.wrap_u64]; omega
    have H := addE1s16 s false m1 e _ _ _ _ hA hM hE (lost0 (m1 * 1073741824) (by omega)) I
    exact ⟨H, H⟩
  · have k3 : ((m1 : Int) == (m2 : Int)) = false := by simp; omega
    have hM : IntKind.u64.wrap (((m1 * 1073741824 : Nat) : Int) + ((m2 * 1073741824 : Nat) : Int)) = ((m1 * 1073741824 + m2 * 1073741824 : Nat) : Int) := by rw [IntKind.wrap_u64]; omega
    exact ⟨addO1s16 s false m1 m2 e _ _ _ _ _ (by omega) k3 hA hB hM hE (lost0 (m2 * 1073741824) (by omega)) I, addW1s16 s false m1 m2 e _ _ _ _ _ (by omega) k3 hA hB hM hE (lost0 (m2 * 1073741824) (by omega)) I⟩

/-- The same exponent, the same sign. -/
theorem finEs32 (s : Bool) (m1 m2 : Nat) (e : Int) (h1 : m1 < 2 * 8388608) (h2 : m2 < 2 * 8388608) (he0 : -200 ≤ e) (he1 : e ≤ 200) : ∃ r, FinBoth32 s s m1 m2 e e r := by
  have S := specRound32 s (m1 + m2) (by omega) e (by omega) (by omega) false
  have I := implRound32 s (m1 * 1073741824 + m2 * 1073741824) (by omega) (e - 30) (by omega) (by omega) false
  rw [near_told 23 (-149) (m1 + m2) _ 0 e e (by omega) (by omega) (by omega) (by omega)] at I
  refine ⟨_, sumNs32 s m1 m2 e e m1 ((m1 + m2 : Nat) : Int) _ 0 (by omega) (by rw [Int.sub_self]; unfold wrap64; rw [IntKind.wrap_u64]; decide) (by decide) (by decide) (by rw [IntKind.wrap_u64]; simp; omega) (by rw [IntKind.wrap_u64]; omega) S, ?_⟩
  have hE : IntKind.i64.wrap (e - 30) = e - 30 := by rw [IntKind.wrap_i64]; omega
  have hA : IntKind.u64.wrap ((m1 : Int) * 1073741824) = ((m1 * 1073741824 : Nat) : Int) := by rw [IntKind.wrap_u64]; omega
  have hB : IntKind.u64.wrap ((m2 : Int) * 1073741824) = ((m2 * 1073741824 : Nat) : Int) := by rw [IntKind.wrap_u64]; omega
  rcases Nat.lt_trichotomy m1 m2 with h | h | h
  · have k3 : ((m2 : Int) == (m1 : Int)) = false := by simp; omega
    have hM : IntKind.u64.wrap (((m2 * 1073741824 : Nat) : Int) + ((m1 * 1073741824 : Nat) : Int)) = ((m1 * 1073741824 + m2 * 1073741824 : Nat) : Int) := by rw [IntKind.wrap_u64]; omega
    exact ⟨addW1s32 s false m2 m1 e _ _ _ _ _ (by omega) k3 hB hA hM hE (lost0 (m1 * 1073741824) (by omega)) I, addO1s32 s false m2 m1 e _ _ _ _ _ (by omega) k3 hB hA hM hE (lost0 (m1 * 1073741824) (by omega)) I⟩
  · subst h
    have hM : IntKind.u64.wrap (((m1 * 1073741824 : Nat) : Int) + ((m1 * 1073741824 : Nat) : Int)) = ((m1 * 1073741824 + m1 * 1073741824 : Nat) : Int) := by rw [IntKind.wrap_u64]; omega
    have H := addE1s32 s false m1 e _ _ _ _ hA hM hE (lost0 (m1 * 1073741824) (by omega)) I
    exact ⟨H, H⟩
  · have k3 : ((m1 : Int) == (m2 : Int)) = false := by simp; omega
    have hM : IntKind.u64.wrap (((m1 * 1073741824 : Nat) : Int) + ((m2 * 1073741824 : Nat) : Int)) = ((m1 * 1073741824 + m2 * 1073741824 : Nat) : Int) := by rw [IntKind.wrap_u64]; omega
    exact ⟨addO1s32 s false m1 m2 e _ _ _ _ _ (by omega) k3 hA hB hM hE (lost0 (m2 * 1073741824) (by omega)) I, addW1s32 s false m1 m2 e _ _ _ _ _ (by omega) k3 hA hB hM hE (lost0 (m2 * 1073741824) (by omega)) I⟩

theorem sub_u64 (A B X : Nat) (h : A = B + X) (hA : A < 18446744073709551616) : IntKind.u64.wrap ((A : Int) - (B : Int)) = (X : Int) := by
  rw [show (A : Int) - (B : Int) = (X : Int) by omega]
  exact u64n X (by omega)
theorem add_u64 (A B X : Nat) (h : A + B = X) (hA : X < 18446744073709551616) : IntKind.u64.wrap ((A : Int) + (B : Int)) = (X : Int) := by
  rw [show (A : Int) + (B : Int) = (X : Int) by omega]
  exact u64n X hA
theorem mul_u64 (m A : Nat) (h : m * 1073741824 = A) (hA : A < 18446744073709551616) : IntKind.u64.wrap ((m : Int) * 1073741824) = (A : Int) := by
  rw [show (m : Int) * 1073741824 = (A : Int) by omega]
  exact u64n A hA

end Go.Proofs.Yteniijmnpgdpcaa
