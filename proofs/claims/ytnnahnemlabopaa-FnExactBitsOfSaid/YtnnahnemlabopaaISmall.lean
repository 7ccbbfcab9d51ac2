/-
  WrapTo32, Extend32, SignedOf and BitsOf: both sides, and their laws.
-/
import Derived.Test.YtnnahnemlabopaaIBase
import Derived.ProofKit
import Derived.OpenShut
namespace Go.Proofs.Ytnnahnemlabopaa
open Go.ChangeShapes Go.WideShapes Go.ChangeAt Go.RowKit

theorem wrap_walk (a0 : Int) (w0 : (Lit.int .u64 a0).wf = true) (w : World) :
    Calls Try.prog 6 #[.int .u64 a0] w fun e w' => e = .returned (.bool true) ∧ Below w.heap.size w w' := by
  have hb := bounds_u64 w0
  clear w0
  go_enter Try.func6, Try.ntmps6
  go_wp2_with (first | (go_at_call 14; refine (specWrap a0 (by omega) (by omega) _).mono ?_; rintro e w' ⟨rfl, rfl⟩) | (go_at_call 15; refine (implWrap a0 _).mono ?_; rintro e w' ⟨rfl, rfl⟩))
  go_ret
  exact ⟨rfl, Below.refl _ _⟩

theorem specExtend (a : Int) (s : Bool) (h0 : 0 ≤ a) (h1 : a ≤ 18446744073709551615) (w : World) :
    Calls Try.prog 16 #[.int .u64 a, .bool s] w fun e w' => e = .returned (.int .u64 (if s then s32 a % 18446744073709551616 else a % 4294967296)) ∧ w' = w := by
  cases s
  · go_enter Try.func16, Try.ntmps16
    go_wp2
    go_ret
    exact ⟨ret_int (by simpa using mask32 a h0 h1), rfl⟩
  · go_enter Try.func16, Try.ntmps16
    go_wp2_with (go_at_call 24; refine (specSigned32 a _).mono ?_; rintro e w' ⟨rfl, rfl⟩)
    go_ret
    refine ⟨ret_int ?_, rfl⟩
    simp [IntKind.wrap_u64]

theorem implExtend (a : Int) (s : Bool) (w : World) :
    Calls Try.prog 17 #[.int .u64 a, .bool s] w fun e w' => e = .returned (.int .u64 (if s then s32 a % 18446744073709551616 else a % 4294967296)) ∧ w' = w := by
  cases s
  · go_enter Try.func17, Try.ntmps17
    go_wp2_with (go_at_call 15; refine (implWrap a _).mono ?_; rintro e w' ⟨rfl, rfl⟩)
    go_ret
    exact ⟨ret_int (by simp), rfl⟩
  · go_enter Try.func17, Try.ntmps17
    go_wp2
    go_ret
    refine ⟨ret_int ?_, rfl⟩
    simp [s32, wrap32, IntKind.wrap_u64]

theorem extend_walk (a0 : Int) (a1 : Bool) (w0 : (Lit.int .u64 a0).wf = true) (w : World) :
    Calls Try.prog 7 #[.int .u64 a0, .bool a1] w fun e w' => e = .returned (.bool true) ∧ Below w.heap.size w w' := by
  have hb := bounds_u64 w0
  clear w0
  obtain ⟨x, hx⟩ : ∃ x, (if a1 then s32 a0 % 18446744073709551616 else a0 % 4294967296) = x := ⟨_, rfl⟩
  go_enter Try.func7, Try.ntmps7
  go_wp2_with (first | (go_at_call 16; refine (specExtend a0 a1 (by omega) (by omega) _).mono ?_; rw [hx]; rintro e w' ⟨rfl, rfl⟩) | (go_at_call 17; refine (implExtend a0 a1 _).mono ?_; rw [hx]; rintro e w' ⟨rfl, rfl⟩))
  go_ret
  exact ⟨rfl, Below.refl _ _⟩

/-- What SignedOf answers. -/
def sgOf (b a : Int) : Int := if b = 32 then s32 a else if b = 64 then s64 a else 0

theorem specSignedOf (b a : Int) (w : World) :
    Calls Try.prog 10 #[.int .i64 b, .int .u64 a] w fun e w' => e = .returned (.tuple #[.int .i64 (sgOf b a), .bool (b == 32 || b == 64)]) ∧ w' = w := by
  by_cases h1 : b = 32
  · subst h1
    go_enter Try.func10, Try.ntmps10
    go_wp2_with (first | (go_at_call 18; refine (specBits 32 _).mono ?_; rintro e w' ⟨rfl, rfl⟩) | (go_at_call 24; refine (specSigned32 a _).mono ?_; rintro e w' ⟨rfl, rfl⟩))
    go_ret2
    exact ⟨by simp [sgOf], rfl⟩
  · by_cases h2 : b = 64
    · subst h2
      go_enter Try.func10, Try.ntmps10
      go_wp2_with (first | (go_at_call 18; refine (specBits 64 _).mono ?_; rintro e w' ⟨rfl, rfl⟩) | (go_at_call 24; refine (specSigned64 a _).mono ?_; rintro e w' ⟨rfl, rfl⟩))
      go_ret2
      exact ⟨by simp [sgOf], rfl⟩
    · have k : (b == 32 || b == 64) = false := by simp [h1, h2]
      go_enter Try.func10, Try.ntmps10
      go_wp2_with (go_at_call 18; refine (specBits b _).mono ?_; rw [k]; rintro e w' ⟨rfl, rfl⟩)
      go_ret2
      exact ⟨by simp [sgOf, h1, h2], rfl⟩

theorem implSignedOf (b a : Int) (hb : 0 ≤ a ∧ a ≤ 18446744073709551615) (w : World) :
    Calls Try.prog 11 #[.int .i64 b, .int .u64 a] w fun e w' => e = .returned (.tuple #[.int .i64 (sgOf b a), .bool (b == 32 || b == 64)]) ∧ w' = w := by
  by_cases h1 : b = 32
  · subst h1
    go_enter Try.func11, Try.ntmps11
    go_wp2_with (first | (go_at_call 20; refine (implWidth32 _).mono ?_; rintro e w' ⟨rfl, rfl⟩) | (go_at_call 25; refine (signed32 a _).mono ?_; rintro e w' ⟨rfl, rfl⟩))
    go_ret2
    exact ⟨by simp [sgOf], rfl⟩
  · by_cases h2 : b = 64
    · subst h2
      go_enter Try.func11, Try.ntmps11
      go_wp2_with (first | (go_at_call 20; refine (implWidth64 _).mono ?_; rintro e w' ⟨rfl, rfl⟩) | (go_at_call 25; refine (signed64 a hb.1 hb.2 _).mono ?_; rintro e w' ⟨rfl, rfl⟩))
      go_ret2
      exact ⟨by simp [sgOf], rfl⟩
    · go_enter Try.func11, Try.ntmps11
      go_wp2_with (go_at_call 20; refine (implWidthNo b h1 h2 _).mono ?_; rintro e w' ⟨rfl, rfl⟩)
      go_ret2
      exact ⟨by simp [sgOf, h1, h2], rfl⟩

theorem signed_walk (a0 a1 : Int) (_w0 : (Lit.int .i64 a0).wf = true) (w1 : (Lit.int .u64 a1).wf = true) (w : World) :
    Calls Try.prog 4 #[.int .i64 a0, .int .u64 a1] w fun e w' => e = .returned (.bool true) ∧ Below w.heap.size w w' := by
  have hb := bounds_u64 w1
  clear w1
  obtain ⟨x, hx⟩ : ∃ x, sgOf a0 a1 = x := ⟨_, rfl⟩
  obtain ⟨y, hy⟩ : ∃ y, (a0 == 32 || a0 == 64) = y := ⟨_, rfl⟩
  go_enter Try.func4, Try.ntmps4
  go_wp2_with (first | (go_at_call 10; refine (specSignedOf a0 a1 _).mono ?_; rw [hx, hy]; rintro e w' ⟨rfl, rfl⟩) | (go_at_call 11; refine (implSignedOf a0 a1 (by omega) _).mono ?_; rw [hx, hy]; rintro e w' ⟨rfl, rfl⟩))
  go_ret
  exact ⟨rfl, Below.refl _ _⟩

/-- What BitsOf answers. -/
def btOf (b n : Int) : Int := if b = 32 then n % 4294967296 else if b = 64 then n % 18446744073709551616 else 0

theorem specBitsOf (b n : Int) (w : World) :
    Calls Try.prog 12 #[.int .i64 b, .int .i64 n] w fun e w' => e = .returned (.tuple #[.int .u64 (btOf b n), .bool (b == 32 || b == 64)]) ∧ w' = w := by
  by_cases h1 : b = 32
  · subst h1
    go_enter Try.func12, Try.ntmps12
    go_wp2_with (first | (go_at_call 18; refine (specBits 32 _).mono ?_; rintro e w' ⟨rfl, rfl⟩) | (go_at_call 26; refine (specMask32 _ (by rw [IntKind.wrap_u64]; omega) (by rw [IntKind.wrap_u64]; omega) _).mono ?_; rintro e w' ⟨rfl, rfl⟩))
    go_ret2
    exact ⟨by simp [btOf, IntKind.wrap_u64], rfl⟩
  · by_cases h2 : b = 64
    · subst h2
      go_enter Try.func12, Try.ntmps12
      go_wp2_with (first | (go_at_call 18; refine (specBits 64 _).mono ?_; rintro e w' ⟨rfl, rfl⟩) | (go_at_call 26; refine (specMask64 _ _).mono ?_; rintro e w' ⟨rfl, rfl⟩))
      go_ret2
      exact ⟨by simp [btOf, IntKind.wrap_u64], rfl⟩
    · have k : (b == 32 || b == 64) = false := by simp [h1, h2]
      go_enter Try.func12, Try.ntmps12
      go_wp2_with (go_at_call 18; refine (specBits b _).mono ?_; rw [k]; rintro e w' ⟨rfl, rfl⟩)
      go_ret2
      exact ⟨by simp [btOf, h1, h2], rfl⟩

theorem implBitsOf (b n : Int) (w : World) :
    Calls Try.prog 13 #[.int .i64 b, .int .i64 n] w fun e w' => e = .returned (.tuple #[.int .u64 (btOf b n), .bool (b == 32 || b == 64)]) ∧ w' = w := by
  by_cases h1 : b = 32
  · subst h1
    go_enter Try.func13, Try.ntmps13
    go_wp2_with (first | (go_at_call 20; refine (implWidth32 _).mono ?_; rintro e w' ⟨rfl, rfl⟩) | (go_at_call 22; refine (cut32 _ _).mono ?_; rintro e w' ⟨rfl, rfl⟩))
    go_ret2
    exact ⟨by simp [btOf, IntKind.wrap_u64], rfl⟩
  · by_cases h2 : b = 64
    · subst h2
      go_enter Try.func13, Try.ntmps13
      go_wp2_with (first | (go_at_call 20; refine (implWidth64 _).mono ?_; rintro e w' ⟨rfl, rfl⟩) | (go_at_call 22; refine (cut64 _ (by rw [IntKind.wrap_u64]; omega) (by rw [IntKind.wrap_u64]; omega) _).mono ?_; rintro e w' ⟨rfl, rfl⟩))
      go_ret2
      exact ⟨by simp [btOf, IntKind.wrap_u64], rfl⟩
    · go_enter Try.func13, Try.ntmps13
      go_wp2_with (go_at_call 20; refine (implWidthNo b h1 h2 _).mono ?_; rintro e w' ⟨rfl, rfl⟩)
      go_ret2
      exact ⟨by simp [btOf, h1, h2], rfl⟩

theorem bits_walk (a0 a1 : Int) (_w0 : (Lit.int .i64 a0).wf = true) (_w1 : (Lit.int .i64 a1).wf = true) (w : World) :
    Calls Try.prog 5 #[.int .i64 a0, .int .i64 a1] w fun e w' => e = .returned (.bool true) ∧ Below w.heap.size w w' := by
  obtain ⟨x, hx⟩ : ∃ x, btOf a0 a1 = x := ⟨_, rfl⟩
  obtain ⟨y, hy⟩ : ∃ y, (a0 == 32 || a0 == 64) = y := ⟨_, rfl⟩
  go_enter Try.func5, Try.ntmps5
  go_wp2_with (first | (go_at_call 12; refine (specBitsOf a0 a1 _).mono ?_; rw [hx, hy]; rintro e w' ⟨rfl, rfl⟩) | (go_at_call 13; refine (implBitsOf a0 a1 _).mono ?_; rw [hx, hy]; rintro e w' ⟨rfl, rfl⟩))
  go_ret
  exact ⟨rfl, Below.refl _ _⟩

end Go.Proofs.Ytnnahnemlabopaa
