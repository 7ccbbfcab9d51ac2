/-
  WrapTo32, Extend32, SignedOf and BitsOf: both sides, and their laws.
-/
import Derived.Test.YtnimlkobcginjaaDoorIBase
import Derived.ProofKit
import Derived.OpenShut
namespace Go.Proofs.YtnimlkobcginjaaDoor
open Go.ChangeShapes Go.WideShapes Go.ChangeAt Go.RowKit

theorem implExtend (a : Int) (s : Bool) (w : World) :
    Calls Tryd.prog 13 #[.int .u64 a, .bool s] w fun e w' => e = .returned (.int .u64 (if s then s32 a % 18446744073709551616 else a % 4294967296)) ∧ w' = w := by
  cases s
  · go_enter Tryd.func13, Tryd.ntmps13
    go_wp2_with (go_at_call 7; refine (implWrap a _).mono ?_; rintro e w' ⟨rfl, rfl⟩)
    go_ret
    exact ⟨ret_int (by simp), rfl⟩
  · go_enter Tryd.func13, Tryd.ntmps13
    go_wp2
    go_ret
    refine ⟨ret_int ?_, rfl⟩
    simp [s32, wrap32, IntKind.wrap_u64]

/-- What SignedOf answers. -/
def sgOf (b a : Int) : Int := if b = 32 then s32 a else if b = 64 then s64 a else 0

theorem specSignedOf (b a : Int) (w : World) :
    Calls Tryd.prog 10 #[.int .i64 b, .int .u64 a] w fun e w' => e = .returned (.tuple #[.int .i64 (sgOf b a), .bool (b == 32 || b == 64)]) ∧ w' = w := by
  by_cases h1 : b = 32
  · subst h1
    go_enter Tryd.func10, Tryd.ntmps10
    go_wp2_with (first | (go_at_call 20; refine (specBits 32 _).mono ?_; rintro e w' ⟨rfl, rfl⟩) | (go_at_call 23; refine (specSigned32 a _).mono ?_; rintro e w' ⟨rfl, rfl⟩))
    go_ret2
    exact ⟨by simp [sgOf], rfl⟩
  · by_cases h2 : b = 64
    · subst h2
      go_enter Tryd.func10, Tryd.ntmps10
      go_wp2_with (first | (go_at_call 20; refine (specBits 64 _).mono ?_; rintro e w' ⟨rfl, rfl⟩) | (go_at_call 23; refine (specSigned64 a _).mono ?_; rintro e w' ⟨rfl, rfl⟩))
      go_ret2
      exact ⟨by simp [sgOf], rfl⟩
    · have k : (b == 32 || b == 64) = false := by simp [h1, h2]
      go_enter Tryd.func10, Tryd.ntmps10
      go_wp2_with (go_at_call 20; refine (specBits b _).mono ?_; rw [k]; rintro e w' ⟨rfl, rfl⟩)
      go_ret2
      exact ⟨by simp [sgOf, h1, h2], rfl⟩

theorem implSignedOf (b a : Int) (hb : 0 ≤ a ∧ a ≤ 18446744073709551615) (w : World) :
    Calls Tryd.prog 9 #[.int .i64 b, .int .u64 a] w fun e w' => e = .returned (.tuple #[.int .i64 (sgOf b a), .bool (b == 32 || b == 64)]) ∧ w' = w := by
  by_cases h1 : b = 32
  · subst h1
    go_enter Tryd.func9, Tryd.ntmps9
    go_wp2_with (first | (go_at_call 17; refine (implWidth32 _).mono ?_; rintro e w' ⟨rfl, rfl⟩) | (go_at_call 22; refine (signed32 a _).mono ?_; rintro e w' ⟨rfl, rfl⟩))
    go_ret2
    exact ⟨by simp [sgOf], rfl⟩
  · by_cases h2 : b = 64
    · subst h2
      go_enter Tryd.func9, Tryd.ntmps9
      go_wp2_with (first | (go_at_call 17; refine (implWidth64 _).mono ?_; rintro e w' ⟨rfl, rfl⟩) | (go_at_call 22; refine (signed64 a hb.1 hb.2 _).mono ?_; rintro e w' ⟨rfl, rfl⟩))
      go_ret2
      exact ⟨by simp [sgOf], rfl⟩
    · go_enter Tryd.func9, Tryd.ntmps9
      go_wp2_with (go_at_call 17; refine (implWidthNo b h1 h2 _).mono ?_; rintro e w' ⟨rfl, rfl⟩)
      go_ret2
      exact ⟨by simp [sgOf, h1, h2], rfl⟩

/-- What BitsOf answers. -/
def btOf (b n : Int) : Int := if b = 32 then n % 4294967296 else if b = 64 then n % 18446744073709551616 else 0

theorem specBitsOf (b n : Int) (w : World) :
    Calls Tryd.prog 12 #[.int .i64 b, .int .i64 n] w fun e w' => e = .returned (.tuple #[.int .u64 (btOf b n), .bool (b == 32 || b == 64)]) ∧ w' = w := by
  by_cases h1 : b = 32
  · subst h1
    go_enter Tryd.func12, Tryd.ntmps12
    go_wp2_with (first | (go_at_call 20; refine (specBits 32 _).mono ?_; rintro e w' ⟨rfl, rfl⟩) | (go_at_call 24; refine (specMask32 _ (by rw [IntKind.wrap_u64]; omega) (by rw [IntKind.wrap_u64]; omega) _).mono ?_; rintro e w' ⟨rfl, rfl⟩))
    go_ret2
    exact ⟨by simp [btOf, IntKind.wrap_u64], rfl⟩
  · by_cases h2 : b = 64
    · subst h2
      go_enter Tryd.func12, Tryd.ntmps12
      go_wp2_with (first | (go_at_call 20; refine (specBits 64 _).mono ?_; rintro e w' ⟨rfl, rfl⟩) | (go_at_call 24; refine (specMask64 _ _).mono ?_; rintro e w' ⟨rfl, rfl⟩))
      go_ret2
      exact ⟨by simp [btOf, IntKind.wrap_u64], rfl⟩
    · have k : (b == 32 || b == 64) = false := by simp [h1, h2]
      go_enter Tryd.func12, Tryd.ntmps12
      go_wp2_with (go_at_call 20; refine (specBits b _).mono ?_; rw [k]; rintro e w' ⟨rfl, rfl⟩)
      go_ret2
      exact ⟨by simp [btOf, h1, h2], rfl⟩

theorem implBitsOf (b n : Int) (w : World) :
    Calls Tryd.prog 11 #[.int .i64 b, .int .i64 n] w fun e w' => e = .returned (.tuple #[.int .u64 (btOf b n), .bool (b == 32 || b == 64)]) ∧ w' = w := by
  by_cases h1 : b = 32
  · subst h1
    go_enter Tryd.func11, Tryd.ntmps11
    go_wp2_with (first | (go_at_call 17; refine (implWidth32 _).mono ?_; rintro e w' ⟨rfl, rfl⟩) | (go_at_call 19; refine (cut32 _ _).mono ?_; rintro e w' ⟨rfl, rfl⟩))
    go_ret2
    exact ⟨by simp [btOf, IntKind.wrap_u64], rfl⟩
  · by_cases h2 : b = 64
    · subst h2
      go_enter Tryd.func11, Tryd.ntmps11
      go_wp2_with (first | (go_at_call 17; refine (implWidth64 _).mono ?_; rintro e w' ⟨rfl, rfl⟩) | (go_at_call 19; refine (cut64 _ (by rw [IntKind.wrap_u64]; omega) (by rw [IntKind.wrap_u64]; omega) _).mono ?_; rintro e w' ⟨rfl, rfl⟩))
      go_ret2
      exact ⟨by simp [btOf, IntKind.wrap_u64], rfl⟩
    · go_enter Tryd.func11, Tryd.ntmps11
      go_wp2_with (go_at_call 17; refine (implWidthNo b h1 h2 _).mono ?_; rintro e w' ⟨rfl, rfl⟩)
      go_ret2
      exact ⟨by simp [btOf, h1, h2], rfl⟩

end Go.Proofs.YtnimlkobcginjaaDoor
