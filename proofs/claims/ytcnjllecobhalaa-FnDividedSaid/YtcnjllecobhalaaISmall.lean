/-
  WrapTo32, Extend32, SignedOf and BitsOf: both sides, and their laws.
-/
import Derived.Test.YtcnjllecobhalaaIBase
import Derived.ProofKit
import Derived.OpenShut
namespace Go.Proofs.Ytcnjllecobhalaa
open Go.ChangeShapes Go.WideShapes Go.ChangeAt Go.RowKit

/-- What SignedOf answers. -/
def sgOf (b a : Int) : Int := if b = 32 then s32 a else if b = 64 then s64 a else 0

theorem specSignedOf (b a : Int) (w : World) :
    Calls Try.prog 12 #[.int .i64 b, .int .u64 a] w fun e w' => e = .returned (.tuple #[.int .i64 (sgOf b a), .bool (b == 32 || b == 64)]) ∧ w' = w := by
  by_cases h1 : b = 32
  · subst h1
    go_enter Try.func12, Try.ntmps12
    go_wp2_with (first | (go_at_call 46; refine (specBits 32 _).mono ?_; rintro e w' ⟨rfl, rfl⟩) | (go_at_call 48; refine (specSigned32 a _).mono ?_; rintro e w' ⟨rfl, rfl⟩))
    go_ret2
    exact ⟨by simp [sgOf], rfl⟩
  · by_cases h2 : b = 64
    · subst h2
      go_enter Try.func12, Try.ntmps12
      go_wp2_with (first | (go_at_call 46; refine (specBits 64 _).mono ?_; rintro e w' ⟨rfl, rfl⟩) | (go_at_call 48; refine (specSigned64 a _).mono ?_; rintro e w' ⟨rfl, rfl⟩))
      go_ret2
      exact ⟨by simp [sgOf], rfl⟩
    · have k : (b == 32 || b == 64) = false := by simp [h1, h2]
      go_enter Try.func12, Try.ntmps12
      go_wp2_with (go_at_call 46; refine (specBits b _).mono ?_; rw [k]; rintro e w' ⟨rfl, rfl⟩)
      go_ret2
      exact ⟨by simp [sgOf, h1, h2], rfl⟩

/-- What BitsOf answers. -/
def btOf (b n : Int) : Int := if b = 32 then n % 4294967296 else if b = 64 then n % 18446744073709551616 else 0

end Go.Proofs.Ytcnjllecobhalaa
