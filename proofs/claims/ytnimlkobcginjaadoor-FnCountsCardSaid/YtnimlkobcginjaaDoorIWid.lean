/-
  A width of 32 or 64 bits.
-/
import Derived.Test.YtnimlkobcginjaaDoorIBase
namespace Go.Proofs.YtnimlkobcginjaaDoor
open Go.RowKit

/-- A number's lowest bits, and what they are read as with a sign. -/
def cutW (b a : Int) : Int := if b = 32 then a % 4294967296 else a
def sgW (b a : Int) : Int := if b = 32 then s32 a else s64 a

theorem cutC (b a : Int) (hb : b = 32 ∨ b = 64) (h0 : 0 ≤ a) (h1 : a ≤ 18446744073709551615) (w : World) :
    Calls Tryd.prog 19 #[.int .i64 b, .int .u64 a] w fun e w' => e = .returned (.int .u64 (cutW b a)) ∧ w' = w := by
  rcases hb with rfl | rfl
  · exact cut32 a w
  · exact cut64 a h0 h1 w

theorem signedC (b a : Int) (hb : b = 32 ∨ b = 64) (h0 : 0 ≤ a) (h1 : a ≤ 18446744073709551615) (w : World) :
    Calls Tryd.prog 22 #[.int .i64 b, .int .u64 a] w fun e w' => e = .returned (.int .i64 (sgW b a)) ∧ w' = w := by
  rcases hb with rfl | rfl
  · exact signed32 a w
  · exact signed64 a h0 h1 w

theorem maskC (b a : Int) (hb : b = 32 ∨ b = 64) (h0 : 0 ≤ a) (h1 : a ≤ 18446744073709551615) (w : World) :
    Calls Tryd.prog 24 #[.int .i64 b, .int .u64 a] w fun e w' => e = .returned (.int .u64 (cutW b a)) ∧ w' = w := by
  rcases hb with rfl | rfl
  · exact specMask32 a h0 h1 w
  · exact specMask64 a w

theorem specSignedC (b a : Int) (hb : b = 32 ∨ b = 64) (w : World) :
    Calls Tryd.prog 23 #[.int .i64 b, .int .u64 a] w fun e w' => e = .returned (.int .i64 (sgW b a)) ∧ w' = w := by
  rcases hb with rfl | rfl
  · exact specSigned32 a w
  · exact specSigned64 a w

theorem cutW_le (b a : Int) (h0 : 0 ≤ a) : 0 ≤ cutW b a ∧ cutW b a ≤ a := by
  unfold cutW
  split
  · exact ⟨by omega, by omega⟩
  · exact ⟨h0, Int.le_refl _⟩

/-- The least number's bits. -/
def lst (b : Int) : Int := if b = 32 then 2147483648 else 9223372036854775808

end Go.Proofs.YtnimlkobcginjaaDoor
