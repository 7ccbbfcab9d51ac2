/-
  A product in two words: both sides, and their law.
-/
import Derived.Test.YteniijmnpgdpcaaRows
import Derived.Test.YteniijmnpgdpcaaIOrs
import Derived.Shelf.Lays
import Derived.Shelf.Bits.Mul64
import Derived.ProofKit
import Derived.OpenShut
namespace Go.Proofs.Yteniijmnpgdpcaa
open Go.ChangeShapes Go.WideShapes Go.ChangeAt Go.RowKit

/-- The upper and the lower word of a product. -/
def mhi (x y : Nat) : Int := ((x * y / 18446744073709551616 : Nat) : Int)
def mlo (x y : Nat) : Int := ((x * y % 18446744073709551616 : Nat) : Int)

theorem wrap_lo' (n : Int) : 0 ≤ IntKind.u64.wrap n := by rw [IntKind.wrap_u64]; omega
theorem wrap_hi' (n : Int) : IntKind.u64.wrap n ≤ 18446744073709551615 := by rw [IntKind.wrap_u64]; omega
theorem half_mul {a b : Int} (a0 : 0 ≤ a) (a1 : a ≤ 4294967295) (b0 : 0 ≤ b) (b1 : b ≤ 4294967295) : 0 ≤ a * b ∧ a * b ≤ 18446744065119617025 := by
  refine ⟨Int.mul_nonneg a0 b0, ?_⟩
  have := Int.mul_le_mul a1 b1 b0 (by omega)
  omega
theorem parts_mul (x y : Int) : x * y = x / 4294967296 * (y / 4294967296) * 18446744073709551616 + (x / 4294967296 * (y % 4294967296) + x % 4294967296 * (y / 4294967296)) * 4294967296 + x % 4294967296 * (y % 4294967296) := by
  have hx : x = x / 4294967296 * 4294967296 + x % 4294967296 := by omega
  have hy : y = y / 4294967296 * 4294967296 + y % 4294967296 := by omega
  generalize x / 4294967296 = p at *
  generalize x % 4294967296 = q at *
  generalize y / 4294967296 = r at *
  generalize y % 4294967296 = s at *
  subst hx hy
  rw [show (18446744073709551616 : Int) = 4294967296 * 4294967296 by decide]
  generalize (4294967296 : Int) = K
  simp only [Int.add_mul, Int.mul_add, Int.mul_assoc]
  rw [Int.mul_left_comm K r K, Int.mul_comm K s]
  omega
/-- The school method, by halves. -/
theorem school (x y : Int) (x0 : 0 ≤ x) (x1 : x ≤ 18446744073709551615) (y0 : 0 ≤ y) (y1 : y ≤ 18446744073709551615) :
    IntKind.u64.wrap (IntKind.u64.wrap (IntKind.u64.wrap (x / 4294967296 * (y / 4294967296)) + IntKind.u64.wrap (IntKind.u64.wrap (x % 4294967296 * (y / 4294967296)) + IntKind.u64.wrap (x % 4294967296 * (y % 4294967296)) / 4294967296) / 4294967296) +
      IntKind.u64.wrap (IntKind.u64.wrap (x / 4294967296 * (y % 4294967296)) + IntKind.u64.wrap (IntKind.u64.wrap (x % 4294967296 * (y / 4294967296)) + IntKind.u64.wrap (x % 4294967296 * (y % 4294967296)) / 4294967296) % 4294967296) / 4294967296) = x * y / 18446744073709551616 ∧
    IntKind.u64.wrap (IntKind.u64.wrap (x / 4294967296 * (y % 4294967296)) + IntKind.u64.wrap (IntKind.u64.wrap (x % 4294967296 * (y / 4294967296)) + IntKind.u64.wrap (x % 4294967296 * (y % 4294967296)) / 4294967296) % 4294967296) % 4294967296 * 4294967296 +
      IntKind.u64.wrap (x % 4294967296 * (y % 4294967296)) % 4294967296 = x * y % 18446744073709551616 := by
  have e := parts_mul x y
  have b1 := half_mul (a := x / 4294967296) (b := y / 4294967296) (by omega) (by omega) (by omega) (by omega)
  have b2 := half_mul (a := x / 4294967296) (b := y % 4294967296) (by omega) (by omega) (by omega) (by omega)
  have b3 := half_mul (a := x % 4294967296) (b := y / 4294967296) (by omega) (by omega) (by omega) (by omega)
  have b4 := half_mul (a := x % 4294967296) (b := y % 4294967296) (by omega) (by omega) (by omega) (by omega)
  rw [e]
  simp only [IntKind.wrap_u64]
  generalize x / 4294967296 * (y / 4294967296) = p at *
  generalize x / 4294967296 * (y % 4294967296) = q at *
  generalize x % 4294967296 * (y / 4294967296) = r at *
  generalize x % 4294967296 * (y % 4294967296) = s at *
  rw [show p % 18446744073709551616 = p by omega, show q % 18446744073709551616 = q by omega, show r % 18446744073709551616 = r by omega, show s % 18446744073709551616 = s by omega]
  rw [show (r + s / 4294967296) % 18446744073709551616 = r + s / 4294967296 by omega]
  rw [show (q + (r + s / 4294967296) % 4294967296) % 18446744073709551616 = q + (r + s / 4294967296) % 4294967296 by omega]
  constructor
  · omega
  · omega

theorem specL3Mul (x y : Nat) (hx : x < 18446744073709551616) (hy : y < 18446744073709551616) (w : World) :
    Calls Try.prog 45 #[.int .u64 x, .int .u64 y] w fun e w' => e = .returned (.tuple #[.int .u64 (mhi x y), .int .u64 (mlo x y)]) ∧ w' = w := by
  have k1 := and_maskI (x : Int) (by omega) (by omega)
  have k2 := and_maskI (y : Int) (by omega) (by omega)
  obtain ⟨s1, s2⟩ := school (x : Int) (y : Int) (by omega) (by omega) (by omega) (by omega)
  go_enter Try.func45, Try.ntmps45
  go_wp2
  go_ret2
  rw [or_joinI _ _ (by rw [and_maskI _ (by rw [IntKind.wrap_u64]; omega) (by rw [IntKind.wrap_u64]; omega)]; omega) (by rw [and_maskI _ (by rw [IntKind.wrap_u64]; omega) (by rw [IntKind.wrap_u64]; omega)]; omega)]
  simp only [and_maskI _ (wrap_lo' _) (wrap_hi' _)]
  rw [s1, s2]
  exact ⟨by simp [mhi, mlo], trivial⟩

theorem specMul (x y : Nat) (hx : Hid (x < 18446744073709551616)) (hy : Hid (y < 18446744073709551616)) (w : World) :
    Calls Try.prog 23 #[.int .u64 x, .int .u64 y] w fun e w' => e = .returned (.tuple #[.int .u64 (mhi x y), .int .u64 (mlo x y)]) ∧ w' = w := by
  go_enter Try.func23, Try.ntmps23
  go_wp2_with (go_at_call 45; refine (specL3Mul x y hx hy _).mono ?_; rintro e w' ⟨rfl, rfl⟩)
  go_ret2
  exact ⟨rfl, rfl⟩

end Go.Proofs.Yteniijmnpgdpcaa
