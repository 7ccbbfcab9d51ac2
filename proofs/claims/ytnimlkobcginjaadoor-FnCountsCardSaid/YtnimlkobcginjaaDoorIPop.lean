/-
  The library's count of ones.
-/
import Derived.Test.YtnimlkobcginjaaDoorIPopM
import Derived.Test.YtnimlkobcginjaaDoorRows
import Derived.WalkKit
import Derived.Below
namespace Go.Proofs.YtnimlkobcginjaaDoor
open Go.RowKit

theorem and_u64 (a m : Nat) (ha : a < 18446744073709551616) (hm : m < 18446744073709551616) : bits .and .u64 (a : Int) (m : Int) = ((a &&& m : Nat) : Int) := bits_and_u64_nat a m ha hm
theorem and_le' (a m : Nat) : a &&& m ≤ m := Nat.and_le_right

theorem libOnes (x : Nat) (hx : x < 18446744073709551616) (w : World) :
    Calls Tryd.prog 38 #[.int .u64 (x : Int)] w fun e w' => e = .returned (.int .i64 (pc 64 x : Nat)) ∧ w' = w := by
  obtain ⟨y1, h1⟩ : ∃ y, s1 8 x = y := ⟨_, rfl⟩
  obtain ⟨y2, h2⟩ : ∃ y, s2 8 y1 = y := ⟨_, rfl⟩
  obtain ⟨y3, h3⟩ : ∃ y, s3 8 y2 = y := ⟨_, rfl⟩
  obtain ⟨y4, h4⟩ : ∃ y, y3 + y3 / 256 = y := ⟨_, rfl⟩
  obtain ⟨y5, h5⟩ : ∃ y, y4 + y4 / 65536 = y := ⟨_, rfl⟩
  obtain ⟨y6, h6⟩ : ∃ y, y5 + y5 / 4294967296 = y := ⟨_, rfl⟩
  have ht : y3 = tb 8 x := by rw [← h3, ← h2, ← h1]; exact t3 8 x
  obtain ⟨s, g3, g4, g5, g6, gp⟩ := tb_sum x y4 y5 y6 (by rw [← ht]; exact h4.symm) h5.symm h6.symm
  have m1 : mk 85 8 = 6148914691236517205 := by decide
  have m2 : mk 51 8 = 3689348814741910323 := by decide
  have m3 : mk 15 8 = 1085102592571150095 := by decide
  have a1 : IntKind.u64.wrap (bits .and .u64 ((x : Int) / 2) 6148914691236517205 + bits .and .u64 (x : Int) 6148914691236517205) = (y1 : Int) := by
    have p := and_u64 (x / 2) 6148914691236517205 (by omega) (by omega)
    have q := and_u64 x 6148914691236517205 hx (by omega)
    have p1 := and_le' (x / 2) 6148914691236517205
    have q1 := and_le' x 6148914691236517205
    unfold s1 at h1
    rw [m1] at h1
    rw [show ((x : Int) / 2) = ((x / 2 : Nat) : Int) by omega]
    rw [show (6148914691236517205 : Int) = ((6148914691236517205 : Nat) : Int) from rfl, p, q, IntKind.wrap_u64]
    omega
  have b1 : y1 < 18446744073709551616 := by
    have p1 := and_le' (x / 2) 6148914691236517205
    have q1 := and_le' x 6148914691236517205
    unfold s1 at h1
    rw [m1] at h1
    omega
  have a2 : IntKind.u64.wrap (bits .and .u64 ((y1 : Int) / 4) 3689348814741910323 + bits .and .u64 (y1 : Int) 3689348814741910323) = (y2 : Int) := by
    have p := and_u64 (y1 / 4) 3689348814741910323 (by omega) (by omega)
    have q := and_u64 y1 3689348814741910323 b1 (by omega)
    have p1 := and_le' (y1 / 4) 3689348814741910323
    have q1 := and_le' y1 3689348814741910323
    unfold s2 at h2
    rw [m2] at h2
    rw [show ((y1 : Int) / 4) = ((y1 / 4 : Nat) : Int) by omega]
    rw [show (3689348814741910323 : Int) = ((3689348814741910323 : Nat) : Int) from rfl, p, q, IntKind.wrap_u64]
    omega
  have b2 : y2 < 7378697629483820647 := by
    have p1 := and_le' (y1 / 4) 3689348814741910323
    have q1 := and_le' y1 3689348814741910323
    unfold s2 at h2
    rw [m2] at h2
    omega
  have a3 : bits .and .u64 (IntKind.u64.wrap ((y2 : Int) / 16 + (y2 : Int))) 1085102592571150095 = (y3 : Int) := by
    have p := and_u64 (y2 / 16 + y2) 1085102592571150095 (by omega) (by omega)
    unfold s3 at h3
    rw [m3] at h3
    rw [show IntKind.u64.wrap ((y2 : Int) / 16 + (y2 : Int)) = ((y2 / 16 + y2 : Nat) : Int) by rw [IntKind.wrap_u64]; omega]
    rw [show (1085102592571150095 : Int) = ((1085102592571150095 : Nat) : Int) from rfl, p, h3]
  have a4 : IntKind.u64.wrap ((y3 : Int) + (y3 : Int) / 256) = (y4 : Int) := by rw [IntKind.wrap_u64]; omega
  have a5 : IntKind.u64.wrap ((y4 : Int) + (y4 : Int) / 65536) = (y5 : Int) := by rw [IntKind.wrap_u64]; omega
  have a6 : IntKind.u64.wrap ((y5 : Int) + (y5 : Int) / 4294967296) = (y6 : Int) := by rw [IntKind.wrap_u64]; omega
  have a7 : wrap64 (y6 : Int) = (y6 : Int) := by unfold wrap64; omega
  have a8 : bits .and .i64 (y6 : Int) 127 = ((pc 64 x : Nat) : Int) := (i64_mask 7 (by omega) (y6 : Int)).trans (by rw [← s]; rfl)
  generalize pc 64 x = z at *
  clear hx h1 h2 h3 h4 h5 h6 ht s g3 g4 g5 g6 gp m1 m2 m3 b1 b2
  go_enter Tryd.func38, Tryd.ntmps38
  go_wp2
  go_ret
  exact ⟨rfl, rfl⟩

end Go.Proofs.YtnimlkobcginjaaDoor
