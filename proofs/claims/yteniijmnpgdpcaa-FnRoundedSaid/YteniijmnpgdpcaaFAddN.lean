/-
  Plain facts on sums, further ones: nothing of the program stands here.
-/
import Derived.Test.YteniijmnpgdpcaaFAddM
namespace Go.Proofs.Yteniijmnpgdpcaa

theorem near_told (p : Nat) (least : Int) (M M' d : Nat) (e1 e2 : Int) (hd : d ≤ 30) (he : e1 = e2 + d) (hM : M' = M * 2 ^ (30 - d)) (hs : M' < 18446744073709551616) : toldOf p least M' (e1 - 30) false = toldOf p least M e2 false := by
  have h := told_scale p least M (30 - d) e2 (by rw [← hM]; exact hs)
  rw [← hM] at h
  rw [← h]
  congr 1
  omega
theorem pow_near (m d : Nat) (hd : d ≤ 30) : m * 2 ^ d ≤ m * 1073741824 := by
  have : 2 ^ d ≤ 2 ^ 30 := Nat.pow_le_pow_right (by omega) hd
  exact Nat.mul_le_mul_left _ (by simpa using this)


end Go.Proofs.Yteniijmnpgdpcaa
