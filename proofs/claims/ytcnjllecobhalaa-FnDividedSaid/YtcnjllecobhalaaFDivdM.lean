/-
  Plain facts on quotients and what is left, signed and not.
-/
import Derived.Test.YtcnjllecobhalaaIBoth2
import Derived.Test.YtcnjllecobhalaaISmall
namespace Go.Proofs.Ytcnjllecobhalaa
open Go.RowKit

/-- 2^b. -/
def modW (b : Int) : Int := if b = 32 then 4294967296 else 18446744073709551616
theorem cutW_wrap (b n : Int) (hb : b = 32 ∨ b = 64) : cutW b (IntKind.u64.wrap n) = n % modW b := by
  rcases hb with rfl | rfl
  · show IntKind.u64.wrap n % 4294967296 = n % 4294967296
    rw [IntKind.wrap_u64]; omega
  · show IntKind.u64.wrap n = n % 18446744073709551616
    rw [IntKind.wrap_u64]
theorem wrap64_mod (b n : Int) (hb : b = 32 ∨ b = 64) : wrap64 n % modW b = n % modW b := by
  rcases hb with rfl | rfl
  · show wrap64 n % 4294967296 = n % 4294967296
    unfold wrap64; omega
  · show wrap64 n % 18446744073709551616 = n % 18446744073709551616
    unfold wrap64; omega
theorem cutW_mod (b n : Int) (hb : b = 32 ∨ b = 64) (h0 : 0 ≤ n) (h1 : n ≤ 18446744073709551615) : cutW b n = n % modW b := by
  rcases hb with rfl | rfl
  · rfl
  · show n = n % 18446744073709551616
    omega
theorem modW_pos (b : Int) : 0 < modW b := by unfold modW; split <;> omega
theorem sgW_mod (b X : Int) (hb : b = 32 ∨ b = 64) : sgW b X % modW b = X % modW b := by
  rcases hb with rfl | rfl
  · show s32 X % 4294967296 = X % 4294967296
    unfold s32; omega
  · show s64 X % 18446744073709551616 = X % 18446744073709551616
    unfold s64; omega
theorem back_mod (M sX sY X Y q r : Int) (hX : X % M = sX % M) (hY : Y % M = sY % M) (hq : q % M = sX.tdiv sY % M) (hr : r % M = sX.tmod sY % M) : ((q * Y) % M + r) % M = X % M := by
  rw [hX, Int.add_emod, Int.emod_emod_of_dvd _ (Int.dvd_refl M), Int.mul_emod, hq, hY, hr, ← Int.mul_emod, ← Int.add_emod]
  congr 1
  have h := Int.mul_tdiv_add_tmod sX sY
  rw [Int.mul_comm] at h
  exact h
theorem tmod_sign (a c : Int) : a.tmod c = 0 ∨ (decide (a.tmod c < 0) = decide (a < 0)) := by
  by_cases h : 0 ≤ a
  · have := Int.tmod_nonneg c h
    right
    rw [decide_eq_false (by omega), decide_eq_false (by omega)]
  · have h2 := Int.tmod_nonneg c (show 0 ≤ -a by omega)
    rw [Int.neg_tmod] at h2
    by_cases h3 : a.tmod c = 0
    · exact Or.inl h3
    · right
      rw [decide_eq_true (by omega), decide_eq_true (by omega)]

end Go.Proofs.Ytcnjllecobhalaa
