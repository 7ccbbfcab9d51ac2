/-
  Rooms of types: the small functions on both sides.
-/
import Derived.Test.YtnoajihlkjeknaaDoorYRm1
import Derived.Test.YtnoajihlkjeknaaDoorYCs
namespace Go.Proofs.YtnoajihlkjeknaaDoor
open Go.ChangeShapes Go.WideShapes Go.ChangeAt Go.RowKit

theorem up_quo {n a : Nat} (h1 : 1 ≤ a) : ((n : Int) + (a : Int) - 1).tdiv (a : Int) = (((n + a - 1) / a : Nat) : Int) := by
  have e : (n : Int) + (a : Int) - 1 = ((n + a - 1 : Nat) : Int) := by omega
  rw [e, ← Int.ofNat_tdiv]
theorem up_mul (n a : Nat) : (((n + a - 1) / a : Nat) : Int) * (a : Int) = ((up n a : Nat) : Int) := by
  unfold up; simp

set_option maxRecDepth 100000 in
set_option maxHeartbeats 1600000 in
theorem specUp (n a : Nat) (hn : n ≤ 1000) (h1 : 1 ≤ a) (h8 : a ≤ 8) (w : World) : Calls Tryd.prog 54 #[.int .i64 (n : Int), .int .i64 (a : Int)] w fun e w' => e = .returned (.int .i64 ((up n a : Nat) : Int)) ∧ w' = w := by
  have hq := up_quo (n := n) h1
  have hm := up_mul n a
  have hl := up_le n a
  obtain ⟨q, hqq⟩ : ∃ q, (n + a - 1) / a = q := ⟨_, rfl⟩
  obtain ⟨u, huu⟩ : ∃ u, up n a = u := ⟨_, rfl⟩
  rw [hqq] at hq hm
  rw [huu] at hm hl ⊢
  have hq2 : q ≤ 1007 := by rw [← hqq]; exact Nat.le_trans (Nat.div_le_self _ _) (by omega)
  have w1 : wrap64 ((n : Int) + (a : Int)) = (n : Int) + (a : Int) := by unfold wrap64; omega
  have w2 : wrap64 ((n : Int) + (a : Int) - 1) = (n : Int) + (a : Int) - 1 := by unfold wrap64; omega
  have w3 : wrap64 (q : Int) = (q : Int) := by unfold wrap64; omega
  have w4 : wrap64 (u : Int) = (u : Int) := by unfold wrap64; omega
  have hne2 : ((a : Int) == 0) = false := by simp; omega
  clear hqq huu hl hq2 hn h8
  go_enter Tryd.func54, Tryd.ntmps54
  go_wp2
  go_ret
  exact ⟨by show Ending.returned (Value.int IntKind.i64 (wrap64 (u : Int))) = _; rw [w4], rfl⟩

set_option maxRecDepth 100000 in
set_option maxHeartbeats 1600000 in
theorem implUp (n a : Nat) (hn : n ≤ 1000) (h1 : 1 ≤ a) (h8 : a ≤ 8) (w : World) : Calls Tryd.prog 84 #[.int .i64 (n : Int), .int .i64 (a : Int)] w fun e w' => e = .returned (.int .i64 ((up n a : Nat) : Int)) ∧ w' = w := by
  have hq := up_quo (n := n) h1
  have hm := up_mul n a
  have hl := up_le n a
  obtain ⟨q, hqq⟩ : ∃ q, (n + a - 1) / a = q := ⟨_, rfl⟩
  obtain ⟨u, huu⟩ : ∃ u, up n a = u := ⟨_, rfl⟩
  rw [hqq] at hq hm
  rw [huu] at hm hl ⊢
  have hq2 : q ≤ 1007 := by rw [← hqq]; exact Nat.le_trans (Nat.div_le_self _ _) (by omega)
  have w1 : wrap64 ((n : Int) + (a : Int)) = (n : Int) + (a : Int) := by unfold wrap64; omega
  have w2 : wrap64 ((n : Int) + (a : Int) - 1) = (n : Int) + (a : Int) - 1 := by unfold wrap64; omega
  have w3 : wrap64 (q : Int) = (q : Int) := by unfold wrap64; omega
  have w4 : wrap64 (u : Int) = (u : Int) := by unfold wrap64; omega
  have hne2 : ((a : Int) == 0) = false := by simp; omega
  clear hqq huu hl hq2 hn h8
  go_enter Tryd.func84, Tryd.ntmps84
  go_wp2
  go_ret
  exact ⟨by show Ending.returned (Value.int IntKind.i64 (wrap64 (u : Int))) = _; rw [w4], rfl⟩

end Go.Proofs.YtnoajihlkjeknaaDoor
