/-
  The walk of the law on reading a number without a sign.
-/
import Derived.Test.YtnimlkobcginjaaGroups
import Derived.Test.YtnimlkobcginjaaIn
import Derived.Deep.QuietTactic
import Derived.BigQuiet
namespace Go.Proofs.Ytnimlkobcginjaa
open Go.ChangeShapes Go.WideShapes Go.ChangeAt Go.RowKit Go.PlainAid

set_option maxRecDepth 1000000 in
set_option maxHeartbeats 400000 in
theorem room_any (b t : Int) (h0 : -1000 ≤ b) (h1 : b ≤ 1000) (h2 : -1000 ≤ t) (h3 : t ≤ 1000) (w : World) :
    Calls Try.prog 48 #[.int .i64 b, .int .i64 t] w fun e w' => e = .returned (.int .i64 (b - 7 * (t - 1))) ∧ w' = w := by
  go_enter Try.func48, Try.ntmps48
  go_wp2
  go_ret
  exact ⟨rfl, rfl⟩

theorem room_at (b j r : Nat) (h : 7 * j + r = b) (hb : b ≤ 64) (w : World) : Calls Try.prog 48 #[.int .i64 (b : Int), .int .i64 ((j : Int) + 1)] w fun e w' => e = .returned (.int .i64 (r : Int)) ∧ w' = w := by
  have H := room_any (b : Int) ((j : Int) + 1) (by omega) (by omega) (by omega) (by omega) w
  rw [show (b : Int) - 7 * ((j : Int) + 1 - 1) = (r : Int) by omega] at H
  exact H

set_option maxRecDepth 1000000 in
set_option maxHeartbeats 400000 in
theorem groups_out (s : ByteArray) (b : Int) (h : b < 1 ∨ 64 < b) (w : World) :
    Calls Try.prog 47 #[.string s, .int .i64 b] w fun e w' => e = .returned (.tuple #[.int .u64 0, .int .i64 0]) ∧ w' = w := by
  rcases h with h | h
  · go_enter Try.func47, Try.ntmps47
    go_wp2
    go_step3
    go_wp2
    rw [Exit.noGoto_ret]
    go_ret2
    exact ⟨rfl, rfl⟩
  · have h' : ¬ b < 1 := by omega
    go_enter Try.func47, Try.ntmps47
    go_wp2
    go_step3
    go_wp2
    rw [Exit.noGoto_ret]
    go_ret2
    exact ⟨rfl, rfl⟩

set_option maxRecDepth 1000000 in
set_option maxHeartbeats 1600000 in
theorem implTakeU (s : ByteArray) (b : Nat) (hs : s.size ≤ 1048576) (hb0 : 1 ≤ b) (hb1 : b ≤ 64) (w : World) :
    Calls Try.prog 10 #[.string s, .int .i64 b] w fun e w' => e = .returned (.tuple #[.int .u64 (tu s b).1, .int .i64 (tu s b).2]) ∧ ∃ n, w' = w.drewN n := by
  have H := implGroups s b hs hb0 hb1
  rcases hsc : scan s (most b) 0 with _ | j
  · rw [tg_none s b hsc] at H
    rw [tu_none s b hsc]
    clear hsc
    go_enter Try.func10, Try.ntmps10
    go_wp2_with (go_at_call 47; refine (H _).mono ?_; rintro e w' ⟨rfl, rfl⟩; clear H)
    go_quiet (fail)
    go_wp2
    go_ret2
    exact ⟨rfl, nq, rfl⟩
  · have hi := scan_is s _ _ _ hsc
    have hmo : most b = (b + 6) / 7 := rfl
    have hj7 : 7 * j + 1 ≤ b := by omega
    have hjs : j < s.size := hi.2.2.1
    have hlast := pt_last s j hi.2.2.2
    have e := get_bt s j hjs
    have hb255 := bt_le s j
    have hb000 := bt_nonneg s j
    rw [tg_some s b j hsc] at H
    clear hmo
    have hwr : IntKind.i64.wrap (j : Int) = j := IntWalk.i64_in _ ⟨by omega, by omega⟩
    have hne : ((j : Int) + 1 == 0) = false := by simp; omega
    obtain ⟨r, hr⟩ : ∃ r, r = b - 7 * j := ⟨_, rfl⟩
    have hroom := room_at b j r (by omega) hb1
    by_cases hg : bt s j / 2 ^ r = 0
    · rw [tu_good s b j hsc (by rw [hlast, ← hr]; exact hg)]
      have hg' : (bt s j / 2 ^ min r 8 != 0) = false := by rw [min8 _ _ hb000 hb255]; simpa using hg
      have HR : Hid (∀ w : World, Calls Try.prog 48 #[.int .i64 (b : Int), .int .i64 ((j : Int) + 1)] w fun e w' => e = .returned (.int .i64 (r : Int)) ∧ w' = w) := hroom
      clear hsc hlast hi hg hr hroom
      go_enter Try.func10, Try.ntmps10
      go_wp2_with (go_at_call 47; refine (H _).mono ?_; rintro e w' ⟨rfl, rfl⟩; clear H)
      go_quiet ((go_at_call 48; exact Calls.quiet_of_same (HR.out _)))
      go_wp2
      go_ret2
      exact ⟨ret_pair rfl (by omega), nq, rfl⟩
    · rw [tu_bad s b j hsc (by rw [hlast, ← hr]; exact hg)]
      have hg' : (bt s j / 2 ^ min r 8 != 0) = true := by rw [min8 _ _ hb000 hb255]; simpa using hg
      have HR : Hid (∀ w : World, Calls Try.prog 48 #[.int .i64 (b : Int), .int .i64 ((j : Int) + 1)] w fun e w' => e = .returned (.int .i64 (r : Int)) ∧ w' = w) := hroom
      clear hsc hlast hi hg hr hroom
      go_enter Try.func10, Try.ntmps10
      go_wp2_with (go_at_call 47; refine (H _).mono ?_; rintro e w' ⟨rfl, rfl⟩; clear H)
      go_quiet ((go_at_call 48; exact Calls.quiet_of_same (HR.out _)))
      go_wp2
      go_ret2
      exact ⟨rfl, nq, rfl⟩

set_option maxRecDepth 1000000 in
set_option maxHeartbeats 400000 in
theorem implTakeU_out (s : ByteArray) (b : Int) (h : b < 1 ∨ 64 < b) (w : World) :
    Calls Try.prog 10 #[.string s, .int .i64 b] w fun e w' => e = .returned (.tuple #[.int .u64 0, .int .i64 0]) ∧ ∃ n, w' = w.drewN n := by
  have H := groups_out s b h
  clear h
  go_enter Try.func10, Try.ntmps10
  go_wp2_with (go_at_call 47; refine (H _).mono ?_; rintro e w' ⟨rfl, rfl⟩; clear H)
  go_quiet (fail)
  go_wp2
  go_ret2
  exact ⟨rfl, nq, rfl⟩

end Go.Proofs.Ytnimlkobcginjaa
