/-
  The walks of the law on reading a name.
-/
import Derived.Test.YtnimlkobcginjaaTakeU
import Derived.Test.YtnimlkobcginjaaTSMath
import Derived.Test.YtnimlkobcginjaaClone
namespace Go.Proofs.Ytnimlkobcginjaa
open Go.ChangeShapes Go.WideShapes Go.ChangeAt Go.RowKit Go.PlainAid

theorem tu_facts (s : ByteArray) (b : Nat) (hb : b ≤ 64) : (tu s b).2 ≤ s.size ∧ (tu s b).2 ≤ 10 ∧ 0 ≤ (tu s b).1 ∧ (tu s b).1 ≤ 18446744073709551615 := by
  rcases h : scan s (most b) 0 with _ | j
  · rw [tu_none s b h]; simp
  · have hi := scan_is s _ _ _ h
    have hm : most b ≤ 10 := by unfold most; omega
    by_cases hg : pt s j / 2 ^ (b - 7 * j) = 0
    · rw [tu_good s b j h hg]
      have ha := acc_in s (j + 1)
      exact ⟨by show j + 1 ≤ _; omega, by show j + 1 ≤ _; omega, ha.1, ha.2⟩
    · rw [tu_bad s b j h hg]; simp

theorem slice_nat {P : Program} (T : TypeId) (hu : P.underlying T = some .string) (s : ByteArray) (t n : Nat) (h : t + n ≤ s.size) (wx : World) :
    (Instr.slice T (.string s) (some (.int .i64 (t : Int))) (some (.int .i64 ((t : Int) + (n : Int)))) none).run P wx = .ok (.string (s.extract t (t + n))) wx := by
  have H := run_slice_string (P := P) wx T s .i64 .i64 (t : Int) ((t : Int) + (n : Int)) hu (by omega) (by omega) (by omega)
  have e : ((t : Int) + (n : Int)).toNat = t + n := by omega
  rw [e] at H
  exact H

set_option maxRecDepth 100000 in
set_option maxHeartbeats 800000 in
theorem takeText_no (s : ByteArray) (_hs : s.size ≤ 1048576) (m : Nat) (hm : m ≤ 1000000) (n : Int) (t : Nat) (hn0 : 0 ≤ n) (hn1 : n ≤ 18446744073709551615) (ht : t ≤ s.size) (ht2 : t ≤ 10)
    (H : Hid (∀ w : World, Calls Try.prog 10 #[.string s, .int .i64 32] w fun e w' => e = .returned (.tuple #[.int .u64 n, .int .i64 t]) ∧ ∃ q, w' = w.drewN q))
    (hno : t = 0 ∨ (m : Int) < n ∨ (s.size : Int) - t < n) (w : World) :
    Calls Try.prog 63 #[.string s, .int .u64 m] w fun e w' => e = .returned (.tuple #[.string ⟨#[]⟩, .int .i64 0, .bool false]) ∧ Below w.heap.size w w' := by
  by_cases h1 : t = 0
  · subst h1
    clear hno
    go_enter Try.func63, Try.ntmps63
    go_wp2_with (go_at_call 10; refine (H.out _).mono ?_; rintro e w' ⟨rfl, q, rfl⟩; clear H)
    go_ret3
    exact ⟨rfl, below_drewN (Below.refl _ _) _⟩
  · have h1' : ((t : Int) == 0) = false := by simp; omega
    by_cases h2 : (m : Int) < n
    · clear hno
      go_enter Try.func63, Try.ntmps63
      go_wp2_with (go_at_call 10; refine (H.out _).mono ?_; rintro e w' ⟨rfl, q, rfl⟩; clear H)
      go_ret3
      exact ⟨rfl, below_drewN (Below.refl _ _) _⟩
    · have h3 : (s.size : Int) - t < n := by omega
      have h2' : n ≤ m := by omega
      clear hno
      go_enter Try.func63, Try.ntmps63
      go_wp2_with (go_at_call 10; refine (H.out _).mono ?_; rintro e w' ⟨rfl, q, rfl⟩; clear H)
      go_ret3
      exact ⟨rfl, below_drewN (Below.refl _ _) _⟩

set_option maxRecDepth 100000 in
set_option maxHeartbeats 800000 in
theorem takeText_yes (s : ByteArray) (hs : s.size ≤ 1048576) (m : Nat) (hm : m ≤ 1000000) (n : Nat) (t : Nat) (hnm : n ≤ m) (ht0 : 1 ≤ t) (ht2 : t ≤ 10) (hsum : t + n ≤ s.size)
    (H : Hid (∀ w : World, Calls Try.prog 10 #[.string s, .int .i64 32] w fun e w' => e = .returned (.tuple #[.int .u64 n, .int .i64 t]) ∧ ∃ q, w' = w.drewN q)) (w : World) :
    Calls Try.prog 63 #[.string s, .int .u64 m] w fun e w' => e = .returned (.tuple #[.string (s.extract t (t + n)), .int .i64 ((t : Int) + n), .bool true]) ∧ Below w.heap.size w w' := by
  have h1' : ((t : Int) == 0) = false := by simp; omega
  have h3 : ¬ (s.size : Int) - t < n := by omega
  have h4 : (n : Int) ≤ (s.size : Int) - t := by omega
  have h5 : (n : Int) ≤ m := by omega
  have hsl := slice_nat (P := Try.prog) 9 Try.underlying9 s t n hsum
  have hex : (s.extract t (t + n)).size ≤ 281474976710656 := by simp only [ByteArray.size_extract]; omega
  have HC : Hid (∀ w : World, Calls Try.prog 96 #[.string (s.extract t (t + n))] w fun e w' => e = .returned (.string (s.extract t (t + n))) ∧ Below w.heap.size w w') := fun w => stringsClone _ w hex
  clear hex
  go_enter Try.func63, Try.ntmps63
  go_wp2_with (first | (go_at_call 10; refine (H.out _).mono ?_; rintro e w' ⟨rfl, q, rfl⟩; clear H) | (go_at_call 96; refine (HC.out _).mono ?_; rintro e w'' ⟨rfl, hb⟩; clear HC))
  go_ret3
  exact ⟨rfl, (below_drewN (Below.refl _ _) _).trans (by assumption)⟩

set_option maxRecDepth 100000 in
set_option maxHeartbeats 800000 in
theorem implTName (s : ByteArray) (e0 : Ending) (hty : ∃ a b c, e0 = .returned (.tuple #[.string a, .int .i64 b, .bool c]))
    (H : Hid (∀ w : World, Calls Try.prog 63 #[.string s, .int .u64 100] w fun e w' => e = e0 ∧ Below w.heap.size w w')) (w : World) :
    Calls Try.prog 26 #[.string s] w fun e w' => e = e0 ∧ Below w.heap.size w w' := by
  obtain ⟨a, b, c, rfl⟩ := hty
  go_enter Try.func26, Try.ntmps26
  go_wp2_with (go_at_call 63; refine (H.out _).mono ?_; rintro e w' ⟨rfl, hb⟩; clear H)
  go_ret3
  exact ⟨rfl, by assumption⟩

end Go.Proofs.Ytnimlkobcginjaa
