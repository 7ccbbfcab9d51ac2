/-
  The walks of the law on reading a name.
-/
import Derived.Test.YtihabioaodfolabTakeU
import Derived.Test.YtihabioaodfolabTSMath
import Derived.Test.YtihabioaodfolabClone
namespace Go.Proofs.Ytihabioaodfolab
open Go.ChangeShapes Go.WideShapes Go.ChangeAt Go.RowKit Go.PlainAid

theorem tu_facts (s : ByteArray) (b : Nat) (hb : b ≤ 64) : (tu s b).2 ≤ s.size ∧ (tu s b).2 ≤ 10 ∧ 0 ≤ (tu s b).1 ∧ (tu s b).1 ≤ 18446744073709551615 := by
  rcases h : scan s (most b) 0 with _ | j
  · rw [tu_none s b h]; simp
  · have hi := scan_is s _ _ _ h
    have hm : most b ≤ 10 := by unfold most; omega
    by_cases hg : pt s j / 2 ^ (b - 7 * j) = 0
    · rw [tu_good s b j h hg]
      have ha := acc_in s (j + 1)
      exact ⟨by show j + 1 ≤ _; omega, by show j + 1 ≤ _; omega, ha.1, ha.2⟩
    · rw [tu_bad s b j h hg]; simp

theorem slice_nat {P : Program} (T : TypeId) (hu : P.underlying T = some .string) (s : ByteArray) (t n : Nat) (h : t + n ≤ s.size) (wx : World) :
    (Instr.slice T (.string s) (some (.int .i64 (t : Int))) (some (.int .i64 ((t : Int) + (n : Int)))) none).run P wx = .ok (.string (s.extract t (t + n))) wx := by
  have H := run_slice_string (P := P) wx T s .i64 .i64 (t : Int) ((t : Int) + (n : Int)) hu (by omega) (by omega) (by omega)
  have e : ((t : Int) + (n : Int)).toNat = t + n := by omega
  rw [e] at H
  exact H

set_option maxRecDepth 100000 in
set_option maxHeartbeats 800000 in
theorem specTName_no (s : ByteArray) (_hs : s.size ≤ 1048576) (n : Int) (t : Nat) (hn0 : 0 ≤ n) (hn1 : n ≤ 18446744073709551615) (ht : t ≤ s.size) (ht2 : t ≤ 10)
    (H : Hid (∀ w : World, Calls Try.prog 15 #[.string s, .int .i64 32] w fun e w' => e = .returned (.tuple #[.int .u64 n, .int .i64 t]) ∧ w' = w))
    (hno : t = 0 ∨ 100 < n ∨ (s.size : Int) - t < n) (w : World) :
    Calls Try.prog 13 #[.string s] w fun e w' => e = .returned (.tuple #[.string ⟨#[]⟩, .int .i64 0, .bool false]) ∧ w' = w := by
  by_cases h1 : t = 0
  · subst h1
    clear hno
    go_enter Try.func13, Try.ntmps13
    go_wp2_with (go_at_call 15; refine (H.out _).mono ?_; rintro e w' ⟨rfl, rfl⟩; clear H)
    go_ret3
    exact ⟨rfl, rfl⟩
  · have h1' : ((t : Int) == 0) = false := by simp; omega
    by_cases h2 : 100 < n
    · clear hno
      go_enter Try.func13, Try.ntmps13
      go_wp2_with (go_at_call 15; refine (H.out _).mono ?_; rintro e w' ⟨rfl, rfl⟩; clear H)
      go_ret3
      exact ⟨rfl, rfl⟩
    · have h3 : (s.size : Int) - t < n := by omega
      have h2' : n ≤ 100 := by omega
      clear hno
      go_enter Try.func13, Try.ntmps13
      go_wp2_with (go_at_call 15; refine (H.out _).mono ?_; rintro e w' ⟨rfl, rfl⟩; clear H)
      go_ret3
      exact ⟨rfl, rfl⟩

set_option maxRecDepth 100000 in
set_option maxHeartbeats 800000 in
theorem specTName_yes (s : ByteArray) (_hs : s.size ≤ 1048576) (n : Nat) (t : Nat) (h100 : n ≤ 100) (ht0 : 1 ≤ t) (ht2 : t ≤ 10) (hsum : t + n ≤ s.size)
    (H : Hid (∀ w : World, Calls Try.prog 15 #[.string s, .int .i64 32] w fun e w' => e = .returned (.tuple #[.int .u64 n, .int .i64 t]) ∧ w' = w)) (w : World) :
    Calls Try.prog 13 #[.string s] w fun e w' => e = .returned (.tuple #[.string (s.extract t (t + n)), .int .i64 ((t : Int) + n), .bool true]) ∧ w' = w := by
  have h1' : ((t : Int) == 0) = false := by simp; omega
  have h3 : ¬ (s.size : Int) - t < n := by omega
  have h4 : (n : Int) ≤ (s.size : Int) - t := by omega
  have hsl := slice_nat (P := Try.prog) 9 Try.underlying9 s t n hsum
  go_enter Try.func13, Try.ntmps13
  go_wp2_with (go_at_call 15; refine (H.out _).mono ?_; rintro e w' ⟨rfl, rfl⟩; clear H)
  go_ret3
  exact ⟨rfl, rfl⟩

set_option maxRecDepth 100000 in
set_option maxHeartbeats 800000 in
theorem takeText_no (s : ByteArray) (_hs : s.size ≤ 1048576) (m : Nat) (hm : m ≤ 1000000) (n : Int) (t : Nat) (hn0 : 0 ≤ n) (hn1 : n ≤ 18446744073709551615) (ht : t ≤ s.size) (ht2 : t ≤ 10)
    (H : Hid (∀ w : World, Calls Try.prog 24 #[.string s, .int .i64 32] w fun e w' => e = .returned (.tuple #[.int .u64 n, .int .i64 t]) ∧ ∃ q, w' = w.drewN q))
    (hno : t = 0 ∨ (m : Int) < n ∨ (s.size : Int) - t < n) (w : World) :
    Calls Try.prog 17 #[.string s, .int .u64 m] w fun e w' => e = .returned (.tuple #[.string ⟨#[]⟩, .int .i64 0, .bool false]) ∧ Below w.heap.size w w' := by
  by_cases h1 : t = 0
  · subst h1
    clear hno
    go_enter Try.func17, Try.ntmps17
    go_wp2_with (go_at_call 24; refine (H.out _).mono ?_; rintro e w' ⟨rfl, q, rfl⟩; clear H)
    go_ret3
    exact ⟨rfl, below_drewN (Below.refl _ _) _⟩
  · have h1' : ((t : Int) == 0) = false := by simp; omega
    by_cases h2 : (m : Int) < n
    · clear hno
      go_enter Try.func17, Try.ntmps17
      go_wp2_with (go_at_call 24; refine (H.out _).mono ?_; rintro e w' ⟨rfl, q, rfl⟩; clear H)
      go_ret3
      exact ⟨rfl, below_drewN (Below.refl _ _) _⟩
    · have h3 : (s.size : Int) - t < n := by omega
      have h2' : n ≤ m := by omega
      clear hno
      go_enter Try.func17, Try.ntmps17
      go_wp2_with (go_at_call 24; refine (H.out _).mono ?_; rintro e w' ⟨rfl, q, rfl⟩; clear H)
      go_ret3
      exact ⟨rfl, below_drewN (Below.refl _ _) _⟩

set_option maxRecDepth 100000 in
set_option maxHeartbeats 800000 in
theorem takeText_yes (s : ByteArray) (hs : s.size ≤ 1048576) (m : Nat) (hm : m ≤ 1000000) (n : Nat) (t : Nat) (hnm : n ≤ m) (ht0 : 1 ≤ t) (ht2 : t ≤ 10) (hsum : t + n ≤ s.size)
    (H : Hid (∀ w : World, Calls Try.prog 24 #[.string s, .int .i64 32] w fun e w' => e = .returned (.tuple #[.int .u64 n, .int .i64 t]) ∧ ∃ q, w' = w.drewN q)) (w : World) :
    Calls Try.prog 17 #[.string s, .int .u64 m] w fun e w' => e = .returned (.tuple #[.string (s.extract t (t + n)), .int .i64 ((t : Int) + n), .bool true]) ∧ Below w.heap.size w w' := by
  have h1' : ((t : Int) == 0) = false := by simp; omega
  have h3 : ¬ (s.size : Int) - t < n := by omega
  have h4 : (n : Int) ≤ (s.size : Int) - t := by omega
  have h5 : (n : Int) ≤ m := by omega
  have hsl := slice_nat (P := Try.prog) 9 Try.underlying9 s t n hsum
  have hex : (s.extract t (t + n)).size ≤ 281474976710656 := by simp only [ByteArray.size_extract]; omega
  have HC : Hid (∀ w : World, Calls Try.prog 25 #[.string (s.extract t (t + n))] w fun e w' => e = .returned (.string (s.extract t (t + n))) ∧ Below w.heap.size w w') := fun w => stringsClone _ w hex
  clear hex
  go_enter Try.func17, Try.ntmps17
  go_wp2_with (first | (go_at_call 24; refine (H.out _).mono ?_; rintro e w' ⟨rfl, q, rfl⟩; clear H) | (go_at_call 25; refine (HC.out _).mono ?_; rintro e w'' ⟨rfl, hb⟩; clear HC))
  go_ret3
  exact ⟨rfl, (below_drewN (Below.refl _ _) _).trans (by assumption)⟩

set_option maxRecDepth 100000 in
set_option maxHeartbeats 800000 in
theorem implTName (s : ByteArray) (e0 : Ending) (hty : ∃ a b c, e0 = .returned (.tuple #[.string a, .int .i64 b, .bool c]))
    (H : Hid (∀ w : World, Calls Try.prog 17 #[.string s, .int .u64 100] w fun e w' => e = e0 ∧ Below w.heap.size w w')) (w : World) :
    Calls Try.prog 14 #[.string s] w fun e w' => e = e0 ∧ Below w.heap.size w w' := by
  obtain ⟨a, b, c, rfl⟩ := hty
  go_enter Try.func14, Try.ntmps14
  go_wp2_with (go_at_call 17; refine (H.out _).mono ?_; rintro e w' ⟨rfl, hb⟩; clear H)
  go_ret3
  exact ⟨rfl, by assumption⟩

set_option maxRecDepth 100000 in
set_option maxHeartbeats 800000 in
theorem takeName_law (s : ByteArray) (hs : s.size ≤ 1048576) (a : ByteArray) (b : Int) (c : Bool)
    (H1 : Hid (∀ w : World, Calls Try.prog 13 #[.string s] w fun e w' => e = .returned (.tuple #[.string a, .int .i64 b, .bool c]) ∧ w' = w))
    (H2 : Hid (∀ w : World, Calls Try.prog 14 #[.string s] w fun e w' => e = .returned (.tuple #[.string a, .int .i64 b, .bool c]) ∧ Below w.heap.size w w')) (w : World) :
    Calls Try.prog 5 #[.string s] w fun e w' => e = .returned (.bool true) ∧ Below w.heap.size w w' := by
  cases c
  · go_enter Try.func5, Try.ntmps5
    go_wp2_with (first | (go_at_call 13; refine (H1.out _).mono ?_; rintro e w' ⟨rfl, rfl⟩; clear H1) | (go_at_call 14; refine (H2.out _).mono ?_; rintro e w'' ⟨rfl, hb⟩; clear H2))
    go_ret
    exact ⟨rfl, by assumption⟩
  · go_enter Try.func5, Try.ntmps5
    go_wp2_with (first | (go_at_call 13; refine (H1.out _).mono ?_; rintro e w' ⟨rfl, rfl⟩; clear H1) | (go_at_call 14; refine (H2.out _).mono ?_; rintro e w'' ⟨rfl, hb⟩; clear H2))
    go_ret
    exact ⟨rfl, by assumption⟩

set_option maxRecDepth 100000 in
set_option maxHeartbeats 800000 in
theorem takeName_walk (a0 : ByteArray) (_w0 : a0.size ≤ maxLen) (w : World) :
    Calls Try.prog 5 #[.string a0] w fun e w' => e = .returned (.bool true) ∧ Below w.heap.size w w' := by
  unfold maxLen at _w0
  by_cases hs : a0.size ≤ 1048576
  · have hf := tu_facts a0 32 (by omega)
    have G1 := specTakeU a0 32 hs (by omega) (by omega)
    have G2 := implTakeU a0 32 hs (by omega) (by omega)
    generalize tu a0 32 = nt at hf G1 G2
    obtain ⟨n, t⟩ := nt
    simp only at hf G1 G2
    obtain ⟨hf1, hf2, hf3, hf4⟩ := hf
    by_cases hno : t = 0 ∨ 100 < n ∨ (a0.size : Int) - t < n
    · exact takeName_law a0 hs ⟨#[]⟩ 0 false (specTName_no a0 hs n t hf3 hf4 hf1 hf2 G1 hno) (implTName a0 _ ⟨_, _, _, rfl⟩ (takeText_no a0 hs 100 (by omega) n t hf3 hf4 hf1 hf2 G2 hno)) w
    · obtain ⟨m, rfl⟩ : ∃ m : Nat, n = m := ⟨n.toNat, by omega⟩
      exact takeName_law a0 hs (a0.extract t (t + m)) ((t : Int) + m) true (specTName_yes a0 hs m t (by omega) (by omega) (by omega) (by omega) G1) (implTName a0 _ ⟨_, _, _, rfl⟩ (takeText_yes a0 hs 100 (by omega) m t (by omega) (by omega) (by omega) (by omega) G2)) w
  · have hs' : (1048576 : Int) < (a0.size : Int) := by omega
    go_enter Try.func5, Try.ntmps5
    go_wp2
    go_ret
    exact ⟨rfl, Below.refl _ _⟩

end Go.Proofs.Ytihabioaodfolab
