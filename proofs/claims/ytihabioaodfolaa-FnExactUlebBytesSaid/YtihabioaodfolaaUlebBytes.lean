/-
  The walk of the law on the bytes of a number.
-/
import Derived.Test.YtihabioaodfolaaApp
namespace Go.Proofs.Ytihabioaodfolaa
open Go.ChangeShapes Go.WideShapes Go.ChangeAt Go.RowKit

theorem ulAll_one (n : Nat) : [] ++ ulAll [n] = ul 10 n := by simp [ulAll]
theorem appendUlebs_one (n : Nat) (h : n < 18446744073709551616) (w : World) :
    Calls Try.prog 25 #[.slice none 0 0, .slice (some ⟨w.heap.size, 0, none⟩) 1 1] (w.alloc (.cells #[.int .u64 (n : Int)] 22)) fun e w' =>
      ∃ v', e = .returned v' ∧ w'.ownsRow w.heap.size 5 1 v' (ul 10 n).length (bv (ul 10 n)) ∧ Below w.heap.size w w' := by
  have H := appendUlebs_any w.heap.size (.slice none 0 0) [] w.heap.size [n] (w.alloc (.cells #[.int .u64 (n : Int)] 22)) (by intro m hm; simp at hm; subst hm; exact h)
    (World.ownsRow_nil _ _ _ _) (heap_alloc_new _ _) (by simp) (by simp)
  rw [ulAll_one] at H
  refine H.mono ?_
  rintro e w' ⟨v', rfl, ho, hb⟩
  exact ⟨v', rfl, ho, ((Below.refl _ _).alloc (Nat.le_refl _) _).trans hb⟩

set_option maxRecDepth 100000 in
set_option maxHeartbeats 400000 in
theorem implUlebBytes (n : Nat) (h : Hid (n < 18446744073709551616)) (w : World) :
    Calls Try.prog 10 #[.int .u64 n] w fun e w' => e = .returned (.string ⟨(ul 10 n).toArray⟩) ∧ Below w.heap.size w w' := by
  go_enter Try.func10, Try.ntmps10
  go_wp2_with (go_at_call 25; refine (appendUlebs_one n h.out _).mono ?_; rintro e w' ⟨v', rfl, ho, hb⟩; have hcv := owned_string (P := Try.prog) 41 9 5 Try.underlying41 Try.underlying5 Try.underlying9 ho; clear ho)
  go_ret
  exact ⟨rfl, by assumption⟩

set_option maxRecDepth 100000 in
set_option maxHeartbeats 400000 in
theorem specUlebBytes (n : Nat) (h : Hid (n < 18446744073709551616)) (w : World) :
    Calls Try.prog 9 #[.int .u64 n] w fun e w' => e = .returned (.string ⟨(ul 10 n).toArray⟩) ∧ Below w.heap.size w w' := by
  go_enter Try.func9, Try.ntmps9
  go_wp2_with (go_at_call 24; refine (specUleb n h _).mono ?_; rintro e w' ⟨rfl, hb⟩)
  go_ret
  exact ⟨rfl, by assumption⟩

set_option maxRecDepth 100000 in
set_option maxHeartbeats 400000 in
theorem ulebBytes_walk (a0 : Int) (w0 : (Lit.int .u64 a0).wf = true) (w : World) :
    Calls Try.prog 3 #[.int .u64 a0] w fun e w' => e = .returned (.bool true) ∧ Below w.heap.size w w' := by
  have hb := bounds_u64 w0
  obtain ⟨n, rfl⟩ : ∃ n : Nat, a0 = n := ⟨a0.toNat, by omega⟩
  have h : Hid (n < 18446744073709551616) := by unfold Hid; omega
  clear hb w0
  go_enter Try.func3, Try.ntmps3
  go_wp2_with (first | (go_at_call 9; refine (specUlebBytes n h _).mono ?_; rintro e w' ⟨rfl, hb⟩) | (go_at_call 10; refine (implUlebBytes n h _).mono ?_; rintro e w'' ⟨rfl, hb2⟩))
  go_ret
  exact ⟨rfl, below2 (by assumption) (by assumption)⟩
end Go.Proofs.Ytihabioaodfolaa
