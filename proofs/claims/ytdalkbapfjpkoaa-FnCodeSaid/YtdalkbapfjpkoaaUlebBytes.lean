/-
  The walk of the law on the bytes of a number.
-/
import Derived.Test.YtdalkbapfjpkoaaApp
namespace Go.Proofs.Ytdalkbapfjpkoaa
open Go.ChangeShapes Go.WideShapes Go.ChangeAt Go.RowKit

theorem ulAll_one (n : Nat) : [] ++ ulAll [n] = ul 10 n := by simp [ulAll]
theorem appendUlebs_one (n : Nat) (h : n < 18446744073709551616) (w : World) :
    Calls Try.prog 42 #[.slice none 0 0, .slice (some ⟨w.heap.size, 0, none⟩) 1 1] (w.alloc (.cells #[.int .u64 (n : Int)] 40)) fun e w' =>
      ∃ v', e = .returned v' ∧ w'.ownsRow w.heap.size 5 1 v' (ul 10 n).length (bv (ul 10 n)) ∧ Below w.heap.size w w' := by
  have H := appendUlebs_any w.heap.size (.slice none 0 0) [] w.heap.size [n] (w.alloc (.cells #[.int .u64 (n : Int)] 40)) (by intro m hm; simp at hm; subst hm; exact h)
    (World.ownsRow_nil _ _ _ _) (heap_alloc_new _ _) (by simp) (by simp)
  rw [ulAll_one] at H
  refine H.mono ?_
  rintro e w' ⟨v', rfl, ho, _, hb⟩
  exact ⟨v', rfl, ho, ((Below.refl _ _).alloc (Nat.le_refl _) _).trans hb⟩

set_option maxRecDepth 100000 in
set_option maxHeartbeats 400000 in
theorem implUlebBytes (n : Nat) (h : Hid (n < 18446744073709551616)) (w : World) :
    Calls Try.prog 30 #[.int .u64 n] w fun e w' => e = .returned (.string ⟨(ul 10 n).toArray⟩) ∧ Below w.heap.size w w' := by
  go_enter Try.func30, Try.ntmps30
  go_wp2_with (go_at_call 42; refine (appendUlebs_one n h.out _).mono ?_; rintro e w' ⟨v', rfl, ho, hb⟩; have hcv := owned_string (P := Try.prog) 22 9 5 Try.underlying22 Try.underlying5 Try.underlying9 ho; clear ho)
  go_ret
  exact ⟨rfl, by assumption⟩

end Go.Proofs.Ytdalkbapfjpkoaa
