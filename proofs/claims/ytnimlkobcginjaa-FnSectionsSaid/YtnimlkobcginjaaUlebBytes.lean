/-
  The walk of the law on the bytes of a number.
-/
import Derived.Test.YtnimlkobcginjaaApp
namespace Go.Proofs.Ytnimlkobcginjaa
open Go.ChangeShapes Go.WideShapes Go.ChangeAt Go.RowKit

theorem ulAll_one (n : Nat) : [] ++ ulAll [n] = ul 10 n := by simp [ulAll]
theorem appendUlebs_one (n : Nat) (h : n < 18446744073709551616) (w : World) :
    Calls Try.prog 46 #[.slice none 0 0, .slice (some ⟨w.heap.size, 0, none⟩) 1 1] (w.alloc (.cells #[.int .u64 (n : Int)] 23)) fun e w' =>
      ∃ v', e = .returned v' ∧ w'.ownsRow w.heap.size 5 1 v' (ul 10 n).length (bv (ul 10 n)) ∧ Below w.heap.size w w' := by
  have H := appendUlebs_any w.heap.size (.slice none 0 0) [] w.heap.size [n] (w.alloc (.cells #[.int .u64 (n : Int)] 23)) (by intro m hm; simp at hm; subst hm; exact h)
    (World.ownsRow_nil _ _ _ _) (heap_alloc_new _ _) (by simp) (by simp)
  rw [ulAll_one] at H
  refine H.mono ?_
  rintro e w' ⟨v', rfl, ho, _, hb⟩
  exact ⟨v', rfl, ho, ((Below.refl _ _).alloc (Nat.le_refl _) _).trans hb⟩

set_option maxRecDepth 100000 in
set_option maxHeartbeats 400000 in
theorem implUlebBytes (n : Nat) (h : Hid (n < 18446744073709551616)) (w : World) :
    Calls Try.prog 9 #[.int .u64 n] w fun e w' => e = .returned (.string ⟨(ul 10 n).toArray⟩) ∧ Below w.heap.size w w' := by
  go_enter Try.func9, Try.ntmps9
  go_wp2_with (go_at_call 46; refine (appendUlebs_one n h.out _).mono ?_; rintro e w' ⟨v', rfl, ho, hb⟩; have hcv := owned_string (P := Try.prog) 22 9 5 Try.underlying22 Try.underlying5 Try.underlying9 ho; clear ho)
  go_ret
  exact ⟨rfl, by assumption⟩

set_option maxRecDepth 100000 in
set_option maxHeartbeats 400000 in
theorem specUlebBytes (n : Nat) (h : Hid (n < 18446744073709551616)) (w : World) :
    Calls Try.prog 11 #[.int .u64 n] w fun e w' => e = .returned (.string ⟨(ul 10 n).toArray⟩) ∧ Below w.heap.size w w' := by
  go_enter Try.func11, Try.ntmps11
  go_wp2_with (go_at_call 49; refine (specUleb n h _).mono ?_; rintro e w' ⟨rfl, hb⟩)
  go_ret
  exact ⟨rfl, by assumption⟩

end Go.Proofs.Ytnimlkobcginjaa
