/-
  The walks of the law on the bytes of a name.
-/
import Derived.Test.YtihabioaodfolabUlebBytes
namespace Go.Proofs.Ytihabioaodfolab
open Go.ChangeShapes Go.WideShapes Go.ChangeAt Go.RowKit

set_option maxRecDepth 100000 in
set_option maxHeartbeats 400000 in
theorem specName (s : ByteArray) (hs : s.size ≤ 100) (w : World) :
    Calls Try.prog 11 #[.string s] w fun e w' => e = .returned (.tuple #[.string (⟨(ul 10 s.size).toArray⟩ ++ s), .bool true]) ∧ Below w.heap.size w w' := by
  have h : Hid (s.size < 18446744073709551616) := by unfold Hid; omega
  have hl := ul_len 10 s.size
  go_enter Try.func11, Try.ntmps11
  go_wp2_with (go_at_call 21; refine (specUleb s.size h _).mono ?_; rintro e w' ⟨rfl, hb⟩)
  go_ret2
  exact ⟨rfl, by assumption⟩

set_option maxRecDepth 100000 in
set_option maxHeartbeats 400000 in
theorem implName (s : ByteArray) (hs : s.size ≤ 100) (w : World) :
    Calls Try.prog 12 #[.string s] w fun e w' => e = .returned (.tuple #[.string (⟨(ul 10 s.size).toArray⟩ ++ s), .bool true]) ∧ Below w.heap.size w w' := by
  have h : Hid (s.size < 18446744073709551616) := by unfold Hid; omega
  have hl := ul_len 10 s.size
  go_enter Try.func12, Try.ntmps12
  go_wp2_with (go_at_call 22; refine (implUlebBytes s.size h _).mono ?_; rintro e w' ⟨rfl, hb⟩)
  go_ret2
  exact ⟨rfl, by assumption⟩

set_option maxRecDepth 100000 in
set_option maxHeartbeats 400000 in
theorem nameBytes_walk (a0 : ByteArray) (_w0 : a0.size ≤ maxLen) (w : World) :
    Calls Try.prog 4 #[.string a0] w fun e w' => e = .returned (.bool true) ∧ Below w.heap.size w w' := by
  unfold maxLen at _w0
  by_cases hs : a0.size ≤ 1048576
  · by_cases h1 : a0.size ≤ 100
    · go_enter Try.func4, Try.ntmps4
      go_wp2_with (first | (go_at_call 11; refine (specName a0 h1 _).mono ?_; rintro e w' ⟨rfl, hb⟩) | (go_at_call 12; refine (implName a0 h1 _).mono ?_; rintro e w'' ⟨rfl, hb2⟩))
      go_ret
      exact ⟨rfl, below2 (by assumption) (by assumption)⟩
    · go_enter Try.func4, Try.ntmps4
      go_wp2
      go_ret
      exact ⟨rfl, Below.refl _ _⟩
  · have hs' : (1048576 : Int) < (a0.size : Int) := by omega
    go_enter Try.func4, Try.ntmps4
    go_wp2
    go_ret
    exact ⟨rfl, Below.refl _ _⟩

end Go.Proofs.Ytihabioaodfolab
