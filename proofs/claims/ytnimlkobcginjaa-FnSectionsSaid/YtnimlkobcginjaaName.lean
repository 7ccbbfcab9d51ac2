/-
  The walks of the law on the bytes of a name.
-/
import Derived.Test.YtnimlkobcginjaaUlebBytes
namespace Go.Proofs.Ytnimlkobcginjaa
open Go.ChangeShapes Go.WideShapes Go.ChangeAt Go.RowKit

set_option maxRecDepth 100000 in
set_option maxHeartbeats 400000 in
theorem specName (s : ByteArray) (hs : s.size ≤ 100) (w : World) :
    Calls Try.prog 25 #[.string s] w fun e w' => e = .returned (.tuple #[.string (⟨(ul 10 s.size).toArray⟩ ++ s), .bool true]) ∧ Below w.heap.size w w' := by
  have h : Hid (s.size < 18446744073709551616) := by unfold Hid; omega
  have hl := ul_len 10 s.size
  go_enter Try.func25, Try.ntmps25
  go_wp2_with (go_at_call 49; refine (specUleb s.size h _).mono ?_; rintro e w' ⟨rfl, hb⟩)
  go_ret2
  exact ⟨rfl, by assumption⟩

set_option maxRecDepth 100000 in
set_option maxHeartbeats 400000 in
theorem implName (s : ByteArray) (hs : s.size ≤ 100) (w : World) :
    Calls Try.prog 24 #[.string s] w fun e w' => e = .returned (.tuple #[.string (⟨(ul 10 s.size).toArray⟩ ++ s), .bool true]) ∧ Below w.heap.size w w' := by
  have h : Hid (s.size < 18446744073709551616) := by unfold Hid; omega
  have hl := ul_len 10 s.size
  go_enter Try.func24, Try.ntmps24
  go_wp2_with (go_at_call 9; refine (implUlebBytes s.size h _).mono ?_; rintro e w' ⟨rfl, hb⟩)
  go_ret2
  exact ⟨rfl, by assumption⟩

end Go.Proofs.Ytnimlkobcginjaa
