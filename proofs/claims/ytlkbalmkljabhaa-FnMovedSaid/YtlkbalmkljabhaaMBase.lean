/-
  Memories: what is told of them by small functions.
-/
import Derived.Test.YtlkbalmkljabhaaIn
import Derived.Test.YtlkbalmkljabhaaBel
import Derived.Test.YtlkbalmkljabhaaQHide
namespace Go.Proofs.Ytlkbalmkljabhaa
open Go.RowKit

/-- A memory that is good. -/
def good (M : Int) (D : ByteArray) : Bool := decide (0 ≤ M) && decide (M ≤ 8) && decide ((D.size : Int) % 256 = 0) && decide ((D.size : Int) ≤ M * 256)
theorem good_yes {M : Int} {D : ByteArray} (h : good M D = true) : 0 ≤ M ∧ M ≤ 8 ∧ (D.size : Int) % 256 = 0 ∧ (D.size : Int) ≤ M * 256 := by
  simpa [good, and_assoc] using h
theorem good_small {M : Int} {D : ByteArray} (h : good M D = true) : D.size ≤ 2048 := by
  have := good_yes h; omega

theorem pagesOf (M : Int) (D : ByteArray) (h : D.size ≤ 1048576) (w : World) :
    Calls Try.prog 62 #[.agg #[.int .i64 M, .string D]] w fun e w' => e = .returned (.int .i64 ((D.size : Int) / 256)) ∧ Below w.heap.size w w' := by
  obtain ⟨n, hn⟩ : ∃ n : Int, (D.size : Int) = n := ⟨_, rfl⟩
  have h1 : n.tdiv 256 = n / 256 := Int.tdiv_eq_ediv_of_nonneg (by omega)
  have h2 : wrap64 (n / 256) = n / 256 := by unfold wrap64; omega
  rw [hn]
  clear h
  go_enter Try.func62, Try.ntmps62
  go_wp2
  go_ret
  refine ⟨by show Ending.returned (.int .i64 (wrap64 (n / 256))) = _; rw [h2], ?_⟩
  (repeat (first | refine Below.alloc ?_ (by first | (simp; done) | (simp; omega)) _ | refine Below.setCell ?_ (by first | (simp; done) | (simp; omega)) _ | refine bel_dN ?_ _ | refine Below.drew ?_ | exact Below.refl _ _))

end Go.Proofs.Ytlkbalmkljabhaa
