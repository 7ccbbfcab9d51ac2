/-
  Memories: what is told of them by small functions.
-/
import Derived.Test.YthboenlfcolinaaDoorIn
import Derived.Test.YthboenlfcolinaaDoorBel
import Derived.Test.YthboenlfcolinaaDoorQHide
namespace Go.Proofs.YthboenlfcolinaaDoor
open Go.RowKit

/-- A memory that is good. -/
def good (M : Int) (D : ByteArray) : Bool := decide (0 ≤ M) && decide (M ≤ 8) && decide ((D.size : Int) % 256 = 0) && decide ((D.size : Int) ≤ M * 256)
theorem good_yes {M : Int} {D : ByteArray} (h : good M D = true) : 0 ≤ M ∧ M ≤ 8 ∧ (D.size : Int) % 256 = 0 ∧ (D.size : Int) ≤ M * 256 := by
  simpa [good, and_assoc] using h
theorem good_small {M : Int} {D : ByteArray} (h : good M D = true) : D.size ≤ 2048 := by
  have := good_yes h; omega

theorem toMemory (M : Int) (D : ByteArray) (w : World) :
    Calls Tryd.prog 28 #[.agg #[.int .i64 M, .string D]] w fun e w' => e = .returned (.agg #[.int .i64 M, .string D]) ∧ Below w.heap.size w w' := by
  go_enter Tryd.func28, Tryd.ntmps28
  go_wp2
  refine bodyPost_ret (v := .agg #[.int .i64 M, .string D]) (by simp [results, Tryd.results28, go_sem]) rfl ⟨rfl, ?_⟩
  (repeat (first | refine Below.alloc ?_ (by first | (simp; done) | (simp; omega)) _ | refine Below.setCell ?_ (by first | (simp; done) | (simp; omega)) _ | refine bel_dN ?_ _ | refine Below.drew ?_ | exact Below.refl _ _))

theorem szMemory_no (M : Int) (D : ByteArray) (h : 1048576 < D.size) (hm : D.size ≤ 9223372036854775807) (w : World) :
    Calls Tryd.prog 25 #[.agg #[.int .i64 M, .string D], .int .i64 1048576] w fun e w' => e = .returned (.int .i64 (-1)) ∧ Below w.heap.size w w' := by
  obtain ⟨n, hn⟩ : ∃ n : Int, (D.size : Int) = n := ⟨_, rfl⟩
  have h1 : wrap64 (1048576 - n) = 1048576 - n := by unfold wrap64; omega
  have h2 : 1048576 - n < 0 := by omega
  clear h hm
  go_enter Tryd.func25, Tryd.ntmps25
  go_wp2
  go_ret
  refine ⟨rfl, ?_⟩
  (repeat (first | refine Below.alloc ?_ (by first | (simp; done) | (simp; omega)) _ | refine Below.setCell ?_ (by first | (simp; done) | (simp; omega)) _ | refine bel_dN ?_ _ | refine Below.drew ?_ | exact Below.refl _ _))

theorem szMemory_yes (M : Int) (D : ByteArray) (h : D.size ≤ 1048576) (w : World) :
    Calls Tryd.prog 25 #[.agg #[.int .i64 M, .string D], .int .i64 1048576] w fun e w' => e = .returned (.int .i64 (1048576 - (D.size : Int))) ∧ Below w.heap.size w w' := by
  obtain ⟨n, hn⟩ : ∃ n : Int, (D.size : Int) = n := ⟨_, rfl⟩
  have h1 : wrap64 (1048576 - n) = 1048576 - n := by unfold wrap64; omega
  have h2 : ¬ 1048576 - n < 0 := by omega
  rw [hn]
  clear h
  go_enter Tryd.func25, Tryd.ntmps25
  go_wp2
  go_ret
  refine ⟨rfl, ?_⟩
  (repeat (first | refine Below.alloc ?_ (by first | (simp; done) | (simp; omega)) _ | refine Below.setCell ?_ (by first | (simp; done) | (simp; omega)) _ | refine bel_dN ?_ _ | refine Below.drew ?_ | exact Below.refl _ _))

theorem eqMemory (M : Int) (D : ByteArray) (w : World) :
    Calls Tryd.prog 33 #[.agg #[.int .i64 M, .string D], .agg #[.int .i64 M, .string D]] w fun e w' => e = .returned (.bool true) ∧ Below w.heap.size w w' := by
  go_enter Tryd.func33, Tryd.ntmps33
  go_wp2
  go_ret
  refine ⟨rfl, ?_⟩
  (repeat (first | refine Below.alloc ?_ (by first | (simp; done) | (simp; omega)) _ | refine Below.setCell ?_ (by first | (simp; done) | (simp; omega)) _ | refine bel_dN ?_ _ | refine Below.drew ?_ | exact Below.refl _ _))

theorem pagesOf (M : Int) (D : ByteArray) (h : D.size ≤ 1048576) (w : World) :
    Calls Tryd.prog 38 #[.agg #[.int .i64 M, .string D]] w fun e w' => e = .returned (.int .i64 ((D.size : Int) / 256)) ∧ Below w.heap.size w w' := by
  obtain ⟨n, hn⟩ : ∃ n : Int, (D.size : Int) = n := ⟨_, rfl⟩
  have h1 : n.tdiv 256 = n / 256 := Int.tdiv_eq_ediv_of_nonneg (by omega)
  have h2 : wrap64 (n / 256) = n / 256 := by unfold wrap64; omega
  rw [hn]
  clear h
  go_enter Tryd.func38, Tryd.ntmps38
  go_wp2
  go_ret
  refine ⟨by show Ending.returned (.int .i64 (wrap64 (n / 256))) = _; rw [h2], ?_⟩
  (repeat (first | refine Below.alloc ?_ (by first | (simp; done) | (simp; omega)) _ | refine Below.setCell ?_ (by first | (simp; done) | (simp; omega)) _ | refine bel_dN ?_ _ | refine Below.drew ?_ | exact Below.refl _ _))

end Go.Proofs.YthboenlfcolinaaDoor
