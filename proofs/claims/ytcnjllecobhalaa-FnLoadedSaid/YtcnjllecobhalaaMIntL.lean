/-
  The law on numbers loaded. (Made by a generator.)
-/
import Derived.Test.YtcnjllecobhalaaMInt
namespace Go.Proofs.Ytcnjllecobhalaa
open Go.ChangeShapes Go.WideShapes Go.ChangeAt Go.RowKit Go.PlainAid

theorem loadIntI_no (M : Int) (D : ByteArray) (a n : Int) (sg : Bool) (c : Int) (hc : c ≠ 0)
    (NC : ∀ w, Calls Try.prog 80 #[.agg #[.int .i64 M, .string D], .int .i64 a, .int .i64 n] w fun e w' => e = .returned (.int .i64 c) ∧ Below w.heap.size w w') (w : World) :
    Calls Try.prog 37 #[.agg #[.int .i64 M, .string D], .int .i64 a, .int .i64 n, .bool sg] w fun e w' => e = .returned (.tuple #[.int .u64 0, .int .i64 c]) ∧ Below w.heap.size w w' := by
  have k : (c == 0) = false := by simp [hc]
  clear hc
  go_enter Try.func37, Try.ntmps37
  go_wp2_with fail
  refine (NC _).mono ?_
  rintro e w1 ⟨rfl, B1⟩
  go_wp2
  go_ret2
  refine ⟨rfl, ?_⟩
  ((repeat (first | refine bel_alloc ?_ _ | refine bel_dN ?_ _ | refine Below.drew ?_ | refine Below.setCell ?_ (by first | (simp; done) | (simp; omega)) _)); refine bel_step ?_ B1; (repeat (first | refine bel_alloc ?_ _ | refine bel_dN ?_ _ | refine Below.drew ?_ | refine Below.setCell ?_ (by first | (simp; done) | (simp; omega)) _)); exact Below.refl _ _)

/-- A code of nought: a good memory, and bytes within. -/
theorem code1_zero {M : Int} {D : ByteArray} {a n : Int} (hc : codeOf (good M D) D.size [(a, n)] = 0) : good M D = true ∧ 0 ≤ a ∧ 0 ≤ n ∧ n ≤ (D.size : Int) - a := by
  have hg : good M D = true := by
    cases hG : good M D
    · rw [hG] at hc; cases hc
    · rfl
  rw [hg] at hc
  have h0 : ¬ (a < 0 ∨ n < 0) := fun h => by rw [code1_none _ _ _ h] at hc; cases hc
  have h1 : ¬ (D.size : Int) - a < n := fun h => by rw [code1_out _ _ _ (by omega) (by omega) h] at hc; cases hc
  exact ⟨hg, by omega, by omega, by omega⟩

end Go.Proofs.Ytcnjllecobhalaa
