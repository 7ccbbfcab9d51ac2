/-
  Spans: none, within, and the code of several.
-/
import Derived.Test.YtgepplddhmgifaaDoorMGood
namespace Go.Proofs.YtgepplddhmgifaaDoor
open Go.ChangeShapes Go.WideShapes Go.ChangeAt Go.RowKit

def spNone (p : Int × Int) : Bool := decide (p.1 < 0) || decide (p.2 < 0)
def spIn (n : Int) (p : Int × Int) : Bool := decide (p.2 ≤ n - p.1)
/-- The code of spans in a memory of n bytes that is good or not. -/
def codeOf (g : Bool) (n : Int) (L : List (Int × Int)) : Int := if g = false then 1 else if L.any spNone = true then 1 else if L.all (spIn n) = true then 0 else 2
def spanAt (w : World) (b : Nat) (L : List (Int × Int)) : Prop :=
  ∀ i (h : i < L.length), w.cell? ⟨b, i * 2, none⟩ = some (.int .i64 L[i].1) ∧ w.cell? ⟨b, i * 2 + 1, none⟩ = some (.int .i64 L[i].2)

theorem within (a n s : Int) (h0 : 0 ≤ a) (h1 : a ≤ 9223372036854775807) (h2 : 0 ≤ s) (h3 : s ≤ 1048576) (w : World) :
    Calls Tryd.prog 48 #[.agg #[.int .i64 a, .int .i64 n], .int .i64 s] w fun e w' => e = .returned (.bool (spIn s (a, n))) ∧ Below w.heap.size w w' := by
  have c : wrap64 (s - a) = s - a := by unfold wrap64; omega
  rw [show spIn s (a, n) = decide (n ≤ s - a) by rfl]
  clear h0 h1 h2 h3
  go_enter Tryd.func48, Tryd.ntmps48
  go_wp2
  go_ret
  refine ⟨rfl, ?_⟩
  (repeat (first | refine Below.alloc ?_ (by first | (simp; done) | (simp; omega)) _ | refine Below.setCell ?_ (by first | (simp; done) | (simp; omega)) _ | refine bel_dN ?_ _ | refine Below.drew ?_ | exact Below.refl _ _))

end Go.Proofs.YtgepplddhmgifaaDoor
