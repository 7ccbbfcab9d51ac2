/-
  What is drawn for products and quotients of two words: some numbers that fit.
-/
import Derived.Test.YtpmfihnhcgmjfaaDoorCurW
namespace Go.Proofs.YtpmfihnhcgmjfaaDoor
open Go.RowKit

theorem cur_new (w : World) (a : Option Addr) (n cap : Nat) (t : TypeId) (hb : Bys w a n w.heap.size) : Cur (w.alloc (.cells #[.slice a n cap, .int .i64 0, .int .u64 0] t)) w.heap.size a n cap w.heap.size 0 := by
  refine ⟨?_, ⟨0, by omega, by omega, ?_⟩, ⟨0, by omega, by omega, ?_⟩, hb.below ((Below.refl _ _).alloc (Nat.le_refl _) _), Nat.le_refl _, by simp, fun j => World.frozen?_alloc_at _ t _ j rfl⟩
  · rw [World.cell?_alloc_at _ t _ 0 rfl]; rfl
  · rw [World.cell?_alloc_at _ t _ 1 rfl]; rfl
  · rw [World.cell?_alloc_at _ t _ 2 rfl]; rfl
theorem below_new (w : World) (o : Obj) : Below w.heap.size w (w.alloc o) := (Below.refl _ _).alloc (Nat.le_refl _) _

end Go.Proofs.YtpmfihnhcgmjfaaDoor
