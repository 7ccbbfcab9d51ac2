/-
  The cursor's words.
-/
import Derived.Test.YtpmfihnhcgmjfaaDoorCurB
namespace Go.Proofs.YtpmfihnhcgmjfaaDoor
open Go.RowKit

theorem u_lo (n : Int) : 0 ≤ IntKind.u64.wrap n := by rw [IntKind.wrap_u64]; omega
theorem u_hi (n : Int) : IntKind.u64.wrap n ≤ 18446744073709551615 := by rw [IntKind.wrap_u64]; omega
theorem Aft.alloc {B g : Nat} {w : World} (h : B ≤ w.heap.size) (o : Obj) : Aft B g w (w.alloc o) :=
  ⟨(Below.refl B w).alloc h o, by simp, fun b _ hl => (Below.refl w.heap.size w |>.alloc (Nat.le_refl _) o).block b hl⟩

def okV : Value → Bool
  | .int .i64 z => decide (-9223372036854775808 ≤ z) && decide (z ≤ 9223372036854775807)
  | _ => false
theorem okV_int : ∀ v, okV v = true → ∃ z : Int, -9223372036854775808 ≤ z ∧ z ≤ 9223372036854775807 ∧ v = .int .i64 z
  | .int .i64 z, h => by
    simp [okV] at h
    exact ⟨z, h.1, h.2, rfl⟩
theorem row_new (w : World) (A : List Value) (t : TypeId) (h : A.all okV = true) : Row (w.alloc (.cells A.toArray t)) w.heap.size A.length := fun i hi => by
  obtain ⟨z, z0, z1, hz⟩ := okV_int A[i] (List.all_eq_true.1 h _ (List.getElem_mem hi))
  refine ⟨z, z0, z1, ?_⟩
  rw [World.cell?_alloc_at A.toArray t _ i rfl]
  simp [hi, hz]
theorem Cur.alloc {w : World} {g : Nat} {a : Option Addr} {n cap B m : Nat} (C : Cur w g a n cap B m) (o : Obj) : Cur (w.alloc o) g a n cap B m := C.kept ((Below.refl _ _).alloc (Nat.le_refl _) o)

end Go.Proofs.YtpmfihnhcgmjfaaDoor
