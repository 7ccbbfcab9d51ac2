/-
  The table of operations on one number.
-/
import Derived.Test.YtnimlkobcginjaaDoorIBase
import Derived.Deep.WholeRow
namespace Go.Proofs.YtnimlkobcginjaaDoor
open Go.RowKit

/-- The operations in their order, none up to 21. -/
def utab : Array Value := #[.nilFunc, .nilFunc, .nilFunc, .nilFunc, .nilFunc, .nilFunc, .nilFunc, .nilFunc, .nilFunc, .nilFunc, .nilFunc, .nilFunc, .nilFunc, .nilFunc, .nilFunc, .nilFunc, .nilFunc, .nilFunc, .nilFunc, .nilFunc, .nilFunc, .nilFunc, .func (.func 29) #[] #[], .func (.func 30) #[] #[], .func (.func 31) #[] #[], .func (.func 32) #[] #[], .func (.func 33) #[] #[], .func (.func 34) #[] #[]]
def uworkV (op : Nat) : Value := utab.getD op .nilFunc
theorem utab_at (op : Nat) (h : op < 28) : utab[op]? = some (uworkV op) := by
  have h' : op < utab.size := h
  rw [Array.getElem?_eq_getElem h']
  unfold uworkV
  rw [← Array.getElem_eq_getD (h := h')]
theorem utab_store (w : World) : (storeCells ⟨w.heap.size, 0, none⟩ [.nilFunc, .nilFunc, .nilFunc, .nilFunc, .nilFunc, .nilFunc, .nilFunc, .nilFunc, .nilFunc, .nilFunc, .nilFunc, .nilFunc, .nilFunc, .nilFunc, .nilFunc, .nilFunc, .nilFunc, .nilFunc, .nilFunc, .nilFunc, .nilFunc, .nilFunc, .func (.func 29) #[] #[], .func (.func 30) #[] #[], .func (.func 31) #[] #[], .func (.func 32) #[] #[], .func (.func 33) #[] #[], .func (.func 34) #[] #[]] 0).run Tryd.prog (w.alloc (.cells #[.nilFunc, .nilFunc, .nilFunc, .nilFunc, .nilFunc, .nilFunc, .nilFunc, .nilFunc, .nilFunc, .nilFunc, .nilFunc, .nilFunc, .nilFunc, .nilFunc, .nilFunc, .nilFunc, .nilFunc, .nilFunc, .nilFunc, .nilFunc, .nilFunc, .nilFunc, .nilFunc, .nilFunc, .nilFunc, .nilFunc, .nilFunc, .nilFunc] 56)) = .ok () (w.alloc (.cells utab 56)) :=
  run_storeCells_new (P := Tryd.prog) w 56 #[.nilFunc, .nilFunc, .nilFunc, .nilFunc, .nilFunc, .nilFunc, .nilFunc, .nilFunc, .nilFunc, .nilFunc, .nilFunc, .nilFunc, .nilFunc, .nilFunc, .nilFunc, .nilFunc, .nilFunc, .nilFunc, .nilFunc, .nilFunc, .nilFunc, .nilFunc, .nilFunc, .nilFunc, .nilFunc, .nilFunc, .nilFunc, .nilFunc] utab (by kernel_rfl) rfl (by kernel_rfl)
theorem uwork_clz : uworkV 22 = .func (.func 29) #[] #[] := rfl
theorem uwork_ctz : uworkV 23 = .func (.func 30) #[] #[] := rfl
theorem uwork_popcnt : uworkV 24 = .func (.func 31) #[] #[] := rfl
theorem uwork_eqz : uworkV 25 = .func (.func 32) #[] #[] := rfl
theorem uwork_extend8 : uworkV 26 = .func (.func 33) #[] #[] := rfl
theorem uwork_extend16 : uworkV 27 = .func (.func 34) #[] #[] := rfl
theorem uwork_none : ∀ op : Fin 22, uworkV op.val = .nilFunc := by
  intro op
  match op with
  | ⟨0, _⟩ => rfl
  | ⟨1, _⟩ => rfl
  | ⟨2, _⟩ => rfl
  | ⟨3, _⟩ => rfl
  | ⟨4, _⟩ => rfl
  | ⟨5, _⟩ => rfl
  | ⟨6, _⟩ => rfl
  | ⟨7, _⟩ => rfl
  | ⟨8, _⟩ => rfl
  | ⟨9, _⟩ => rfl
  | ⟨10, _⟩ => rfl
  | ⟨11, _⟩ => rfl
  | ⟨12, _⟩ => rfl
  | ⟨13, _⟩ => rfl
  | ⟨14, _⟩ => rfl
  | ⟨15, _⟩ => rfl
  | ⟨16, _⟩ => rfl
  | ⟨17, _⟩ => rfl
  | ⟨18, _⟩ => rfl
  | ⟨19, _⟩ => rfl
  | ⟨20, _⟩ => rfl
  | ⟨21, _⟩ => rfl
  | ⟨k + 22, h⟩ => exact absurd h (by omega)
set_option maxRecDepth 100000 in
theorem uwork_in (op : Nat) (h : op < 28) (w : World) :
    Calls Tryd.prog 18 #[.int .i64 op] w fun e w' => e = .returned (uworkV op) ∧ Below w.heap.size w w' := by
  have hat := utab_at op h
  have hsc := utab_store w
  simp [go_sem] at hsc
  go_enter Tryd.func18, Tryd.ntmps18
  go_wp2
  go_ret
  exact ⟨rfl, (Below.refl _ _).alloc (Nat.le_refl _) _⟩

theorem uwork_out (op : Int) (h : op < 0 ∨ 28 ≤ op) (w : World) :
    Calls Tryd.prog 18 #[.int .i64 op] w fun e w' => e = .returned .nilFunc ∧ Below w.heap.size w w' := by
  have hsc := utab_store w
  simp [go_sem] at hsc
  rcases h with h | h
  · go_enter Tryd.func18, Tryd.ntmps18
    go_wp2
    go_ret
    exact ⟨rfl, (Below.refl _ _).alloc (Nat.le_refl _) _⟩
  · go_enter Tryd.func18, Tryd.ntmps18
    go_wp2
    go_ret
    exact ⟨rfl, (Below.refl _ _).alloc (Nat.le_refl _) _⟩

end Go.Proofs.YtnimlkobcginjaaDoor
