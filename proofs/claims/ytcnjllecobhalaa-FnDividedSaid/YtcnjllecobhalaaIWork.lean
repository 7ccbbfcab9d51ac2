/-
  The table of operations.
-/
import Derived.Test.YtcnjllecobhalaaIBase
import Derived.Deep.WholeRow
namespace Go.Proofs.Ytcnjllecobhalaa
open Go.RowKit

/-- The operations in their order, none at 0. -/
def tab : Array Value := #[.nilFunc, .func (.func 88) #[] #[], .func (.func 89) #[] #[], .func (.func 90) #[] #[], .func (.func 91) #[] #[], .func (.func 92) #[] #[], .func (.func 93) #[] #[], .func (.func 94) #[] #[], .func (.func 95) #[] #[], .func (.func 96) #[] #[], .func (.func 97) #[] #[], .func (.func 98) #[] #[], .func (.func 99) #[] #[], .func (.func 100) #[] #[], .func (.func 101) #[] #[], .func (.func 102) #[] #[], .func (.func 103) #[] #[], .func (.func 104) #[] #[], .func (.func 105) #[] #[], .func (.func 106) #[] #[], .func (.func 107) #[] #[], .func (.func 108) #[] #[]]
def workV (op : Nat) : Value := tab.getD op .nilFunc
theorem tab_at (op : Nat) (h : op < 22) : tab[op]? = some (workV op) := by
  have h' : op < tab.size := h
  rw [Array.getElem?_eq_getElem h']
  unfold workV
  rw [← Array.getElem_eq_getD (h := h')]
theorem tab_store (w : World) : (storeCells ⟨w.heap.size, 0, none⟩ [.nilFunc, .func (.func 88) #[] #[], .func (.func 89) #[] #[], .func (.func 90) #[] #[], .func (.func 91) #[] #[], .func (.func 92) #[] #[], .func (.func 93) #[] #[], .func (.func 94) #[] #[], .func (.func 95) #[] #[], .func (.func 96) #[] #[], .func (.func 97) #[] #[], .func (.func 98) #[] #[], .func (.func 99) #[] #[], .func (.func 100) #[] #[], .func (.func 101) #[] #[], .func (.func 102) #[] #[], .func (.func 103) #[] #[], .func (.func 104) #[] #[], .func (.func 105) #[] #[], .func (.func 106) #[] #[], .func (.func 107) #[] #[], .func (.func 108) #[] #[]] 0).run Try.prog (w.alloc (.cells #[.nilFunc, .nilFunc, .nilFunc, .nilFunc, .nilFunc, .nilFunc, .nilFunc, .nilFunc, .nilFunc, .nilFunc, .nilFunc, .nilFunc, .nilFunc, .nilFunc, .nilFunc, .nilFunc, .nilFunc, .nilFunc, .nilFunc, .nilFunc, .nilFunc, .nilFunc] 114)) = .ok () (w.alloc (.cells tab 114)) :=
  run_storeCells_new (P := Try.prog) w 114 #[.nilFunc, .nilFunc, .nilFunc, .nilFunc, .nilFunc, .nilFunc, .nilFunc, .nilFunc, .nilFunc, .nilFunc, .nilFunc, .nilFunc, .nilFunc, .nilFunc, .nilFunc, .nilFunc, .nilFunc, .nilFunc, .nilFunc, .nilFunc, .nilFunc, .nilFunc] tab (by kernel_rfl) rfl (by kernel_rfl)
theorem work_add : workV 1 = .func (.func 88) #[] #[] := rfl
theorem work_sub : workV 2 = .func (.func 89) #[] #[] := rfl
theorem work_mul : workV 3 = .func (.func 90) #[] #[] := rfl
theorem work_divS : workV 4 = .func (.func 91) #[] #[] := rfl
theorem work_divU : workV 5 = .func (.func 92) #[] #[] := rfl
theorem work_remS : workV 6 = .func (.func 93) #[] #[] := rfl
theorem work_remU : workV 7 = .func (.func 94) #[] #[] := rfl
theorem work_and : workV 8 = .func (.func 95) #[] #[] := rfl
theorem work_or : workV 9 = .func (.func 96) #[] #[] := rfl
theorem work_xor : workV 10 = .func (.func 97) #[] #[] := rfl
theorem work_shl : workV 11 = .func (.func 98) #[] #[] := rfl
theorem work_shrS : workV 12 = .func (.func 99) #[] #[] := rfl
theorem work_shrU : workV 13 = .func (.func 100) #[] #[] := rfl
theorem work_rotl : workV 14 = .func (.func 101) #[] #[] := rfl
theorem work_rotr : workV 15 = .func (.func 102) #[] #[] := rfl
theorem work_eq : workV 16 = .func (.func 103) #[] #[] := rfl
theorem work_ne : workV 17 = .func (.func 104) #[] #[] := rfl
theorem work_ltS : workV 18 = .func (.func 105) #[] #[] := rfl
theorem work_ltU : workV 19 = .func (.func 106) #[] #[] := rfl
theorem work_gtS : workV 20 = .func (.func 107) #[] #[] := rfl
theorem work_gtU : workV 21 = .func (.func 108) #[] #[] := rfl
set_option maxRecDepth 100000 in
theorem work_in (op : Nat) (h : op < 22) (w : World) :
    Calls Try.prog 43 #[.int .i64 op] w fun e w' => e = .returned (workV op) ∧ Below w.heap.size w w' := by
  have hat := tab_at op h
  have hsc := tab_store w
  simp [go_sem] at hsc
  go_enter Try.func43, Try.ntmps43
  go_wp2
  go_ret
  exact ⟨rfl, (Below.refl _ _).alloc (Nat.le_refl _) _⟩

theorem work_out (op : Int) (h : op < 0 ∨ 22 ≤ op) (w : World) :
    Calls Try.prog 43 #[.int .i64 op] w fun e w' => e = .returned .nilFunc ∧ Below w.heap.size w w' := by
  have hsc := tab_store w
  simp [go_sem] at hsc
  rcases h with h | h
  · go_enter Try.func43, Try.ntmps43
    go_wp2
    go_ret
    exact ⟨rfl, (Below.refl _ _).alloc (Nat.le_refl _) _⟩
  · go_enter Try.func43, Try.ntmps43
    go_wp2
    go_ret
    exact ⟨rfl, (Below.refl _ _).alloc (Nat.le_refl _) _⟩

end Go.Proofs.Ytcnjllecobhalaa
