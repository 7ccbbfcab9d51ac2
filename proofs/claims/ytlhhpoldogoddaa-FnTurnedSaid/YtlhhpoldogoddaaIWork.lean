/-
  The table of operations.
-/
import Derived.Test.YtlhhpoldogoddaaIBase
import Derived.Deep.WholeRow
namespace Go.Proofs.Ytlhhpoldogoddaa
open Go.RowKit

/-- The operations in their order, none at 0. -/
def tab : Array Value := #[.nilFunc, .func (.func 33) #[] #[], .func (.func 34) #[] #[], .func (.func 35) #[] #[], .func (.func 36) #[] #[], .func (.func 37) #[] #[], .func (.func 38) #[] #[], .func (.func 39) #[] #[], .func (.func 40) #[] #[], .func (.func 41) #[] #[], .func (.func 42) #[] #[], .func (.func 43) #[] #[], .func (.func 44) #[] #[], .func (.func 45) #[] #[], .func (.func 46) #[] #[], .func (.func 47) #[] #[], .func (.func 48) #[] #[], .func (.func 49) #[] #[], .func (.func 50) #[] #[], .func (.func 51) #[] #[], .func (.func 52) #[] #[], .func (.func 53) #[] #[]]
def workV (op : Nat) : Value := tab.getD op .nilFunc
theorem tab_at (op : Nat) (h : op < 22) : tab[op]? = some (workV op) := by
  have h' : op < tab.size := h
  rw [Array.getElem?_eq_getElem h']
  unfold workV
  rw [← Array.getElem_eq_getD (h := h')]
theorem tab_store (w : World) : (storeCells ⟨w.heap.size, 0, none⟩ [.nilFunc, .func (.func 33) #[] #[], .func (.func 34) #[] #[], .func (.func 35) #[] #[], .func (.func 36) #[] #[], .func (.func 37) #[] #[], .func (.func 38) #[] #[], .func (.func 39) #[] #[], .func (.func 40) #[] #[], .func (.func 41) #[] #[], .func (.func 42) #[] #[], .func (.func 43) #[] #[], .func (.func 44) #[] #[], .func (.func 45) #[] #[], .func (.func 46) #[] #[], .func (.func 47) #[] #[], .func (.func 48) #[] #[], .func (.func 49) #[] #[], .func (.func 50) #[] #[], .func (.func 51) #[] #[], .func (.func 52) #[] #[], .func (.func 53) #[] #[]] 0).run Try.prog (w.alloc (.cells #[.nilFunc, .nilFunc, .nilFunc, .nilFunc, .nilFunc, .nilFunc, .nilFunc, .nilFunc, .nilFunc, .nilFunc, .nilFunc, .nilFunc, .nilFunc, .nilFunc, .nilFunc, .nilFunc, .nilFunc, .nilFunc, .nilFunc, .nilFunc, .nilFunc, .nilFunc] 60)) = .ok () (w.alloc (.cells tab 60)) :=
  run_storeCells_new (P := Try.prog) w 60 #[.nilFunc, .nilFunc, .nilFunc, .nilFunc, .nilFunc, .nilFunc, .nilFunc, .nilFunc, .nilFunc, .nilFunc, .nilFunc, .nilFunc, .nilFunc, .nilFunc, .nilFunc, .nilFunc, .nilFunc, .nilFunc, .nilFunc, .nilFunc, .nilFunc, .nilFunc] tab (by kernel_rfl) rfl (by kernel_rfl)
theorem work_add : workV 1 = .func (.func 33) #[] #[] := rfl
theorem work_sub : workV 2 = .func (.func 34) #[] #[] := rfl
theorem work_mul : workV 3 = .func (.func 35) #[] #[] := rfl
theorem work_divS : workV 4 = .func (.func 36) #[] #[] := rfl
theorem work_divU : workV 5 = .func (.func 37) #[] #[] := rfl
theorem work_remS : workV 6 = .func (.func 38) #[] #[] := rfl
theorem work_remU : workV 7 = .func (.func 39) #[] #[] := rfl
theorem work_and : workV 8 = .func (.func 40) #[] #[] := rfl
theorem work_or : workV 9 = .func (.func 41) #[] #[] := rfl
theorem work_xor : workV 10 = .func (.func 42) #[] #[] := rfl
theorem work_shl : workV 11 = .func (.func 43) #[] #[] := rfl
theorem work_shrS : workV 12 = .func (.func 44) #[] #[] := rfl
theorem work_shrU : workV 13 = .func (.func 45) #[] #[] := rfl
theorem work_rotl : workV 14 = .func (.func 46) #[] #[] := rfl
theorem work_rotr : workV 15 = .func (.func 47) #[] #[] := rfl
theorem work_eq : workV 16 = .func (.func 48) #[] #[] := rfl
theorem work_ne : workV 17 = .func (.func 49) #[] #[] := rfl
theorem work_ltS : workV 18 = .func (.func 50) #[] #[] := rfl
theorem work_ltU : workV 19 = .func (.func 51) #[] #[] := rfl
theorem work_gtS : workV 20 = .func (.func 52) #[] #[] := rfl
theorem work_gtU : workV 21 = .func (.func 53) #[] #[] := rfl
set_option maxRecDepth 100000 in
theorem work_in (op : Nat) (h : op < 22) (w : World) :
    Calls Try.prog 21 #[.int .i64 op] w fun e w' => e = .returned (workV op) ∧ Below w.heap.size w w' := by
  have hat := tab_at op h
  have hsc := tab_store w
  simp [go_sem] at hsc
  go_enter Try.func21, Try.ntmps21
  go_wp2
  go_ret
  exact ⟨rfl, (Below.refl _ _).alloc (Nat.le_refl _) _⟩

theorem work_out (op : Int) (h : op < 0 ∨ 22 ≤ op) (w : World) :
    Calls Try.prog 21 #[.int .i64 op] w fun e w' => e = .returned .nilFunc ∧ Below w.heap.size w w' := by
  have hsc := tab_store w
  simp [go_sem] at hsc
  rcases h with h | h
  · go_enter Try.func21, Try.ntmps21
    go_wp2
    go_ret
    exact ⟨rfl, (Below.refl _ _).alloc (Nat.le_refl _) _⟩
  · go_enter Try.func21, Try.ntmps21
    go_wp2
    go_ret
    exact ⟨rfl, (Below.refl _ _).alloc (Nat.le_refl _) _⟩

end Go.Proofs.Ytlhhpoldogoddaa
