/-
  The way through a body from the back: the program's own small functions.
-/
import Derived.Test.YtbliopgdkphoaaaCEndsB
import Derived.Test.YtbliopgdkphoaaaKeep
import Derived.Test.YtbliopgdkphoaaaQHide
namespace Go.Proofs.Ytbliopgdkphoaaa
open Go.ChangeShapes Go.WideShapes Go.ChangeAt Go.RowKit

def role (op : Int) : Int := if op = 2 ∨ op = 3 ∨ op = 4 then 1 else if op = 5 then 2 else if op = 11 then 3 else 0

set_option maxRecDepth 100000 in
set_option maxHeartbeats 800000 in
theorem roleOf_eq (op : Int) (w : World) : Calls Try.prog 133 #[.int .i64 op] w fun e w' => e = .returned (.int .i64 (role op)) ∧ w' = w := by
  by_cases h : op = 2 ∨ op = 3 ∨ op = 4 ∨ op = 5 ∨ op = 11
  · rcases h with rfl | rfl | rfl | rfl | rfl
    all_goals
      go_enter Try.func133, Try.ntmps133
      go_wp2
      go_ret
      exact ⟨rfl, rfl⟩
  · simp only [not_or] at h
    obtain ⟨h2, h3, h4, h5, h11⟩ := h
    have e : role op = 0 := by simp [role, h2, h3, h4, h5, h11]
    rw [e]
    clear e
    go_enter Try.func133, Try.ntmps133
    go_wp2
    go_ret
    exact ⟨rfl, rfl⟩

theorem i64n (m : Nat) (h : m ≤ 400) : IntKind.i64.wrap (m : Int) = m := IntWalk.i64_in _ ⟨by omega, by omega⟩
theorem w64m (m : Nat) (h : m ≤ 400) : wrap64 (m : Int) = m := by unfold wrap64; omega

set_option maxRecDepth 100000 in
set_option maxHeartbeats 800000 in
theorem innermost_at (go_ ga j c : Nat) (x y : Value) (w : World) (hb : w.heap[go_]? = some (.cells #[.slice (some ⟨ga, 0, none⟩) (j + 1) c, x, y] 133 (0, 0))) (hj : j ≤ 200) :
    Calls Try.prog 114 #[.pointer (some ⟨go_, 0, none⟩)] w fun e w' => e = .returned (.pointer (some ⟨ga, j * 2, none⟩)) ∧ Below w.heap.size w w' := by
  have hlt := lt_of_block hb
  have c0 : w.cell? ⟨go_, 0, none⟩ = some (.slice (some ⟨ga, 0, none⟩) (j + 1) c) := by rw [cell_of_block hb]; rfl
  have k0 : ∀ w', Keeps w w' → w'.cell? ⟨go_, 0, none⟩ = some (.slice (some ⟨ga, 0, none⟩) (j + 1) c) := fun w' h => h.cell hlt c0
  have hi1 := i64n j (by omega)
  have hi2 := w64m j (by omega)
  have hjj : (j : Int) < (j : Int) + 1 := by omega
  clear hb c0 hj hlt
  go_enter Try.func114, Try.ntmps114
  go_wp2_with fail
  refine region_q (C := Keeps w) (by kernel_rfl) (by kernel_rfl) (Keeps.drew w) ?_
  (iterate 12
    (apply wpQuiet_go _ (by rfl)
     · intro wq hq
       go_simp
       first
         | exact rfl
     simp only [Act.put, List.setIfInBounds_toArray, List.set_cons_succ, List.set_cons_zero]))
  refine wpQuiet_nil ?_
  intro wz hk
  have hbz := hk.below
  clear hk k0
  go_wp2
  go_ret
  exact ⟨rfl, hbz⟩

end Go.Proofs.Ytbliopgdkphoaaa
