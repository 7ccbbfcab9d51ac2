/-
  A region that draws its order, where two operations may come next that both change the world.
-/
import Derived.Test.YtljnciclbjcinaaGreatDoorQHeld
namespace Go.Proofs.YtljnciclbjcinaaGreatDoor
open Go.RowKit

structure WO (P : Program) (ops : Array Oper) (Q : Exit → Act → World → Prop) (S : World → Prop) (f : Nat) (L : Array Bool) (k : Nat) (a : Act) (w : World) : Prop where
  out : wpOp P ops Q k (fun a' w' => S w' ∧ WH P ops Q S f (L.setIfInBounds k true) a' w') a w
section
variable {P : Program} {ops : Array Oper} {Q : Exit → Act → World → Prop} {S : World → Prop} {f : Nat} {L : Array Bool} {a : Act} {w : World}
theorem wh_two (i j : Nat) (h1 : Region.ready .any ops L = [i, j]) (hi : WO P ops Q S f L i a w) (hj : WO P ops Q S f L j a w) : WH P ops Q S (f + 1) L a w := by
  refine ⟨wpAnyH_all h1 (by simp) fun k hk => ?_⟩
  have hk' : k = i ∨ k = j := by simpa using hk
  rcases hk' with rfl | rfl
  · exact wpOp_mono (fun _ _ h => ⟨h.1, h.2.out⟩) hi.out
  · exact wpOp_mono (fun _ _ h => ⟨h.1, h.2.out⟩) hj.out
theorem wo_val {j : Nat} (d : Option Tmp) {o : Oper} (v : Value) (w' : World) (ho : ops[j]? = some o) (hd : o.dst = d) (hw : Region.wanted o (yielded ops a.tmps) = true)
    (hrun : (execOp a.eval o).run P w = .ok (.value v) w') (hS : S w') (h : WH P ops Q S f (L.setIfInBounds j true) (a.put d v) w') : WO P ops Q S f L j a w := by
  subst hd
  exact ⟨wpOp_wp ho hw (wp_val hrun ⟨hS, h⟩)⟩
theorem wo_call {j : Nat} (d : Option Tmp) {o : Oper} (F : FuncId) (args : Array Value) (ho : ops[j]? = some o) (hd : o.dst = d) (hw : Region.wanted o (yielded ops a.tmps) = true)
    (hrun : (execOp a.eval o).run P w = .ok (.enter F args) w) (h : Calls P F args w fun e w' => ∃ v, e = .returned v ∧ S w' ∧ WH P ops Q S f (L.setIfInBounds j true) (a.put d v) w') : WO P ops Q S f L j a w := by
  subst hd
  exact ⟨wpOp_call ho hw hrun h⟩
end

end Go.Proofs.YtljnciclbjcinaaGreatDoor
