/-
  More steps of a region that draws its order beside a load that floats: values that are made ahead of the load's use.
-/
import Derived.Test.YtljnciclbjcinaaGreatDoorQChain
import Derived.Test.YtljnciclbjcinaaGreatDoorQStep
namespace Go.Proofs.YtljnciclbjcinaaGreatDoor
open Go.RowKit

section
variable {P : Program} {ops : Array Oper} {Q : Exit → Act → World → Prop} {S : World → Prop} {f : Nat} {L : Array Bool} {a : Act} {w : World}

theorem wb_leave_val {i : Nat} (j : Nat) (d : Option Tmp) {o : Oper} (v : Value) (w' : World) (h1 : Region.ready .any ops (L.setIfInBounds i true) = [j]) (h0 : (Region.ready .any ops L).contains j = false) (ho : ops[j]? = some o) (hd : o.dst = d) (hw : Region.wanted o (yielded ops a.tmps) = true)
    (hrun : (execOp a.eval o).run P w = .ok (.value v) w') (h : WA P ops Q f ((L.setIfInBounds i true).setIfInBounds j true) (a.put d v) w') : WB P ops Q S i (f + 1) L a w := by
  subst hd
  refine ⟨fun h => (by rw [h1] at h; cases h), fun k hk => ?_⟩
  rw [h1] at hk
  obtain rfl : k = j := by simpa using hk
  exact ⟨fun h => (by rw [h0] at h; cases h), fun _ => wpOp_wp ho hw (wp_val hrun h.out)⟩
theorem wa_val (j : Nat) (d : Option Tmp) {o : Oper} (v : Value) (w' : World) (h1 : Region.ready .any ops L = [j]) (ho : ops[j]? = some o) (hd : o.dst = d) (hw : Region.wanted o (yielded ops a.tmps) = true)
    (hrun : (execOp a.eval o).run P w = .ok (.value v) w') (h : WA P ops Q f (L.setIfInBounds j true) (a.put d v) w') : WA P ops Q (f + 1) L a w := by
  subst hd
  refine ⟨wpAny_all h1 (by simp) fun k hk => ?_⟩
  obtain rfl : k = j := by simpa using hk
  exact wpOp_wp ho hw (wp_val hrun h.out)
end

end Go.Proofs.YtljnciclbjcinaaGreatDoor
