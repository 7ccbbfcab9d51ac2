/-
  A region that draws its order, step by step: operations that are read off their own laws.
-/
import Derived.Test.YtljnciclbjcinaaGreatDoorQChain
namespace Go.Proofs.YtljnciclbjcinaaGreatDoor
open Go.RowKit

section
variable {P : Program} {ops : Array Oper} {Q : Exit → Act → World → Prop} {S : World → Prop} {f : Nat} {L : Array Bool} {a : Act} {w : World}

theorem wpOp_wp {i : Nat} {o : Oper} {K : Act → World → Prop} (ho : ops[i]? = some o) (hw : Region.wanted o (yielded ops a.tmps) = true) (h : o.wp P a w K Q) : wpOp P ops Q i K a w := by
  unfold wpOp
  simp only [ho, hw, if_true]
  exact .inl h
theorem wp_val {o : Oper} {K : Act → World → Prop} {v : Value} {w' : World} (hrun : (execOp a.eval o).run P w = .ok (.value v) w') (h : K (a.put o.dst v) w') : o.wp P a w K Q := by
  unfold Oper.wp
  rw [hrun]
  exact h
theorem wa_wp (j : Nat) {o : Oper} (h1 : Region.ready .any ops L = [j]) (ho : ops[j]? = some o) (hw : Region.wanted o (yielded ops a.tmps) = true)
    (h : o.wp P a w (fun a' w' => WA P ops Q f (L.setIfInBounds j true) a' w') Q) : WA P ops Q (f + 1) L a w := by
  refine ⟨wpAny_all h1 (by simp) fun k hk => ?_⟩
  obtain rfl : k = j := by simpa using hk
  exact wpOp_wp ho hw (Oper.wp_mono (fun _ _ h => h.out) h)
theorem wb_val {i : Nat} (j : Nat) (d : Option Tmp) {o : Oper} (v : Value) (w' : World) (h1 : Region.ready .any ops (L.setIfInBounds i true) = [j]) (h0 : (Region.ready .any ops L).contains j = true) (ho : ops[j]? = some o) (hd : o.dst = d) (hw : Region.wanted o (yielded ops a.tmps) = true)
    (hrun : (execOp a.eval o).run P w = .ok (.value v) w') (hS : S w') (h : WB P ops Q S i f (L.setIfInBounds j true) (a.put d v) w') : WB P ops Q S i (f + 1) L a w := by
  subst hd
  refine ⟨fun h => (by rw [h1] at h; cases h), fun k hk => ?_⟩
  rw [h1] at hk
  obtain rfl : k = j := by simpa using hk
  exact ⟨fun _ => wpOp_wp ho hw (wp_val hrun ⟨hS, h.out⟩), fun h => (by rw [h0] at h; cases h)⟩
theorem wb_wp {i : Nat} (j : Nat) {o : Oper} (h1 : Region.ready .any ops (L.setIfInBounds i true) = [j]) (h0 : (Region.ready .any ops L).contains j = false) (ho : ops[j]? = some o) (hw : Region.wanted o (yielded ops a.tmps) = true)
    (h : o.wp P a w (fun a' w' => WA P ops Q f ((L.setIfInBounds i true).setIfInBounds j true) a' w') Q) : WB P ops Q S i (f + 1) L a w := by
  refine ⟨fun h => (by rw [h1] at h; cases h), fun k hk => ?_⟩
  rw [h1] at hk
  obtain rfl : k = j := by simpa using hk
  exact ⟨fun h => (by rw [h0] at h; cases h), fun _ => wpOp_wp ho hw (Oper.wp_mono (fun _ _ h => h.out) h)⟩
end

end Go.Proofs.YtljnciclbjcinaaGreatDoor
