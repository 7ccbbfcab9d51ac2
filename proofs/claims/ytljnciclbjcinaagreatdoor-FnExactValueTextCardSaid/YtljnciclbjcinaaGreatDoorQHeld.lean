/-
  A region that draws its order and writes into nothing that was there: loads first; what makes memory one behind the other.
-/
import Derived.Test.YtljnciclbjcinaaGreatDoorQStep
namespace Go.Proofs.YtljnciclbjcinaaGreatDoor
open Go.RowKit

structure WH (P : Program) (ops : Array Oper) (Q : Exit → Act → World → Prop) (S : World → Prop) (f : Nat) (L : Array Bool) (a : Act) (w : World) : Prop where
  out : wpAnyH P .any ops Q S f L a w
section
variable {P : Program} {ops : Array Oper} {Q : Exit → Act → World → Prop} {S : World → Prop} {f : Nat} {L : Array Bool} {a : Act} {w : World}
theorem wh_begin {id : Nat} (S : World → Prop) (hm : P.follows .mixedOrders = true) (h : WH P ops Q S ops.size (Array.replicate ops.size false) a w.drew) : (Code.region id ops true).wp P Q a w := wp_region_held hm h.out
theorem wh_take (i : Nat) (d : Option Tmp) {oi : Oper} (v : Value) (hi : ops[i]? = some oi) (hd : oi.dst = d) (hs : Region.noSelect ops = true) (hf : Region.free .any ops L i = true) (hr : (Region.ready .any ops L).contains i = true)
    (hQ : ∀ c a w, Q (.panic c) (a.put d v) w → Q (.panic c) a w) (hS : S w) (hw : Region.wanted oi (yielded ops a.tmps) = true) (hy : ∀ w, S w → (execOp a.eval oi).run P w = .ok (.value v) w)
    (h : WH P ops Q S f (L.setIfInBounds i true) (a.put d v) w) : WH P ops Q S (f + 1) L a w := by
  subst hd
  exact ⟨wpAnyH_take hi hs hf hr hQ (.inl ⟨hw, hy⟩) hS h.out⟩
theorem wh_wp (j : Nat) {o : Oper} (h1 : Region.ready .any ops L = [j]) (ho : ops[j]? = some o) (hw : Region.wanted o (yielded ops a.tmps) = true)
    (h : o.wp P a w (fun a' w' => S w' ∧ WH P ops Q S f (L.setIfInBounds j true) a' w') Q) : WH P ops Q S (f + 1) L a w := by
  refine ⟨wpAnyH_all h1 (by simp) fun k hk => ?_⟩
  obtain rfl : k = j := by simpa using hk
  exact wpOp_wp ho hw (Oper.wp_mono (fun _ _ h => ⟨h.1, h.2.out⟩) h)
theorem wh_val (j : Nat) (d : Option Tmp) {o : Oper} (v : Value) (w' : World) (h1 : Region.ready .any ops L = [j]) (ho : ops[j]? = some o) (hd : o.dst = d) (hw : Region.wanted o (yielded ops a.tmps) = true)
    (hrun : (execOp a.eval o).run P w = .ok (.value v) w') (hS : S w') (h : WH P ops Q S f (L.setIfInBounds j true) (a.put d v) w') : WH P ops Q S (f + 1) L a w := by
  subst hd
  exact wh_wp j h1 ho hw (wp_val hrun ⟨hS, h⟩)
theorem wh_call (j : Nat) (d : Option Tmp) {o : Oper} (F : FuncId) (args : Array Value) (h1 : Region.ready .any ops L = [j]) (ho : ops[j]? = some o) (hd : o.dst = d) (hw : Region.wanted o (yielded ops a.tmps) = true)
    (hrun : (execOp a.eval o).run P w = .ok (.enter F args) w) (h : Calls P F args w fun e w' => ∃ v, e = .returned v ∧ S w' ∧ WH P ops Q S f (L.setIfInBounds j true) (a.put d v) w') : WH P ops Q S (f + 1) L a w := by
  subst hd
  refine ⟨wpAnyH_all h1 (by simp) fun k hk => ?_⟩
  obtain rfl : k = j := by simpa using hk
  refine wpOp_call ho hw hrun (h.mono ?_)
  rintro e w' ⟨v, rfl, hS, hk⟩
  exact ⟨v, rfl, hS, hk.out⟩
theorem wh_skip (j : Nat) (d : Option Tmp) {o : Oper} (w' : World) (h1 : Region.ready .any ops L = [j]) (ho : ops[j]? = some o) (hd : o.dst = d) (hw : Region.wanted o (yielded ops a.tmps) = true)
    (hrun : (execOp a.eval o).run P w = .ok .skip w') (hS : S w') (h : WH P ops Q S f (L.setIfInBounds j true) (a.put d undef) w') : WH P ops Q S (f + 1) L a w := by
  subst hd
  refine ⟨wpAnyH_all h1 (by simp) fun k hk => ?_⟩
  obtain rfl : k = j := by simpa using hk
  exact wpOp_skip ho hw hrun ⟨hS, h.out⟩
theorem wh_done (h1 : Region.ready .any ops L = []) (h : Q .normal a w) : WH P ops Q S f L a w := ⟨wpAnyH_done h1 h f⟩
end

end Go.Proofs.YtljnciclbjcinaaGreatDoor
