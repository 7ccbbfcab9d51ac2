/-
  Proved: at every argument the law FnExactGoodWord answers true, and each argument reads afterwards as it read before. No conditions.
-/
import Derived.Test.YtnggleadledpcaaRows
import Derived.Test.YtnggleadledpcaaSGoodW
import Derived.Lib.SmallJoins
import Derived.WalkKit
import Derived.ProofKit
import Derived.OpenShut
import Derived.ShutString
import Derived.ChangeOld
import Derived.Below
namespace Go.Proofs.Ytnggleadledpcaa
open Go.ChangeShapes Go.WideShapes Go.ChangeAt Go.RowKit
open Go.ChangeMaps (open_string shut_string)

theorem fnExactGoodWord_cells : Try.prog.cellsOf 43 = 2 := by kernel_rfl
theorem fnExactGoodWord_mem {H : Type} {enc : TypeId × Value → H} {W : World} {B : Nat} {sp : Nat → Bool} {hd : Bool} (M D : Int) (wm : (Lit.int .i64 M).wf = true) (wb : (Lit.int .u64 D).wf = true) :
    DataW.Trod enc Try.prog W B sp hd 43 (.agg #[.int .i64 M, .int .u64 D]) (.agg [.lit (.int .i64 M), .lit (.int .u64 D)]) [] :=
  Go.Joins.shut_agg2 (y0 := (.lit (.int .i64 M), [])) (y1 := (.lit (.int .u64 D), [])) Try.underlying43 (by kernel_rfl) fnExactGoodWord_cells ⟨1, by simp [DataW.trod, Try.underlying3, wm]⟩ ⟨1, by simp [DataW.trod, Try.underlying41, wb]⟩
theorem fnExactGoodWord_knob : ownKnob Try.prog.godebug = none := by kernel_rfl
set_option maxRecDepth 100000 in
theorem fnExactGoodWord_lifted (os : Os) (started : os.Started) (H : Type) (enc : TypeId × Value → H) :
    ReturnsInHanded {} Try.checked os 6 .any (Rows.fnExactGoodWordSpec.pre6 enc Try.prog Try.f6 Rows.fnExactGoodWordRow.domain false) (Rows.fnExactGoodWordSpec.post enc Try.prog Try.f6 false true false false) := by
  refine returnsInHanded_of_change (C := Try.checked) fnExactGoodWord_knob started (by kernel_rfl) Try.func6
    (ChangeSpec.witness6 (enc := enc) (C := Try.checked) false ⟨#[], #[.agg #[.int .i64 0, .int .u64 0]], []⟩ 8 (by kernel_rfl) (by kernel_rfl) (by kernel_rfl) (by kernel_rfl)) ?_
  intro W base args ds gs before hval0 hW hcnd _
  have hval : ∀ (j : Nat) t v, Try.f6.params[j]? = some t → args[j]? = some v → Value.okWide Try.prog W .any base t v := hval0
  have hW' := hW
  obtain ⟨p, q, hA0, hV, rfl, hfz, hnd⟩ := hW
  have hA : DataW.TrodAll enc Try.prog W 0 (fun _ => true) true Try.f6.params.toList args.toList ds p := hA0
  rw [Try.params6] at hA hval
  obtain ⟨v0, vs0, d0, ds0, p0, q0, hargs, rfl, rfl, h0, r0⟩ := trodAll_cons hA
  obtain ⟨rfl, rfl, rfl⟩ := trodAll_nil r0
  obtain rfl : args = #[v0] := by cases args; simp_all
  obtain ⟨rfl, rfl⟩ := trodVars_none hV
  obtain ⟨c0, e0, y0, z0, n0, rfl, rfl, rfl, hy0, hz0⟩ := Go.Joins.open_agg2 Try.underlying43 (by kernel_rfl) fnExactGoodWord_cells (hval 0 43 v0 rfl rfl) h0
  obtain ⟨m0, f0, rfl, wm0⟩ := DataW.trod_int Try.underlying3 hy0
  obtain ⟨b0, g0, rfl, wb0⟩ := DataW.trod_int Try.underlying41 hz0
  simp at f0 g0
  subst f0 g0
  clear hA0 hval0
  refine (goodWord_walk m0 b0 wm0 wb0 W ).mono fun e W' ⟨he, bel⟩ => ?_
  subst he
  exact ⟨_, rfl, _, _, _, [], _, [], hW', trodAll_mk1 (shut_bool Try.underlying4 _), (trodAll_cons_mk (fnExactGoodWord_mem m0 b0 wm0 wb0) trodAll_mk0), rfl, bel.frame _, fun h => by cases h⟩

theorem fnExactGoodWord_holds : Rows.FnExactGoodWordSaid :=
  OpenClaim.holds_of_wide 6 Try.f6 rfl rfl rfl rfl rfl rfl rfl ⟨rfl, rfl, rfl, rfl, rfl⟩ rfl rfl rfl rfl rfl (by kernel_rfl) Try.func6 (by kernel_rfl)
    (of_decide_eq_true (by kernel_rfl)) (by unfold Func.isWrapper; first | (rw [if_pos (by decide +kernel)]; kernel_rfl) | (rw [if_neg (by decide +kernel)]; exact ⟨rfl, rfl⟩))
    (fun os started H enc _ => fnExactGoodWord_lifted os started H enc)
#print axioms fnExactGoodWord_holds
end Go.Proofs.Ytnggleadledpcaa
