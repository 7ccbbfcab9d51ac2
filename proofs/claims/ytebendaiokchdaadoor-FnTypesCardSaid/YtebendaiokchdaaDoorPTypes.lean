/-
  Proved: at every argument the law FnTypes answers true, and each argument and the variable kindRows read afterwards as they read before, where the tables of the program and of the library and the two errors of strconv lie as their texts lay them (the card's tie). No other conditions.
-/
import Derived.Test.YtebendaiokchdaaDoorTie
import Derived.Test.YtebendaiokchdaaDoorCards
import Derived.Test.YtebendaiokchdaaDoorV4
import Derived.Test.YtebendaiokchdaaDoorU3
import Derived.WalkKit
import Derived.ProofKit
import Derived.OpenShut
import Derived.ShutString
import Derived.ChangeOld
import Derived.Below
import Derived.LaidMore
import Derived.Lay
import Derived.SevenTiedAt
import Derived.Stop.Joined
import Derived.PinnedBridge
import Derived.Lib.LaidU8T
import Derived.OpenVars
import Derived.LaidLaws
import Derived.Stop.LaidErr
namespace Go.Proofs.YtebendaiokchdaaDoor
open Go.ChangeShapes Go.WideShapes Go.ChangeAt Go.RowKit
open Go.ChangeMaps (open_string shut_string)

theorem fnTypes_laidout : laidOutB Tryd.prog = true := by kernel_rfl
theorem fnTypes_knob : ownKnob Tryd.prog.godebug = none := by kernel_rfl
theorem fnTypes_tab : (Rows.laid_loop_example_g00209_impl_kindRows : DataW Unit) = .agg (krow.map kdat) := by kernel_rfl
theorem fnTypes_tabs {W : World} (h : laidMetH Tryd.prog Rows.fnTypesRow.laid W) : Tabs W := by
  rw [MakeChecks.laidMetH_plain _ _ _ (by kernel_rfl)] at h
  have h3 := Lib.laidMet.reads h (.tail _ (.tail _ (.tail _ (.tail _ (.tail _ (.head _))))))
  rw [fnTypes_tab] at h3
  obtain ⟨g, t, cs, fuel, p, hg, hty, hvar, hd⟩ := h3
  obtain rfl := Option.some.inj ((show Tryd.prog.globalNamed "loop.example/g00209/impl.kindRows" = some 0 by kernel_rfl).symm.trans hg)
  obtain rfl := Option.some.inj ((show (Tryd.prog.globals[0]?).map (·.type) = some 58 by kernel_rfl).symm.trans hty)
  exact tabs_of_reads hd (fun j => World.var?_cell hg hvar j)
theorem fnTypes_ptab : (Rows.laid_internal_strconv_uint64pow10 : DataW Unit) = Lib.tabData .u64 Lib.pow10Tab := by kernel_rfl
theorem fnTypes_pows {W : World} (h : laidMetH Tryd.prog Rows.fnTypesRow.laid W) : Pows W := by
  rw [MakeChecks.laidMetH_plain _ _ _ (by kernel_rfl)] at h
  have h3 := Lib.laidMet.reads h (.tail _ (.tail _ (.head _)))
  rw [fnTypes_ptab] at h3
  obtain ⟨g, t, cs, fuel, p, hg, hty, hvar, hd⟩ := h3
  obtain rfl := Option.some.inj ((show Tryd.prog.globalNamed "internal/strconv.uint64pow10" = some 2 by kernel_rfl).symm.trans hg)
  obtain rfl := Option.some.inj ((show (Tryd.prog.globals[2]?).map (·.type) = some 117 by kernel_rfl).symm.trans hty)
  have hcs := Lib.cells_of_tab Tryd.underlying117 Tryd.underlying46 (by kernel_rfl) (by kernel_rfl) hd
  unfold Pows Lib.TabIs
  rw [hvar, ← hcs]
theorem fnTypes_errName (u : TypeId) (h : Tryd.prog.typeName? 3 u = some "*errors.errorString") : u = 129 := by
  have hs : "*" ++ "errors.errorString" = "*errors.errorString" := by decide
  exact typeName_ptr_named (nm := "errors.errorString") (by rw [hs]; kernel_rfl) (by kernel_rfl) (by decide) u (by rw [hs]; exact h)
theorem fnTypes_errs {W : World} (h : laidMetH Tryd.prog Rows.fnTypesRow.laid W) : Errs W := by
  rw [MakeChecks.laidMetH_plain _ _ _ (by kernel_rfl)] at h
  obtain ⟨xr, tr, vr, _, _, _⟩ := laid_sentinel (((h).tail).tail).tail (show Tryd.prog.globalNamed "strconv.ErrRange" = some 4 by kernel_rfl) (show (Tryd.prog.globals[4]?).map (·.type) = some 83 by kernel_rfl) Tryd.underlying83 fnTypes_errName Tryd.underlying129 Tryd.underlying131 rfl rfl Tryd.underlying9 (by kernel_rfl) (by kernel_rfl)
  have cr : W.cell? ⟨4, 0, none⟩ = some (.iface 129 (.pointer (some xr))) := by simpa using World.var?_cell (show Tryd.prog.globalNamed "strconv.ErrRange" = some 4 by kernel_rfl) vr 0
  obtain ⟨xs, ts, vs, _, _, _⟩ := laid_sentinel ((((h).tail).tail).tail).tail (show Tryd.prog.globalNamed "strconv.ErrSyntax" = some 3 by kernel_rfl) (show (Tryd.prog.globals[3]?).map (·.type) = some 83 by kernel_rfl) Tryd.underlying83 fnTypes_errName Tryd.underlying129 Tryd.underlying131 rfl rfl Tryd.underlying9 (by kernel_rfl) (by kernel_rfl)
  have cs : W.cell? ⟨3, 0, none⟩ = some (.iface 129 (.pointer (some xs))) := by simpa using World.var?_cell (show Tryd.prog.globalNamed "strconv.ErrSyntax" = some 3 by kernel_rfl) vs 0
  exact ⟨⟨World.block_lt_of_cell? _ _ cs, _, _, cs⟩, World.block_lt_of_cell? _ _ cr, _, _, cr⟩

set_option maxRecDepth 100000 in
theorem fnTypes_lifted (os : Os) (started : os.Started) (H : Type) (enc : TypeId × Value → H) :
    ReturnsInHanded {} Tryd.checked os 3 .any (fun w args => (Rows.fnTypesSpec.pre enc Tryd.prog Tryd.f3 Rows.fnTypesRow.domain false w args ∧ laidMetH Tryd.prog Rows.fnTypesRow.laid w) ∧ sizedMet enc Tryd.prog Tryd.f3 (OpenSpec.ofChange Rows.fnTypesSpec) false w args)
      (Rows.fnTypesSpec.post enc Tryd.prog Tryd.f3 false true false false) := by
  refine returnsInHanded_of_change_and (C := Tryd.checked) (X := fun w _ => laidMetH Tryd.prog Rows.fnTypesRow.laid w) (fun _ _ _ hh h => h.of_heap hh) fnTypes_knob started (by kernel_rfl) Tryd.func3
    (ChangeSpec.witness_shaped (enc := enc) (C := Tryd.checked) (os := os) (X := fun w _ => laidMetH Tryd.prog Rows.fnTypesRow.laid w) false (World.laidAll Tryd.prog os Rows.fnTypesRow.laid) #[.slice none 0 0] 8 (World.laidAll_os _ _ _)
      (World.shaped_of_ZipB (by kernel_rfl) (by kernel_rfl)) (by kernel_rfl) (by kernel_rfl) (by kernel_rfl)
      (by rw [MakeChecks.laidMetH_plain _ _ _ (by kernel_rfl)]; exact laidMet_laidAll _ (by kernel_rfl) (by kernel_rfl))) ?_
  intro W base args ds gs before hval0 hW hc _ hL _
  have hval : ∀ (j : Nat) t v, Tryd.f3.params[j]? = some t → args[j]? = some v → Value.okWide Tryd.prog W .any base t v := hval0
  have hW' := hW
  obtain ⟨p, q, hA0, hV, rfl, _, _⟩ := hW
  have hA : DataW.TrodAll enc Tryd.prog W 0 (fun _ => true) true Tryd.f3.params.toList args.toList ds p := hA0
  rw [Tryd.params3] at hA hval
  obtain ⟨v0, vs0, d0, ds0, p0, q0, hargs, rfl, rfl, h0, r0⟩ := trodAll_cons hA
  obtain ⟨rfl, rfl, rfl⟩ := trodAll_nil r0
  obtain rfl : args = #[v0] := by cases args; simp_all
  obtain ⟨g1, rfl⟩ : ∃ g, gs = [g] := by
    cases gs with
    | nil => exact hV.elim
    | cons a r =>
      cases r with
      | nil => exact ⟨a, rfl⟩
      | cons b r => obtain ⟨_, _, _, _, _, _, _, _, _, _, hs, _⟩ := hV; exact hs.elim
  obtain ⟨a0, len0, cap0, rfl⟩ := okWide_slice Tryd.underlying22 (hval 0 22 v0 rfl rfl)
  have k0 := h0
  have lt0 : ∀ x ∈ p0, x.block < W.heap.size := by obtain ⟨m, hm⟩ := k0; exact DataW.trod_lt m _ _ _ hm
  have hI0 := opened_bys h0
  clear hA0 hval0
  refine (types_walk a0 len0 cap0  W hI0 ⟨fnTypes_tabs hL, fnTypes_pows hL, fnTypes_errs hL⟩).mono fun e W' ⟨he, bel⟩ => ?_
  subst he
  exact ⟨_, rfl, _, _, _, [], _, q, hW', trodAll_mk1 (shut_bool Tryd.underlying4 _), (trodAll_cons_mk (Below.trod fnTypes_laidout (by kernel_rfl) (of_decide_eq_true (by kernel_rfl)) k0 bel lt0) trodAll_mk0), bel.trodVars fnTypes_laidout (by kernel_rfl) hV, bel.frame _, fun h => by cases h⟩

theorem fnTypes_row : Rows.FnTypesSaid :=
  OpenClaim.holds_of_wide 3 Tryd.f3 rfl rfl rfl rfl rfl rfl rfl ⟨rfl, rfl, rfl, rfl, rfl⟩ rfl rfl rfl rfl rfl (by kernel_rfl) Tryd.func3 (by kernel_rfl)
    (of_decide_eq_true (by kernel_rfl)) (by unfold Func.isWrapper; first | (rw [if_pos (by decide +kernel)]; kernel_rfl) | (rw [if_neg (by decide +kernel)]; exact ⟨rfl, rfl⟩))
    (fun os started H enc _ => fnTypes_lifted os started H enc)
theorem fnTypes_holds : Rows.FnTypesCardSaid :=
  Claim7.holds_tied_plain_at .later [] [.data, .data, .data, .sentinel, .sentinel, .data] true (true, "991b501332b030e0959f00d665d3a102ee5f6af444607d9432885708534aebaa") true fnTypes_row (fun _ h => by cases h) (by kernel_rfl) (fun _ h => by cases h) fnTypes_row_tie rfl ⟨rfl, rfl⟩ (by kernel_rfl) rfl
    (fun f fn hf hfn => by
      obtain rfl : f = 3 := Option.some.inj ((show Tryd.prog.funcNamed "loop.example/g00209/laws.FnTypes" = some 3 by kernel_rfl).symm.trans hf) |>.symm
      obtain rfl : fn = Tryd.f3 := (Option.some.inj (Tryd.func3.symm.trans hfn)).symm
      exact ⟨by kernel_rfl, fun j t ht => by
        rw [Tryd.params3] at ht
        have hm : t ∈ [22] := by simpa using Array.mem_of_getElem? ht
        have hall : ([22].all fun u => !Tryd.prog.wantsStandIn u) = true := by kernel_rfl
        exact (show Tryd.prog.wantsStandIn t = false by simpa using List.all_eq_true.1 hall t hm)⟩)
    (by kernel_rfl)
#print axioms fnTypes_holds
end Go.Proofs.YtebendaiokchdaaDoor
