/-
  Proved: at every argument the law FnExactSubtypeOf answers true, and each argument and the variable kindRows read afterwards as they read before, where the tables of the program and of the library and the two errors of strconv lie as their texts lay them (the card's tie). No other conditions.
-/
import Derived.Test.YtfepbjkfabmiiaaDoorTie
import Derived.Test.YtfepbjkfabmiiaaDoorCards
import Derived.Test.YtfepbjkfabmiiaaDoorV6
import Derived.WalkKit
import Derived.ProofKit
import Derived.OpenShut
import Derived.ShutString
import Derived.ChangeOld
import Derived.Below
import Derived.LaidMore
import Derived.Lay
import Derived.SevenTiedAt
import Derived.Stop.Joined
import Derived.PinnedBridge
import Derived.Lib.LaidU8T
import Derived.OpenVars
import Derived.LaidLaws
import Derived.Stop.LaidErr
namespace Go.Proofs.YtfepbjkfabmiiaaDoor
open Go.ChangeShapes Go.WideShapes Go.ChangeAt Go.RowKit
open Go.ChangeMaps (open_string shut_string)

theorem fnExactSubtypeOf_laidout : laidOutB Tryd.prog = true := by kernel_rfl
theorem fnExactSubtypeOf_knob : ownKnob Tryd.prog.godebug = none := by kernel_rfl
theorem fnExactSubtypeOf_tab : (Rows.laid_loop_example_g00209_impl_kindRows : DataW Unit) = .agg (krow.map kdat) := by kernel_rfl
theorem fnExactSubtypeOf_tabs {W : World} (h : laidMetH Tryd.prog Rows.fnExactSubtypeOfRow.laid W) : Tabs W := by
  rw [MakeChecks.laidMetH_plain _ _ _ (by kernel_rfl)] at h
  have h3 := Lib.laidMet.reads h (.tail _ (.tail _ (.tail _ (.tail _ (.tail _ (.head _))))))
  rw [fnExactSubtypeOf_tab] at h3
  obtain ⟨g, t, cs, fuel, p, hg, hty, hvar, hd⟩ := h3
  obtain rfl := Option.some.inj ((show Tryd.prog.globalNamed "loop.example/g00209/impl.kindRows" = some 0 by kernel_rfl).symm.trans hg)
  obtain rfl := Option.some.inj ((show (Tryd.prog.globals[0]?).map (·.type) = some 91 by kernel_rfl).symm.trans hty)
  exact tabs_of_reads hd (fun j => World.var?_cell hg hvar j)
theorem fnExactSubtypeOf_ptab : (Rows.laid_internal_strconv_uint64pow10 : DataW Unit) = Lib.tabData .u64 Lib.pow10Tab := by kernel_rfl
theorem fnExactSubtypeOf_pows {W : World} (h : laidMetH Tryd.prog Rows.fnExactSubtypeOfRow.laid W) : Pows W := by
  rw [MakeChecks.laidMetH_plain _ _ _ (by kernel_rfl)] at h
  have h3 := Lib.laidMet.reads h (.tail _ (.tail _ (.head _)))
  rw [fnExactSubtypeOf_ptab] at h3
  obtain ⟨g, t, cs, fuel, p, hg, hty, hvar, hd⟩ := h3
  obtain rfl := Option.some.inj ((show Tryd.prog.globalNamed "internal/strconv.uint64pow10" = some 4 by kernel_rfl).symm.trans hg)
  obtain rfl := Option.some.inj ((show (Tryd.prog.globals[4]?).map (·.type) = some 136 by kernel_rfl).symm.trans hty)
  have hcs := Lib.cells_of_tab Tryd.underlying136 Tryd.underlying117 (by kernel_rfl) (by kernel_rfl) hd
  unfold Pows Lib.TabIs
  rw [hvar, ← hcs]
theorem fnExactSubtypeOf_errName (u : TypeId) (h : Tryd.prog.typeName? 3 u = some "*errors.errorString") : u = 132 := by
  have hs : "*" ++ "errors.errorString" = "*errors.errorString" := by decide
  exact typeName_ptr_named (nm := "errors.errorString") (by rw [hs]; kernel_rfl) (by kernel_rfl) (by decide) u (by rw [hs]; exact h)
theorem fnExactSubtypeOf_errs {W : World} (h : laidMetH Tryd.prog Rows.fnExactSubtypeOfRow.laid W) : Errs W := by
  rw [MakeChecks.laidMetH_plain _ _ _ (by kernel_rfl)] at h
  obtain ⟨xr, tr, vr, _, _, _⟩ := laid_sentinel (((h).tail).tail).tail (show Tryd.prog.globalNamed "strconv.ErrRange" = some 3 by kernel_rfl) (show (Tryd.prog.globals[3]?).map (·.type) = some 80 by kernel_rfl) Tryd.underlying80 fnExactSubtypeOf_errName Tryd.underlying132 Tryd.underlying134 rfl rfl Tryd.underlying9 (by kernel_rfl) (by kernel_rfl)
  have cr : W.cell? ⟨3, 0, none⟩ = some (.iface 132 (.pointer (some xr))) := by simpa using World.var?_cell (show Tryd.prog.globalNamed "strconv.ErrRange" = some 3 by kernel_rfl) vr 0
  obtain ⟨xs, ts, vs, _, _, _⟩ := laid_sentinel ((((h).tail).tail).tail).tail (show Tryd.prog.globalNamed "strconv.ErrSyntax" = some 2 by kernel_rfl) (show (Tryd.prog.globals[2]?).map (·.type) = some 80 by kernel_rfl) Tryd.underlying80 fnExactSubtypeOf_errName Tryd.underlying132 Tryd.underlying134 rfl rfl Tryd.underlying9 (by kernel_rfl) (by kernel_rfl)
  have cs : W.cell? ⟨2, 0, none⟩ = some (.iface 132 (.pointer (some xs))) := by simpa using World.var?_cell (show Tryd.prog.globalNamed "strconv.ErrSyntax" = some 2 by kernel_rfl) vs 0
  exact ⟨⟨World.block_lt_of_cell? _ _ cs, _, _, cs⟩, World.block_lt_of_cell? _ _ cr, _, _, cr⟩

set_option maxRecDepth 100000 in
theorem fnExactSubtypeOf_lifted (os : Os) (started : os.Started) (H : Type) (enc : TypeId × Value → H) :
    ReturnsInHanded {} Tryd.checked os 5 .any (fun w args => (Rows.fnExactSubtypeOfSpec.pre enc Tryd.prog Tryd.f5 Rows.fnExactSubtypeOfRow.domain false w args ∧ laidMetH Tryd.prog Rows.fnExactSubtypeOfRow.laid w) ∧ sizedMet enc Tryd.prog Tryd.f5 (OpenSpec.ofChange Rows.fnExactSubtypeOfSpec) false w args)
      (Rows.fnExactSubtypeOfSpec.post enc Tryd.prog Tryd.f5 false true false false) := by
  refine returnsInHanded_of_change_and (C := Tryd.checked) (X := fun w _ => laidMetH Tryd.prog Rows.fnExactSubtypeOfRow.laid w) (fun _ _ _ hh h => h.of_heap hh) fnExactSubtypeOf_knob started (by kernel_rfl) Tryd.func5
    (ChangeSpec.witness_shaped (enc := enc) (C := Tryd.checked) (os := os) (X := fun w _ => laidMetH Tryd.prog Rows.fnExactSubtypeOfRow.laid w) false (World.laidAll Tryd.prog os Rows.fnExactSubtypeOfRow.laid) #[.agg #[.slice none 0 0, .string ByteArray.empty], .agg #[.slice none 0 0, .string ByteArray.empty]] 8 (World.laidAll_os _ _ _)
      (World.shaped_of_ZipB (by kernel_rfl) (by kernel_rfl)) (by kernel_rfl) (by kernel_rfl) (by kernel_rfl)
      (by rw [MakeChecks.laidMetH_plain _ _ _ (by kernel_rfl)]; exact laidMet_laidAll _ (by kernel_rfl) (by kernel_rfl))) ?_
  intro W base args ds gs before hval0 hW hc _ hL _
  have hval : ∀ (j : Nat) t v, Tryd.f5.params[j]? = some t → args[j]? = some v → Value.okWide Tryd.prog W .any base t v := hval0
  have hW' := hW
  obtain ⟨p, q, hA0, hV, rfl, _, _⟩ := hW
  have hA : DataW.TrodAll enc Tryd.prog W 0 (fun _ => true) true Tryd.f5.params.toList args.toList ds p := hA0
  rw [Tryd.params5] at hA hval
  obtain ⟨v0, vs0, d0, ds0, p0, q0, hargs, rfl, rfl, h0, r0⟩ := trodAll_cons hA
  obtain ⟨v1, vs1, d1, ds1, p1, q1, rfl, rfl, rfl, h1, r1⟩ := trodAll_cons r0
  obtain ⟨rfl, rfl, rfl⟩ := trodAll_nil r1
  obtain rfl : args = #[v0, v1] := by cases args; simp_all
  obtain ⟨g1, rfl⟩ : ∃ g, gs = [g] := by
    cases gs with
    | nil => exact hV.elim
    | cons a r =>
      cases r with
      | nil => exact ⟨a, rfl⟩
      | cons b r => obtain ⟨_, _, _, _, _, _, _, _, _, _, hs, _⟩ := hV; exact hs.elim
  have k0 := h0
  have lt0 : ∀ x ∈ p0, x.block < W.heap.size := by obtain ⟨m, hm⟩ := k0; exact DataW.trod_lt m _ _ _ hm
  obtain ⟨a0, c0, L0, R0, rfl, hI0⟩ := open_sig (hval 0 30 v0 rfl rfl) h0
  have k1 := h1
  have lt1 : ∀ x ∈ p1, x.block < W.heap.size := by obtain ⟨m, hm⟩ := k1; exact DataW.trod_lt m _ _ _ hm
  obtain ⟨a1, c1, L1, R1, rfl, hI1⟩ := open_sig (hval 1 30 v1 rfl rfl) h1
  clear hA0 hval0
  refine (subtype_walk a0 c0 L0 R0 a1 c1 L1 R1  W hI0 hI1 ⟨fnExactSubtypeOf_tabs hL, fnExactSubtypeOf_pows hL, fnExactSubtypeOf_errs hL⟩).mono fun e W' ⟨he, bel⟩ => ?_
  subst he
  exact ⟨_, rfl, _, _, _, [], _, q, hW', trodAll_mk1 (shut_bool Tryd.underlying4 _), (trodAll_cons_mk (Below.trod fnExactSubtypeOf_laidout (by kernel_rfl) (of_decide_eq_true (by kernel_rfl)) k0 bel lt0) (trodAll_cons_mk (Below.trod fnExactSubtypeOf_laidout (by kernel_rfl) (of_decide_eq_true (by kernel_rfl)) k1 bel lt1) trodAll_mk0)), bel.trodVars fnExactSubtypeOf_laidout (by kernel_rfl) hV, bel.frame _, fun h => by cases h⟩

theorem fnExactSubtypeOf_row : Rows.FnExactSubtypeOfSaid :=
  OpenClaim.holds_of_wide 5 Tryd.f5 rfl rfl rfl rfl rfl rfl rfl ⟨rfl, rfl, rfl, rfl, rfl⟩ rfl rfl rfl rfl rfl (by kernel_rfl) Tryd.func5 (by kernel_rfl)
    (of_decide_eq_true (by kernel_rfl)) (by unfold Func.isWrapper; first | (rw [if_pos (by decide +kernel)]; kernel_rfl) | (rw [if_neg (by decide +kernel)]; exact ⟨rfl, rfl⟩))
    (fun os started H enc _ => fnExactSubtypeOf_lifted os started H enc)
theorem fnExactSubtypeOf_holds : Rows.FnExactSubtypeOfCardSaid :=
  Claim7.holds_tied_plain_at .later [] [.data, .data, .data, .sentinel, .sentinel, .data] true (true, "9ba933909aaf73dc4572cbd2fb93fc90075cb7b061c4b4cda6f55a1dd9c9ca42") true fnExactSubtypeOf_row (fun _ h => by cases h) (by kernel_rfl) (fun _ h => by cases h) fnExactSubtypeOf_row_tie rfl ⟨rfl, rfl⟩ (by kernel_rfl) rfl
    (fun f fn hf hfn => by
      obtain rfl : f = 5 := Option.some.inj ((show Tryd.prog.funcNamed "loop.example/g00209/laws.FnExactSubtypeOf" = some 5 by kernel_rfl).symm.trans hf) |>.symm
      obtain rfl : fn = Tryd.f5 := (Option.some.inj (Tryd.func5.symm.trans hfn)).symm
      exact ⟨by kernel_rfl, fun j t ht => by
        rw [Tryd.params5] at ht
        have hm : t ∈ [30, 30] := by simpa using Array.mem_of_getElem? ht
        have hall : ([30, 30].all fun u => !Tryd.prog.wantsStandIn u) = true := by kernel_rfl
        exact (show Tryd.prog.wantsStandIn t = false by simpa using List.all_eq_true.1 hall t hm)⟩)
    (by kernel_rfl)
#print axioms fnExactSubtypeOf_holds
end Go.Proofs.YtfepbjkfabmiiaaDoor
