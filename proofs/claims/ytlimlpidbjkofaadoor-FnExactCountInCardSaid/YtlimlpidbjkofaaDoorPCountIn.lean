/-
  Proved: at every argument the law FnExactCountIn answers true, and each argument and the variable kindRows read afterwards as they read before, where the tables of the program and of the library lie as their texts lay them (the card's tie). No other conditions.
-/
import Derived.Test.YtlimlpidbjkofaaDoorTie
import Derived.Test.YtlimlpidbjkofaaDoorCards
import Derived.Test.YtlimlpidbjkofaaDoorVG
import Derived.WalkKit
import Derived.ProofKit
import Derived.OpenShut
import Derived.ShutString
import Derived.ChangeOld
import Derived.Below
import Derived.LaidMore
import Derived.Lay
import Derived.SevenTiedAt
import Derived.Stop.Joined
import Derived.PinnedBridge
import Derived.Lib.LaidU8T
import Derived.OpenVars
namespace Go.Proofs.YtlimlpidbjkofaaDoor
open Go.ChangeShapes Go.WideShapes Go.ChangeAt Go.RowKit
open Go.ChangeMaps (open_string shut_string)

theorem fnExactCountIn_laidout : laidOutB Tryd.prog = true := by kernel_rfl
theorem fnExactCountIn_knob : ownKnob Tryd.prog.godebug = none := by kernel_rfl
theorem fnExactCountIn_tab : (Rows.laid_loop_example_g00209_impl_kindRows : DataW Unit) = .agg (krow.map kdat) := by kernel_rfl
theorem fnExactCountIn_tabs {W : World} (h : laidMetH Tryd.prog Rows.fnExactCountInRow.laid W) : Tabs W := by
  rw [MakeChecks.laidMetH_plain _ _ _ (by kernel_rfl)] at h
  have h3 := Lib.laidMet.reads h (.tail _ (.head _))
  rw [fnExactCountIn_tab] at h3
  obtain ⟨g, t, cs, fuel, p, hg, hty, hvar, hd⟩ := h3
  obtain rfl := Option.some.inj ((show Tryd.prog.globalNamed "loop.example/g00209/impl.kindRows" = some 0 by kernel_rfl).symm.trans hg)
  obtain rfl := Option.some.inj ((show (Tryd.prog.globals[0]?).map (·.type) = some 129 by kernel_rfl).symm.trans hty)
  exact tabs_of_reads hd (fun j => World.var?_cell hg hvar j)
theorem fnExactCountIn_btab : (Rows.laid_loop_example_g00209_impl_kindBounds : DataW Unit) = .agg (brow.map bdat) := by kernel_rfl
theorem fnExactCountIn_btabs {W : World} (h : laidMetH Tryd.prog Rows.fnExactCountInRow.laid W) : BTabs W := by
  rw [MakeChecks.laidMetH_plain _ _ _ (by kernel_rfl)] at h
  have h3 := Lib.laidMet.reads h (.tail _ (.tail _ (.head _)))
  rw [fnExactCountIn_btab] at h3
  obtain ⟨g, t, cs, fuel, p, hg, hty, hvar, hd⟩ := h3
  obtain rfl := Option.some.inj ((show Tryd.prog.globalNamed "loop.example/g00209/impl.kindBounds" = some 1 by kernel_rfl).symm.trans hg)
  obtain rfl := Option.some.inj ((show (Tryd.prog.globals[1]?).map (·.type) = some 138 by kernel_rfl).symm.trans hty)
  exact btabs_of_reads hd (fun j => World.var?_cell hg hvar j)
theorem fnExactCountIn_first : Rows.laid_unicode_utf8_first = Lib.firstData := Pinned.utf8First_eq
theorem fnExactCountIn_accept : (Rows.laid_unicode_utf8_acceptRanges : DataW Unit) = Lib.acceptData := by kernel_rfl
theorem fnExactCountIn_utabs {W : World} (h : laidMetH Tryd.prog Rows.fnExactCountInRow.laid W) : UTabs W := by
  rw [MakeChecks.laidMetH_plain _ _ _ (by kernel_rfl)] at h
  have h3 := Lib.laidMet.reads h (.tail _ (.tail _ (.tail _ (.head _))))
  have h4 := Lib.laidMet.reads h (.head _)
  rw [fnExactCountIn_first] at h3
  rw [fnExactCountIn_accept] at h4
  exact utf8Tabs_of_readsT (U8Types.of196 validLaid) validExtra h3 h4

set_option maxRecDepth 100000 in
theorem fnExactCountIn_lifted (os : Os) (started : os.Started) (H : Type) (enc : TypeId × Value → H) :
    ReturnsInHanded {} Tryd.checked os 5 .any (fun w args => (Rows.fnExactCountInSpec.pre enc Tryd.prog Tryd.f5 Rows.fnExactCountInRow.domain false w args ∧ laidMetH Tryd.prog Rows.fnExactCountInRow.laid w) ∧ sizedMet enc Tryd.prog Tryd.f5 (OpenSpec.ofChange Rows.fnExactCountInSpec) false w args)
      (Rows.fnExactCountInSpec.post enc Tryd.prog Tryd.f5 false true false false) := by
  refine returnsInHanded_of_change_and (C := Tryd.checked) (X := fun w _ => laidMetH Tryd.prog Rows.fnExactCountInRow.laid w) (fun _ _ _ hh h => h.of_heap hh) fnExactCountIn_knob started (by kernel_rfl) Tryd.func5
    (ChangeSpec.witness_shaped (enc := enc) (C := Tryd.checked) (os := os) (X := fun w _ => laidMetH Tryd.prog Rows.fnExactCountInRow.laid w) false (World.laidAll Tryd.prog os Rows.fnExactCountInRow.laid) #[.slice none 0 0, .slice none 0 0] 8 (World.laidAll_os _ _ _)
      (World.shaped_of_ZipB (by kernel_rfl) (by kernel_rfl)) (by kernel_rfl) (by kernel_rfl) (by kernel_rfl)
      (by rw [MakeChecks.laidMetH_plain _ _ _ (by kernel_rfl)]; exact laidMet_laidAll _ (by kernel_rfl) (by kernel_rfl))) ?_
  intro W base args ds gs before hval0 hW hc _ hL _
  have hval : ∀ (j : Nat) t v, Tryd.f5.params[j]? = some t → args[j]? = some v → Value.okWide Tryd.prog W .any base t v := hval0
  have hW' := hW
  obtain ⟨p, q, hA0, hV, rfl, _, _⟩ := hW
  have hA : DataW.TrodAll enc Tryd.prog W 0 (fun _ => true) true Tryd.f5.params.toList args.toList ds p := hA0
  rw [Tryd.params5] at hA hval
  obtain ⟨v0, vs0, d0, ds0, p0, q0, hargs, rfl, rfl, h0, r0⟩ := trodAll_cons hA
  obtain ⟨v1, vs1, d1, ds1, p1, q1, rfl, rfl, rfl, h1, r1⟩ := trodAll_cons r0
  obtain ⟨rfl, rfl, rfl⟩ := trodAll_nil r1
  obtain rfl : args = #[v0, v1] := by cases args; simp_all
  obtain ⟨g1, g2, rfl⟩ : ∃ g g', gs = [g, g'] := by
    cases gs with
    | nil => exact hV.elim
    | cons a r =>
      cases r with
      | nil => obtain ⟨_, _, _, _, _, _, _, _, _, _, hs, _⟩ := hV; exact hs.elim
      | cons b r =>
        cases r with
        | nil => exact ⟨a, b, rfl⟩
        | cons c r => obtain ⟨_, _, _, _, _, _, _, _, _, _, hs, _⟩ := hV; obtain ⟨_, _, _, _, _, _, _, _, _, _, hs2, _⟩ := hs; exact hs2.elim
  obtain ⟨a0, len0, cap0, rfl⟩ := okWide_slice Tryd.underlying22 (hval 0 22 v0 rfl rfl)
  have k0 := h0
  have lt0 : ∀ x ∈ p0, x.block < W.heap.size := by obtain ⟨m, hm⟩ := k0; exact DataW.trod_lt m _ _ _ hm
  obtain ⟨fuel0, hf0⟩ := h0
  obtain ⟨L0, rfl, hI0⟩ := open_nds hf0
  obtain ⟨a1, len1, cap1, rfl⟩ := okWide_slice Tryd.underlying23 (hval 1 23 v1 rfl rfl)
  have k1 := h1
  have lt1 : ∀ x ∈ p1, x.block < W.heap.size := by obtain ⟨m, hm⟩ := k1; exact DataW.trod_lt m _ _ _ hm
  obtain ⟨fuel1, hf1⟩ := h1
  obtain ⟨L1, rfl, hI1⟩ := open_vals hf1
  clear hA0 hval0
  refine (countIn_walk a0 a1 cap0 cap1 L0 L1  W hI0 hI1 ⟨fnExactCountIn_tabs hL, fnExactCountIn_btabs hL, fnExactCountIn_utabs hL⟩).mono fun e W' ⟨he, bel⟩ => ?_
  subst he
  exact ⟨_, rfl, _, _, _, [], _, q, hW', trodAll_mk1 (shut_bool Tryd.underlying4 _), (trodAll_cons_mk (Below.trod fnExactCountIn_laidout (by kernel_rfl) (of_decide_eq_true (by kernel_rfl)) k0 bel lt0) (trodAll_cons_mk (Below.trod fnExactCountIn_laidout (by kernel_rfl) (of_decide_eq_true (by kernel_rfl)) k1 bel lt1) trodAll_mk0)), bel.trodVars fnExactCountIn_laidout (by kernel_rfl) hV, bel.frame _, fun h => by cases h⟩

theorem fnExactCountIn_row : Rows.FnExactCountInSaid :=
  OpenClaim.holds_of_wide 5 Tryd.f5 rfl rfl rfl rfl rfl rfl rfl ⟨rfl, rfl, rfl, rfl, rfl⟩ rfl rfl rfl rfl rfl (by kernel_rfl) Tryd.func5 (by kernel_rfl)
    (of_decide_eq_true (by kernel_rfl)) (by unfold Func.isWrapper; first | (rw [if_pos (by decide +kernel)]; kernel_rfl) | (rw [if_neg (by decide +kernel)]; exact ⟨rfl, rfl⟩))
    (fun os started H enc _ => fnExactCountIn_lifted os started H enc)
theorem fnExactCountIn_holds : Rows.FnExactCountInCardSaid :=
  Claim7.holds_tied_plain_at .later [] [.data, .data, .data, .pinned] true (true, "7b5d046ea79ec434ad389b2b953320de0728e25ca64b02890007e5ebde579885") false fnExactCountIn_row (fun _ h => by cases h) (by kernel_rfl) (fun _ h => by cases h) fnExactCountIn_row_tie rfl ⟨rfl, rfl⟩ (by kernel_rfl) rfl
    (fun f fn hf hfn => by
      obtain rfl : f = 5 := Option.some.inj ((show Tryd.prog.funcNamed "loop.example/g00209/laws.FnExactCountIn" = some 5 by kernel_rfl).symm.trans hf) |>.symm
      obtain rfl : fn = Tryd.f5 := (Option.some.inj (Tryd.func5.symm.trans hfn)).symm
      exact ⟨by kernel_rfl, fun j t ht => by
        rw [Tryd.params5] at ht
        have hm : t ∈ [22, 23] := by simpa using Array.mem_of_getElem? ht
        have hall : ([22, 23].all fun u => !Tryd.prog.wantsStandIn u) = true := by kernel_rfl
        exact (show Tryd.prog.wantsStandIn t = false by simpa using List.all_eq_true.1 hall t hm)⟩)
    (by kernel_rfl)
#print axioms fnExactCountIn_holds
end Go.Proofs.YtlimlpidbjkofaaDoor
