/-
  Proved: at every argument the law FnTranscoded answers true, and each argument reads afterwards as it read before, where the library's two tables of UTF-8 lie as its text lays them (the card's tie). No other conditions.
-/
import Derived.Test.YtpmfihnhcgmjfaaDoorTie
import Derived.Test.YtpmfihnhcgmjfaaDoorCards
import Derived.Test.YtpmfihnhcgmjfaaDoorTS2
import Derived.Test.YtpmfihnhcgmjfaaDoorCurO
import Derived.WalkKit
import Derived.ProofKit
import Derived.OpenShut
import Derived.ShutString
import Derived.ChangeOld
import Derived.Below
import Derived.LaidMore
import Derived.Lay
import Derived.SevenTiedAt
import Derived.Stop.Joined
import Derived.PinnedBridge
import Derived.Lib.LaidU8T
namespace Go.Proofs.YtpmfihnhcgmjfaaDoor
open Go.ChangeShapes Go.WideShapes Go.ChangeAt Go.RowKit
open Go.ChangeMaps (open_string shut_string)

theorem fnTranscoded_laidout : laidOutB Tryd.prog = true := by kernel_rfl
theorem fnTranscoded_knob : ownKnob Tryd.prog.godebug = none := by kernel_rfl
theorem fnTranscoded_first : Rows.laid_unicode_utf8_first = Lib.firstData := Pinned.utf8First_eq
theorem fnTranscoded_accept : (Rows.laid_unicode_utf8_acceptRanges : DataW Unit) = Lib.acceptData := by kernel_rfl
theorem fnTranscoded_tabs {W : World} (h : laidMetH Tryd.prog Rows.fnTranscodedRow.laid W) : UTabs W := by
  rw [MakeChecks.laidMetH_plain _ _ _ (by kernel_rfl)] at h
  have h3 := Lib.laidMet.reads h (.tail _ (.head _))
  have h4 := Lib.laidMet.reads h (.head _)
  rw [fnTranscoded_first] at h3
  rw [fnTranscoded_accept] at h4
  exact utf8Tabs_of_readsT (U8Types.of196 validLaid) validExtra h3 h4

set_option maxRecDepth 100000 in
theorem fnTranscoded_lifted (os : Os) (started : os.Started) (H : Type) (enc : TypeId × Value → H) :
    ReturnsInHanded {} Tryd.checked os 3 .any (fun w args => (Rows.fnTranscodedSpec.pre enc Tryd.prog Tryd.f3 Rows.fnTranscodedRow.domain false w args ∧ laidMetH Tryd.prog Rows.fnTranscodedRow.laid w) ∧ sizedMet enc Tryd.prog Tryd.f3 (OpenSpec.ofChange Rows.fnTranscodedSpec) false w args)
      (Rows.fnTranscodedSpec.post enc Tryd.prog Tryd.f3 false true false false) := by
  refine returnsInHanded_of_change_and (C := Tryd.checked) (X := fun w _ => laidMetH Tryd.prog Rows.fnTranscodedRow.laid w) (fun _ _ _ hh h => h.of_heap hh) fnTranscoded_knob started (by kernel_rfl) Tryd.func3
    (ChangeSpec.witness_shaped (enc := enc) (C := Tryd.checked) (os := os) (X := fun w _ => laidMetH Tryd.prog Rows.fnTranscodedRow.laid w) false (World.laidAll Tryd.prog os Rows.fnTranscodedRow.laid) #[.slice none 0 0] 8 (World.laidAll_os _ _ _)
      (World.shaped_of_ZipB (by kernel_rfl) (by kernel_rfl)) (by kernel_rfl) (by kernel_rfl) (by kernel_rfl)
      (by rw [MakeChecks.laidMetH_plain _ _ _ (by kernel_rfl)]; exact laidMet_laidAll _ (by kernel_rfl) (by kernel_rfl))) ?_
  intro W base args ds gs before hval0 hW hc _ hL _
  have hval : ∀ (j : Nat) t v, Tryd.f3.params[j]? = some t → args[j]? = some v → Value.okWide Tryd.prog W .any base t v := hval0
  have hW' := hW
  obtain ⟨p, q, hA0, hV, rfl, _, _⟩ := hW
  have hA : DataW.TrodAll enc Tryd.prog W 0 (fun _ => true) true Tryd.f3.params.toList args.toList ds p := hA0
  rw [Tryd.params3] at hA hval
  obtain ⟨v0, vs0, d0, ds0, p0, q0, hargs, rfl, rfl, h0, r0⟩ := trodAll_cons hA
  obtain ⟨rfl, rfl, rfl⟩ := trodAll_nil r0
  obtain rfl : args = #[v0] := by cases args; simp_all
  obtain ⟨rfl, rfl⟩ := trodVars_none hV
  obtain ⟨a0, len0, cap0, rfl⟩ := okWide_slice Tryd.underlying22 (hval 0 22 v0 rfl rfl)
  have k0 := h0
  have lt0 : ∀ x ∈ p0, x.block < W.heap.size := by obtain ⟨m, hm⟩ := k0; exact DataW.trod_lt m _ _ _ hm
  have hI0 := opened_bys h0
  clear hA0 hval0
  refine (transcodedB a0 len0 cap0  W hI0 (fnTranscoded_tabs hL)).mono fun e W' ⟨he, bel⟩ => ?_
  subst he
  exact ⟨_, rfl, _, _, _, [], _, [], hW', trodAll_mk1 (shut_bool Tryd.underlying4 _), (trodAll_cons_mk (Below.trod fnTranscoded_laidout (by kernel_rfl) (of_decide_eq_true (by kernel_rfl)) k0 bel lt0) trodAll_mk0), rfl, bel.frame _, fun h => by cases h⟩

theorem fnTranscoded_row : Rows.FnTranscodedSaid :=
  OpenClaim.holds_of_wide 3 Tryd.f3 rfl rfl rfl rfl rfl rfl rfl ⟨rfl, rfl, rfl, rfl, rfl⟩ rfl rfl rfl rfl rfl (by kernel_rfl) Tryd.func3 (by kernel_rfl)
    (of_decide_eq_true (by kernel_rfl)) (by unfold Func.isWrapper; first | (rw [if_pos (by decide +kernel)]; kernel_rfl) | (rw [if_neg (by decide +kernel)]; exact ⟨rfl, rfl⟩))
    (fun os started H enc _ => fnTranscoded_lifted os started H enc)
theorem fnTranscoded_holds : Rows.FnTranscodedCardSaid :=
  Claim7.holds_tied_plain_at .later [] [.data, .pinned] true (true, "79bcc2c4912581eb378063bb13ebd9f9334e03dd0409ee44a2c0fb84dfba1b51") false fnTranscoded_row (fun _ h => by cases h) (by kernel_rfl) (fun _ h => by cases h) fnTranscoded_row_tie rfl ⟨rfl, rfl⟩ (by kernel_rfl) rfl
    (fun f fn hf hfn => by
      obtain rfl : f = 3 := Option.some.inj ((show Tryd.prog.funcNamed "loop.example/g00209/laws.FnTranscoded" = some 3 by kernel_rfl).symm.trans hf) |>.symm
      obtain rfl : fn = Tryd.f3 := (Option.some.inj (Tryd.func3.symm.trans hfn)).symm
      exact ⟨by kernel_rfl, fun j t ht => by
        rw [Tryd.params3] at ht
        have hm : t ∈ [22] := by simpa using Array.mem_of_getElem? ht
        have hall : ([22].all fun u => !Tryd.prog.wantsStandIn u) = true := by kernel_rfl
        exact (show Tryd.prog.wantsStandIn t = false by simpa using List.all_eq_true.1 hall t hm)⟩)
    (by kernel_rfl)
#print axioms fnTranscoded_holds
end Go.Proofs.YtpmfihnhcgmjfaaDoor
