/-
  The walk of the law on compact bytes.
-/
import Derived.Test.YtgepplddhmgifaaDoorEncLaw
namespace Go.Proofs.YtgepplddhmgifaaDoor
open Go.ChangeShapes Go.WideShapes Go.ChangeAt Go.RowKit

def cmpF (L : List Int) : Value :=
  if okL L = true then (if L.all (fitC 3) = true then .tuple #[.string ⟨(encL 3 L).toArray⟩, .bool false, .bool true] else .tuple #[.string ⟨(encL 2 L).toArray⟩, .bool true, .bool true]) else .tuple #[.string ⟨#[]⟩, .bool false, .bool false]
theorem cmpF_no {L : List Int} (h : okL L = false) : cmpF L = .tuple #[.string ⟨#[]⟩, .bool false, .bool false] := by unfold cmpF; rw [if_neg (by rw [h]; simp)]
theorem cmpF_lat {L : List Int} (h : okL L = true) (h2 : L.all (fitC 3) = true) : cmpF L = .tuple #[.string ⟨(encL 3 L).toArray⟩, .bool false, .bool true] := by unfold cmpF; rw [if_pos h, if_pos h2]
theorem cmpF_wide {L : List Int} (h : okL L = true) (h2 : L.all (fitC 3) = false) : cmpF L = .tuple #[.string ⟨(encL 2 L).toArray⟩, .bool true, .bool true] := by unfold cmpF; rw [if_pos h, if_neg (by rw [h2]; simp)]
theorem all_fit2 (L : List Int) : L.all (fitC 2) = true := by rw [List.all_eq_true]; intro x _; exact fit2 x
theorem sure_no {L : List Int} (c : Int) (h : okL L = false) : sureC c L = false := by unfold sureC; rw [h]; rfl
theorem sure2 {L : List Int} (h : okL L = true) : sureC 2 L = true := by unfold sureC; rw [h]; rfl
theorem sure3 {L : List Int} (h : okL L = true) : sureC 3 L = true := by unfold sureC; rw [h]; rfl

set_option maxRecDepth 100000 in
set_option maxHeartbeats 800000 in
theorem specCompact (a : Option Addr) (cap : Nat) (L : List Int) (w : World) (hL : Hid (Ints w a L)) (hlen : L.length ≤ 9223372036854775807) :
    Calls Tryd.prog 72 #[.slice a L.length cap] w fun e w' => e = .returned (cmpF L) ∧ Below w.heap.size w w' := by
  have H1 := specPoints a cap L w hL hlen
  rcases h1 : okL L with _ | _
  · rw [h1] at H1
    have HF : Hid (cmpF L = _) := cmpF_no h1
    clear h1
    go_enter Tryd.func72, Tryd.ntmps72
    go_wp2_with (go_at_call 50; refine H1.mono ?_; rintro e w' ⟨rfl, hw⟩; obtain rfl := hw.symm; clear H1)
    go_ret3
    exact ⟨by rw [HF.out]; rfl, Below.refl _ _⟩
  · rw [h1] at H1
    have hok : Hid (OkAll L) := okAll_of h1
    have H3 := specEncode a cap L 3 w hL hok
    rcases h3 : L.all (fitC 3) with _ | _
    · rw [encR_no h3] at H3
      have HF : Hid (cmpF L = _) := cmpF_wide h1 h3
      have H2 : Hid (∀ w2, Below w.heap.size w w2 → Calls Tryd.prog 59 #[.slice a L.length cap, .int .i64 2] w2 fun e w' => e = .returned (.tuple #[.string ⟨(encL 2 L).toArray⟩, .bool true]) ∧ Below w2.heap.size w2 w') := fun w2 hb => by
        have H := specEncode a cap L 2 w2 (hL.out.below hb) hok
        rw [encR_yes (all_fit2 L)] at H
        exact H
      obtain ⟨s, hs⟩ : ∃ s, s = (⟨(encL 2 L).toArray⟩ : ByteArray) := ⟨_, rfl⟩
      rw [← hs] at HF H2
      clear h1 h3 hs
      go_enter Tryd.func72, Tryd.ntmps72
      go_wp2_with fail
      refine H1.mono ?_
      rintro e w' ⟨rfl, hw⟩
      obtain rfl := hw.symm
      clear H1 hw
      go_wp2_with fail
      refine H3.mono ?_
      rintro e w1 ⟨rfl, hb1⟩
      clear H3
      have H4 := H2.out w1 hb1
      clear H2
      go_wp2_with (go_at_call 59; refine H4.mono ?_; rintro e w2 ⟨rfl, hb2⟩; clear H4)
      go_ret3
      exact ⟨by rw [HF.out]; rfl, ibelow2 hb1 (by assumption)⟩
    · rw [encR_yes h3] at H3
      have HF : Hid (cmpF L = _) := cmpF_lat h1 h3
      obtain ⟨s, hs⟩ : ∃ s, s = (⟨(encL 3 L).toArray⟩ : ByteArray) := ⟨_, rfl⟩
      rw [← hs] at HF H3
      clear h1 h3 hs
      go_enter Tryd.func72, Tryd.ntmps72
      go_wp2_with (first | (go_at_call 50; refine H1.mono ?_; rintro e w' ⟨rfl, hw⟩; obtain rfl := hw.symm; clear H1) | (go_at_call 59; refine H3.mono ?_; rintro e w2 ⟨rfl, hb2⟩; clear H3))
      go_ret3
      exact ⟨by rw [HF.out]; rfl, by assumption⟩

set_option maxRecDepth 100000 in
set_option maxHeartbeats 800000 in
theorem implCompact (a : Option Addr) (cap : Nat) (L : List Int) (w : World) (hL : Hid (Ints w a L)) (hlen : L.length ≤ 9223372036854775807) :
    Calls Tryd.prog 75 #[.slice a L.length cap] w fun e w' => e = .returned (cmpF L) ∧ Below w.heap.size w w' := by
  have H3 := implEncodePoints a cap L 3 w hL hlen
  rcases h3 : sureC 3 L && L.all (fitC 3) with _ | _
  · have e3 : encF 3 L = .tuple #[.string ⟨#[]⟩, .bool false] := by
      rcases h : sureC 3 L with _ | _
      · exact encF_no h
      · rw [h, Bool.true_and] at h3; exact (encF_yes h).trans (encR_no h3)
    rw [e3] at H3
    obtain ⟨s, ok, hs, hc⟩ : ∃ s ok, encF 2 L = .tuple #[.string s, .bool ok] ∧ cmpF L = .tuple #[.string s, .bool ok, .bool ok] := by
      rcases h : okL L with _ | _
      · exact ⟨_, _, encF_no (sure_no 2 h), cmpF_no h⟩
      · rw [sure3 h, Bool.true_and] at h3
        exact ⟨_, _, (encF_yes (sure2 h)).trans (encR_yes (all_fit2 L)), cmpF_wide h h3⟩
    have H2 : Hid (∀ w2, Below w.heap.size w w2 → Calls Tryd.prog 64 #[.slice a L.length cap, .int .i64 2] w2 fun e w' => e = .returned (.tuple #[.string s, .bool ok]) ∧ Below w2.heap.size w2 w') := fun w2 hb => by
      have H := implEncodePoints a cap L 2 w2 (hL.out.below hb) hlen
      rw [hs] at H
      exact H
    have HF : Hid (cmpF L = _) := hc
    clear h3 e3 hs hc
    go_enter Tryd.func75, Tryd.ntmps75
    go_wp2_with fail
    refine H3.mono ?_
    rintro e w1 ⟨rfl, hb1⟩
    clear H3
    have H4 := H2.out w1 hb1
    clear H2
    go_wp2_with (go_at_call 64; refine H4.mono ?_; rintro e w2 ⟨rfl, hb2⟩; clear H4)
    go_ret3
    exact ⟨by rw [HF.out]; rfl, ibelow2 hb1 (by assumption)⟩
  · rw [Bool.and_eq_true] at h3
    have hok : okL L = true := by have := h3.1; unfold sureC at this; rw [Bool.and_eq_true] at this; exact this.1
    rw [encF_yes h3.1, encR_yes h3.2] at H3
    have HF : Hid (cmpF L = _) := cmpF_lat hok h3.2
    obtain ⟨s, hs⟩ : ∃ s, s = (⟨(encL 3 L).toArray⟩ : ByteArray) := ⟨_, rfl⟩
    rw [← hs] at HF H3
    clear hok h3 hs
    go_enter Tryd.func75, Tryd.ntmps75
    go_wp2_with (go_at_call 64; refine H3.mono ?_; rintro e w2 ⟨rfl, hb2⟩; clear H3)
    go_ret3
    exact ⟨by rw [HF.out]; rfl, by assumption⟩

theorem cmpF_form (L : List Int) : ∃ x y z, cmpF L = .tuple #[.string x, .bool y, .bool z] := by
  rcases h : okL L with _ | _
  · exact ⟨_, _, _, cmpF_no h⟩
  · rcases h2 : L.all (fitC 3) with _ | _
    · exact ⟨_, _, _, cmpF_wide h h2⟩
    · exact ⟨_, _, _, cmpF_lat h h2⟩

end Go.Proofs.YtgepplddhmgifaaDoor
