/-
  The walks of the tests whether points are good.
-/
import Derived.Test.YtljnciclbjcinaaGreatDoorInts
import Derived.Test.YtljnciclbjcinaaGreatDoorIn
namespace Go.Proofs.YtljnciclbjcinaaGreatDoor
open Go.ChangeShapes Go.WideShapes Go.ChangeAt Go.RowKit

/-- A point that is good. -/
def okP (p : Int) : Bool := decide (0 ≤ p ∧ p < 1114112 ∧ (p < 55296 ∨ 57344 ≤ p))
/-- Points that are good. -/
def okL (L : List Int) : Bool := decide (L.length ≤ 300) && L.all okP
theorem okP_yes {p : Int} (h : 0 ≤ p ∧ p < 1114112 ∧ (p < 55296 ∨ 57344 ≤ p)) : okP p = true := decide_eq_true h
theorem okP_no {p : Int} (h : ¬ (0 ≤ p ∧ p < 1114112 ∧ (p < 55296 ∨ 57344 ≤ p))) : okP p = false := decide_eq_false h
theorem okP_iff {p : Int} : okP p = true ↔ (0 ≤ p ∧ p < 1114112 ∧ (p < 55296 ∨ 57344 ≤ p)) := by unfold okP; exact decide_eq_true_iff
theorem all_snoc (f : Int → Bool) (L : List Int) (k : Nat) (h : k < L.length) : (L.take (k + 1)).all f = ((L.take k).all f && f L[k]) := by
  rw [List.take_succ_eq_append_getElem h, List.all_append]; simp
theorem all_bad (f : Int → Bool) (L : List Int) (k : Nat) (h : k < L.length) (hb : f L[k] = false) : L.all f = false := by
  rw [List.all_eq_false]; exact ⟨_, List.getElem_mem h, by rw [hb]; simp⟩
theorem okL_bad (L : List Int) (k : Nat) (h : k < L.length) (hb : okP L[k] = false) : okL L = false := by
  unfold okL; rw [all_bad okP L k h hb, Bool.and_false]
theorem okL_long (L : List Int) (h : 300 < L.length) : okL L = false := by
  unfold okL; rw [decide_eq_false (by omega), Bool.false_and]
theorem okL_iff {L : List Int} : okL L = true ↔ L.length ≤ 300 ∧ ∀ p ∈ L, 0 ≤ p ∧ p < 1114112 ∧ (p < 55296 ∨ 57344 ≤ p) := by
  unfold okL; rw [Bool.and_eq_true, decide_eq_true_iff, List.all_eq_true]
  exact and_congr Iff.rfl ⟨fun h p hp => okP_iff.1 (h p hp), fun h p hp => okP_iff.2 (h p hp)⟩

set_option maxRecDepth 100000 in
set_option maxHeartbeats 800000 in
theorem implPoint (p : Int) (w : World) : Calls Tryz.prog 101 #[.int .i64 p] w fun e w' => e = .returned (.bool (okP p)) ∧ w' = w := by
  by_cases h0 : 0 ≤ p
  · by_cases h1 : p < 1114112
    · by_cases h2 : p < 55296
      · rw [okP_yes ⟨h0, h1, .inl h2⟩]
        go_enter Tryz.func101, Tryz.ntmps101
        go_wp2
        go_ret
        exact ⟨rfl, rfl⟩
      · by_cases h3 : 57344 ≤ p
        · rw [okP_yes ⟨h0, h1, .inr h3⟩]
          have e : decide (57344 ≤ p) = true := decide_eq_true h3
          go_enter Tryz.func101, Tryz.ntmps101
          go_wp2
          go_ret
          exact ⟨rfl, rfl⟩
        · rw [okP_no (by omega)]
          have e : decide (57344 ≤ p) = false := decide_eq_false h3
          go_enter Tryz.func101, Tryz.ntmps101
          go_wp2
          go_ret
          exact ⟨rfl, rfl⟩
    · rw [okP_no (by omega)]
      go_enter Tryz.func101, Tryz.ntmps101
      go_wp2
      go_ret
      exact ⟨rfl, rfl⟩
  · rw [okP_no (by omega)]
    go_enter Tryz.func101, Tryz.ntmps101
    go_wp2
    go_ret
    exact ⟨rfl, rfl⟩

set_option maxRecDepth 100000 in
set_option maxHeartbeats 800000 in
theorem implGoodP (a : Option Addr) (cap : Nat) (L : List Int) (w : World) (hL : Hid (Ints w a L)) (hlen : L.length ≤ 9223372036854775807) :
    Calls Tryz.prog 147 #[.slice a L.length cap] w fun e w' => e = .returned (.bool (okL L)) ∧ w' = w := by
  by_cases h0 : L.length ≤ 300
  · go_enter Tryz.func147, Tryz.ntmps147
    go_wp2
    go_loop [10] (fun i => ∃ (k : Nat), k ≤ L.length ∧ i = .int .i64 k ∧ Hid ((L.take k).all okP = true)) (fun i => L.length - (intOf i).toNat)
    case atStart => exact ⟨0, by omega, rfl, by simp [Hid]⟩
    case round =>
      obtain ⟨k, hk, rfl, hall⟩ := hrel
      by_cases hlt : k < L.length
      · obtain ⟨b, off, rfl, hb, hc⟩ := hL.out.at k hlt
        have HS := all_snoc okP L k hlt
        have HB := okL_bad L k hlt
        obtain ⟨x, hx⟩ : ∃ x, x = L[k] := ⟨_, rfl⟩
        rw [← hx] at hc HS HB
        have H := implPoint x
        rcases hp : okP x with _ | _
        · rw [hp] at H
          have HB2 : Hid (okL L = false) := HB hp
          clear hx HS HB hp
          go_wp2_with (go_at_call 101; refine (H _).mono ?_; rintro e w' ⟨rfl, rfl⟩; clear H)
          go_ret
          exact ⟨by rw [HB2.out]; rfl, rfl⟩
        · rw [hp] at H
          rw [hp, hall.out] at HS
          have HS2 : Hid ((L.take (k + 1)).all okP = true) := HS
          clear hx HS HB hp
          go_wp2_with (go_at_call 101; refine (H _).mono ?_; rintro e w' ⟨rfl, rfl⟩; clear H)
          go_round
          case rel => exact ⟨k + 1, by omega, by go_num, HS2⟩
          case measure => simp [intOf]; omega
      · go_wp2
        go_ret
        have e : L.take k = L := List.take_of_length_le (by omega)
        have h2 := hall.out
        rw [e] at h2
        exact ⟨by unfold okL; rw [h2, decide_eq_true h0]; rfl, rfl⟩
  · rw [okL_long L (by omega)]
    go_enter Tryz.func147, Tryz.ntmps147
    go_wp2
    go_ret
    exact ⟨rfl, rfl⟩

set_option maxRecDepth 100000 in
set_option maxHeartbeats 800000 in
theorem specPoints (a : Option Addr) (cap : Nat) (L : List Int) (w : World) (hL : Hid (Ints w a L)) (hlen : L.length ≤ 9223372036854775807) :
    Calls Tryz.prog 88 #[.slice a L.length cap] w fun e w' => e = .returned (.bool (okL L)) ∧ w' = w := by
  go_enter Tryz.func88, Tryz.ntmps88
  go_wp2
  go_loop [7] (fun i => ∃ (k : Nat), k ≤ L.length ∧ i = .int .i64 k ∧ Hid ((L.take k).all okP = true)) (fun i => L.length - (intOf i).toNat)
  case atStart => exact ⟨0, by omega, rfl, by simp [Hid]⟩
  case round =>
    obtain ⟨k, hk, rfl, hall⟩ := hrel
    by_cases hlt : k < L.length
    · obtain ⟨b, off, rfl, hb, hc⟩ := hL.out.at k hlt
      have HS := all_snoc okP L k hlt
      have HB := okL_bad L k hlt
      obtain ⟨x, hx⟩ : ∃ x, x = L[k] := ⟨_, rfl⟩
      rw [← hx] at hc HS HB
      clear hx
      by_cases g1 : 0 ≤ x ∧ x ≤ 1114111
      · have H1 : Hid ((decide (0 ≤ x) && decide (x ≤ 1114111)) = true) := by simp [Hid, g1.1, g1.2]
        by_cases g2 : 55296 ≤ x ∧ x ≤ 57343
        · have H2 : Hid ((decide (55296 ≤ x) && decide (x ≤ 57343)) = true) := by simp [Hid, g2.1, g2.2]
          have HB2 : Hid (okL L = false) := HB (okP_no (by omega))
          clear HS HB g1 g2
          go_wp2_with (go_at_call 48; refine (in_eq _ _ _ _ (by assumption) _).mono ?_; rintro e w' ⟨rfl, rfl⟩)
          go_ret
          exact ⟨by rw [HB2.out]; rfl, rfl⟩
        · have H2 : Hid ((decide (55296 ≤ x) && decide (x ≤ 57343)) = false) := by unfold Hid; rw [Bool.and_eq_false_iff]; simp; omega
          rw [okP_yes (by omega), hall.out] at HS
          have HS2 : Hid ((L.take (k + 1)).all okP = true) := HS
          clear HS HB g1 g2
          go_wp2_with (go_at_call 48; refine (in_eq _ _ _ _ (by assumption) _).mono ?_; rintro e w' ⟨rfl, rfl⟩)
          go_round
          case rel => exact ⟨k + 1, by omega, by go_num, HS2⟩
          case measure => simp [intOf]; omega
      · have H1 : Hid ((decide (0 ≤ x) && decide (x ≤ 1114111)) = false) := by unfold Hid; rw [Bool.and_eq_false_iff]; simp; omega
        have HB2 : Hid (okL L = false) := HB (okP_no (by omega))
        clear HS HB g1
        go_wp2_with (go_at_call 48; refine (in_eq _ _ _ _ (by assumption) _).mono ?_; rintro e w' ⟨rfl, rfl⟩)
        go_ret
        exact ⟨by rw [HB2.out]; rfl, rfl⟩
    · have e : L.take k = L := List.take_of_length_le (by omega)
      have h2 := hall.out
      rw [e] at h2
      have hg : decide ((L.length : Int) ≤ 300) = decide (L.length ≤ 300) := by simp; omega
      go_wp2
      go_ret
      exact ⟨by unfold okL; rw [h2, Bool.and_true]; rfl, rfl⟩

end Go.Proofs.YtljnciclbjcinaaGreatDoor
