/-
  The walks of the program's count of a point's bytes, and of all.
-/
import Derived.Test.YtpmfihnhcgmjfaaDoorEncSpec
namespace Go.Proofs.YtpmfihnhcgmjfaaDoor
open Go.ChangeShapes Go.WideShapes Go.ChangeAt Go.RowKit

set_option maxRecDepth 100000 in
set_option maxHeartbeats 800000 in
theorem runeLen (p : Nat) (h0 : (p : Int) < 1114112) (h1 : (p : Int) < 55296 ∨ 57344 ≤ (p : Int)) (w : World) :
    Calls Tryd.prog 45 #[.int .i32 p] w fun e w' => e = .returned (.int .i64 (u8b p).length) ∧ w' = w := by
  by_cases c1 : (p : Int) ≤ 127
  · clear h0 h1
    go_enter Tryd.func45, Tryd.ntmps45
    go_wp2
    go_ret
    exact ⟨by rw [u8b_1 (by omega)]; rfl, rfl⟩
  · by_cases c2 : (p : Int) ≤ 2047
    · clear h0 h1
      go_enter Tryd.func45, Tryd.ntmps45
      go_wp2
      go_ret
      exact ⟨by rw [u8b_2 (by omega) (by omega)]; rfl, rfl⟩
    · by_cases c3 : (p : Int) < 55296
      · have d3 : decide (55296 ≤ (p : Int)) = false := decide_eq_false (by omega)
        have d4 : (p : Int) ≤ 65535 := by omega
        clear h0 h1 c3
        go_enter Tryd.func45, Tryd.ntmps45
        go_wp2
        go_ret
        exact ⟨by rw [u8b_3 (by omega) (by omega)]; rfl, rfl⟩
      · have d3 : 55296 ≤ (p : Int) := by omega
        have d5 : ¬ ((p : Int) ≤ 57343) := by omega
        have d6 : decide ((p : Int) ≤ 57343) = false := decide_eq_false d5
        by_cases c4 : (p : Int) ≤ 65535
        · clear h0 h1 c3
          go_enter Tryd.func45, Tryd.ntmps45
          go_wp2
          go_ret
          exact ⟨by rw [u8b_3 (by omega) (by omega)]; rfl, rfl⟩
        · have d7 : (p : Int) ≤ 1114111 := by omega
          clear h0 h1 c3
          go_enter Tryd.func45, Tryd.ntmps45
          go_wp2
          go_ret
          exact ⟨by rw [u8b_4 (by omega)]; rfl, rfl⟩

/-- How many bytes a point has, 0 where the code has none. -/
def ptSize (code : Int) (p : Nat) : Int := if fitC code p = true then ((encP code p).length : Int) else 0
theorem u8b_pos (p : Nat) : 0 < (u8b p).length := by
  unfold u8b
  repeat' split
  all_goals simp
theorem encP_pos (code : Int) (p : Nat) : 0 < (encP code p).length := by
  unfold encP; split
  · exact u8b_pos p
  · split
    · unfold u16b; split <;> simp
    · simp

set_option maxRecDepth 100000 in
set_option maxHeartbeats 800000 in
theorem implPointSize (p : Nat) (code : Int) (h0 : (p : Int) < 1114112) (h1 : (p : Int) < 55296 ∨ 57344 ≤ (p : Int)) (w : World) :
    Calls Tryd.prog 36 #[.int .i64 p, .int .i64 code] w fun e w' => e = .returned (.int .i64 (ptSize code p)) ∧ w' = w := by
  by_cases c1 : code = 1
  · subst c1
    have H := runeLen p h0 h1
    have HP : Hid (ptSize 1 p = ((u8b p).length : Int)) := by unfold Hid ptSize; rw [if_pos (fit1 _), encP1]
    obtain ⟨n, hn⟩ : ∃ n, n = (u8b p).length := ⟨_, rfl⟩
    rw [← hn] at H HP
    clear hn h1
    have hw : IntKind.i32.wrap (p : Int) = p := by rw [IntKind.wrap_i32]; omega
    go_enter Tryd.func36, Tryd.ntmps36
    go_wp2_with (go_at_call 45; refine (H _).mono ?_; rintro e w' ⟨rfl, rfl⟩; clear H)
    go_ret
    exact ⟨by rw [HP.out]; rfl, rfl⟩
  · have n1 : (code == 1) = false := by simpa using c1
    clear h1
    by_cases c2 : code = 2
    · subst c2
      have hf : Hid (ptSize 2 p = ((u16b p).length : Int)) := by unfold Hid ptSize; rw [if_pos (fit2 _), encP2]
      by_cases c3 : (p : Int) < 65536
      · go_enter Tryd.func36, Tryd.ntmps36
        go_wp2
        go_ret
        exact ⟨by rw [hf.out, u16b_2 (by omega)]; rfl, rfl⟩
      · go_enter Tryd.func36, Tryd.ntmps36
        go_wp2
        go_ret
        exact ⟨by rw [hf.out, u16b_4 (by omega)]; rfl, rfl⟩
    · have n2 : (code == 2) = false := by simpa using c2
      by_cases c3 : (p : Int) < 256
      · have hf : Hid (ptSize code p = 1) := by unfold Hid ptSize; rw [if_pos (fit_yes _ _ (by omega)), encP3 _ _ c1 c2]; rfl
        go_enter Tryd.func36, Tryd.ntmps36
        go_wp2
        go_ret
        exact ⟨by rw [hf.out]; rfl, rfl⟩
      · have hf : Hid (ptSize code p = 0) := by unfold Hid ptSize; rw [if_neg (by rw [fit_no _ _ c1 c2 (by omega)]; simp)]
        go_enter Tryd.func36, Tryd.ntmps36
        go_wp2
        go_ret
        exact ⟨by rw [hf.out]; rfl, rfl⟩

set_option maxRecDepth 100000 in
set_option maxHeartbeats 800000 in
theorem implCode (c : Int) (w : World) : Calls Tryd.prog 35 #[.int .i64 c] w fun e w' => e = .returned (.bool (decide (1 ≤ c ∧ c ≤ 3))) ∧ w' = w := by
  by_cases c1 : c = 1
  · subst c1
    go_enter Tryd.func35, Tryd.ntmps35
    go_wp2
    go_ret
    exact ⟨rfl, rfl⟩
  · have n1 : (c == 1) = false := by simpa using c1
    by_cases c2 : c = 2
    · subst c2
      go_enter Tryd.func35, Tryd.ntmps35
      go_wp2
      go_ret
      exact ⟨rfl, rfl⟩
    · have n2 : (c == 2) = false := by simpa using c2
      by_cases c3 : c = 3
      · subst c3
        go_enter Tryd.func35, Tryd.ntmps35
        go_wp2
        go_ret
        exact ⟨rfl, rfl⟩
      · have n3 : (c == 3) = false := by simpa using c3
        rw [decide_eq_false (by omega)]
        go_enter Tryd.func35, Tryd.ntmps35
        go_wp2
        go_ret
        exact ⟨rfl, rfl⟩

set_option maxRecDepth 100000 in
set_option maxHeartbeats 1600000 in
theorem implSizeAs (a : Option Addr) (cap : Nat) (L : List Int) (code : Int) (w : World) (hL : Hid (Ints w a L)) (hlen : L.length ≤ 9223372036854775807) :
    Calls Tryd.prog 21 #[.slice a L.length cap, .int .i64 code] w fun e w' => e = .returned (sizeF code L) ∧ w' = w := by
  have H1 := implGoodP a cap L w hL hlen
  have H2 := implCode code
  rcases h1 : okL L with _ | _
  · rw [h1] at H1
    have HF : Hid (sizeF code L = .tuple #[.int .i64 0, .bool false]) := sizeF_no (by unfold sureC; rw [h1]; rfl)
    clear h1 H2
    go_enter Tryd.func21, Tryd.ntmps21
    go_wp2_with (go_at_call 15; refine H1.mono ?_; rintro e w' ⟨rfl, rfl⟩; clear H1)
    go_ret2
    exact ⟨by rw [HF.out]; rfl, rfl⟩
  · rw [h1] at H1
    by_cases h2 : 1 ≤ code ∧ code ≤ 3
    · rw [decide_eq_true h2] at H2
      have hok : Hid (OkAll L) := okAll_of h1
      have h300 := hok.out.1
      have hsure : Hid (sureC code L = true) := by unfold Hid sureC; rw [h1, decide_eq_true h2]; rfl
      clear h1
      go_enter Tryd.func21, Tryd.ntmps21
      go_wp2_with (first | (go_at_call 15; refine H1.mono ?_; rintro e w' ⟨rfl, rfl⟩; clear H1) | (go_at_call 35; refine (H2 _).mono ?_; rintro e w' ⟨rfl, rfl⟩; clear H2))
      go_loop [6, 20] (fun s i => ∃ (k n : Nat), k ≤ L.length ∧ i = .int .i64 k ∧ s = .int .i64 n ∧ n ≤ 4 * k ∧ Hid (n = (encL code (L.take k)).length) ∧ Hid ((L.take k).all (fitC code) = true)) (fun _ i => L.length - (intOf i).toNat)
      case atStart => exact ⟨0, 0, by omega, rfl, rfl, by omega, by simp [Hid, encL], by simp [Hid]⟩
      case round =>
        obtain ⟨k, n, hk, rfl, rfl, hn4, hn, hall⟩ := hrel
        by_cases hlt : k < L.length
        · obtain ⟨b, off, rfl, hb, hc⟩ := hL.out.at k hlt
          obtain ⟨hp0, hp1, hp2⟩ := hok.out.2 k hlt
          have HS := all_snoc (fitC code) L k hlt
          have HE := encL_snoc code L k hlt
          have HB := all_bad (fitC code) L k hlt
          obtain ⟨x, hx⟩ : ∃ x, x = L[k] := ⟨_, rfl⟩
          rw [← hx] at hc hp0 hp1 hp2 HS HE HB
          clear hx
          obtain ⟨p, rfl⟩ : ∃ p : Nat, x = p := ⟨x.toNat, by omega⟩
          rw [hall.out, Bool.true_and] at HS
          rw [Int.toNat_natCast] at HE
          have H3 := implPointSize p code hp1 hp2
          rcases hf : fitC code p with _ | _
          · have hz : ptSize code p = 0 := by unfold ptSize; rw [hf]; rfl
            rw [hz] at H3
            have HF : Hid (sizeF code L = .tuple #[.int .i64 0, .bool false]) := sizeF_no2 (HB hf)
            clear HS HE HB hp0 hp1 hp2 hz hf
            go_wp2_with (go_at_call 36; refine (H3 _).mono ?_; rintro e w' ⟨rfl, rfl⟩; clear H3)
            go_ret2
            exact ⟨by rw [HF.out]; rfl, rfl⟩
          · have hz : ptSize code p = ((encP code p).length : Int) := by unfold ptSize; rw [hf]; rfl
            rw [hz] at H3
            have hl0 := encP_pos code p
            have hl4 := encP_len code p
            obtain ⟨l, hl⟩ : ∃ l, l = encP code p := ⟨_, rfl⟩
            rw [← hl] at H3 HE hl0 hl4
            rw [hf] at HS
            have HS2 : Hid ((L.take (k + 1)).all (fitC code) = true) := HS
            have HE2 : Hid (encL code (L.take (k + 1)) = encL code (L.take k) ++ l) := HE
            have hne : ((l.length : Int) == 0) = false := by simp; intro h; simp [h] at hl0
            have hw : IntKind.i64.wrap ((n : Int) + l.length) = n + l.length := by rw [IntKind.wrap_i64]; omega
            clear HS HE HB hp0 hp1 hp2 hz hf hl
            go_wp2_with (go_at_call 36; refine (H3 _).mono ?_; rintro e w' ⟨rfl, rfl⟩; clear H3)
            go_round
            case rel =>
              refine ⟨k + 1, n + l.length, by omega, by go_num, by go_num, by omega, ?_, HS2⟩
              unfold Hid; rw [HE2.out, List.length_append, hn.out]
            case measure => simp [intOf]; omega
        · have e : L.take k = L := List.take_of_length_le (by omega)
          have h3 := hall.out
          have h4 := hn.out
          rw [e] at h3 h4
          have HF : Hid (sizeF code L = .tuple #[.int .i64 n, .bool true]) := by unfold Hid; rw [sizeF_yes hsure.out h3, h4]
          clear h3 h4 e
          go_wp2
          go_ret2
          exact ⟨by rw [HF.out]; rfl, rfl⟩
    · rw [decide_eq_false h2] at H2
      have HF : Hid (sizeF code L = .tuple #[.int .i64 0, .bool false]) := sizeF_no (by unfold sureC; rw [decide_eq_false h2, Bool.and_false])
      clear h1 h2
      go_enter Tryd.func21, Tryd.ntmps21
      go_wp2_with (first | (go_at_call 15; refine H1.mono ?_; rintro e w' ⟨rfl, rfl⟩; clear H1) | (go_at_call 35; refine (H2 _).mono ?_; rintro e w' ⟨rfl, rfl⟩; clear H2))
      go_ret2
      exact ⟨by rw [HF.out]; rfl, rfl⟩

end Go.Proofs.YtpmfihnhcgmjfaaDoor
