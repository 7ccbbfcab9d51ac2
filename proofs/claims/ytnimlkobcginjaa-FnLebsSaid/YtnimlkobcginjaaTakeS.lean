/-
  The walks of the law on reading a signed number.
-/
import Derived.Test.YtnimlkobcginjaaTakeU
import Derived.Test.YtnimlkobcginjaaTSMath
namespace Go.Proofs.Ytnimlkobcginjaa
open Go.ChangeShapes Go.WideShapes Go.ChangeAt Go.RowKit Go.PlainAid

theorem room_q (b j q : Nat) (h : 7 * j + q + 1 = b) (hb : b ≤ 64) (w : World) : Calls Try.prog 48 #[.int .i64 (b : Int), .int .i64 ((j : Int) + 1)] w fun e w' => e = .returned (.int .i64 ((q : Int) + 1)) ∧ w' = w := by
  have H := room_any (b : Int) ((j : Int) + 1) (by omega) (by omega) (by omega) (by omega) w
  rw [show (b : Int) - 7 * ((j : Int) + 1 - 1) = (q : Int) + 1 by omega] at H
  exact H

set_option maxRecDepth 100000 in
set_option maxHeartbeats 3200000 in
theorem specTakeS (s : ByteArray) (b : Nat) (hs : s.size ≤ 1048576) (hb0 : 1 ≤ b) (hb1 : b ≤ 64) (w : World) :
    Calls Try.prog 58 #[.string s, .int .i64 b] w fun e w' => e = .returned (.tuple #[.int .i64 (ts s b).1, .int .i64 (ts s b).2]) ∧ w' = w := by
  have hmo : Hid (most b = (b + 6) / 7) := rfl
  go_enter Try.func58, Try.ntmps58
  go_wp2
  go_loop [7, 8] (fun n i => ∃ k : Nat, k ≤ s.size ∧ k ≤ 10 ∧ Hid (k ≤ most b ∧ scan s (most b - k) k = scan s (most b) 0) ∧ i = .int .i64 k ∧ n = .int .u64 (acc s k)) (fun _ i => s.size - (intOf i).toNat)
  case atStart => exact ⟨0, by omega, by omega, ⟨by omega, rfl⟩, rfl, rfl⟩
  case round =>
    obtain ⟨k, hk, hk10, hsc, rfl, rfl⟩ := hrel
    by_cases h1 : (k : Int) < (b + 6) / 7
    · by_cases h2 : k < s.size
      · have e := get_bt s k h2
        have hp0 := pt_lo s k
        have hp1 := pt_hi s k
        have hp := pt_and s k
        by_cases h5 : bt s k < 128
        · obtain ⟨q, hq⟩ : ∃ q : Nat, (b : Int) - 7 * k = (q : Int) + 1 := ⟨b - 7 * k - 1, by omega⟩
          have hqb : Hid (b - 7 * k - 1 = q) := by unfold Hid; omega
          by_cases h3 : q < 6
          · by_cases ht1 : pt s k / 2 ^ q = 0
            · have hok : Hid (okS s b k) := by unfold Hid okS; rw [hqb.out]; exact Or.inl ht1
              have t1 : (pt s k / 2 ^ q != 0) = false := by simpa using ht1
              have h7 := zero_lo _ q h3 ht1
              have t3 := u64_and64_lo _ hp0 h7
              clear ht1
              by_cases h6 : k < 9
              · go_wp2
                go_ret2
                refine ⟨?_, rfl⟩
                obtain ⟨hk1, hsc⟩ := hsc.out
                have hm := hmo.out
                have hsj : scan s (most b) 0 = some k := by rw [← hsc, scan_hit s _ k (by omega) h2 h5]
                rw [ts_good s b k hsj hok.out, sx_lo s k h7]; exact ret_pair rfl (by omega)
              · go_wp2
                go_ret2
                refine ⟨?_, rfl⟩
                obtain ⟨hk1, hsc⟩ := hsc.out
                have hm := hmo.out
                have hsj : scan s (most b) 0 = some k := by rw [← hsc, scan_hit s _ k (by omega) h2 h5]
                rw [ts_good s b k hsj hok.out, sx_lo s k h7]; exact ret_pair rfl (by omega)
            · have t1 : (pt s k / 2 ^ q != 0) = true := by simpa using ht1
              by_cases ht2 : pt s k / 2 ^ q = 127 / 2 ^ q
              · have hok : Hid (okS s b k) := by unfold Hid okS; rw [hqb.out]; exact Or.inr ht2
                have t2 : (pt s k / 2 ^ q != 127 / 2 ^ q) = false := by simpa using ht2
                have h7 := ones_hi _ q h3 ht2
                have t3 := u64_and64_hi _ h7 hp1
                clear ht1 ht2
                by_cases h6 : k < 9
                · go_wp2
                  go_ret2
                  refine ⟨?_, rfl⟩
                  obtain ⟨hk1, hsc⟩ := hsc.out
                  have hm := hmo.out
                  have hsj : scan s (most b) 0 = some k := by rw [← hsc, scan_hit s _ k (by omega) h2 h5]
                  rw [ts_good s b k hsj hok.out, sx_hi s k h7 h6]; exact ret_pair rfl (by omega)
                · go_wp2
                  go_ret2
                  refine ⟨?_, rfl⟩
                  obtain ⟨hk1, hsc⟩ := hsc.out
                  have hm := hmo.out
                  have hsj : scan s (most b) 0 = some k := by rw [← hsc, scan_hit s _ k (by omega) h2 h5]
                  rw [ts_good s b k hsj hok.out, sx_nine s k h6]; exact ret_pair rfl (by omega)
              · have hno : Hid (¬ okS s b k) := by
                  unfold Hid okS; rw [hqb.out]; intro h; exact h.elim ht1 ht2
                have t2 : (pt s k / 2 ^ q != 127 / 2 ^ q) = true := by simpa using ht2
                clear ht1 ht2
                go_wp2
                go_ret2
                refine ⟨?_, rfl⟩
                obtain ⟨hk1, hsc⟩ := hsc.out
                have hm := hmo.out
                have hsj : scan s (most b) 0 = some k := by rw [← hsc, scan_hit s _ k (by omega) h2 h5]
                rw [ts_bad s b k hsj hno.out]; rfl
          · have hok : Hid (okS s b k) := okS_wide s b k (by rw [hqb.out]; omega)
            have h6 : k < 9 := by omega
            by_cases h7 : pt s k < 64
            · have t3 := u64_and64_lo _ hp0 h7
              go_wp2
              go_ret2
              refine ⟨?_, rfl⟩
              obtain ⟨hk1, hsc⟩ := hsc.out
              have hm := hmo.out
              have hsj : scan s (most b) 0 = some k := by rw [← hsc, scan_hit s _ k (by omega) h2 h5]
              rw [ts_good s b k hsj hok.out, sx_lo s k h7]; exact ret_pair rfl (by omega)
            · have h7' : 64 ≤ pt s k := by omega
              have t3 := u64_and64_hi _ h7' hp1
              go_wp2
              go_ret2
              refine ⟨?_, rfl⟩
              obtain ⟨hk1, hsc⟩ := hsc.out
              have hm := hmo.out
              have hsj : scan s (most b) 0 = some k := by rw [← hsc, scan_hit s _ k (by omega) h2 h5]
              rw [ts_good s b k hsj hok.out, sx_hi s k h7' h6]; exact ret_pair rfl (by omega)
        · have h5' : 128 ≤ bt s k := by omega
          go_wp2
          go_round
          case rel =>
            have hm := hmo.out
            obtain ⟨hk1, hsc⟩ := hsc.out
            exact ⟨k + 1, by omega, by omega, ⟨by omega, by rw [← hsc, scan_on s (most b - k) k (by omega) h2 h5']; congr 1⟩, by go_num, rfl⟩
          case measure => simp [intOf]; omega
      · go_wp2
        go_ret2
        refine ⟨?_, rfl⟩
        obtain ⟨hk1, hsc⟩ := hsc.out
        rw [ts_none s b (by rw [← hsc, scan_out s _ k (by omega)])]; rfl
    · go_wp2
      go_ret2
      refine ⟨?_, rfl⟩
      have hm := hmo.out
      obtain ⟨hk1, hsc⟩ := hsc.out
      rw [ts_none s b (by rw [← hsc, show most b - k = 0 by omega]; rfl)]; rfl

set_option maxRecDepth 100000 in
set_option maxHeartbeats 400000 in
theorem sg_lo (p : Int) (h0 : 0 ≤ p) (h1 : p < 64) (w : World) : Calls Try.prog 51 #[.int .u8 p] w fun e w' => e = .returned (.int .i8 p) ∧ w' = w := by
  go_enter Try.func51, Try.ntmps51
  go_wp2
  go_ret
  exact ⟨rfl, rfl⟩
set_option maxRecDepth 100000 in
set_option maxHeartbeats 400000 in
theorem sg_hi (p : Int) (h0 : 64 ≤ p) (h1 : p < 128) (w : World) : Calls Try.prog 51 #[.int .u8 p] w fun e w' => e = .returned (.int .i8 (p - 128)) ∧ w' = w := by
  have hw := i8_past p h0 h1
  go_enter Try.func51, Try.ntmps51
  go_wp2
  go_ret
  exact ⟨ret_int (by omega), rfl⟩

set_option maxRecDepth 100000 in
set_option maxHeartbeats 3200000 in
theorem implTakeS_at (s : ByteArray) (b j q : Nat) (hb1 : b ≤ 64) (hjs : j < s.size) (hs : s.size ≤ 1048576) (hj : 7 * j + q + 1 = b) (h128 : bt s j < 128) (hsj : scan s (most b) 0 = some j)
    (H : Hid (∀ w : World, Calls Try.prog 47 #[.string s, .int .i64 b] w fun e w' => e = .returned (.tuple #[.int .u64 (acc s (j + 1)), .int .i64 ((j : Int) + 1)]) ∧ w' = w)) (w : World) :
    Calls Try.prog 15 #[.string s, .int .i64 b] w fun e w' => e = .returned (.tuple #[.int .i64 (ts s b).1, .int .i64 (ts s b).2]) ∧ w' = w := by
  have HR : Hid (∀ w : World, Calls Try.prog 48 #[.int .i64 (b : Int), .int .i64 ((j : Int) + 1)] w fun e w' => e = .returned (.int .i64 ((q : Int) + 1)) ∧ w' = w) := room_q b j q hj hb1
  have e := get_bt s j hjs
  have hl := pt_last s j h128
  have h0 := bt_nonneg s j
  have hq : q ≤ 63 := by omega
  have hj9 : j ≤ 9 := by omega
  have hqb : b - 7 * j - 1 = q := by omega
  have hne : ((j : Int) + 1 == 0) = false := by simp; omega
  by_cases h7 : bt s j < 64
  · by_cases ht : bt s j / 2 ^ q = 0
    · have hok : okS s b j := by unfold okS; rw [hqb, hl]; exact Or.inl ht
      rw [ts_good s b j hsj hok, sx_lo s j (by omega)]
      have hd : bt s j / 2 ^ min q 8 = 0 := by rw [lo_min _ _ h0 h7]; exact ht
      clear hj hqb hsj hok hl ht
      go_enter Try.func15, Try.ntmps15
      go_wp2_with (first | (go_at_call 47; refine (H.out _).mono ?_; rintro e w' ⟨rfl, rfl⟩; clear H) | (go_at_call 48; refine (HR.out _).mono ?_; rintro e w' ⟨rfl, rfl⟩) | (go_at_call 51; refine (sg_lo _ h0 h7 _).mono ?_; rintro e w' ⟨rfl, rfl⟩))
      go_ret2
      exact ⟨ret_pair rfl (by omega), rfl⟩
    · have hq6 : q < 6 := by
        by_cases h : q < 6
        · exact h
        · exact absurd (pow_split _ 6 q h0 (by omega) (by omega)) ht
      have hn := lo_not_ones (bt s j) q hq6 h0 h7
      have hno : ¬ okS s b j := by unfold okS; rw [hqb, hl]; intro h; exact h.elim ht hn.1
      rw [ts_bad s b j hsj hno]
      obtain ⟨x, hx⟩ : ∃ x, bt s j / 2 ^ min q 8 = x := ⟨_, rfl⟩
      have hx0 : 0 < x := by rw [← hx, lo_min _ _ h0 h7]; exact lo_pos _ q hq6 h0 ht
      have t1 : (x != 0) = true := by simp; omega
      have t2 : (x != -1) = true := by simp; omega
      clear hj hqb hsj hno hl ht hn hq6
      go_enter Try.func15, Try.ntmps15
      go_wp2_with (first | (go_at_call 47; refine (H.out _).mono ?_; rintro e w' ⟨rfl, rfl⟩; clear H) | (go_at_call 48; refine (HR.out _).mono ?_; rintro e w' ⟨rfl, rfl⟩) | (go_at_call 51; refine (sg_lo _ h0 h7 _).mono ?_; rintro e w' ⟨rfl, rfl⟩))
      go_ret2
      exact ⟨rfl, rfl⟩
  · have h64 : 64 ≤ bt s j := by omega
    by_cases hd : (bt s j - 128) / 2 ^ min q 8 = -1
    · have hok : okS s b j := by
        by_cases hq6 : q < 6
        · rw [Nat.min_eq_left (by omega)] at hd
          unfold okS; rw [hqb, hl]; exact Or.inr ((neg_ones _ q hq6 h64 (by omega)).1 hd)
        · exact okS_wide s b j (by omega)
      rw [ts_good s b j hsj hok]
      by_cases h9 : j < 9
      · rw [sx_hi s j (by omega) h9]
        clear hj hqb hsj hok hl
        go_enter Try.func15, Try.ntmps15
        go_wp2_with (first | (go_at_call 47; refine (H.out _).mono ?_; rintro e w' ⟨rfl, rfl⟩; clear H) | (go_at_call 48; refine (HR.out _).mono ?_; rintro e w' ⟨rfl, rfl⟩) | (go_at_call 51; refine (sg_hi _ h64 h128 _).mono ?_; rintro e w' ⟨rfl, rfl⟩))
        go_ret2
        exact ⟨ret_pair rfl (by omega), rfl⟩
      · obtain rfl : j = 9 := by omega
        rw [sx_nine s 9 h9]
        clear hj hqb hsj hok hl
        go_enter Try.func15, Try.ntmps15
        go_wp2_with (first | (go_at_call 47; refine (H.out _).mono ?_; rintro e w' ⟨rfl, rfl⟩; clear H) | (go_at_call 48; refine (HR.out _).mono ?_; rintro e w' ⟨rfl, rfl⟩) | (go_at_call 51; refine (sg_hi _ h64 h128 _).mono ?_; rintro e w' ⟨rfl, rfl⟩))
        go_ret2
        exact ⟨ret_pair (by rw [or_past]) (by omega), rfl⟩
    · have hq6 : q < 6 := by
        by_cases h : q < 6
        · exact h
        · exact absurd (neg_wide _ q (by omega) h64 (by omega)) hd
      have hm : min q 8 = q := Nat.min_eq_left (by omega)
      have hno : ¬ okS s b j := by
        unfold okS; rw [hqb, hl]; intro h
        rcases h with h | h
        · exact hi_not_zero _ q hq6 h64 h
        · rw [hm] at hd; exact hd ((neg_ones _ q hq6 h64 (by omega)).2 h)
      rw [ts_bad s b j hsj hno]
      obtain ⟨x, hx⟩ : ∃ x, (bt s j - 128) / 2 ^ min q 8 = x := ⟨_, rfl⟩
      have hx0 : x < -1 := by rw [hx] at hd; rw [hm] at hx; have := neg_lt (bt s j) q hq6 (by omega); omega
      have t1 : (x != 0) = true := by simp; omega
      have t2 : (x != -1) = true := by simp; omega
      clear hj hqb hsj hno hl hd hm hq6
      go_enter Try.func15, Try.ntmps15
      go_wp2_with (first | (go_at_call 47; refine (H.out _).mono ?_; rintro e w' ⟨rfl, rfl⟩; clear H) | (go_at_call 48; refine (HR.out _).mono ?_; rintro e w' ⟨rfl, rfl⟩) | (go_at_call 51; refine (sg_hi _ h64 h128 _).mono ?_; rintro e w' ⟨rfl, rfl⟩))
      go_ret2
      exact ⟨rfl, rfl⟩

set_option maxRecDepth 100000 in
set_option maxHeartbeats 400000 in
theorem implTakeS_zero (s : ByteArray) (b : Int) (H : Hid (∀ w : World, Calls Try.prog 47 #[.string s, .int .i64 b] w fun e w' => e = .returned (.tuple #[.int .u64 0, .int .i64 0]) ∧ w' = w)) (w : World) :
    Calls Try.prog 15 #[.string s, .int .i64 b] w fun e w' => e = .returned (.tuple #[.int .i64 0, .int .i64 0]) ∧ w' = w := by
  go_enter Try.func15, Try.ntmps15
  go_wp2_with (go_at_call 47; refine (H.out _).mono ?_; rintro e w' ⟨rfl, rfl⟩; clear H)
  go_ret2
  exact ⟨rfl, rfl⟩

theorem implTakeS (s : ByteArray) (b : Nat) (hs : s.size ≤ 1048576) (hb0 : 1 ≤ b) (hb1 : b ≤ 64) (w : World) :
    Calls Try.prog 15 #[.string s, .int .i64 b] w fun e w' => e = .returned (.tuple #[.int .i64 (ts s b).1, .int .i64 (ts s b).2]) ∧ w' = w := by
  have H := implGroups s b hs hb0 hb1
  rcases hsc : scan s (most b) 0 with _ | j
  · rw [tg_none s b hsc] at H
    rw [ts_none s b hsc]
    exact implTakeS_zero s b H w
  · have hi := scan_is s _ _ _ hsc
    have hmo : most b = (b + 6) / 7 := rfl
    rw [tg_some s b j hsc] at H
    have H' : Hid (∀ w : World, Calls Try.prog 47 #[.string s, .int .i64 b] w fun e w' => e = .returned (.tuple #[.int .u64 (acc s (j + 1)), .int .i64 ((j : Int) + 1)]) ∧ w' = w) := H
    exact implTakeS_at s b j (b - 7 * j - 1) hb1 hi.2.2.1 hs (by omega) hi.2.2.2 hsc H' w

set_option maxRecDepth 1000000 in
set_option maxHeartbeats 400000 in
theorem specTakeSleb (s : ByteArray) (b : Nat) (hs : s.size ≤ 1048576) (hb0 : 1 ≤ b) (hb1 : b ≤ 64) (w : World) :
    Calls Try.prog 18 #[.string s, .int .i64 b] w fun e w' => e = .returned (.tuple #[.int .i64 (ts s b).1, .int .i64 (ts s b).2]) ∧ w' = w := by
  have H := specTakeS s b hs hb0 hb1
  go_enter Try.func18, Try.ntmps18
  go_wp2_with (first | (go_at_call 58; refine (H _).mono ?_; rintro e w' ⟨rfl, rfl⟩; clear H) | (go_at_call 57; refine (in_yes _ _ _ (by omega) (by omega) _).mono ?_; rintro e w' ⟨rfl, rfl⟩))
  go_ret2
  exact ⟨rfl, rfl⟩

set_option maxRecDepth 1000000 in
set_option maxHeartbeats 400000 in
theorem specTakeSleb_out (s : ByteArray) (b : Int) (h : b < 1 ∨ 64 < b) (w : World) :
    Calls Try.prog 18 #[.string s, .int .i64 b] w fun e w' => e = .returned (.tuple #[.int .i64 0, .int .i64 0]) ∧ w' = w := by
  go_enter Try.func18, Try.ntmps18
  go_wp2_with (go_at_call 57; refine (in_no _ _ _ h _).mono ?_; rintro e w' ⟨rfl, rfl⟩)
  go_ret2
  exact ⟨rfl, rfl⟩

end Go.Proofs.Ytnimlkobcginjaa
