/-
  Points that need not be good: what is told of a text that is refused, and their bytes. (Made by a generator.)
-/
import Derived.Test.YtgepplddhmgifaaDoorCompactP
import Derived.Test.YtgepplddhmgifaaDoorBel
import Derived.Test.YtgepplddhmgifaaDoorEncLaw
import Derived.Test.YtgepplddhmgifaaDoorHGA
namespace Go.Proofs.YtgepplddhmgifaaDoor
open Go.ChangeShapes Go.WideShapes Go.ChangeAt Go.RowKit Go.PlainAid

theorem step_in (code : Int) (t : ByteArray) : 0 ≤ (step code t).1 ∧ (step code t).1 < 2097152 := by
  by_cases h1 : code = 1
  · subst h1
    rw [step1]
    unfold one8
    split
    · exact ⟨Int.le_refl _, by show (0 : Int) < _; omega⟩
    · split
      · refine ⟨(accP_in t _ (by unfold ldN; (repeat' split) <;> omega)).1, ?_⟩
        show accP t (ldN (bt t 0)) < 2097152
        unfold ldN
        split
        · exact acc4 t (by assumption)
        · split
          · exact acc3 t (by assumption) (by assumption)
          · split
            · exact acc2 t
            · exact acc1 t
      · exact ⟨Int.le_refl _, by show (0 : Int) < _; omega⟩
  · by_cases h2 : code = 2
    · subst h2
      rw [step2]
      unfold one16
      have a := lo16_in t 0
      have b := lo16_in t 2
      split
      · exact ⟨Int.le_refl _, by show (0 : Int) < _; omega⟩
      · split
        · show 0 ≤ lo16 t 0 % 1024 * 1024 + lo16 t 2 % 1024 + 65536 ∧ lo16 t 0 % 1024 * 1024 + lo16 t 2 % 1024 + 65536 < 2097152
          omega
        · show 0 ≤ lo16 t 0 ∧ lo16 t 0 < 2097152
          omega
    · rw [step3 _ _ h1 h2]
      have a := bt_nonneg t 0
      have b := bt_le t 0
      exact ⟨a, by show bt t 0 < _; omega⟩
theorem dec_in (code : Int) : ∀ (f : Nat) (t : ByteArray) (L : List Int), dec code f t = some L → ∀ x ∈ L, 0 ≤ x ∧ x < 2097152
  | 0, t, L, h, x, hx => by
    simp [dec] at h
    subst h
    simp at hx
  | f + 1, t, L, h, x, hx => by
    unfold dec at h
    split at h
    · simp at h
      subst h
      simp at hx
    · split at h
      · simp at h
      · rw [Option.map_eq_some_iff] at h
        obtain ⟨M, hM, rfl⟩ := h
        rcases List.mem_cons.1 hx with rfl | hx
        · exact step_in code t
        · exact dec_in code f _ M hM x hx
/-- What is told of a text: the points, in memory of its own, and true; or false, and some points. -/
def ToldX (w w' : World) (e : Ending) (r : Option (List Int)) : Prop :=
  ((∃ L v, r = some L ∧ e = .returned (.tuple #[v, .bool true]) ∧ w'.ownsRow w.heap.size 3 1 v L.length (iv L)) ∨ (r = none ∧ ∃ L v, e = .returned (.tuple #[v, .bool false]) ∧ w'.ownsRow w.heap.size 3 1 v L.length (iv L) ∧ L.length ≤ 300 ∧ ∀ x ∈ L, 0 ≤ x ∧ x < 2097152)) ∧ Below w.heap.size w w'

set_option maxRecDepth 100000 in
set_option maxHeartbeats 3200000 in
theorem specDecodeX (s : ByteArray) (code : Int) (hs : s.size ≤ 1048576) (w : World) :
    Calls Tryd.prog 27 #[.string s, .int .i64 code] w fun e w' => ToldX w w' e (gd code s) := by
  obtain ⟨i0, hi, hz0, hz1, hz2⟩ := info_parts Tryd.infoi3
  go_enter Tryd.func27, Tryd.ntmps27
  go_wp2
  go_loopw [0, 6] (fun x v wr => ∃ (t : ByteArray) (o : List Int) (f : Nat), x = .string t ∧ t.size ≤ f ∧ t.size ≤ 1048576 ∧ Hid (dec code s.size s = (dec code f t).map (o ++ ·)) ∧ o.length ≤ 300 ∧ wr.ownsRow w.heap.size 3 1 v o.length (iv o) ∧ Below w.heap.size w wr) (fun x _ _ => szOf x)
  case atStart => exact ⟨s, [], s.size, rfl, Nat.le_refl _, hs, by simp [Hid], by simp, World.ownsRow_nil _ _ _ _, Below.refl _ _⟩
  case round =>
    obtain ⟨t, o, f, rfl, htf, hts, hd, ho, hown, hnx⟩ := hrel
    have hsz := hnx.size
    by_cases h0 : 0 < t.size
    · have h0' : (0 : Int) < t.size := by omega
      have hb := get_bt t 0 h0
      have hbb := bt_nonneg t 0
      have hbl := bt_le t 0
      have hle := step_le code t h0
      have HD := fun hn => dec_next hd.out h0 htf hn
      have HN := fun hn => (gd_no (code := code) (s := s) (by rw [hd.out, dec_none code f t h0 htf hn]; rfl))
      clear hd
      by_cases c1 : code = 1
      · subst c1
        have H1 := specOne t h0 hts
        rw [step1] at HD HN hle
        obtain ⟨⟨p, n⟩, hpn⟩ : ∃ x, x = one8 t := ⟨_, rfl⟩
        rw [← hpn] at H1 HD HN hle
        simp only at H1 HD HN hle
        clear hpn
        by_cases hn : n = 0
        · subst hn
          have HG : Hid (gd 1 s = none) := HN rfl
          clear HN HD
          go_wp2_with (go_at_call 49; refine (H1 _).mono ?_; rintro e w1 ⟨rfl, hb1⟩; clear H1)
          go_ret2
          exact ⟨.inr ⟨HG.out, [], _, rfl, World.ownsRow_nil _ _ _ _, by simp, by simp⟩, ibelow hnx (by assumption)⟩
        · have HX : Hid (dec 1 s.size s = (dec 1 (f - 1) (t.extract n t.size)).map ((o ++ [p]) ++ ·)) := HD hn
          have n0 : ((n : Int) == 0) = false := by simp; omega
          have hle' : (n : Int) ≤ t.size := by omega
          clear HN HD
          go_wp2_with fail
          refine (H1 _).mono ?_
          rintro e w1 ⟨rfl, hb1⟩
          clear H1
          have hown1 := own_below hown hb1
          have hnx1 := ibelow hnx hb1
          have hsz1 := hnx1.size
          clear hown hb1
          go_wp2_with (at_builtin; refine wpList_append_own _ rfl _ _ 55 rfl (w.heap.size) 3 i0 (.int .i64 0) 1 8 Tryd.underlying55 hi hz0 hz1 hz2 rfl (by decide) _ _ _ rfl (hown1.alloc _) ⟨w1.heap.size, 0, none⟩ 1 1 (iv [p]) rfl rfl (cell_one_new _ _ _) (iv_one _) (by unfold maxLen; omega) (by omega) (by simp; omega) ?_)
          intro v' w2 hown' hgrow' _
          rw [iv_app] at hown'
          have hb2 : Below w.heap.size w w2 := (hnx1.alloc hsz1 _).grown hgrow' (by simp; omega) (ownsRow_block hown1)
          obtain ⟨a', c', rfl⟩ := ownsRow_shape hown'
          clear hgrow' hown1
          by_cases hlong : 300 < o.length + 1
          · have HG : Hid (gd 1 s = none) := gd_long HX.out (by simp; omega)
            have hlong' : (300 : Int) < (o.length : Int) + 1 := by omega
            go_wp2
            go_ret2
            exact ⟨.inr ⟨HG.out, [], _, rfl, World.ownsRow_nil _ _ _ _, by simp, by simp⟩, hb2⟩
          · have hlong' : ¬ (300 : Int) < (o.length : Int) + 1 := by omega
            go_wp2
            go_roundw
            case rel => exact ⟨t.extract n t.size, o ++ [p], f - 1, rfl, by rw [ext_len]; omega, by rw [ext_len]; omega, HX, by simp; omega, by simpa using hown', hb2⟩
            case measure => simp [szOf]; omega
      · have n1 : (code == 1) = false := by simpa using c1
        by_cases c2 : code = 2
        · subst c2
          clear n1
          have hown1 := hown
          have hnx1 := hnx
          have hsz1 := hsz
          clear hown
          rw [step2] at HD HN hle
          by_cases g0 : t.size < 2
          · have HG : Hid (gd 2 s = none) := HN (by unfold one16; rw [if_pos g0])
            have g0' : (t.size : Int) < 2 := by omega
            clear HN HD hle
            go_wp2
            go_ret2
            exact ⟨.inr ⟨HG.out, [], _, rfl, World.ownsRow_nil _ _ _ _, by simp, by simp⟩, hnx⟩
          · have g0' : ¬ (t.size : Int) < 2 := by omega
            have gs1 : (1 : Int) < t.size := by omega
            have hs1 : 1 < t.size := by omega
            have hk1 := get_bt t 1 hs1
            have hj0 := join8 (bt t 0) (bt t 1) (bt_nonneg _ _) (bt_le _ _) (bt_nonneg _ _) (bt_le _ _)
            have hL0 : bt t 0 + bt t 1 * 256 = lo16 t 0 := rfl
            rw [hL0] at hj0
            have hin0 := lo16_in t 0
            have hbn1 := bt_nonneg t 1
            have hbl1 := bt_le t 1
            have H16 : one16 t = if twoH t = true then (lo16 t 0 % 1024 * 1024 + lo16 t 2 % 1024 + 65536, 4) else (lo16 t 0, 2) := by unfold one16; rw [if_neg g0]
            rw [H16] at HD hle
            clear H16 HN hL0
            by_cases gu : 55296 ≤ lo16 t 0 ∧ lo16 t 0 ≤ 56319
            · have HU : Hid ((decide (55296 ≤ lo16 t 0) && decide (lo16 t 0 ≤ 56319)) = true) := by simp [Hid, gu.1, gu.2]
              by_cases g4 : 3 < t.size
              · have g4' : (3 : Int) < t.size := by omega
                have g4b : decide ((3 : Int) < t.size) = true := decide_eq_true g4'
                have gs2 : (2 : Int) < t.size := by omega
                have hs2 : 2 < t.size := by omega
                have hk2 := get_bt t 2 hs2
                have hk3 := get_bt t 3 g4
                have hj2 := join8 (bt t 2) (bt t 3) (bt_nonneg _ _) (bt_le _ _) (bt_nonneg _ _) (bt_le _ _)
                have hL2 : bt t 2 + bt t 3 * 256 = lo16 t 2 := rfl
                rw [hL2] at hj2
                have hin2 := lo16_in t 2
                have hbn2 := bt_nonneg t 2
                have hbn3 := bt_nonneg t 3
                have hbl3 := bt_le t 3
                have hbl2 := bt_le t 2
                have hw3 : IntKind.i64.wrap (bt t 3 * 256) = bt t 3 * 256 := by rw [IntKind.wrap_i64]; omega
                have hw2 : IntKind.i64.wrap (bt t 2) = bt t 2 := by rw [IntKind.wrap_i64]; omega
                have hw4 : IntKind.i64.wrap (bt t 3) = bt t 3 := by rw [IntKind.wrap_i64]; omega
                by_cases gl : 56320 ≤ lo16 t 2 ∧ lo16 t 2 ≤ 57343
                · have HLo : Hid ((decide (56320 ≤ lo16 t 2) && decide (lo16 t 2 ≤ 57343)) = true) := by simp [Hid, gl.1, gl.2]
                  have htwo : twoH t = true := by unfold twoH; exact decide_eq_true ⟨gu.1, gu.2, g4, gl.1, gl.2⟩
                  rw [if_pos htwo] at HD
                  have hm0 := and1023 (lo16 t 0)
                  have hm2 := and1023 (lo16 t 2)
                  have hj4 := join10 (lo16 t 0 % 1024) (lo16 t 2 % 1024) (by omega) (by omega) (by omega) (by omega)
                  have hq : 0 ≤ lo16 t 0 % 1024 * 1024 + lo16 t 2 % 1024 ∧ lo16 t 0 % 1024 * 1024 + lo16 t 2 % 1024 ≤ 1048575 := by omega
                  obtain ⟨q, hqe⟩ : ∃ q, q = lo16 t 0 % 1024 * 1024 + lo16 t 2 % 1024 := ⟨_, rfl⟩
                  have h1024 : 0 ≤ lo16 t 0 % 1024 ∧ lo16 t 0 % 1024 ≤ 1023 := by omega
                  rw [← hqe] at HD hj4 hq
                  have HX : Hid (dec 2 s.size s = (dec 2 (f - 1) (t.extract 4 t.size)).map ((o ++ [q + 65536]) ++ ·)) := HD (by simp)
                  have hle' : (4 : Int) ≤ t.size := by omega
                  have h4n : 4 ≤ t.size := by omega
                  clear HD htwo gu gl hle hqe hL2 g0 hin0 hin2
                  go_wp2_with (go_at_call 39; refine (in_eq _ _ _ _ (by assumption) _).mono ?_; rintro e w' ⟨rfl, hw⟩; obtain rfl := hw.symm; clear hw)
                  go_quiet (fail)
                  have hown3 := own_below hown1 (bel_dN (Below.refl _ _) nq)
                  have hnx3 := bel_dN hnx1 nq
                  have hsz3 := hnx3.size
                  clear hown1 hnx1 hsz1
                  go_wp2_with (first | (go_at_call 39; refine (in_eq _ _ _ _ (by assumption) _).mono ?_; rintro e w' ⟨rfl, hw⟩; obtain rfl := hw.symm; clear hw) | (at_builtin; refine wpList_append_own _ rfl _ _ 55 rfl (w.heap.size) 3 i0 (.int .i64 0) 1 8 Tryd.underlying55 hi hz0 hz1 hz2 rfl (by decide) _ _ _ rfl (hown3.alloc _) ⟨(wr.drewN nq).heap.size, 0, none⟩ 1 1 (iv [q + 65536]) rfl rfl (cell_one_new _ _ _) (iv_one _) (by unfold maxLen; omega) (by omega) (by simp; omega) ?_))
                  intro v' w2 hown' hgrow' _
                  rw [iv_app] at hown'
                  have hb2 : Below w.heap.size w w2 := (hnx3.alloc hsz3 _).grown hgrow' (by simp; omega) (ownsRow_block hown3)
                  obtain ⟨a', c', rfl⟩ := ownsRow_shape hown'
                  clear hgrow' hown3
                  by_cases hlong : 300 < o.length + 1
                  · have HG : Hid (gd 2 s = none) := gd_long HX.out (by simp; omega)
                    have hlong' : (300 : Int) < (o.length : Int) + 1 := by omega
                    go_wp2
                    go_ret2
                    exact ⟨.inr ⟨HG.out, [], _, rfl, World.ownsRow_nil _ _ _ _, by simp, by simp⟩, hb2⟩
                  · have hlong' : ¬ (300 : Int) < (o.length : Int) + 1 := by omega
                    go_wp2
                    go_roundw
                    case rel => exact ⟨t.extract 4 t.size, o ++ [q + 65536], f - 1, rfl, by rw [ext_len]; omega, by rw [ext_len]; omega, HX, by simp; omega, by simpa using hown', hb2⟩
                    case measure => simp [szOf]; omega
                · have HLo : Hid ((decide (56320 ≤ lo16 t 2) && decide (lo16 t 2 ≤ 57343)) = false) := by unfold Hid; rw [Bool.and_eq_false_iff]; simp; omega
                  have htwo : twoH t = false := by unfold twoH; exact decide_eq_false (by omega)
                  rw [if_neg (by rw [htwo]; simp)] at HD
                  have HX : Hid (dec 2 s.size s = (dec 2 (f - 1) (t.extract 2 t.size)).map ((o ++ [lo16 t 0]) ++ ·)) := HD (by simp)
                  have hle' : (2 : Int) ≤ t.size := by omega
                  clear HD htwo gu gl hle hL2 g0 hin0 hin2
                  go_wp2_with (go_at_call 39; refine (in_eq _ _ _ _ (by assumption) _).mono ?_; rintro e w' ⟨rfl, hw⟩; obtain rfl := hw.symm; clear hw)
                  go_quiet (fail)
                  have hown3 := own_below hown1 (bel_dN (Below.refl _ _) nq)
                  have hnx3 := bel_dN hnx1 nq
                  have hsz3 := hnx3.size
                  clear hown1 hnx1 hsz1
                  go_wp2_with (first | (go_at_call 39; refine (in_eq _ _ _ _ (by assumption) _).mono ?_; rintro e w' ⟨rfl, hw⟩; obtain rfl := hw.symm; clear hw) | (at_builtin; refine wpList_append_own _ rfl _ _ 55 rfl (w.heap.size) 3 i0 (.int .i64 0) 1 8 Tryd.underlying55 hi hz0 hz1 hz2 rfl (by decide) _ _ _ rfl (hown3.alloc _) ⟨(wr.drewN nq).heap.size, 0, none⟩ 1 1 (iv [lo16 t 0]) rfl rfl (cell_one_new _ _ _) (iv_one _) (by unfold maxLen; omega) (by omega) (by simp; omega) ?_))
                  intro v' w2 hown' hgrow' _
                  rw [iv_app] at hown'
                  have hb2 : Below w.heap.size w w2 := (hnx3.alloc hsz3 _).grown hgrow' (by simp; omega) (ownsRow_block hown3)
                  obtain ⟨a', c', rfl⟩ := ownsRow_shape hown'
                  clear hgrow' hown3
                  by_cases hlong : 300 < o.length + 1
                  · have HG : Hid (gd 2 s = none) := gd_long HX.out (by simp; omega)
                    have hlong' : (300 : Int) < (o.length : Int) + 1 := by omega
                    go_wp2
                    go_ret2
                    exact ⟨.inr ⟨HG.out, [], _, rfl, World.ownsRow_nil _ _ _ _, by simp, by simp⟩, hb2⟩
                  · have hlong' : ¬ (300 : Int) < (o.length : Int) + 1 := by omega
                    go_wp2
                    go_roundw
                    case rel => exact ⟨t.extract 2 t.size, o ++ [lo16 t 0], f - 1, rfl, by rw [ext_len]; omega, by rw [ext_len]; omega, HX, by simp; omega, by simpa using hown', hb2⟩
                    case measure => simp [szOf]; omega
              · have g4b : decide ((3 : Int) < t.size) = false := decide_eq_false (by omega)
                have htwo : twoH t = false := by unfold twoH; exact decide_eq_false (by omega)
                rw [if_neg (by rw [htwo]; simp)] at HD
                have HX : Hid (dec 2 s.size s = (dec 2 (f - 1) (t.extract 2 t.size)).map ((o ++ [lo16 t 0]) ++ ·)) := HD (by simp)
                have hle' : (2 : Int) ≤ t.size := by omega
                clear HD htwo gu hle g0 hin0
                go_wp2_with (first | (go_at_call 39; refine (in_eq _ _ _ _ (by assumption) _).mono ?_; rintro e w' ⟨rfl, hw⟩; obtain rfl := hw.symm; clear hw) | (at_builtin; refine wpList_append_own _ rfl _ _ 55 rfl (w.heap.size) 3 i0 (.int .i64 0) 1 8 Tryd.underlying55 hi hz0 hz1 hz2 rfl (by decide) _ _ _ rfl (hown1.alloc _) ⟨wr.heap.size, 0, none⟩ 1 1 (iv [lo16 t 0]) rfl rfl (cell_one_new _ _ _) (iv_one _) (by unfold maxLen; omega) (by omega) (by simp; omega) ?_))
                intro v' w2 hown' hgrow' _
                rw [iv_app] at hown'
                have hb2 : Below w.heap.size w w2 := (hnx1.alloc hsz1 _).grown hgrow' (by simp; omega) (ownsRow_block hown1)
                obtain ⟨a', c', rfl⟩ := ownsRow_shape hown'
                clear hgrow' hown1
                by_cases hlong : 300 < o.length + 1
                · have HG : Hid (gd 2 s = none) := gd_long HX.out (by simp; omega)
                  have hlong' : (300 : Int) < (o.length : Int) + 1 := by omega
                  go_wp2
                  go_ret2
                  exact ⟨.inr ⟨HG.out, [], _, rfl, World.ownsRow_nil _ _ _ _, by simp, by simp⟩, hb2⟩
                · have hlong' : ¬ (300 : Int) < (o.length : Int) + 1 := by omega
                  go_wp2
                  go_roundw
                  case rel => exact ⟨t.extract 2 t.size, o ++ [lo16 t 0], f - 1, rfl, by rw [ext_len]; omega, by rw [ext_len]; omega, HX, by simp; omega, by simpa using hown', hb2⟩
                  case measure => simp [szOf]; omega
            · have HU : Hid ((decide (55296 ≤ lo16 t 0) && decide (lo16 t 0 ≤ 56319)) = false) := by unfold Hid; rw [Bool.and_eq_false_iff]; simp; omega
              have htwo : twoH t = false := by unfold twoH; exact decide_eq_false (by omega)
              rw [if_neg (by rw [htwo]; simp)] at HD
              have HX : Hid (dec 2 s.size s = (dec 2 (f - 1) (t.extract 2 t.size)).map ((o ++ [lo16 t 0]) ++ ·)) := HD (by simp)
              have hle' : (2 : Int) ≤ t.size := by omega
              clear HD htwo gu hle g0 hin0
              go_wp2_with (first | (go_at_call 39; refine (in_eq _ _ _ _ (by assumption) _).mono ?_; rintro e w' ⟨rfl, hw⟩; obtain rfl := hw.symm; clear hw) | (at_builtin; refine wpList_append_own _ rfl _ _ 55 rfl (w.heap.size) 3 i0 (.int .i64 0) 1 8 Tryd.underlying55 hi hz0 hz1 hz2 rfl (by decide) _ _ _ rfl (hown1.alloc _) ⟨wr.heap.size, 0, none⟩ 1 1 (iv [lo16 t 0]) rfl rfl (cell_one_new _ _ _) (iv_one _) (by unfold maxLen; omega) (by omega) (by simp; omega) ?_))
              intro v' w2 hown' hgrow' _
              rw [iv_app] at hown'
              have hb2 : Below w.heap.size w w2 := (hnx1.alloc hsz1 _).grown hgrow' (by simp; omega) (ownsRow_block hown1)
              obtain ⟨a', c', rfl⟩ := ownsRow_shape hown'
              clear hgrow' hown1
              by_cases hlong : 300 < o.length + 1
              · have HG : Hid (gd 2 s = none) := gd_long HX.out (by simp; omega)
                have hlong' : (300 : Int) < (o.length : Int) + 1 := by omega
                go_wp2
                go_ret2
                exact ⟨.inr ⟨HG.out, [], _, rfl, World.ownsRow_nil _ _ _ _, by simp, by simp⟩, hb2⟩
              · have hlong' : ¬ (300 : Int) < (o.length : Int) + 1 := by omega
                go_wp2
                go_roundw
                case rel => exact ⟨t.extract 2 t.size, o ++ [lo16 t 0], f - 1, rfl, by rw [ext_len]; omega, by rw [ext_len]; omega, HX, by simp; omega, by simpa using hown', hb2⟩
                case measure => simp [szOf]; omega
        · have n2 : (code == 2) = false := by simpa using c2
          have hown1 := hown
          have hnx1 := hnx
          have hsz1 := hsz
          rw [step3 _ _ c1 c2] at HD hle
          have HX : Hid (dec code s.size s = (dec code (f - 1) (t.extract 1 t.size)).map ((o ++ [bt t 0]) ++ ·)) := HD (by simp)
          have hle' : (1 : Int) ≤ t.size := by omega
          clear HD HN hle hown
          go_wp2_with ((at_builtin; refine wpList_append_own _ rfl _ _ 55 rfl (w.heap.size) 3 i0 (.int .i64 0) 1 8 Tryd.underlying55 hi hz0 hz1 hz2 rfl (by decide) _ _ _ rfl (hown1.alloc _) ⟨wr.heap.size, 0, none⟩ 1 1 (iv [bt t 0]) rfl rfl (cell_one_new _ _ _) (iv_one _) (by unfold maxLen; omega) (by omega) (by simp; omega) ?_))
          intro v' w2 hown' hgrow' _
          rw [iv_app] at hown'
          have hb2 : Below w.heap.size w w2 := (hnx1.alloc hsz1 _).grown hgrow' (by simp; omega) (ownsRow_block hown1)
          obtain ⟨a', c', rfl⟩ := ownsRow_shape hown'
          clear hgrow' hown1
          by_cases hlong : 300 < o.length + 1
          · have HG : Hid (gd code s = none) := gd_long HX.out (by simp; omega)
            have hlong' : (300 : Int) < (o.length : Int) + 1 := by omega
            go_wp2
            go_ret2
            exact ⟨.inr ⟨HG.out, [], _, rfl, World.ownsRow_nil _ _ _ _, by simp, by simp⟩, hb2⟩
          · have hlong' : ¬ (300 : Int) < (o.length : Int) + 1 := by omega
            go_wp2
            go_roundw
            case rel => exact ⟨t.extract 1 t.size, o ++ [bt t 0], f - 1, rfl, by rw [ext_len]; omega, by rw [ext_len]; omega, HX, by simp; omega, by simpa using hown', hb2⟩
            case measure => simp [szOf]; omega
    · have ht0 : t.size = 0 := by omega
      have HG : dec code s.size s = some o := by rw [hd.out, dec_end code f t ht0]; simp
      have h0' : ¬ (0 : Int) < t.size := by omega
      obtain ⟨a, cap, rfl, hI⟩ := ints_of_row hown
      have H1 := specPoints a cap o wr hI (by omega)
      rcases hok : okL o with _ | _
      · rw [hok] at H1
        have HG2 : Hid (gd code s = none) := by unfold Hid; rw [gd_is HG, hok]; rfl
        have HBO : Hid (∀ x ∈ o, 0 ≤ x ∧ x < 2097152) := dec_in code s.size s o HG
        clear HG hd hok
        go_wp2_with (go_at_call 50; refine H1.mono ?_; rintro e w' ⟨rfl, hw⟩; obtain rfl := hw.symm; clear H1 hw)
        go_ret2
        exact ⟨.inr ⟨HG2.out, o, _, rfl, hown, ho, HBO.out⟩, hnx⟩
      · rw [hok] at H1
        have HG2 : Hid (gd code s = some o) := by unfold Hid; rw [gd_is HG, hok]; rfl
        clear HG hd hok
        go_wp2_with (go_at_call 50; refine H1.mono ?_; rintro e w' ⟨rfl, hw⟩; obtain rfl := hw.symm; clear H1 hw)
        go_ret2
        exact ⟨.inl ⟨o, _, HG2.out, rfl, hown⟩, hnx⟩


set_option maxRecDepth 100000 in
set_option maxHeartbeats 1600000 in
theorem specEncodeX (a : Option Addr) (cap : Nat) (L : List Int) (w : World) (hL : Hid (Ints w a L)) (hlen : L.length ≤ 300) (hok : Hid (∀ x ∈ L, 0 ≤ x ∧ x < 2097152)) :
    Calls Tryd.prog 59 #[.slice a L.length cap, .int .i64 1] w fun e w' => e = .returned (encR 1 L) ∧ Below w.heap.size w w' := by
  obtain ⟨i0, hi, hz0, hz1, hz2⟩ := info_parts Tryd.infob5
  go_enter Tryd.func59, Tryd.ntmps59
  go_wp2
  go_loopw [6, 11] (fun v i wr => ∃ (k : Nat) (bs : List UInt8), k ≤ L.length ∧ i = .int .i64 k ∧ Hid (bs = encL 1 (L.take k)) ∧ bs.length ≤ 4 * k ∧ Hid ((L.take k).all (fitC 1) = true) ∧ wr.ownsRow w.heap.size 5 1 v bs.length (bv bs) ∧ Below w.heap.size w wr) (fun _ i _ => L.length - (intOf i).toNat)
  case atStart => exact ⟨0, [], by omega, rfl, by simp [Hid, encL], by simp, by simp [Hid], World.ownsRow_nil _ _ _ _, Below.refl _ _⟩
  case round =>
    obtain ⟨k, bs, hk, rfl, hbs, hbl, hall, hown, hnx⟩ := hrel
    have hsz := hnx.size
    by_cases hlt : k < L.length
    · obtain ⟨b, off, rfl, hb, hc⟩ := hL.out.at k hlt
      have hc0 := (hnx.cell (p := ⟨b, off + k, none⟩) hb).trans hc
      obtain ⟨hp0, hp1⟩ := hok.out _ (List.getElem_mem hlt)
      have HS := all_snoc (fitC 1) L k hlt
      have HE := encL_snoc 1 L k hlt
      obtain ⟨x, hx⟩ : ∃ x, x = L[k] := ⟨_, rfl⟩
      rw [← hx] at hc0 hp0 hp1 HS HE
      clear hx hc
      obtain ⟨p, rfl⟩ : ∃ p : Nat, x = p := ⟨x.toNat, by omega⟩
      rw [hall.out, Bool.true_and] at HS
      rw [← hbs.out, Int.toNat_natCast] at HE
      rw [fit1] at HS
      rw [encP1] at HE
      have hl4 := u8b_len p
      have HS2 : Hid ((L.take (k + 1)).all (fitC 1) = true) := HS
      have HU := specUtf8 p (by omega)
      obtain ⟨l, hl⟩ : ∃ l, l = u8b p := ⟨_, rfl⟩
      rw [← hl] at HE hl4 HU
      have HE2 : Hid (encL 1 (L.take (k + 1)) = bs ++ l) := HE
      clear hl
      clear HS HE
      go_wp2_with (first | (go_at_call 71; refine (HU _).mono ?_; rintro e w' ⟨rfl, rfl⟩; clear HU) | (at_builtin; refine wpList_append_own _ rfl _ _ 71 rfl (w.heap.size) 5 i0 (.int .u8 0) 1 1 Tryd.underlying71 hi hz0 hz1 hz2 rfl (by decide) _ _ _ rfl (hown.alloc _) ⟨wr.heap.size, 0, none⟩ l.length l.length (bv l) rfl (by simp [bv_len]) (cells_new _ _) (bv_one _) (by unfold maxLen; omega) (by omega) (by simp; omega) ?_))
      intro v' w1 hown' hgrow' _
      rw [bv_app] at hown'
      have hb1 : Below w.heap.size w w1 := (hnx.alloc hsz _).grown hgrow' (by simp; omega) (ownsRow_block hown)
      clear hgrow' hown
      go_wp2
      go_roundw
      case rel => exact ⟨k + 1, bs ++ l, by omega, by go_num, HE2.out.symm, by simp; omega, HS2, by simpa using hown', hb1⟩
      case measure => simp [intOf]; omega
    · have e : L.take k = L := List.take_of_length_le (by omega)
      have h2 := hall.out
      have h3 := hbs.out
      rw [e] at h2 h3
      have HR : Hid (encR 1 L = .tuple #[.string ⟨bs.toArray⟩, .bool true]) := by unfold Hid; rw [encR_yes h2, h3]
      clear h2 h3 e
      have hcv := owned_string (P := Tryd.prog) 71 9 5 Tryd.underlying71 Tryd.underlying5 Tryd.underlying9 (bs := bs) hown
      go_wp2
      go_ret2
      exact ⟨by rw [HR.out]; rfl, hnx⟩


end Go.Proofs.YtgepplddhmgifaaDoor

namespace Go.Proofs.YtgepplddhmgifaaDoor
open Go.ChangeShapes Go.WideShapes Go.ChangeAt Go.RowKit Go.PlainAid

def txSz (count code : Int) : Int := if code = 1 then count else if code = 2 then count * 2 else if 2147483648 ≤ count then (count - 2147483648) * 2 else count
def txWide (count code : Int) : Bool := if code = 1 then false else if code = 2 then false else decide (2147483648 ≤ count)
def txAl (code : Int) : Int := if code = 1 then 1 else 2
def txPts (code : Int) (wide : Bool) (b : ByteArray) : Option (List Int) := if code = 3 then cpF wide b else gd code b
def txOut (r : Option (List Int)) : ByteArray × Int := match r with
  | none => (⟨#[]⟩, 4)
  | some L => if (encL 1 L).length ≤ 200 then (⟨(encL 1 L).toArray⟩, 0) else (⟨#[]⟩, 4)
def txFits (D : ByteArray) (at' sz al : Int) : Bool := decide (at' % al = 0) && decide (sz ≤ (D.size : Int) - at')
def txIn (D : ByteArray) (at' count code : Int) : ByteArray × Int :=
  if txFits D at' (txSz count code) (txAl code) = true then txOut (txPts code (txWide count code) (D.extract at'.toNat (at'.toNat + (txSz count code).toNat))) else (⟨#[]⟩, 3)

theorem txSz_in {count code : Int} (h0 : 0 ≤ count) (h1 : count ≤ 4294967295) : 0 ≤ txSz count code ∧ txSz count code ≤ 8589934590 := by
  unfold txSz; (repeat' split) <;> omega
theorem txAl_in (code : Int) : txAl code = 1 ∨ txAl code = 2 ∨ txAl code = 4 ∨ txAl code = 8 := by
  unfold txAl; split <;> simp
theorem txPts_ok {code : Int} {wide : Bool} {b : ByteArray} {L : List Int} (h : txPts code wide b = some L) : okL L = true := by
  unfold txPts at h
  split at h
  · unfold cpF at h
    split at h
    · rcases hg : gd 2 b with _ | M
      · rw [hg] at h; simp at h
      · rw [hg] at h
        simp only at h
        split at h
        · simp at h
        · simp at h
          subst h
          exact (gd_some hg).2
    · exact (gd_some h).2
  · exact (gd_some h).2
theorem enc1 {L : List Int} (h : okL L = true) : encF 1 L = .tuple #[.string ⟨(encL 1 L).toArray⟩, .bool true] := by
  rw [encF_yes (by unfold sureC; rw [h]; rfl), encR_yes (by rw [List.all_eq_true]; intro x _; exact fit1 x)]
theorem enc1R (L : List Int) : encR 1 L = .tuple #[.string ⟨(encL 1 L).toArray⟩, .bool true] := encR_yes (by rw [List.all_eq_true]; intro x _; exact fit1 x)
theorem okL_len {L : List Int} (h : okL L = true) : L.length ≤ 300 := (okL_iff.1 h).1

set_option maxRecDepth 2000000 in
set_option maxHeartbeats 1600000 in
theorem implTextSize (count code : Int) (h0 : 0 ≤ count) (h1 : count ≤ 4294967295) (w : World) :
    Calls Tryd.prog 61 #[.int .i64 count, .int .i64 code] w fun e w' => e = .returned (.tuple #[.int .i64 (txSz count code), .bool (txWide count code)]) ∧ w' = w := by
  by_cases c1 : code = 1
  · subst c1
    rw [show txSz count 1 = count by unfold txSz; rw [if_pos rfl], show txWide count 1 = false by unfold txWide; rw [if_pos rfl]]
    go_enter Tryd.func61, Tryd.ntmps61
    go_wp2
    go_ret2
    exact ⟨rfl, rfl⟩
  · have n1 : (code == 1) = false := by rw [beq_eq_false_iff_ne]; exact c1
    by_cases c2 : code = 2
    · subst c2
      have v1 : wrap64 (count * 2) = count * 2 := by unfold wrap64; omega
      rw [show txSz count 2 = count * 2 by unfold txSz; rw [if_neg (by omega), if_pos rfl], show txWide count 2 = false by unfold txWide; rw [if_neg (by omega), if_pos rfl]]
      clear h0 h1
      go_enter Tryd.func61, Tryd.ntmps61
      go_wp2
      go_ret2
      exact ⟨by first | rfl | (rw [v1]; rfl), rfl⟩
    · have n2 : (code == 2) = false := by rw [beq_eq_false_iff_ne]; exact c2
      by_cases c3 : 2147483648 ≤ count
      · have v1 : wrap64 (count - 2147483648) = count - 2147483648 := by unfold wrap64; omega
        have v2 : wrap64 ((count - 2147483648) * 2) = (count - 2147483648) * 2 := by unfold wrap64; omega
        have d : decide (2147483648 ≤ count) = true := by simpa using c3
        rw [show txSz count code = (count - 2147483648) * 2 by unfold txSz; rw [if_neg c1, if_neg c2, if_pos c3], show txWide count code = true by unfold txWide; rw [if_neg c1, if_neg c2, d]]
        clear h0 h1 c3
        go_enter Tryd.func61, Tryd.ntmps61
        go_wp2
        go_ret2
        exact ⟨by first | rfl | (rw [v2]; rfl), rfl⟩
      · have d : decide (2147483648 ≤ count) = false := by simpa using c3
        rw [show txSz count code = count by unfold txSz; rw [if_neg c1, if_neg c2, if_neg c3], show txWide count code = false by unfold txWide; rw [if_neg c1, if_neg c2, d]]
        clear h0 h1 c3
        go_enter Tryd.func61, Tryd.ntmps61
        go_wp2
        go_ret2
        exact ⟨rfl, rfl⟩

theorem implTextAlign (code : Int) (w : World) : Calls Tryd.prog 56 #[.int .i64 code] w fun e w' => e = .returned (.int .i64 (txAl code)) ∧ w' = w := by
  by_cases c1 : code = 1
  · subst c1
    go_enter Tryd.func56, Tryd.ntmps56
    go_wp2
    go_ret
    exact ⟨rfl, rfl⟩
  · have n1 : (code == 1) = false := by rw [beq_eq_false_iff_ne]; exact c1
    rw [show txAl code = 2 by unfold txAl; rw [if_neg c1]]
    go_enter Tryd.func56, Tryd.ntmps56
    go_wp2
    go_ret
    exact ⟨rfl, rfl⟩

set_option maxRecDepth 2000000 in
set_option maxHeartbeats 1600000 in
theorem implLiesIn (D : ByteArray) (at' sz al : Int) (hD : D.size ≤ 1048576) (h0 : 0 ≤ at') (h1 : at' ≤ 9223372036854775807) (hA : al = 1 ∨ al = 2 ∨ al = 4 ∨ al = 8) (w : World) :
    Calls Tryd.prog 62 #[.string D, .int .i64 at', .agg #[.int .i64 sz, .int .i64 al]] w fun e w' => e = .returned (.bool (txFits D at' sz al)) ∧ Below w.heap.size w w' := by
  have HW := within at' sz (D.size : Int) h0 h1 (by omega) (by omega)
  have t1 : at'.tmod al = at' % al := Int.tmod_eq_emod_of_nonneg h0
  have a1 : 1 ≤ al := by omega
  have a2 : (al == 0) = false := by rw [beq_eq_false_iff_ne]; omega
  obtain ⟨n, hn⟩ : ∃ n : Int, (D.size : Int) = n := ⟨_, rfl⟩
  unfold txFits
  rw [hn] at HW ⊢
  have e9 : spIn n (at', sz) = decide (sz ≤ n - at') := rfl
  rw [e9] at HW
  obtain ⟨F, hF⟩ : ∃ F, decide (sz ≤ n - at') = F := ⟨_, rfl⟩
  rw [hF] at HW ⊢
  obtain ⟨m, hm⟩ : ∃ m, at' % al = m := ⟨_, rfl⟩
  rw [hm] at t1 ⊢
  obtain ⟨B, hB⟩ : ∃ B, decide (m = 0) = B := ⟨_, rfl⟩
  rw [hB]
  have hmb : (m == 0) = B := by rw [← hB]; by_cases h : m = 0 <;> simp [h]
  clear hm hF hB h0 h1 hD hA e9
  cases B with
  | false =>
    go_enter Tryd.func62, Tryd.ntmps62
    go_wp2
    go_ret
    refine ⟨rfl, ?_⟩
    (repeat (first | refine Below.alloc ?_ (by first | (simp; done) | (simp; omega)) _ | refine Below.setCell ?_ (by first | (simp; done) | (simp; omega)) _ | refine bel_dN ?_ _ | refine Below.drew ?_ | exact Below.refl _ _))
  | true =>
    go_enter Tryd.func62, Tryd.ntmps62
    go_wp2_with fail
    refine (HW _).mono ?_
    rintro e w1 ⟨rfl, B1⟩
    go_wp2
    go_ret
    refine ⟨rfl, ?_⟩
    ((repeat (first | refine bel_alloc ?_ _ | refine bel_dN ?_ _ | refine Below.drew ?_ | refine Below.setCell ?_ (by first | (simp; done) | (simp; omega)) _)); refine bel_step ?_ B1; (repeat (first | refine bel_alloc ?_ _ | refine bel_dN ?_ _ | refine Below.drew ?_ | refine Below.setCell ?_ (by first | (simp; done) | (simp; omega)) _)); exact Below.refl _ _)

set_option maxRecDepth 2000000 in
set_option maxHeartbeats 1600000 in
theorem implTextPoints (b : ByteArray) (wide : Bool) (code : Int) (hs : b.size ≤ 1048576) (hc : 1 ≤ code ∧ code ≤ 3) (w : World) (hT : UTabs w) :
    Calls Tryd.prog 63 #[.string b, .bool wide, .int .i64 code] w fun e w' => ToldN w w' e (txPts code wide b) := by
  by_cases c3 : code = 3
  · subst c3
    have H0 := implCompactPoints b wide hs w hT
    rw [show txPts 3 wide b = cpF wide b by unfold txPts; rw [if_pos rfl]]
    clear hc
    go_enter Tryd.func63, Tryd.ntmps63
    go_wp2_with fail
    refine H0.mono ?_
    rintro e w1 ⟨⟨L, v, hg, rfl, ho⟩ | ⟨hg, rfl⟩, hb⟩
    · obtain ⟨a, cap, rfl, hI⟩ := ints_of_row ho
      have HG : Hid (cpF wide b = some L) := hg
      have HO : Hid (w1.ownsRow w.heap.size 3 1 (.slice a L.length cap) L.length (iv L)) := ho
      clear H0 hg ho hI
      go_wp2
      go_ret2
      exact ⟨.inl ⟨L, _, HG.out, rfl, HO.out⟩, hb⟩
    · have HG : Hid (cpF wide b = none) := hg
      clear H0 hg
      go_wp2
      go_ret2
      exact ⟨.inr ⟨HG.out, rfl⟩, hb⟩
  · have H0 := implDecodePoints b code hs w hT
    rw [gdF_in hc] at H0
    rw [show txPts code wide b = gd code b by unfold txPts; rw [if_neg c3]]
    have n3 : (code == 3) = false := by rw [beq_eq_false_iff_ne]; exact c3
    clear hc
    go_enter Tryd.func63, Tryd.ntmps63
    go_wp2_with fail
    refine H0.mono ?_
    rintro e w1 ⟨⟨L, v, hg, rfl, ho⟩ | ⟨hg, rfl⟩, hb⟩
    · obtain ⟨a, cap, rfl, hI⟩ := ints_of_row ho
      have HG : Hid (gd code b = some L) := hg
      have HO : Hid (w1.ownsRow w.heap.size 3 1 (.slice a L.length cap) L.length (iv L)) := ho
      clear H0 hg ho hI
      go_wp2
      go_ret2
      exact ⟨.inl ⟨L, _, HG.out, rfl, HO.out⟩, hb⟩
    · have HG : Hid (gd code b = none) := hg
      clear H0 hg
      go_wp2
      go_ret2
      exact ⟨.inr ⟨HG.out, rfl⟩, hb⟩

set_option maxRecDepth 2000000 in
set_option maxHeartbeats 1600000 in
theorem implTextIn (D : ByteArray) (at' count code : Int) (hD : D.size ≤ 1048576) (h0 : 0 ≤ at') (h1 : at' ≤ 4294967295) (c0 : 0 ≤ count) (c1 : count ≤ 4294967295) (hc : 1 ≤ code ∧ code ≤ 3) (w : World) (hT : Hid (UTabs w)) :
    Calls Tryd.prog 38 #[.string D, .int .i64 at', .int .i64 count, .int .i64 code] w fun e w' => e = .returned (.tuple #[.string (txIn D at' count code).1, .int .i64 (txIn D at' count code).2]) ∧ Below w.heap.size w w' := by
  have HS := implTextSize count code c0 c1
  have HA := implTextAlign code
  have HL := implLiesIn D at' (txSz count code) (txAl code) hD h0 (by omega) (txAl_in code)
  have hsz := txSz_in (code := code) c0 c1
  obtain ⟨A, hA⟩ : ∃ A : Nat, at' = (A : Int) := ⟨at'.toNat, by omega⟩
  obtain ⟨Z, hZ⟩ : ∃ Z : Nat, txSz count code = (Z : Int) := ⟨(txSz count code).toNat, by omega⟩
  obtain ⟨F, hF⟩ : ∃ F, txFits D at' (txSz count code) (txAl code) = F := ⟨_, rfl⟩
  have hfit : F = true → A + Z ≤ D.size := fun h => by
    rw [h, hA, hZ] at hF
    unfold txFits at hF
    simp at hF
    omega
  have HX : Hid (txIn D at' count code = if F = true then txOut (txPts code (txWide count code) (D.extract A (A + Z))) else (⟨#[]⟩, 3)) := by
    unfold Hid txIn
    rw [hF, hA, hZ]
    simp
  rw [HX.out]
  rw [hF] at HL
  rw [hZ] at HS HL
  subst hA
  generalize txAl code = al at *
  generalize txWide count code = wd at *
  have v1 : wrap64 ((A : Int) + (Z : Int)) = (A : Int) + (Z : Int) := by unfold wrap64; omega
  clear hF hZ HX hsz h0 h1 c0 c1
  cases F with
  | false =>
    simp only [Bool.false_eq_true, if_false]
    clear hfit v1
    go_enter Tryd.func38, Tryd.ntmps38
    go_wp2_with (first | (go_at_call 61; refine (HS _).mono ?_; rintro e w' ⟨rfl, hw⟩; obtain rfl := hw.symm; clear HS) | (go_at_call 56; refine (HA _).mono ?_; rintro e w' ⟨rfl, hw⟩; obtain rfl := hw.symm; clear HA))
    refine (HL _).mono ?_
    rintro e w1 ⟨rfl, B1⟩
    go_wp2
    go_ret2
    exact ⟨rfl, B1⟩
  | true =>
    simp only [if_true]
    have hf := hfit rfl
    have hsl := slice_mem (P := Tryd.prog) 9 Tryd.underlying9 D A Z hf
    have hbs : (D.extract A (A + Z)).size ≤ 1048576 := by simp only [ByteArray.size_extract]; omega
    have HP : Hid (∀ W, Below w.heap.size w W → Calls Tryd.prog 63 #[.string (D.extract A (A + Z)), .bool wd, .int .i64 code] W fun e w' => ToldN W w' e (txPts code wd (D.extract A (A + Z)))) := fun W hW => implTextPoints _ wd code hbs hc W (Utf8Tabs_below hT.out hW)
    have HOK : Hid (∀ L, txPts code wd (D.extract A (A + Z)) = some L → okL L = true) := fun L h => txPts_ok h
    generalize D.extract A (A + Z) = X at *
    generalize txPts code wd X = R at *
    clear hfit hf hbs hc hD
    obtain ⟨Y, c, hYc⟩ : ∃ Y c, txOut R = (Y, c) := ⟨_, _, rfl⟩
    rw [hYc]
    have HY : Hid (txOut R = (Y, c)) := hYc
    clear hYc
    go_enter Tryd.func38, Tryd.ntmps38
    go_wp2_with (first | (go_at_call 61; refine (HS _).mono ?_; rintro e w' ⟨rfl, hw⟩; obtain rfl := hw.symm; clear HS) | (go_at_call 56; refine (HA _).mono ?_; rintro e w' ⟨rfl, hw⟩; obtain rfl := hw.symm; clear HA))
    refine (HL _).mono ?_
    rintro e w1 ⟨rfl, B1⟩
    clear HL
    have H2 := HP.out w1 B1
    clear HP
    go_wp2_with fail
    refine H2.mono ?_
    rintro e w2 ⟨⟨L, v, hg, rfl, ho⟩ | ⟨hg, rfl⟩, hb⟩
    · obtain ⟨a, cap, rfl, hI⟩ := ints_of_row ho
      have hok := HOK.out L hg
      have HE := implEncodePoints a cap L 1 w2 hI (Nat.le_trans (okL_len hok) (by omega))
      rw [enc1 hok] at HE
      have HY2 : Hid ((if (encL 1 L).length ≤ 200 then ((⟨(encL 1 L).toArray⟩ : ByteArray), (0 : Int)) else (⟨#[]⟩, 4)) = (Y, c)) := by have := HY.out; rw [hg] at this; exact this
      have hls : (ByteArray.mk (encL 1 L).toArray).size = (encL 1 L).length := utf_len _
      have HB2 := bel_stepK B1 hb
      generalize encL 1 L = E at *
      obtain ⟨S, hS⟩ : ∃ S, ByteArray.mk E.toArray = S := ⟨_, rfl⟩
      rw [hS] at HE HY2 hls
      clear H2 hg ho hI hok HY HOK hS B1 hb
      by_cases hl : E.length ≤ 200
      · have hl' : ¬ (200 : Int) < (S.size : Int) := by omega
        have h3 := HY2.out
        rw [if_pos hl] at h3
        obtain ⟨h4, h5⟩ := Prod.mk.inj h3
        have H6 : Hid (S = Y ∧ 0 = c) := ⟨h4, h5⟩
        clear HY2 h3 h4 h5 hl hls
        go_wp2_with (go_at_call 64; refine HE.mono ?_; rintro e w3 ⟨rfl, hb3⟩; clear HE)
        go_ret2
        exact ⟨by rw [H6.out.1, ← H6.out.2]; rfl, bel_stepK HB2 (by assumption)⟩
      · have hl' : (200 : Int) < (S.size : Int) := by omega
        have h3 := HY2.out
        rw [if_neg hl] at h3
        obtain ⟨h4, h5⟩ := Prod.mk.inj h3
        have H6 : Hid (⟨#[]⟩ = Y ∧ 4 = c) := ⟨h4, h5⟩
        clear HY2 h3 h4 h5 hl hls
        go_wp2_with (go_at_call 64; refine HE.mono ?_; rintro e w3 ⟨rfl, hb3⟩; clear HE)
        go_ret2
        exact ⟨by rw [← H6.out.1, ← H6.out.2]; rfl, bel_stepK HB2 (by assumption)⟩
    · have h3 := HY.out
      rw [hg] at h3
      obtain ⟨h4, h5⟩ := Prod.mk.inj (show ((⟨#[]⟩ : ByteArray), (4 : Int)) = (Y, c) from h3)
      have H6 : Hid (⟨#[]⟩ = Y ∧ 4 = c) := ⟨h4, h5⟩
      have HB2 := bel_stepK B1 hb
      clear H2 hg HY HOK h3 h4 h5 B1 hb
      go_wp2
      go_ret2
      exact ⟨by rw [← H6.out.1, ← H6.out.2]; rfl, HB2⟩

end Go.Proofs.YtgepplddhmgifaaDoor

namespace Go.Proofs.YtgepplddhmgifaaDoor
open Go.ChangeShapes Go.WideShapes Go.ChangeAt Go.RowKit Go.PlainAid

theorem okL_in {L : List Int} (h : okL L = true) : L.length ≤ 300 ∧ ∀ x ∈ L, 0 ≤ x ∧ x < 2097152 := by
  refine ⟨okL_len h, fun x hx => ?_⟩
  have h2 := okAll_of h
  obtain ⟨i, hi, rfl⟩ := List.getElem_of_mem hx
  have := h2.2 i hi
  omega
/-- What is encoded of what was told. -/
theorem specDecodeY (s : ByteArray) (hs : s.size ≤ 1048576) (w : World) :
    Calls Tryd.prog 27 #[.string s, .int .i64 3] w fun e w' => ∃ (a : Option Addr) (n c : Nat) (b : Bool), e = .returned (.tuple #[.slice a n c, .bool b]) ∧ Below w.heap.size w w' := by
  refine (specDecodeX s 3 hs w).mono ?_
  rintro e w1 ⟨⟨L, v, _, rfl, ho⟩ | ⟨_, L, v, rfl, ho, _, _⟩, hb⟩
  · obtain ⟨a, cap, rfl, _⟩ := ints_of_row ho
    exact ⟨_, _, _, _, rfl, hb⟩
  · obtain ⟨a, cap, rfl, _⟩ := ints_of_row ho
    exact ⟨_, _, _, _, rfl, hb⟩

set_option maxRecDepth 2000000 in
set_option maxHeartbeats 1600000 in
theorem specLift1 (M : Int) (D : ByteArray) (at' count : Int) (hD : D.size ≤ 1048576) (h0 : 0 ≤ at') (h1 : at' ≤ 4294967295) (c0 : 0 ≤ count) (c1 : count ≤ 4294967295)  (w : World) :
    Calls Tryd.prog 35 #[.agg #[.int .i64 M, .string D], .int .i64 at', .int .i64 count, .int .i64 1] w fun e w' => e = .returned (.tuple #[.string (txIn D at' count 1).1, .int .i64 (txIn D at' count 1).2]) ∧ Below w.heap.size w w' := by
  have hsz := txSz_in (code := 1) c0 c1
  have hze : txSz count 1 = count := by unfold txSz; rw [if_pos rfl]
  have hwe : txWide count 1 = false := by unfold txWide; rw [if_pos rfl]
  have hae : txAl 1 = 1 := rfl
  obtain ⟨A, hA⟩ : ∃ A : Nat, at' = (A : Int) := ⟨at'.toNat, by omega⟩
  obtain ⟨Z, hZ⟩ : ∃ Z : Nat, txSz count 1 = (Z : Int) := ⟨(txSz count 1).toNat, by omega⟩
  obtain ⟨n, hn⟩ : ∃ n : Int, (D.size : Int) = n := ⟨_, rfl⟩
  have LI := l5Inside M D n hn (by omega) (A : Int) (Z : Int) (by omega) (by omega) (by omega)
  obtain ⟨F, hF⟩ : ∃ F, decide ((Z : Int) ≤ n - (A : Int)) = F := ⟨_, rfl⟩
  obtain ⟨m, hm⟩ : ∃ m, (A : Int) % 1 = m := ⟨_, rfl⟩
  obtain ⟨B, hB⟩ : ∃ B, decide (m = 0) = B := ⟨_, rfl⟩
  have t1 : (A : Int).tmod 1 = m := by rw [← hm]; exact Int.tmod_eq_emod_of_nonneg (by omega)
  have hmb : (m == 0) = B := by rw [← hB]; by_cases h : m = 0 <;> simp [h]
  have hmn : (m != 0) = !B := by unfold bne; rw [hmb]
  have hfit : F = true → A + Z ≤ D.size := fun h => by rw [h] at hF; simp at hF; omega
  have HX : Hid (txIn D at' count 1 = if (B && F) = true then txOut (txPts 1 false (D.extract A (A + Z))) else (⟨#[]⟩, 3)) := by
    unfold Hid txIn txFits
    rw [hwe, hae, hA, hZ, hn, hF, hm, hB]
    simp
  rw [HX.out]
  rw [hF] at LI
  rw [hze] at hZ
  subst hA
  have v0 : wrap64 ((A : Int) + (Z : Int)) = (A : Int) + (Z : Int) := by unfold wrap64; omega
  subst hZ
  clear hF hB hm HX hsz h0 h1 c0 c1 hze hwe hae hmb
  obtain ⟨g, hgs⟩ : ∃ g, w.heap.size = g := ⟨_, rfl⟩
  cases B with
  | false =>
    simp only [Bool.false_and, Bool.false_eq_true, if_false]
    clear hfit v0 LI hn
    go_enter Tryd.func35, Tryd.ntmps35
    go_wp2
    go_ret2
    refine ⟨rfl, ?_⟩
    (repeat (first | refine Below.alloc ?_ (by first | (simp; done) | (simp; omega)) _ | refine Below.setCell ?_ (by first | (simp; done) | (simp; omega)) _ | refine bel_dN ?_ _ | refine Below.drew ?_ | exact Below.refl _ _))
  | true =>
    simp only [Bool.true_and]
    cases F with
    | false =>
      simp only [Bool.false_eq_true, if_false]
      clear hfit v0
      go_enter Tryd.func35, Tryd.ntmps35
      go_wp2_with fail
      refine (LI _).mono ?_
      rintro e w1 ⟨rfl, B1⟩
      have hB1 : Below w.heap.size w w1 := by ((repeat (first | refine bel_alloc ?_ _ | refine bel_dN ?_ _ | refine Below.drew ?_ | refine Below.setCell ?_ (by first | (simp; done) | (simp; omega)) _)); refine bel_step ?_ B1; (repeat (first | refine bel_alloc ?_ _ | refine bel_dN ?_ _ | refine Below.drew ?_ | refine Below.setCell ?_ (by first | (simp; done) | (simp; omega)) _)); exact Below.refl _ _)
      clear LI B1
      go_wp2
      go_ret2
      exact ⟨rfl, hB1⟩
    | true =>
      simp only [if_true]
      have hf := hfit rfl
      have hsl := slice_mem (P := Tryd.prog) 9 Tryd.underlying9 D A Z hf
      have hbs : (D.extract A (A + Z)).size ≤ 1048576 := by simp only [ByteArray.size_extract]; omega
      have HOK : Hid (∀ L, txPts 1 false (D.extract A (A + Z)) = some L → okL L = true) := fun L h => txPts_ok h
      have HP := specDecodeX (D.extract A (A + Z)) 1 hbs
      rw [show gd 1 (D.extract A (A + Z)) = txPts 1 false (D.extract A (A + Z)) from rfl] at HP
      generalize D.extract A (A + Z) = X at *
      generalize txPts 1 false X = R at *
      clear hfit hf hbs hD
      obtain ⟨Y, c, hYc⟩ : ∃ Y c, txOut R = (Y, c) := ⟨_, _, rfl⟩
      rw [hYc]
      have HY : Hid (txOut R = (Y, c)) := hYc
      clear hYc
      go_enter Tryd.func35, Tryd.ntmps35
      go_wp2_with fail
      refine (LI _).mono ?_
      rintro e w1 ⟨rfl, B1⟩
      have hs1 := B1.size
      simp at hs1
      have q1 : w1.cell? ⟨g, 1, none⟩ = some (.string D) := keepCell B1 (by simp; omega) (newCell (by omega) rfl)
      have hB1 : Below w.heap.size w w1 := by ((repeat (first | refine bel_alloc ?_ _ | refine bel_dN ?_ _ | refine Below.drew ?_ | refine Below.setCell ?_ (by first | (simp; done) | (simp; omega)) _)); refine bel_step ?_ B1; (repeat (first | refine bel_alloc ?_ _ | refine bel_dN ?_ _ | refine Below.drew ?_ | refine Below.setCell ?_ (by first | (simp; done) | (simp; omega)) _)); exact Below.refl _ _)
      clear LI B1
      go_wp2_with fail
      refine (HP _).mono ?_
      rintro e w3 ⟨⟨L, v, hg, rfl, ho⟩ | ⟨hg, L, v, rfl, ho, hl3, hx3⟩, hb⟩
      · obtain ⟨a, cap, rfl, hI⟩ := ints_of_row ho
        obtain ⟨hl3, hx3⟩ := okL_in (HOK.out L hg)
        have HB3 := bel_stepK hB1 hb
        clear HP hb q1
        have HE := specEncodeX a cap L w3 hI hl3 hx3
        rw [enc1R] at HE
        have HY2 : Hid ((if (encL 1 L).length ≤ 200 then ((⟨(encL 1 L).toArray⟩ : ByteArray), (0 : Int)) else (⟨#[]⟩, 4)) = (Y, c)) := by have := HY.out; rw [hg] at this; exact this
        have hls : (ByteArray.mk (encL 1 L).toArray).size = (encL 1 L).length := utf_len _
        generalize encL 1 L = E at *
        obtain ⟨S, hS⟩ : ∃ S, ByteArray.mk E.toArray = S := ⟨_, rfl⟩
        rw [hS] at HE HY2 hls
        clear hg ho hI HY HOK hS
        by_cases hl : E.length ≤ 200
        · have hl' : ¬ (200 : Int) < (S.size : Int) := by omega
          have h3 := HY2.out
          rw [if_pos hl] at h3
          obtain ⟨h4, h5⟩ := Prod.mk.inj h3
          have H6 : Hid (S = Y ∧ 0 = c) := ⟨h4, h5⟩
          clear HY2 h3 h4 h5 hl hls
          go_wp2_with (go_at_call 59; refine HE.mono ?_; rintro e w9 ⟨rfl, hb9⟩; clear HE)
          go_ret2
          exact ⟨by rw [H6.out.1, ← H6.out.2]; rfl, bel_stepK HB3 (by assumption)⟩
        · have hl' : (200 : Int) < (S.size : Int) := by omega
          have h3 := HY2.out
          rw [if_neg hl] at h3
          obtain ⟨h4, h5⟩ := Prod.mk.inj h3
          have H6 : Hid (⟨#[]⟩ = Y ∧ 4 = c) := ⟨h4, h5⟩
          clear HY2 h3 h4 h5 hl hls
          go_wp2_with (go_at_call 59; refine HE.mono ?_; rintro e w9 ⟨rfl, hb9⟩; clear HE)
          go_ret2
          exact ⟨by rw [← H6.out.1, ← H6.out.2]; rfl, bel_stepK HB3 (by assumption)⟩
      · obtain ⟨a, cap, rfl, hI⟩ := ints_of_row ho
        have HB3 := bel_stepK hB1 hb
        clear HP hb q1
        have HE := specEncodeX a cap L w3 hI hl3 hx3
        rw [enc1R] at HE
        have h3 := HY.out
        rw [hg] at h3
        obtain ⟨h4, h5⟩ := Prod.mk.inj (show ((⟨#[]⟩ : ByteArray), (4 : Int)) = (Y, c) from h3)
        have H6 : Hid (⟨#[]⟩ = Y ∧ 4 = c) := ⟨h4, h5⟩
        clear hg ho hI HY HOK h3 h4 h5
        go_wp2_with (go_at_call 59; refine HE.mono ?_; rintro e w9 ⟨rfl, hb9⟩; clear HE)
        go_ret2
        exact ⟨by rw [← H6.out.1, ← H6.out.2]; rfl, bel_stepK HB3 (by assumption)⟩

set_option maxRecDepth 2000000 in
set_option maxHeartbeats 1600000 in
theorem specLift2 (M : Int) (D : ByteArray) (at' count : Int) (hD : D.size ≤ 1048576) (h0 : 0 ≤ at') (h1 : at' ≤ 4294967295) (c0 : 0 ≤ count) (c1 : count ≤ 4294967295)  (w : World) :
    Calls Tryd.prog 35 #[.agg #[.int .i64 M, .string D], .int .i64 at', .int .i64 count, .int .i64 2] w fun e w' => e = .returned (.tuple #[.string (txIn D at' count 2).1, .int .i64 (txIn D at' count 2).2]) ∧ Below w.heap.size w w' := by
  have hsz := txSz_in (code := 2) c0 c1
  have hze : txSz count 2 = count * 2 := by unfold txSz; rw [if_neg (by omega), if_pos rfl]
  have hwe : txWide count 2 = false := by unfold txWide; rw [if_neg (by omega), if_pos rfl]
  have hae : txAl 2 = 2 := rfl
  obtain ⟨A, hA⟩ : ∃ A : Nat, at' = (A : Int) := ⟨at'.toNat, by omega⟩
  obtain ⟨Z, hZ⟩ : ∃ Z : Nat, txSz count 2 = (Z : Int) := ⟨(txSz count 2).toNat, by omega⟩
  obtain ⟨n, hn⟩ : ∃ n : Int, (D.size : Int) = n := ⟨_, rfl⟩
  have LI := l5Inside M D n hn (by omega) (A : Int) (Z : Int) (by omega) (by omega) (by omega)
  obtain ⟨F, hF⟩ : ∃ F, decide ((Z : Int) ≤ n - (A : Int)) = F := ⟨_, rfl⟩
  obtain ⟨m, hm⟩ : ∃ m, (A : Int) % 2 = m := ⟨_, rfl⟩
  obtain ⟨B, hB⟩ : ∃ B, decide (m = 0) = B := ⟨_, rfl⟩
  have t1 : (A : Int).tmod 2 = m := by rw [← hm]; exact Int.tmod_eq_emod_of_nonneg (by omega)
  have hmb : (m == 0) = B := by rw [← hB]; by_cases h : m = 0 <;> simp [h]
  have hmn : (m != 0) = !B := by unfold bne; rw [hmb]
  have hfit : F = true → A + Z ≤ D.size := fun h => by rw [h] at hF; simp at hF; omega
  have HX : Hid (txIn D at' count 2 = if (B && F) = true then txOut (txPts 2 false (D.extract A (A + Z))) else (⟨#[]⟩, 3)) := by
    unfold Hid txIn txFits
    rw [hwe, hae, hA, hZ, hn, hF, hm, hB]
    simp
  rw [HX.out]
  rw [hF] at LI
  rw [hze] at hZ
  subst hA
  have v0 : wrap64 ((A : Int) + (Z : Int)) = (A : Int) + (Z : Int) := by unfold wrap64; omega
  have v1 : wrap64 (2 * count) = (Z : Int) := by unfold wrap64; omega
  clear hZ
  clear hF hB hm HX hsz h0 h1 c0 c1 hze hwe hae hmb
  obtain ⟨g, hgs⟩ : ∃ g, w.heap.size = g := ⟨_, rfl⟩
  cases B with
  | false =>
    simp only [Bool.false_and, Bool.false_eq_true, if_false]
    clear hfit v0 LI hn
    go_enter Tryd.func35, Tryd.ntmps35
    go_wp2
    go_ret2
    refine ⟨rfl, ?_⟩
    (repeat (first | refine Below.alloc ?_ (by first | (simp; done) | (simp; omega)) _ | refine Below.setCell ?_ (by first | (simp; done) | (simp; omega)) _ | refine bel_dN ?_ _ | refine Below.drew ?_ | exact Below.refl _ _))
  | true =>
    simp only [Bool.true_and]
    cases F with
    | false =>
      simp only [Bool.false_eq_true, if_false]
      clear hfit v0
      go_enter Tryd.func35, Tryd.ntmps35
      go_wp2_with fail
      refine (LI _).mono ?_
      rintro e w1 ⟨rfl, B1⟩
      have hB1 : Below w.heap.size w w1 := by ((repeat (first | refine bel_alloc ?_ _ | refine bel_dN ?_ _ | refine Below.drew ?_ | refine Below.setCell ?_ (by first | (simp; done) | (simp; omega)) _)); refine bel_step ?_ B1; (repeat (first | refine bel_alloc ?_ _ | refine bel_dN ?_ _ | refine Below.drew ?_ | refine Below.setCell ?_ (by first | (simp; done) | (simp; omega)) _)); exact Below.refl _ _)
      clear LI B1
      go_wp2
      go_ret2
      exact ⟨rfl, hB1⟩
    | true =>
      simp only [if_true]
      have hf := hfit rfl
      have hsl := slice_mem (P := Tryd.prog) 9 Tryd.underlying9 D A Z hf
      have hbs : (D.extract A (A + Z)).size ≤ 1048576 := by simp only [ByteArray.size_extract]; omega
      have HOK : Hid (∀ L, txPts 2 false (D.extract A (A + Z)) = some L → okL L = true) := fun L h => txPts_ok h
      have HP := specDecodeX (D.extract A (A + Z)) 2 hbs
      rw [show gd 2 (D.extract A (A + Z)) = txPts 2 false (D.extract A (A + Z)) from rfl] at HP
      generalize D.extract A (A + Z) = X at *
      generalize txPts 2 false X = R at *
      clear hfit hf hbs hD
      obtain ⟨Y, c, hYc⟩ : ∃ Y c, txOut R = (Y, c) := ⟨_, _, rfl⟩
      rw [hYc]
      have HY : Hid (txOut R = (Y, c)) := hYc
      clear hYc
      go_enter Tryd.func35, Tryd.ntmps35
      go_wp2_with fail
      refine (LI _).mono ?_
      rintro e w1 ⟨rfl, B1⟩
      have hs1 := B1.size
      simp at hs1
      have q1 : w1.cell? ⟨g, 1, none⟩ = some (.string D) := keepCell B1 (by simp; omega) (newCell (by omega) rfl)
      have hB1 : Below w.heap.size w w1 := by ((repeat (first | refine bel_alloc ?_ _ | refine bel_dN ?_ _ | refine Below.drew ?_ | refine Below.setCell ?_ (by first | (simp; done) | (simp; omega)) _)); refine bel_step ?_ B1; (repeat (first | refine bel_alloc ?_ _ | refine bel_dN ?_ _ | refine Below.drew ?_ | refine Below.setCell ?_ (by first | (simp; done) | (simp; omega)) _)); exact Below.refl _ _)
      clear LI B1
      go_wp2_with fail
      refine (HP _).mono ?_
      rintro e w3 ⟨⟨L, v, hg, rfl, ho⟩ | ⟨hg, L, v, rfl, ho, hl3, hx3⟩, hb⟩
      · obtain ⟨a, cap, rfl, hI⟩ := ints_of_row ho
        obtain ⟨hl3, hx3⟩ := okL_in (HOK.out L hg)
        have HB3 := bel_stepK hB1 hb
        clear HP hb q1
        have HE := specEncodeX a cap L w3 hI hl3 hx3
        rw [enc1R] at HE
        have HY2 : Hid ((if (encL 1 L).length ≤ 200 then ((⟨(encL 1 L).toArray⟩ : ByteArray), (0 : Int)) else (⟨#[]⟩, 4)) = (Y, c)) := by have := HY.out; rw [hg] at this; exact this
        have hls : (ByteArray.mk (encL 1 L).toArray).size = (encL 1 L).length := utf_len _
        generalize encL 1 L = E at *
        obtain ⟨S, hS⟩ : ∃ S, ByteArray.mk E.toArray = S := ⟨_, rfl⟩
        rw [hS] at HE HY2 hls
        clear hg ho hI HY HOK hS
        by_cases hl : E.length ≤ 200
        · have hl' : ¬ (200 : Int) < (S.size : Int) := by omega
          have h3 := HY2.out
          rw [if_pos hl] at h3
          obtain ⟨h4, h5⟩ := Prod.mk.inj h3
          have H6 : Hid (S = Y ∧ 0 = c) := ⟨h4, h5⟩
          clear HY2 h3 h4 h5 hl hls
          go_wp2_with (go_at_call 59; refine HE.mono ?_; rintro e w9 ⟨rfl, hb9⟩; clear HE)
          go_ret2
          exact ⟨by rw [H6.out.1, ← H6.out.2]; rfl, bel_stepK HB3 (by assumption)⟩
        · have hl' : (200 : Int) < (S.size : Int) := by omega
          have h3 := HY2.out
          rw [if_neg hl] at h3
          obtain ⟨h4, h5⟩ := Prod.mk.inj h3
          have H6 : Hid (⟨#[]⟩ = Y ∧ 4 = c) := ⟨h4, h5⟩
          clear HY2 h3 h4 h5 hl hls
          go_wp2_with (go_at_call 59; refine HE.mono ?_; rintro e w9 ⟨rfl, hb9⟩; clear HE)
          go_ret2
          exact ⟨by rw [← H6.out.1, ← H6.out.2]; rfl, bel_stepK HB3 (by assumption)⟩
      · obtain ⟨a, cap, rfl, hI⟩ := ints_of_row ho
        have HB3 := bel_stepK hB1 hb
        clear HP hb q1
        have HE := specEncodeX a cap L w3 hI hl3 hx3
        rw [enc1R] at HE
        have h3 := HY.out
        rw [hg] at h3
        obtain ⟨h4, h5⟩ := Prod.mk.inj (show ((⟨#[]⟩ : ByteArray), (4 : Int)) = (Y, c) from h3)
        have H6 : Hid (⟨#[]⟩ = Y ∧ 4 = c) := ⟨h4, h5⟩
        clear hg ho hI HY HOK h3 h4 h5
        go_wp2_with (go_at_call 59; refine HE.mono ?_; rintro e w9 ⟨rfl, hb9⟩; clear HE)
        go_ret2
        exact ⟨by rw [← H6.out.1, ← H6.out.2]; rfl, bel_stepK HB3 (by assumption)⟩

set_option maxRecDepth 2000000 in
set_option maxHeartbeats 1600000 in
theorem specLift3w (M : Int) (D : ByteArray) (at' count : Int) (hD : D.size ≤ 1048576) (h0 : 0 ≤ at') (h1 : at' ≤ 4294967295) (c0 : 0 ≤ count) (c1 : count ≤ 4294967295) (hw : 2147483648 ≤ count) (w : World) :
    Calls Tryd.prog 35 #[.agg #[.int .i64 M, .string D], .int .i64 at', .int .i64 count, .int .i64 3] w fun e w' => e = .returned (.tuple #[.string (txIn D at' count 3).1, .int .i64 (txIn D at' count 3).2]) ∧ Below w.heap.size w w' := by
  have hsz := txSz_in (code := 3) c0 c1
  have hze : txSz count 3 = (count - 2147483648) * 2 := by unfold txSz; rw [if_neg (by omega), if_neg (by omega), if_pos hw]
  have hwe : txWide count 3 = true := by unfold txWide; rw [if_neg (by omega), if_neg (by omega)]; simpa using hw
  have hae : txAl 3 = 2 := rfl
  obtain ⟨A, hA⟩ : ∃ A : Nat, at' = (A : Int) := ⟨at'.toNat, by omega⟩
  obtain ⟨Z, hZ⟩ : ∃ Z : Nat, txSz count 3 = (Z : Int) := ⟨(txSz count 3).toNat, by omega⟩
  obtain ⟨n, hn⟩ : ∃ n : Int, (D.size : Int) = n := ⟨_, rfl⟩
  have LI := l5Inside M D n hn (by omega) (A : Int) (Z : Int) (by omega) (by omega) (by omega)
  obtain ⟨F, hF⟩ : ∃ F, decide ((Z : Int) ≤ n - (A : Int)) = F := ⟨_, rfl⟩
  obtain ⟨m, hm⟩ : ∃ m, (A : Int) % 2 = m := ⟨_, rfl⟩
  obtain ⟨B, hB⟩ : ∃ B, decide (m = 0) = B := ⟨_, rfl⟩
  have t1 : (A : Int).tmod 2 = m := by rw [← hm]; exact Int.tmod_eq_emod_of_nonneg (by omega)
  have hmb : (m == 0) = B := by rw [← hB]; by_cases h : m = 0 <;> simp [h]
  have hmn : (m != 0) = !B := by unfold bne; rw [hmb]
  have hfit : F = true → A + Z ≤ D.size := fun h => by rw [h] at hF; simp at hF; omega
  have HX : Hid (txIn D at' count 3 = if (B && F) = true then txOut (txPts 3 true (D.extract A (A + Z))) else (⟨#[]⟩, 3)) := by
    unfold Hid txIn txFits
    rw [hwe, hae, hA, hZ, hn, hF, hm, hB]
    simp
  rw [HX.out]
  rw [hF] at LI
  rw [hze] at hZ
  subst hA
  have v0 : wrap64 ((A : Int) + (Z : Int)) = (A : Int) + (Z : Int) := by unfold wrap64; omega
  have v1 : wrap64 (count - 2147483648) = count - 2147483648 := by unfold wrap64; omega
  have v2 : wrap64 (2 * (count - 2147483648)) = (Z : Int) := by unfold wrap64; omega
  have d1 : decide (2147483648 ≤ count) = true := by simpa using hw
  clear hZ hw
  clear hF hB hm HX hsz h0 h1 c0 c1 hze hwe hae hmb
  obtain ⟨g, hgs⟩ : ∃ g, w.heap.size = g := ⟨_, rfl⟩
  cases B with
  | false =>
    simp only [Bool.false_and, Bool.false_eq_true, if_false]
    clear hfit v0 LI hn
    go_enter Tryd.func35, Tryd.ntmps35
    go_wp2
    go_ret2
    refine ⟨rfl, ?_⟩
    (repeat (first | refine Below.alloc ?_ (by first | (simp; done) | (simp; omega)) _ | refine Below.setCell ?_ (by first | (simp; done) | (simp; omega)) _ | refine bel_dN ?_ _ | refine Below.drew ?_ | exact Below.refl _ _))
  | true =>
    simp only [Bool.true_and]
    cases F with
    | false =>
      simp only [Bool.false_eq_true, if_false]
      clear hfit v0
      go_enter Tryd.func35, Tryd.ntmps35
      go_wp2_with fail
      refine (LI _).mono ?_
      rintro e w1 ⟨rfl, B1⟩
      have hB1 : Below w.heap.size w w1 := by ((repeat (first | refine bel_alloc ?_ _ | refine bel_dN ?_ _ | refine Below.drew ?_ | refine Below.setCell ?_ (by first | (simp; done) | (simp; omega)) _)); refine bel_step ?_ B1; (repeat (first | refine bel_alloc ?_ _ | refine bel_dN ?_ _ | refine Below.drew ?_ | refine Below.setCell ?_ (by first | (simp; done) | (simp; omega)) _)); exact Below.refl _ _)
      clear LI B1
      go_wp2
      go_ret2
      exact ⟨rfl, hB1⟩
    | true =>
      simp only [if_true]
      have hf := hfit rfl
      have hsl := slice_mem (P := Tryd.prog) 9 Tryd.underlying9 D A Z hf
      have hbs : (D.extract A (A + Z)).size ≤ 1048576 := by simp only [ByteArray.size_extract]; omega
      have HOK : Hid (∀ L, txPts 3 true (D.extract A (A + Z)) = some L → okL L = true) := fun L h => txPts_ok h
      have HP := specDecodeY (D.extract A (A + Z)) hbs
      have HQ := specCompactPoints (D.extract A (A + Z)) true hbs
      rw [show cpF true (D.extract A (A + Z)) = txPts 3 true (D.extract A (A + Z)) from rfl] at HQ
      generalize D.extract A (A + Z) = X at *
      generalize txPts 3 true X = R at *
      clear hfit hf hbs hD
      obtain ⟨Y, c, hYc⟩ : ∃ Y c, txOut R = (Y, c) := ⟨_, _, rfl⟩
      rw [hYc]
      have HY : Hid (txOut R = (Y, c)) := hYc
      clear hYc
      go_enter Tryd.func35, Tryd.ntmps35
      go_wp2_with fail
      refine (LI _).mono ?_
      rintro e w1 ⟨rfl, B1⟩
      have hs1 := B1.size
      simp at hs1
      have q1 : w1.cell? ⟨g, 1, none⟩ = some (.string D) := keepCell B1 (by simp; omega) (newCell (by omega) rfl)
      have hB1 : Below w.heap.size w w1 := by ((repeat (first | refine bel_alloc ?_ _ | refine bel_dN ?_ _ | refine Below.drew ?_ | refine Below.setCell ?_ (by first | (simp; done) | (simp; omega)) _)); refine bel_step ?_ B1; (repeat (first | refine bel_alloc ?_ _ | refine bel_dN ?_ _ | refine Below.drew ?_ | refine Below.setCell ?_ (by first | (simp; done) | (simp; omega)) _)); exact Below.refl _ _)
      clear LI B1
      go_wp2_with fail
      refine (HP _).mono ?_
      rintro e w2 ⟨a0, n0, k0, b0, rfl, hb⟩
      have HB2 := bel_stepK hB1 hb
      clear HP hb q1 hB1
      go_wp2_with fail
      refine (HQ _).mono ?_
      rintro e w3 ⟨⟨L, v, hg, rfl, ho⟩ | ⟨hg, rfl⟩, hb⟩
      · obtain ⟨a, cap, rfl, hI⟩ := ints_of_row ho
        obtain ⟨hl3, hx3⟩ := okL_in (HOK.out L hg)
        have HB3 := bel_stepK HB2 hb
        clear HQ hb
        have HE := specEncodeX a cap L w3 hI hl3 hx3
        rw [enc1R] at HE
        have HY2 : Hid ((if (encL 1 L).length ≤ 200 then ((⟨(encL 1 L).toArray⟩ : ByteArray), (0 : Int)) else (⟨#[]⟩, 4)) = (Y, c)) := by have := HY.out; rw [hg] at this; exact this
        have hls : (ByteArray.mk (encL 1 L).toArray).size = (encL 1 L).length := utf_len _
        generalize encL 1 L = E at *
        obtain ⟨S, hS⟩ : ∃ S, ByteArray.mk E.toArray = S := ⟨_, rfl⟩
        rw [hS] at HE HY2 hls
        clear hg ho hI HY HOK hS
        by_cases hl : E.length ≤ 200
        · have hl' : ¬ (200 : Int) < (S.size : Int) := by omega
          have h3 := HY2.out
          rw [if_pos hl] at h3
          obtain ⟨h4, h5⟩ := Prod.mk.inj h3
          have H6 : Hid (S = Y ∧ 0 = c) := ⟨h4, h5⟩
          clear HY2 h3 h4 h5 hl hls
          go_wp2_with (go_at_call 59; refine HE.mono ?_; rintro e w9 ⟨rfl, hb9⟩; clear HE)
          go_ret2
          exact ⟨by rw [H6.out.1, ← H6.out.2]; rfl, bel_stepK HB3 (by assumption)⟩
        · have hl' : (200 : Int) < (S.size : Int) := by omega
          have h3 := HY2.out
          rw [if_neg hl] at h3
          obtain ⟨h4, h5⟩ := Prod.mk.inj h3
          have H6 : Hid (⟨#[]⟩ = Y ∧ 4 = c) := ⟨h4, h5⟩
          clear HY2 h3 h4 h5 hl hls
          go_wp2_with (go_at_call 59; refine HE.mono ?_; rintro e w9 ⟨rfl, hb9⟩; clear HE)
          go_ret2
          exact ⟨by rw [← H6.out.1, ← H6.out.2]; rfl, bel_stepK HB3 (by assumption)⟩
      · have HB3 := bel_stepK HB2 hb
        clear HQ hb
        obtain ⟨a, ha⟩ : ∃ a : Option Addr, a = none := ⟨_, rfl⟩
        obtain ⟨L, hL0⟩ : ∃ L : List Int, L = [] := ⟨_, rfl⟩
        have HE := specEncodeX none 0 [] w3 (fun h => absurd rfl h) (by simp) (fun x hx => by simp at hx)
        rw [enc1R] at HE
        have h3 := HY.out
        rw [hg] at h3
        obtain ⟨h4, h5⟩ := Prod.mk.inj (show ((⟨#[]⟩ : ByteArray), (4 : Int)) = (Y, c) from h3)
        have H6 : Hid (⟨#[]⟩ = Y ∧ 4 = c) := ⟨h4, h5⟩
        clear hg HY HOK h3 h4 h5
        go_wp2_with (go_at_call 59; refine HE.mono ?_; rintro e w9 ⟨rfl, hb9⟩; clear HE)
        go_ret2
        exact ⟨by rw [← H6.out.1, ← H6.out.2]; rfl, bel_stepK HB3 (by assumption)⟩

set_option maxRecDepth 2000000 in
set_option maxHeartbeats 1600000 in
theorem specLift3n (M : Int) (D : ByteArray) (at' count : Int) (hD : D.size ≤ 1048576) (h0 : 0 ≤ at') (h1 : at' ≤ 4294967295) (c0 : 0 ≤ count) (c1 : count ≤ 4294967295) (hw : ¬ 2147483648 ≤ count) (w : World) :
    Calls Tryd.prog 35 #[.agg #[.int .i64 M, .string D], .int .i64 at', .int .i64 count, .int .i64 3] w fun e w' => e = .returned (.tuple #[.string (txIn D at' count 3).1, .int .i64 (txIn D at' count 3).2]) ∧ Below w.heap.size w w' := by
  have hsz := txSz_in (code := 3) c0 c1
  have hze : txSz count 3 = count := by unfold txSz; rw [if_neg (by omega), if_neg (by omega), if_neg hw]
  have hwe : txWide count 3 = false := by unfold txWide; rw [if_neg (by omega), if_neg (by omega)]; simpa using hw
  have hae : txAl 3 = 2 := rfl
  obtain ⟨A, hA⟩ : ∃ A : Nat, at' = (A : Int) := ⟨at'.toNat, by omega⟩
  obtain ⟨Z, hZ⟩ : ∃ Z : Nat, txSz count 3 = (Z : Int) := ⟨(txSz count 3).toNat, by omega⟩
  obtain ⟨n, hn⟩ : ∃ n : Int, (D.size : Int) = n := ⟨_, rfl⟩
  have LI := l5Inside M D n hn (by omega) (A : Int) (Z : Int) (by omega) (by omega) (by omega)
  obtain ⟨F, hF⟩ : ∃ F, decide ((Z : Int) ≤ n - (A : Int)) = F := ⟨_, rfl⟩
  obtain ⟨m, hm⟩ : ∃ m, (A : Int) % 2 = m := ⟨_, rfl⟩
  obtain ⟨B, hB⟩ : ∃ B, decide (m = 0) = B := ⟨_, rfl⟩
  have t1 : (A : Int).tmod 2 = m := by rw [← hm]; exact Int.tmod_eq_emod_of_nonneg (by omega)
  have hmb : (m == 0) = B := by rw [← hB]; by_cases h : m = 0 <;> simp [h]
  have hmn : (m != 0) = !B := by unfold bne; rw [hmb]
  have hfit : F = true → A + Z ≤ D.size := fun h => by rw [h] at hF; simp at hF; omega
  have HX : Hid (txIn D at' count 3 = if (B && F) = true then txOut (txPts 3 false (D.extract A (A + Z))) else (⟨#[]⟩, 3)) := by
    unfold Hid txIn txFits
    rw [hwe, hae, hA, hZ, hn, hF, hm, hB]
    simp
  rw [HX.out]
  rw [hF] at LI
  rw [hze] at hZ
  subst hA
  have v0 : wrap64 ((A : Int) + (Z : Int)) = (A : Int) + (Z : Int) := by unfold wrap64; omega
  have d1 : decide (2147483648 ≤ count) = false := by simpa using hw
  subst hZ
  clear hw
  clear hF hB hm HX hsz h0 h1 c0 c1 hze hwe hae hmb
  obtain ⟨g, hgs⟩ : ∃ g, w.heap.size = g := ⟨_, rfl⟩
  cases B with
  | false =>
    simp only [Bool.false_and, Bool.false_eq_true, if_false]
    clear hfit v0 LI hn
    go_enter Tryd.func35, Tryd.ntmps35
    go_wp2
    go_ret2
    refine ⟨rfl, ?_⟩
    (repeat (first | refine Below.alloc ?_ (by first | (simp; done) | (simp; omega)) _ | refine Below.setCell ?_ (by first | (simp; done) | (simp; omega)) _ | refine bel_dN ?_ _ | refine Below.drew ?_ | exact Below.refl _ _))
  | true =>
    simp only [Bool.true_and]
    cases F with
    | false =>
      simp only [Bool.false_eq_true, if_false]
      clear hfit v0
      go_enter Tryd.func35, Tryd.ntmps35
      go_wp2_with fail
      refine (LI _).mono ?_
      rintro e w1 ⟨rfl, B1⟩
      have hB1 : Below w.heap.size w w1 := by ((repeat (first | refine bel_alloc ?_ _ | refine bel_dN ?_ _ | refine Below.drew ?_ | refine Below.setCell ?_ (by first | (simp; done) | (simp; omega)) _)); refine bel_step ?_ B1; (repeat (first | refine bel_alloc ?_ _ | refine bel_dN ?_ _ | refine Below.drew ?_ | refine Below.setCell ?_ (by first | (simp; done) | (simp; omega)) _)); exact Below.refl _ _)
      clear LI B1
      go_wp2
      go_ret2
      exact ⟨rfl, hB1⟩
    | true =>
      simp only [if_true]
      have hf := hfit rfl
      have hsl := slice_mem (P := Tryd.prog) 9 Tryd.underlying9 D A Z hf
      have hbs : (D.extract A (A + Z)).size ≤ 1048576 := by simp only [ByteArray.size_extract]; omega
      have HOK : Hid (∀ L, txPts 3 false (D.extract A (A + Z)) = some L → okL L = true) := fun L h => txPts_ok h
      have HP := specDecodeY (D.extract A (A + Z)) hbs
      have HQ := specCompactPoints (D.extract A (A + Z)) false hbs
      rw [show cpF false (D.extract A (A + Z)) = txPts 3 false (D.extract A (A + Z)) from rfl] at HQ
      generalize D.extract A (A + Z) = X at *
      generalize txPts 3 false X = R at *
      clear hfit hf hbs hD
      obtain ⟨Y, c, hYc⟩ : ∃ Y c, txOut R = (Y, c) := ⟨_, _, rfl⟩
      rw [hYc]
      have HY : Hid (txOut R = (Y, c)) := hYc
      clear hYc
      go_enter Tryd.func35, Tryd.ntmps35
      go_wp2_with fail
      refine (LI _).mono ?_
      rintro e w1 ⟨rfl, B1⟩
      have hs1 := B1.size
      simp at hs1
      have q1 : w1.cell? ⟨g, 1, none⟩ = some (.string D) := keepCell B1 (by simp; omega) (newCell (by omega) rfl)
      have hB1 : Below w.heap.size w w1 := by ((repeat (first | refine bel_alloc ?_ _ | refine bel_dN ?_ _ | refine Below.drew ?_ | refine Below.setCell ?_ (by first | (simp; done) | (simp; omega)) _)); refine bel_step ?_ B1; (repeat (first | refine bel_alloc ?_ _ | refine bel_dN ?_ _ | refine Below.drew ?_ | refine Below.setCell ?_ (by first | (simp; done) | (simp; omega)) _)); exact Below.refl _ _)
      clear LI B1
      go_wp2_with fail
      refine (HP _).mono ?_
      rintro e w2 ⟨a0, n0, k0, b0, rfl, hb⟩
      have HB2 := bel_stepK hB1 hb
      clear HP hb q1 hB1
      go_wp2_with fail
      refine (HQ _).mono ?_
      rintro e w3 ⟨⟨L, v, hg, rfl, ho⟩ | ⟨hg, rfl⟩, hb⟩
      · obtain ⟨a, cap, rfl, hI⟩ := ints_of_row ho
        obtain ⟨hl3, hx3⟩ := okL_in (HOK.out L hg)
        have HB3 := bel_stepK HB2 hb
        clear HQ hb
        have HE := specEncodeX a cap L w3 hI hl3 hx3
        rw [enc1R] at HE
        have HY2 : Hid ((if (encL 1 L).length ≤ 200 then ((⟨(encL 1 L).toArray⟩ : ByteArray), (0 : Int)) else (⟨#[]⟩, 4)) = (Y, c)) := by have := HY.out; rw [hg] at this; exact this
        have hls : (ByteArray.mk (encL 1 L).toArray).size = (encL 1 L).length := utf_len _
        generalize encL 1 L = E at *
        obtain ⟨S, hS⟩ : ∃ S, ByteArray.mk E.toArray = S := ⟨_, rfl⟩
        rw [hS] at HE HY2 hls
        clear hg ho hI HY HOK hS
        by_cases hl : E.length ≤ 200
        · have hl' : ¬ (200 : Int) < (S.size : Int) := by omega
          have h3 := HY2.out
          rw [if_pos hl] at h3
          obtain ⟨h4, h5⟩ := Prod.mk.inj h3
          have H6 : Hid (S = Y ∧ 0 = c) := ⟨h4, h5⟩
          clear HY2 h3 h4 h5 hl hls
          go_wp2_with (go_at_call 59; refine HE.mono ?_; rintro e w9 ⟨rfl, hb9⟩; clear HE)
          go_ret2
          exact ⟨by rw [H6.out.1, ← H6.out.2]; rfl, bel_stepK HB3 (by assumption)⟩
        · have hl' : (200 : Int) < (S.size : Int) := by omega
          have h3 := HY2.out
          rw [if_neg hl] at h3
          obtain ⟨h4, h5⟩ := Prod.mk.inj h3
          have H6 : Hid (⟨#[]⟩ = Y ∧ 4 = c) := ⟨h4, h5⟩
          clear HY2 h3 h4 h5 hl hls
          go_wp2_with (go_at_call 59; refine HE.mono ?_; rintro e w9 ⟨rfl, hb9⟩; clear HE)
          go_ret2
          exact ⟨by rw [← H6.out.1, ← H6.out.2]; rfl, bel_stepK HB3 (by assumption)⟩
      · have HB3 := bel_stepK HB2 hb
        clear HQ hb
        obtain ⟨a, ha⟩ : ∃ a : Option Addr, a = none := ⟨_, rfl⟩
        obtain ⟨L, hL0⟩ : ∃ L : List Int, L = [] := ⟨_, rfl⟩
        have HE := specEncodeX none 0 [] w3 (fun h => absurd rfl h) (by simp) (fun x hx => by simp at hx)
        rw [enc1R] at HE
        have h3 := HY.out
        rw [hg] at h3
        obtain ⟨h4, h5⟩ := Prod.mk.inj (show ((⟨#[]⟩ : ByteArray), (4 : Int)) = (Y, c) from h3)
        have H6 : Hid (⟨#[]⟩ = Y ∧ 4 = c) := ⟨h4, h5⟩
        clear hg HY HOK h3 h4 h5
        go_wp2_with (go_at_call 59; refine HE.mono ?_; rintro e w9 ⟨rfl, hb9⟩; clear HE)
        go_ret2
        exact ⟨by rw [← H6.out.1, ← H6.out.2]; rfl, bel_stepK HB3 (by assumption)⟩

theorem specLift (M : Int) (D : ByteArray) (at' count code : Int) (hD : D.size ≤ 1048576) (h0 : 0 ≤ at') (h1 : at' ≤ 4294967295) (c0 : 0 ≤ count) (c1 : count ≤ 4294967295) (hc : 1 ≤ code ∧ code ≤ 3) (w : World) :
    Calls Tryd.prog 35 #[.agg #[.int .i64 M, .string D], .int .i64 at', .int .i64 count, .int .i64 code] w fun e w' => e = .returned (.tuple #[.string (txIn D at' count code).1, .int .i64 (txIn D at' count code).2]) ∧ Below w.heap.size w w' := by
  obtain rfl | rfl | rfl : code = 1 ∨ code = 2 ∨ code = 3 := by omega
  · exact specLift1 M D at' count hD h0 h1 c0 c1 w
  · exact specLift2 M D at' count hD h0 h1 c0 c1 w
  · by_cases hw : 2147483648 ≤ count
    · exact specLift3w M D at' count hD h0 h1 c0 c1 hw w
    · exact specLift3n M D at' count hD h0 h1 c0 c1 hw w

end Go.Proofs.YtgepplddhmgifaaDoor

namespace Go.Proofs.YtgepplddhmgifaaDoor
open Go.ChangeShapes Go.WideShapes Go.ChangeAt Go.RowKit Go.PlainAid

def pl (n : Int) : Bool := decide (0 ≤ n) && decide (n ≤ 4294967295)
theorem pl_yes {n : Int} (h : pl n = true) : 0 ≤ n ∧ n ≤ 4294967295 := by simpa [pl] using h
def cdB (c : Int) : Bool := decide (1 ≤ c ∧ c ≤ 3)
def ltOk (M : Int) (D : ByteArray) (at' count code : Int) : Bool := good M D && (pl at' && (pl count && cdB code))
def ltV (M : Int) (D : ByteArray) (at' count code : Int) : Value :=
  if ltOk M D at' count code = true then .tuple #[.string (txIn D at' count code).1, .int .i64 (txIn D at' count code).2] else .tuple #[.string ⟨#[]⟩, .int .i64 1]
theorem ltV_form (M : Int) (D : ByteArray) (at' count code : Int) : ∃ x y, ltV M D at' count code = .tuple #[.string x, .int .i64 y] := by
  unfold ltV; split
  · exact ⟨_, _, rfl⟩
  · exact ⟨_, _, rfl⟩

theorem implIsPlace (n : Int) (w : World) : Calls Tryd.prog 37 #[.int .i64 n] w fun e w' => e = .returned (.bool (pl n)) ∧ w' = w := by
  by_cases h : 0 ≤ n
  · have d : decide (0 ≤ n) = true := by simpa using h
    rw [show pl n = decide (n ≤ 4294967295) by unfold pl; rw [d]; rfl]
    obtain ⟨r, hr⟩ : ∃ r, decide (n ≤ 4294967295) = r := ⟨_, rfl⟩
    rw [hr]
    clear h
    go_enter Tryd.func37, Tryd.ntmps37
    go_wp2
    go_ret
    exact ⟨rfl, rfl⟩
  · have d : decide (0 ≤ n) = false := by simpa using h
    rw [show pl n = false by unfold pl; rw [d]; rfl]
    clear h
    go_enter Tryd.func37, Tryd.ntmps37
    go_wp2
    go_ret
    exact ⟨rfl, rfl⟩

theorem specPlace (n : Int) (w : World) : Calls Tryd.prog 34 #[.int .i64 n] w fun e w' => e = .returned (.bool (pl n)) ∧ w' = w := by
  have IN := in_eq n 0 4294967295 (pl n) rfl
  generalize pl n = r at *
  go_enter Tryd.func34, Tryd.ntmps34
  go_wp2_with (go_at_call 39; refine (IN _).mono ?_; rintro e w' ⟨rfl, hw⟩; obtain rfl := hw.symm; clear IN)
  go_ret
  exact ⟨rfl, rfl⟩

set_option maxRecDepth 2000000 in
set_option maxHeartbeats 1600000 in
theorem implLiftText (M : Int) (D : ByteArray) (at' count code : Int) (hD : D.size ≤ 1048576) (w : World) (hT : Hid (UTabs w)) :
    Calls Tryd.prog 16 #[.agg #[.int .i64 M, .string D], .int .i64 at', .int .i64 count, .int .i64 code] w fun e w' => e = .returned (ltV M D at' count code) ∧ Below w.heap.size w w' := by
  have HG := mGoodI M D hD
  have HP := implIsPlace
  have HC := implCode code
  have hcd : decide (1 ≤ code ∧ code ≤ 3) = cdB code := rfl
  rw [hcd] at HC
  obtain ⟨g, hgs⟩ : ∃ g, w.heap.size = g := ⟨_, rfl⟩
  cases g1 : good M D with
  | false =>
    rw [show ltV M D at' count code = .tuple #[.string ⟨#[]⟩, .int .i64 1] by unfold ltV ltOk; rw [g1]; rfl]
    rw [g1] at HG
    clear hD g1 HP HC hcd
    go_enter Tryd.func16, Tryd.ntmps16
    go_wp2_with fail
    refine (HG _).mono ?_
    rintro e w1 ⟨rfl, B1⟩
    have hs := B1.size
    simp at hs
    have q0 : w1.cell? ⟨g, 0, none⟩ = some (.int .i64 M) := keepCell B1 (by simp; omega) (newCell (by omega) rfl)
    have q1 : w1.cell? ⟨g, 1, none⟩ = some (.string D) := keepCell B1 (by simp; omega) (newCell (by omega) rfl)
    have hB1 : Below w.heap.size w w1 := by ((repeat (first | refine bel_alloc ?_ _ | refine bel_dN ?_ _ | refine Below.drew ?_ | refine Below.setCell ?_ (by first | (simp; done) | (simp; omega)) _)); refine bel_step ?_ B1; (repeat (first | refine bel_alloc ?_ _ | refine bel_dN ?_ _ | refine Below.drew ?_ | refine Below.setCell ?_ (by first | (simp; done) | (simp; omega)) _)); exact Below.refl _ _)
    clear HG B1
    go_wp2
    go_ret2
    exact ⟨rfl, hB1⟩
  | true =>
    rw [g1] at HG
    cases g2 : pl at' with
    | false =>
      rw [show ltV M D at' count code = .tuple #[.string ⟨#[]⟩, .int .i64 1] by unfold ltV ltOk; rw [g1, g2]; rfl]
      clear hD g1 hcd
      go_enter Tryd.func16, Tryd.ntmps16
      go_wp2_with fail
      refine (HG _).mono ?_
      rintro e w1 ⟨rfl, B1⟩
      have hs := B1.size
      simp at hs
      have q0 : w1.cell? ⟨g, 0, none⟩ = some (.int .i64 M) := keepCell B1 (by simp; omega) (newCell (by omega) rfl)
      have q1 : w1.cell? ⟨g, 1, none⟩ = some (.string D) := keepCell B1 (by simp; omega) (newCell (by omega) rfl)
      have hB1 : Below w.heap.size w w1 := by ((repeat (first | refine bel_alloc ?_ _ | refine bel_dN ?_ _ | refine Below.drew ?_ | refine Below.setCell ?_ (by first | (simp; done) | (simp; omega)) _)); refine bel_step ?_ B1; (repeat (first | refine bel_alloc ?_ _ | refine bel_dN ?_ _ | refine Below.drew ?_ | refine Below.setCell ?_ (by first | (simp; done) | (simp; omega)) _)); exact Below.refl _ _)
      clear HG B1
      go_wp2_with (first | (go_at_call 37; refine (HP _ _).mono ?_; rintro e w' ⟨rfl, hw⟩; obtain rfl := hw.symm; clear hw) | (go_at_call 31; refine (HC _).mono ?_; rintro e w' ⟨rfl, hw⟩; obtain rfl := hw.symm; clear hw))
      go_ret2
      exact ⟨rfl, hB1⟩
    | true =>
      cases g3 : pl count with
      | false =>
        rw [show ltV M D at' count code = .tuple #[.string ⟨#[]⟩, .int .i64 1] by unfold ltV ltOk; rw [g1, g2, g3]; rfl]
        clear hD g1 hcd
        go_enter Tryd.func16, Tryd.ntmps16
        go_wp2_with fail
        refine (HG _).mono ?_
        rintro e w1 ⟨rfl, B1⟩
        have hs := B1.size
        simp at hs
        have q0 : w1.cell? ⟨g, 0, none⟩ = some (.int .i64 M) := keepCell B1 (by simp; omega) (newCell (by omega) rfl)
        have q1 : w1.cell? ⟨g, 1, none⟩ = some (.string D) := keepCell B1 (by simp; omega) (newCell (by omega) rfl)
        have hB1 : Below w.heap.size w w1 := by ((repeat (first | refine bel_alloc ?_ _ | refine bel_dN ?_ _ | refine Below.drew ?_ | refine Below.setCell ?_ (by first | (simp; done) | (simp; omega)) _)); refine bel_step ?_ B1; (repeat (first | refine bel_alloc ?_ _ | refine bel_dN ?_ _ | refine Below.drew ?_ | refine Below.setCell ?_ (by first | (simp; done) | (simp; omega)) _)); exact Below.refl _ _)
        clear HG B1
        go_wp2_with (first | (go_at_call 37; refine (HP _ _).mono ?_; rintro e w' ⟨rfl, hw⟩; obtain rfl := hw.symm; clear hw) | (go_at_call 31; refine (HC _).mono ?_; rintro e w' ⟨rfl, hw⟩; obtain rfl := hw.symm; clear hw))
        go_ret2
        exact ⟨rfl, hB1⟩
      | true =>
        cases g4 : cdB code with
        | false =>
          rw [show ltV M D at' count code = .tuple #[.string ⟨#[]⟩, .int .i64 1] by unfold ltV ltOk; rw [g1, g2, g3, g4]; rfl]
          clear hD g1 hcd
          go_enter Tryd.func16, Tryd.ntmps16
          go_wp2_with fail
          refine (HG _).mono ?_
          rintro e w1 ⟨rfl, B1⟩
          have hs := B1.size
          simp at hs
          have q0 : w1.cell? ⟨g, 0, none⟩ = some (.int .i64 M) := keepCell B1 (by simp; omega) (newCell (by omega) rfl)
          have q1 : w1.cell? ⟨g, 1, none⟩ = some (.string D) := keepCell B1 (by simp; omega) (newCell (by omega) rfl)
          have hB1 : Below w.heap.size w w1 := by ((repeat (first | refine bel_alloc ?_ _ | refine bel_dN ?_ _ | refine Below.drew ?_ | refine Below.setCell ?_ (by first | (simp; done) | (simp; omega)) _)); refine bel_step ?_ B1; (repeat (first | refine bel_alloc ?_ _ | refine bel_dN ?_ _ | refine Below.drew ?_ | refine Below.setCell ?_ (by first | (simp; done) | (simp; omega)) _)); exact Below.refl _ _)
          clear HG B1
          go_wp2_with (first | (go_at_call 37; refine (HP _ _).mono ?_; rintro e w' ⟨rfl, hw⟩; obtain rfl := hw.symm; clear hw) | (go_at_call 31; refine (HC _).mono ?_; rintro e w' ⟨rfl, hw⟩; obtain rfl := hw.symm; clear hw))
          go_ret2
          exact ⟨rfl, hB1⟩
        | true =>
          have p1 := pl_yes g2
          have p2 := pl_yes g3
          have HI : Hid (∀ W, Below w.heap.size w W → Calls Tryd.prog 38 #[.string D, .int .i64 at', .int .i64 count, .int .i64 code] W fun e w' => e = .returned (.tuple #[.string (txIn D at' count code).1, .int .i64 (txIn D at' count code).2]) ∧ Below W.heap.size W w') := fun W hW => implTextIn D at' count code hD p1.1 p1.2 p2.1 p2.2 (by simpa [cdB] using g4) W (Utf8Tabs_below hT.out hW)
          rw [show ltV M D at' count code = .tuple #[.string (txIn D at' count code).1, .int .i64 (txIn D at' count code).2] by unfold ltV ltOk; rw [g1, g2, g3, g4]; rfl]
          generalize (txIn D at' count code).1 = X at *
          generalize (txIn D at' count code).2 = c at *
          clear hD g1 p1 p2 hcd
          go_enter Tryd.func16, Tryd.ntmps16
          go_wp2_with fail
          refine (HG _).mono ?_
          rintro e w1 ⟨rfl, B1⟩
          have hs := B1.size
          simp at hs
          have q0 : w1.cell? ⟨g, 0, none⟩ = some (.int .i64 M) := keepCell B1 (by simp; omega) (newCell (by omega) rfl)
          have q1 : w1.cell? ⟨g, 1, none⟩ = some (.string D) := keepCell B1 (by simp; omega) (newCell (by omega) rfl)
          have hB1 : Below w.heap.size w w1 := by ((repeat (first | refine bel_alloc ?_ _ | refine bel_dN ?_ _ | refine Below.drew ?_ | refine Below.setCell ?_ (by first | (simp; done) | (simp; omega)) _)); refine bel_step ?_ B1; (repeat (first | refine bel_alloc ?_ _ | refine bel_dN ?_ _ | refine Below.drew ?_ | refine Below.setCell ?_ (by first | (simp; done) | (simp; omega)) _)); exact Below.refl _ _)
          clear HG B1
          have H9 := HI.out w1 hB1
          go_wp2_with (first | (go_at_call 37; refine (HP _ _).mono ?_; rintro e w' ⟨rfl, hw⟩; obtain rfl := hw.symm; clear hw) | (go_at_call 31; refine (HC _).mono ?_; rintro e w' ⟨rfl, hw⟩; obtain rfl := hw.symm; clear hw))
          refine H9.mono ?_
          rintro e w2 ⟨rfl, B2⟩
          clear H9 HI q0 q1
          go_wp2
          go_ret2
          exact ⟨rfl, bel_stepK hB1 B2⟩

set_option maxRecDepth 2000000 in
set_option maxHeartbeats 1600000 in
theorem specLiftText (M : Int) (D : ByteArray) (at' count code : Int) (hD : D.size ≤ 1048576) (w : World) :
    Calls Tryd.prog 14 #[.agg #[.int .i64 M, .string D], .int .i64 at', .int .i64 count, .int .i64 code] w fun e w' => e = .returned (ltV M D at' count code) ∧ Below w.heap.size w w' := by
  have HG := mGoodS M D hD
  have HP := specPlace
  have HC := specCode code
  have hcd : decide (1 ≤ code ∧ code ≤ 3) = cdB code := rfl
  rw [hcd] at HC
  obtain ⟨g, hgs⟩ : ∃ g, w.heap.size = g := ⟨_, rfl⟩
  cases g1 : good M D with
  | false =>
    rw [show ltV M D at' count code = .tuple #[.string ⟨#[]⟩, .int .i64 1] by unfold ltV ltOk; rw [g1]; rfl]
    rw [g1] at HG
    clear hD g1 HP HC hcd
    go_enter Tryd.func14, Tryd.ntmps14
    go_wp2_with fail
    refine (HG _).mono ?_
    rintro e w1 ⟨rfl, B1⟩
    have hs := B1.size
    simp at hs
    have q0 : w1.cell? ⟨g, 0, none⟩ = some (.int .i64 M) := keepCell B1 (by simp; omega) (newCell (by omega) rfl)
    have q1 : w1.cell? ⟨g, 1, none⟩ = some (.string D) := keepCell B1 (by simp; omega) (newCell (by omega) rfl)
    have hB1 : Below w.heap.size w w1 := by ((repeat (first | refine bel_alloc ?_ _ | refine bel_dN ?_ _ | refine Below.drew ?_ | refine Below.setCell ?_ (by first | (simp; done) | (simp; omega)) _)); refine bel_step ?_ B1; (repeat (first | refine bel_alloc ?_ _ | refine bel_dN ?_ _ | refine Below.drew ?_ | refine Below.setCell ?_ (by first | (simp; done) | (simp; omega)) _)); exact Below.refl _ _)
    clear HG B1
    go_wp2
    go_ret2
    exact ⟨rfl, hB1⟩
  | true =>
    rw [g1] at HG
    cases g2 : pl at' with
    | false =>
      rw [show ltV M D at' count code = .tuple #[.string ⟨#[]⟩, .int .i64 1] by unfold ltV ltOk; rw [g1, g2]; rfl]
      clear hD g1 hcd
      go_enter Tryd.func14, Tryd.ntmps14
      go_wp2_with fail
      refine (HG _).mono ?_
      rintro e w1 ⟨rfl, B1⟩
      have hs := B1.size
      simp at hs
      have q0 : w1.cell? ⟨g, 0, none⟩ = some (.int .i64 M) := keepCell B1 (by simp; omega) (newCell (by omega) rfl)
      have q1 : w1.cell? ⟨g, 1, none⟩ = some (.string D) := keepCell B1 (by simp; omega) (newCell (by omega) rfl)
      have hB1 : Below w.heap.size w w1 := by ((repeat (first | refine bel_alloc ?_ _ | refine bel_dN ?_ _ | refine Below.drew ?_ | refine Below.setCell ?_ (by first | (simp; done) | (simp; omega)) _)); refine bel_step ?_ B1; (repeat (first | refine bel_alloc ?_ _ | refine bel_dN ?_ _ | refine Below.drew ?_ | refine Below.setCell ?_ (by first | (simp; done) | (simp; omega)) _)); exact Below.refl _ _)
      clear HG B1
      go_wp2_with (first | (go_at_call 34; refine (HP _ _).mono ?_; rintro e w' ⟨rfl, hw⟩; obtain rfl := hw.symm; clear hw) | (go_at_call 28; refine (HC _).mono ?_; rintro e w' ⟨rfl, hw⟩; obtain rfl := hw.symm; clear hw))
      go_ret2
      exact ⟨rfl, hB1⟩
    | true =>
      cases g3 : pl count with
      | false =>
        rw [show ltV M D at' count code = .tuple #[.string ⟨#[]⟩, .int .i64 1] by unfold ltV ltOk; rw [g1, g2, g3]; rfl]
        clear hD g1 hcd
        go_enter Tryd.func14, Tryd.ntmps14
        go_wp2_with fail
        refine (HG _).mono ?_
        rintro e w1 ⟨rfl, B1⟩
        have hs := B1.size
        simp at hs
        have q0 : w1.cell? ⟨g, 0, none⟩ = some (.int .i64 M) := keepCell B1 (by simp; omega) (newCell (by omega) rfl)
        have q1 : w1.cell? ⟨g, 1, none⟩ = some (.string D) := keepCell B1 (by simp; omega) (newCell (by omega) rfl)
        have hB1 : Below w.heap.size w w1 := by ((repeat (first | refine bel_alloc ?_ _ | refine bel_dN ?_ _ | refine Below.drew ?_ | refine Below.setCell ?_ (by first | (simp; done) | (simp; omega)) _)); refine bel_step ?_ B1; (repeat (first | refine bel_alloc ?_ _ | refine bel_dN ?_ _ | refine Below.drew ?_ | refine Below.setCell ?_ (by first | (simp; done) | (simp; omega)) _)); exact Below.refl _ _)
        clear HG B1
        go_wp2_with (first | (go_at_call 34; refine (HP _ _).mono ?_; rintro e w' ⟨rfl, hw⟩; obtain rfl := hw.symm; clear hw) | (go_at_call 28; refine (HC _).mono ?_; rintro e w' ⟨rfl, hw⟩; obtain rfl := hw.symm; clear hw))
        go_ret2
        exact ⟨rfl, hB1⟩
      | true =>
        cases g4 : cdB code with
        | false =>
          rw [show ltV M D at' count code = .tuple #[.string ⟨#[]⟩, .int .i64 1] by unfold ltV ltOk; rw [g1, g2, g3, g4]; rfl]
          clear hD g1 hcd
          go_enter Tryd.func14, Tryd.ntmps14
          go_wp2_with fail
          refine (HG _).mono ?_
          rintro e w1 ⟨rfl, B1⟩
          have hs := B1.size
          simp at hs
          have q0 : w1.cell? ⟨g, 0, none⟩ = some (.int .i64 M) := keepCell B1 (by simp; omega) (newCell (by omega) rfl)
          have q1 : w1.cell? ⟨g, 1, none⟩ = some (.string D) := keepCell B1 (by simp; omega) (newCell (by omega) rfl)
          have hB1 : Below w.heap.size w w1 := by ((repeat (first | refine bel_alloc ?_ _ | refine bel_dN ?_ _ | refine Below.drew ?_ | refine Below.setCell ?_ (by first | (simp; done) | (simp; omega)) _)); refine bel_step ?_ B1; (repeat (first | refine bel_alloc ?_ _ | refine bel_dN ?_ _ | refine Below.drew ?_ | refine Below.setCell ?_ (by first | (simp; done) | (simp; omega)) _)); exact Below.refl _ _)
          clear HG B1
          go_wp2_with (first | (go_at_call 34; refine (HP _ _).mono ?_; rintro e w' ⟨rfl, hw⟩; obtain rfl := hw.symm; clear hw) | (go_at_call 28; refine (HC _).mono ?_; rintro e w' ⟨rfl, hw⟩; obtain rfl := hw.symm; clear hw))
          go_ret2
          exact ⟨rfl, hB1⟩
        | true =>
          have p1 := pl_yes g2
          have p2 := pl_yes g3
          have HI : Hid (∀ W, Below w.heap.size w W → Calls Tryd.prog 35 #[.agg #[.int .i64 M, .string D], .int .i64 at', .int .i64 count, .int .i64 code] W fun e w' => e = .returned (.tuple #[.string (txIn D at' count code).1, .int .i64 (txIn D at' count code).2]) ∧ Below W.heap.size W w') := fun W hW => specLift M D at' count code hD p1.1 p1.2 p2.1 p2.2 (by simpa [cdB] using g4) W
          rw [show ltV M D at' count code = .tuple #[.string (txIn D at' count code).1, .int .i64 (txIn D at' count code).2] by unfold ltV ltOk; rw [g1, g2, g3, g4]; rfl]
          generalize (txIn D at' count code).1 = X at *
          generalize (txIn D at' count code).2 = c at *
          clear hD g1 p1 p2 hcd
          go_enter Tryd.func14, Tryd.ntmps14
          go_wp2_with fail
          refine (HG _).mono ?_
          rintro e w1 ⟨rfl, B1⟩
          have hs := B1.size
          simp at hs
          have q0 : w1.cell? ⟨g, 0, none⟩ = some (.int .i64 M) := keepCell B1 (by simp; omega) (newCell (by omega) rfl)
          have q1 : w1.cell? ⟨g, 1, none⟩ = some (.string D) := keepCell B1 (by simp; omega) (newCell (by omega) rfl)
          have hB1 : Below w.heap.size w w1 := by ((repeat (first | refine bel_alloc ?_ _ | refine bel_dN ?_ _ | refine Below.drew ?_ | refine Below.setCell ?_ (by first | (simp; done) | (simp; omega)) _)); refine bel_step ?_ B1; (repeat (first | refine bel_alloc ?_ _ | refine bel_dN ?_ _ | refine Below.drew ?_ | refine Below.setCell ?_ (by first | (simp; done) | (simp; omega)) _)); exact Below.refl _ _)
          clear HG B1
          have H9 := HI.out w1 hB1
          go_wp2_with (first | (go_at_call 34; refine (HP _ _).mono ?_; rintro e w' ⟨rfl, hw⟩; obtain rfl := hw.symm; clear hw) | (go_at_call 28; refine (HC _).mono ?_; rintro e w' ⟨rfl, hw⟩; obtain rfl := hw.symm; clear hw))
          refine H9.mono ?_
          rintro e w2 ⟨rfl, B2⟩
          clear H9 HI q0 q1
          go_wp2
          go_ret2
          exact ⟨rfl, bel_stepK hB1 B2⟩

theorem memCellsL : Tryd.prog.cellsOf 23 = 2 := by kernel_rfl
set_option maxRecDepth 100000 in
theorem open_memory {H : Type} {enc : TypeId × Value → H} {W : World} {b0 : Nat} {v : Value} {d : DataW H} {p : List MemPlace} (hv : Value.okWide Tryd.prog W .any b0 23 v)
    (h : DataW.Trod enc Tryd.prog W 0 (fun _ => true) true 23 v d p) : ∃ M D, v = .agg #[.int .i64 M, .string D] ∧ D.size ≤ maxLen := by
  obtain ⟨⟨cs⟩, rfl, hsz⟩ := okWide_struct Tryd.underlying23 hv
  rw [memCellsL] at hsz
  obtain ⟨c0, c1, rfl⟩ : ∃ c0 c1, cs = [c0, c1] := by
    match cs, hsz with
    | [c0, c1], _ => exact ⟨c0, c1, rfl⟩
  obtain ⟨fuel, h0⟩ := h
  obtain ⟨ys, m, _, _, _, hlen2, hg⟩ := DataW.trod_struct Tryd.underlying23 h0
  have g0 : DataW.trod enc Tryd.prog W 0 (fun _ => true) true m 3 (List.take (Tryd.prog.cellsOf 3) [c0, c1]) = ys[0]? := hg 0 _ rfl
  have g1 : DataW.trod enc Tryd.prog W 0 (fun _ => true) true m 9 (List.take (Tryd.prog.cellsOf 9) [c1]) = ys[1]? := hg 1 _ rfl
  have l3 : ys.length = 2 := hlen2
  rw [List.getElem?_eq_getElem (by omega)] at g0 g1
  rw [intCells] at g0
  rw [show Tryd.prog.cellsOf 9 = 1 by kernel_rfl] at g1
  simp only [List.take_succ_cons, List.take_zero] at g0 g1
  obtain ⟨mx, hr0, _, _⟩ := DataW.trod_int Tryd.underlying3 g0
  obtain ⟨D, hr1, _, hD⟩ := DataW.trod_string Tryd.underlying9 g1
  simp at hr0 hr1
  subst hr0 hr1
  exact ⟨mx, D, rfl, hD⟩

set_option maxRecDepth 2000000 in
set_option maxHeartbeats 1600000 in
theorem liftText_walk (M : Int) (D : ByteArray) (a1 a2 a3 : Int) (wb : D.size ≤ maxLen) (_w1 : (Lit.int .i64 a1).wf = true) (_w2 : (Lit.int .i64 a2).wf = true) (_w3 : (Lit.int .i64 a3).wf = true) (w : World) (hT : UTabs w) :
    Calls Tryd.prog 5 #[.agg #[.int .i64 M, .string D], .int .i64 a1, .int .i64 a2, .int .i64 a3] w fun e w' => e = .returned (.bool true) ∧ Below w.heap.size w w' := by
  unfold maxLen at wb
  clear _w1 _w2 _w3
  obtain ⟨g, hgs⟩ : ∃ g, w.heap.size = g := ⟨_, rfl⟩
  by_cases h : D.size ≤ 1048576
  · have Z := szMemory_yes M D h
    obtain ⟨x, y, hV⟩ := ltV_form M D a1 a2 a3
    have HSP : Hid (∀ W, Calls Tryd.prog 14 #[.agg #[.int .i64 M, .string D], .int .i64 a1, .int .i64 a2, .int .i64 a3] W fun e w' => e = .returned (.tuple #[.string x, .int .i64 y]) ∧ Below W.heap.size W w') := fun W => by rw [← hV]; exact specLiftText M D a1 a2 a3 h W
    have HIM : Hid (∀ W, Below w.heap.size w W → Calls Tryd.prog 16 #[.agg #[.int .i64 M, .string D], .int .i64 a1, .int .i64 a2, .int .i64 a3] W fun e w' => e = .returned (.tuple #[.string x, .int .i64 y]) ∧ Below W.heap.size W w') := fun W hW => by rw [← hV]; exact implLiftText M D a1 a2 a3 h W (Utf8Tabs_below hT hW)
    have T := toMemory M D
    have k : ¬ 1048576 - (D.size : Int) < 0 := by omega
    generalize (1048576 - (D.size : Int)) = n at *
    clear h wb hV hT
    go_enter Tryd.func5, Tryd.ntmps5
    go_wp2_with fail
    refine (Z _).mono ?_
    rintro e w1 ⟨rfl, B1⟩
    have h1 := B1.size
    simp at h1
    have q0 : w1.cell? ⟨g, 0, none⟩ = some (.int .i64 M) := keepCell B1 (by simp; omega) (by rw [← hgs]; simp)
    have q1 : w1.cell? ⟨g, 1, none⟩ = some (.string D) := keepCell B1 (by simp; omega) (by rw [← hgs]; simp)
    have hB : Below w.heap.size w w1 := by ((repeat (first | refine bel_alloc ?_ _ | refine bel_dN ?_ _ | refine Below.drew ?_ | refine Below.setCell ?_ (by first | (simp; done) | (simp; omega)) _)); refine bel_step ?_ B1; (repeat (first | refine bel_alloc ?_ _ | refine bel_dN ?_ _ | refine Below.drew ?_ | refine Below.setCell ?_ (by first | (simp; done) | (simp; omega)) _)); exact Below.refl _ _)
    clear Z B1
    go_wp2_with fail
    refine (T _).mono ?_
    rintro e w2 ⟨rfl, B2⟩
    have h2 := B2.size
    replace q0 := keepCell B2 (by omega) q0
    replace q1 := keepCell B2 (by omega) q1
    replace hB := bel_stepK hB B2
    clear B2
    go_wp2_with fail
    refine (HSP.out _).mono ?_
    rintro e w3 ⟨rfl, B3⟩
    have h3 := B3.size
    replace q0 := keepCell B3 (by omega) q0
    replace q1 := keepCell B3 (by omega) q1
    replace hB := bel_stepK hB B3
    clear B3 HSP
    go_wp2_with fail
    refine (T _).mono ?_
    rintro e w4 ⟨rfl, B4⟩
    replace hB := bel_stepK hB B4
    clear B4 T q0 q1
    have HI := HIM.out w4 hB
    go_wp2_with fail
    refine HI.mono ?_
    rintro e w5 ⟨rfl, B5⟩
    have hB5 : Hid (Below w.heap.size w w5) := bel_stepK hB B5
    clear B5 HI HIM hB
    go_wp2
    go_ret
    exact ⟨rfl, hB5.out⟩
  · have Z := szMemory_no M D (by omega) wb
    clear h wb
    go_enter Tryd.func5, Tryd.ntmps5
    go_wp2_with fail
    refine (Z _).mono ?_
    rintro e w1 ⟨rfl, B1⟩
    go_wp2
    go_ret
    refine ⟨rfl, ?_⟩
    ((repeat (first | refine bel_alloc ?_ _ | refine bel_dN ?_ _ | refine Below.drew ?_ | refine Below.setCell ?_ (by first | (simp; done) | (simp; omega)) _)); refine bel_step ?_ B1; (repeat (first | refine bel_alloc ?_ _ | refine bel_dN ?_ _ | refine Below.drew ?_ | refine Below.setCell ?_ (by first | (simp; done) | (simp; omega)) _)); exact Below.refl _ _)

end Go.Proofs.YtgepplddhmgifaaDoor
