/-
  The walk of the specification's function that reads points from a text.
-/
import Derived.Test.YtljnciclbjcinaaGreatDoorDec
import Derived.Deep.QuietTactic
import Derived.BigQuiet
namespace Go.Proofs.YtljnciclbjcinaaGreatDoor
open Go.ChangeShapes Go.WideShapes Go.ChangeAt Go.RowKit Go.PlainAid

theorem own_below {wr w1 : World} {B : Nat} {e : TypeId} {size n : Nat} {v : Value} {xs : List Value} (h : wr.ownsRow B e size v n xs) (hb : Below wr.heap.size wr w1) : w1.ownsRow B e size v n xs := by
  refine ⟨h.1, ?_⟩
  rcases h.2 with h2 | ⟨g, cap, cur, e1, e2, hh, r⟩
  · exact .inl h2
  · exact .inr ⟨g, cap, cur, e1, e2, (hb.block g (lt_of_block hh)).trans hh, r⟩
/-- What is told of a text: the points, in memory of its own, and true; or false. -/
def Told (w w' : World) (e : Ending) (r : Option (List Int)) : Prop :=
  ((∃ L v, r = some L ∧ e = .returned (.tuple #[v, .bool true]) ∧ w'.ownsRow w.heap.size 3 1 v L.length (iv L)) ∨ (r = none ∧ ∃ v, e = .returned (.tuple #[v, .bool false]))) ∧ Below w.heap.size w w'

set_option maxRecDepth 100000 in
set_option maxHeartbeats 3200000 in
theorem specDecode (s : ByteArray) (code : Int) (hs : s.size ≤ 1048576) (w : World) :
    Calls Tryz.prog 64 #[.string s, .int .i64 code] w fun e w' => Told w w' e (gd code s) := by
  obtain ⟨i0, hi, hz0, hz1, hz2⟩ := info_parts Tryz.infoi3
  go_enter Tryz.func64, Tryz.ntmps64
  go_wp2
  go_loopw [0, 6] (fun x v wr => ∃ (t : ByteArray) (o : List Int) (f : Nat), x = .string t ∧ t.size ≤ f ∧ t.size ≤ 1048576 ∧ Hid (dec code s.size s = (dec code f t).map (o ++ ·)) ∧ o.length ≤ 300 ∧ wr.ownsRow w.heap.size 3 1 v o.length (iv o) ∧ Below w.heap.size w wr) (fun x _ _ => szOf x)
  case atStart => exact ⟨s, [], s.size, rfl, Nat.le_refl _, hs, by simp [Hid], by simp, World.ownsRow_nil _ _ _ _, Below.refl _ _⟩
  case round =>
    obtain ⟨t, o, f, rfl, htf, hts, hd, ho, hown, hnx⟩ := hrel
    have hsz := hnx.size
    by_cases h0 : 0 < t.size
    · have h0' : (0 : Int) < t.size := by omega
      have hb := get_bt t 0 h0
      have hbb := bt_nonneg t 0
      have hbl := bt_le t 0
      have hle := step_le code t h0
      have HD := fun hn => dec_next hd.out h0 htf hn
      have HN := fun hn => (gd_no (code := code) (s := s) (by rw [hd.out, dec_none code f t h0 htf hn]; rfl))
      clear hd
      by_cases c1 : code = 1
      · subst c1
        have H1 := specOne t h0 hts
        rw [step1] at HD HN hle
        obtain ⟨⟨p, n⟩, hpn⟩ : ∃ x, x = one8 t := ⟨_, rfl⟩
        rw [← hpn] at H1 HD HN hle
        simp only at H1 HD HN hle
        clear hpn
        by_cases hn : n = 0
        · subst hn
          have HG : Hid (gd 1 s = none) := HN rfl
          clear HN HD
          go_wp2_with (go_at_call 87; refine (H1 _).mono ?_; rintro e w1 ⟨rfl, hb1⟩; clear H1)
          go_ret2
          exact ⟨.inr ⟨HG.out, _, rfl⟩, ibelow hnx (by assumption)⟩
        · have HX : Hid (dec 1 s.size s = (dec 1 (f - 1) (t.extract n t.size)).map ((o ++ [p]) ++ ·)) := HD hn
          have n0 : ((n : Int) == 0) = false := by simp; omega
          have hle' : (n : Int) ≤ t.size := by omega
          clear HN HD
          go_wp2_with fail
          refine (H1 _).mono ?_
          rintro e w1 ⟨rfl, hb1⟩
          clear H1
          have hown1 := own_below hown hb1
          have hnx1 := ibelow hnx hb1
          have hsz1 := hnx1.size
          clear hown hb1
          go_wp2_with (at_builtin; refine wpList_append_own _ rfl _ _ 90 rfl (w.heap.size) 3 i0 (.int .i64 0) 1 8 Tryz.underlying90 hi hz0 hz1 hz2 rfl (by decide) _ _ _ rfl (hown1.alloc _) ⟨w1.heap.size, 0, none⟩ 1 1 (iv [p]) rfl rfl (cell_one_new _ _ _) (iv_one _) (by unfold maxLen; omega) (by omega) (by simp; omega) ?_)
          intro v' w2 hown' hgrow' _
          rw [iv_app] at hown'
          have hb2 : Below w.heap.size w w2 := (hnx1.alloc hsz1 _).grown hgrow' (by simp; omega) (ownsRow_block hown1)
          obtain ⟨a', c', rfl⟩ := ownsRow_shape hown'
          clear hgrow' hown1
          by_cases hlong : 300 < o.length + 1
          · have HG : Hid (gd 1 s = none) := gd_long HX.out (by simp; omega)
            have hlong' : (300 : Int) < (o.length : Int) + 1 := by omega
            go_wp2
            go_ret2
            exact ⟨.inr ⟨HG.out, _, rfl⟩, hb2⟩
          · have hlong' : ¬ (300 : Int) < (o.length : Int) + 1 := by omega
            go_wp2
            go_roundw
            case rel => exact ⟨t.extract n t.size, o ++ [p], f - 1, rfl, by rw [ext_len]; omega, by rw [ext_len]; omega, HX, by simp; omega, by simpa using hown', hb2⟩
            case measure => simp [szOf]; omega
      · have n1 : (code == 1) = false := by simpa using c1
        by_cases c2 : code = 2
        · subst c2
          clear n1
          have hown1 := hown
          have hnx1 := hnx
          have hsz1 := hsz
          clear hown
          rw [step2] at HD HN hle
          by_cases g0 : t.size < 2
          · have HG : Hid (gd 2 s = none) := HN (by unfold one16; rw [if_pos g0])
            have g0' : (t.size : Int) < 2 := by omega
            clear HN HD hle
            go_wp2
            go_ret2
            exact ⟨.inr ⟨HG.out, _, rfl⟩, hnx⟩
          · have g0' : ¬ (t.size : Int) < 2 := by omega
            have gs1 : (1 : Int) < t.size := by omega
            have hs1 : 1 < t.size := by omega
            have hk1 := get_bt t 1 hs1
            have hj0 := join8 (bt t 0) (bt t 1) (bt_nonneg _ _) (bt_le _ _) (bt_nonneg _ _) (bt_le _ _)
            have hL0 : bt t 0 + bt t 1 * 256 = lo16 t 0 := rfl
            rw [hL0] at hj0
            have hin0 := lo16_in t 0
            have hbn1 := bt_nonneg t 1
            have hbl1 := bt_le t 1
            have H16 : one16 t = if twoH t = true then (lo16 t 0 % 1024 * 1024 + lo16 t 2 % 1024 + 65536, 4) else (lo16 t 0, 2) := by unfold one16; rw [if_neg g0]
            rw [H16] at HD hle
            clear H16 HN hL0
            by_cases gu : 55296 ≤ lo16 t 0 ∧ lo16 t 0 ≤ 56319
            · have HU : Hid ((decide (55296 ≤ lo16 t 0) && decide (lo16 t 0 ≤ 56319)) = true) := by simp [Hid, gu.1, gu.2]
              by_cases g4 : 3 < t.size
              · have g4' : (3 : Int) < t.size := by omega
                have g4b : decide ((3 : Int) < t.size) = true := decide_eq_true g4'
                have gs2 : (2 : Int) < t.size := by omega
                have hs2 : 2 < t.size := by omega
                have hk2 := get_bt t 2 hs2
                have hk3 := get_bt t 3 g4
                have hj2 := join8 (bt t 2) (bt t 3) (bt_nonneg _ _) (bt_le _ _) (bt_nonneg _ _) (bt_le _ _)
                have hL2 : bt t 2 + bt t 3 * 256 = lo16 t 2 := rfl
                rw [hL2] at hj2
                have hin2 := lo16_in t 2
                have hbn2 := bt_nonneg t 2
                have hbn3 := bt_nonneg t 3
                have hbl3 := bt_le t 3
                have hbl2 := bt_le t 2
                have hw3 : IntKind.i64.wrap (bt t 3 * 256) = bt t 3 * 256 := by rw [IntKind.wrap_i64]; omega
                have hw2 : IntKind.i64.wrap (bt t 2) = bt t 2 := by rw [IntKind.wrap_i64]; omega
                have hw4 : IntKind.i64.wrap (bt t 3) = bt t 3 := by rw [IntKind.wrap_i64]; omega
                by_cases gl : 56320 ≤ lo16 t 2 ∧ lo16 t 2 ≤ 57343
                · have HLo : Hid ((decide (56320 ≤ lo16 t 2) && decide (lo16 t 2 ≤ 57343)) = true) := by simp [Hid, gl.1, gl.2]
                  have htwo : twoH t = true := by unfold twoH; exact decide_eq_true ⟨gu.1, gu.2, g4, gl.1, gl.2⟩
                  rw [if_pos htwo] at HD
                  have hm0 := and1023 (lo16 t 0)
                  have hm2 := and1023 (lo16 t 2)
                  have hj4 := join10 (lo16 t 0 % 1024) (lo16 t 2 % 1024) (by omega) (by omega) (by omega) (by omega)
                  have hq : 0 ≤ lo16 t 0 % 1024 * 1024 + lo16 t 2 % 1024 ∧ lo16 t 0 % 1024 * 1024 + lo16 t 2 % 1024 ≤ 1048575 := by omega
                  obtain ⟨q, hqe⟩ : ∃ q, q = lo16 t 0 % 1024 * 1024 + lo16 t 2 % 1024 := ⟨_, rfl⟩
                  have h1024 : 0 ≤ lo16 t 0 % 1024 ∧ lo16 t 0 % 1024 ≤ 1023 := by omega
                  rw [← hqe] at HD hj4 hq
                  have HX : Hid (dec 2 s.size s = (dec 2 (f - 1) (t.extract 4 t.size)).map ((o ++ [q + 65536]) ++ ·)) := HD (by simp)
                  have hle' : (4 : Int) ≤ t.size := by omega
                  have h4n : 4 ≤ t.size := by omega
                  clear HD htwo gu gl hle hqe hL2 g0 hin0 hin2
                  go_wp2_with (go_at_call 48; refine (in_eq _ _ _ _ (by assumption) _).mono ?_; rintro e w' ⟨rfl, hw⟩; obtain rfl := hw.symm; clear hw)
                  go_quiet (fail)
                  have hown3 := own_below hown1 (below_drewN (Below.refl _ _) nq)
                  have hnx3 := below_drewN hnx1 nq
                  have hsz3 := hnx3.size
                  clear hown1 hnx1 hsz1
                  go_wp2_with (first | (go_at_call 48; refine (in_eq _ _ _ _ (by assumption) _).mono ?_; rintro e w' ⟨rfl, hw⟩; obtain rfl := hw.symm; clear hw) | (at_builtin; refine wpList_append_own _ rfl _ _ 90 rfl (w.heap.size) 3 i0 (.int .i64 0) 1 8 Tryz.underlying90 hi hz0 hz1 hz2 rfl (by decide) _ _ _ rfl (hown3.alloc _) ⟨(wr.drewN nq).heap.size, 0, none⟩ 1 1 (iv [q + 65536]) rfl rfl (cell_one_new _ _ _) (iv_one _) (by unfold maxLen; omega) (by omega) (by simp; omega) ?_))
                  intro v' w2 hown' hgrow' _
                  rw [iv_app] at hown'
                  have hb2 : Below w.heap.size w w2 := (hnx3.alloc hsz3 _).grown hgrow' (by simp; omega) (ownsRow_block hown3)
                  obtain ⟨a', c', rfl⟩ := ownsRow_shape hown'
                  clear hgrow' hown3
                  by_cases hlong : 300 < o.length + 1
                  · have HG : Hid (gd 2 s = none) := gd_long HX.out (by simp; omega)
                    have hlong' : (300 : Int) < (o.length : Int) + 1 := by omega
                    go_wp2
                    go_ret2
                    exact ⟨.inr ⟨HG.out, _, rfl⟩, hb2⟩
                  · have hlong' : ¬ (300 : Int) < (o.length : Int) + 1 := by omega
                    go_wp2
                    go_roundw
                    case rel => exact ⟨t.extract 4 t.size, o ++ [q + 65536], f - 1, rfl, by rw [ext_len]; omega, by rw [ext_len]; omega, HX, by simp; omega, by simpa using hown', hb2⟩
                    case measure => simp [szOf]; omega
                · have HLo : Hid ((decide (56320 ≤ lo16 t 2) && decide (lo16 t 2 ≤ 57343)) = false) := by unfold Hid; rw [Bool.and_eq_false_iff]; simp; omega
                  have htwo : twoH t = false := by unfold twoH; exact decide_eq_false (by omega)
                  rw [if_neg (by rw [htwo]; simp)] at HD
                  have HX : Hid (dec 2 s.size s = (dec 2 (f - 1) (t.extract 2 t.size)).map ((o ++ [lo16 t 0]) ++ ·)) := HD (by simp)
                  have hle' : (2 : Int) ≤ t.size := by omega
                  clear HD htwo gu gl hle hL2 g0 hin0 hin2
                  go_wp2_with (go_at_call 48; refine (in_eq _ _ _ _ (by assumption) _).mono ?_; rintro e w' ⟨rfl, hw⟩; obtain rfl := hw.symm; clear hw)
                  go_quiet (fail)
                  have hown3 := own_below hown1 (below_drewN (Below.refl _ _) nq)
                  have hnx3 := below_drewN hnx1 nq
                  have hsz3 := hnx3.size
                  clear hown1 hnx1 hsz1
                  go_wp2_with (first | (go_at_call 48; refine (in_eq _ _ _ _ (by assumption) _).mono ?_; rintro e w' ⟨rfl, hw⟩; obtain rfl := hw.symm; clear hw) | (at_builtin; refine wpList_append_own _ rfl _ _ 90 rfl (w.heap.size) 3 i0 (.int .i64 0) 1 8 Tryz.underlying90 hi hz0 hz1 hz2 rfl (by decide) _ _ _ rfl (hown3.alloc _) ⟨(wr.drewN nq).heap.size, 0, none⟩ 1 1 (iv [lo16 t 0]) rfl rfl (cell_one_new _ _ _) (iv_one _) (by unfold maxLen; omega) (by omega) (by simp; omega) ?_))
                  intro v' w2 hown' hgrow' _
                  rw [iv_app] at hown'
                  have hb2 : Below w.heap.size w w2 := (hnx3.alloc hsz3 _).grown hgrow' (by simp; omega) (ownsRow_block hown3)
                  obtain ⟨a', c', rfl⟩ := ownsRow_shape hown'
                  clear hgrow' hown3
                  by_cases hlong : 300 < o.length + 1
                  · have HG : Hid (gd 2 s = none) := gd_long HX.out (by simp; omega)
                    have hlong' : (300 : Int) < (o.length : Int) + 1 := by omega
                    go_wp2
                    go_ret2
                    exact ⟨.inr ⟨HG.out, _, rfl⟩, hb2⟩
                  · have hlong' : ¬ (300 : Int) < (o.length : Int) + 1 := by omega
                    go_wp2
                    go_roundw
                    case rel => exact ⟨t.extract 2 t.size, o ++ [lo16 t 0], f - 1, rfl, by rw [ext_len]; omega, by rw [ext_len]; omega, HX, by simp; omega, by simpa using hown', hb2⟩
                    case measure => simp [szOf]; omega
              · have g4b : decide ((3 : Int) < t.size) = false := decide_eq_false (by omega)
                have htwo : twoH t = false := by unfold twoH; exact decide_eq_false (by omega)
                rw [if_neg (by rw [htwo]; simp)] at HD
                have HX : Hid (dec 2 s.size s = (dec 2 (f - 1) (t.extract 2 t.size)).map ((o ++ [lo16 t 0]) ++ ·)) := HD (by simp)
                have hle' : (2 : Int) ≤ t.size := by omega
                clear HD htwo gu hle g0 hin0
                go_wp2_with (first | (go_at_call 48; refine (in_eq _ _ _ _ (by assumption) _).mono ?_; rintro e w' ⟨rfl, hw⟩; obtain rfl := hw.symm; clear hw) | (at_builtin; refine wpList_append_own _ rfl _ _ 90 rfl (w.heap.size) 3 i0 (.int .i64 0) 1 8 Tryz.underlying90 hi hz0 hz1 hz2 rfl (by decide) _ _ _ rfl (hown1.alloc _) ⟨wr.heap.size, 0, none⟩ 1 1 (iv [lo16 t 0]) rfl rfl (cell_one_new _ _ _) (iv_one _) (by unfold maxLen; omega) (by omega) (by simp; omega) ?_))
                intro v' w2 hown' hgrow' _
                rw [iv_app] at hown'
                have hb2 : Below w.heap.size w w2 := (hnx1.alloc hsz1 _).grown hgrow' (by simp; omega) (ownsRow_block hown1)
                obtain ⟨a', c', rfl⟩ := ownsRow_shape hown'
                clear hgrow' hown1
                by_cases hlong : 300 < o.length + 1
                · have HG : Hid (gd 2 s = none) := gd_long HX.out (by simp; omega)
                  have hlong' : (300 : Int) < (o.length : Int) + 1 := by omega
                  go_wp2
                  go_ret2
                  exact ⟨.inr ⟨HG.out, _, rfl⟩, hb2⟩
                · have hlong' : ¬ (300 : Int) < (o.length : Int) + 1 := by omega
                  go_wp2
                  go_roundw
                  case rel => exact ⟨t.extract 2 t.size, o ++ [lo16 t 0], f - 1, rfl, by rw [ext_len]; omega, by rw [ext_len]; omega, HX, by simp; omega, by simpa using hown', hb2⟩
                  case measure => simp [szOf]; omega
            · have HU : Hid ((decide (55296 ≤ lo16 t 0) && decide (lo16 t 0 ≤ 56319)) = false) := by unfold Hid; rw [Bool.and_eq_false_iff]; simp; omega
              have htwo : twoH t = false := by unfold twoH; exact decide_eq_false (by omega)
              rw [if_neg (by rw [htwo]; simp)] at HD
              have HX : Hid (dec 2 s.size s = (dec 2 (f - 1) (t.extract 2 t.size)).map ((o ++ [lo16 t 0]) ++ ·)) := HD (by simp)
              have hle' : (2 : Int) ≤ t.size := by omega
              clear HD htwo gu hle g0 hin0
              go_wp2_with (first | (go_at_call 48; refine (in_eq _ _ _ _ (by assumption) _).mono ?_; rintro e w' ⟨rfl, hw⟩; obtain rfl := hw.symm; clear hw) | (at_builtin; refine wpList_append_own _ rfl _ _ 90 rfl (w.heap.size) 3 i0 (.int .i64 0) 1 8 Tryz.underlying90 hi hz0 hz1 hz2 rfl (by decide) _ _ _ rfl (hown1.alloc _) ⟨wr.heap.size, 0, none⟩ 1 1 (iv [lo16 t 0]) rfl rfl (cell_one_new _ _ _) (iv_one _) (by unfold maxLen; omega) (by omega) (by simp; omega) ?_))
              intro v' w2 hown' hgrow' _
              rw [iv_app] at hown'
              have hb2 : Below w.heap.size w w2 := (hnx1.alloc hsz1 _).grown hgrow' (by simp; omega) (ownsRow_block hown1)
              obtain ⟨a', c', rfl⟩ := ownsRow_shape hown'
              clear hgrow' hown1
              by_cases hlong : 300 < o.length + 1
              · have HG : Hid (gd 2 s = none) := gd_long HX.out (by simp; omega)
                have hlong' : (300 : Int) < (o.length : Int) + 1 := by omega
                go_wp2
                go_ret2
                exact ⟨.inr ⟨HG.out, _, rfl⟩, hb2⟩
              · have hlong' : ¬ (300 : Int) < (o.length : Int) + 1 := by omega
                go_wp2
                go_roundw
                case rel => exact ⟨t.extract 2 t.size, o ++ [lo16 t 0], f - 1, rfl, by rw [ext_len]; omega, by rw [ext_len]; omega, HX, by simp; omega, by simpa using hown', hb2⟩
                case measure => simp [szOf]; omega
        · have n2 : (code == 2) = false := by simpa using c2
          have hown1 := hown
          have hnx1 := hnx
          have hsz1 := hsz
          rw [step3 _ _ c1 c2] at HD hle
          have HX : Hid (dec code s.size s = (dec code (f - 1) (t.extract 1 t.size)).map ((o ++ [bt t 0]) ++ ·)) := HD (by simp)
          have hle' : (1 : Int) ≤ t.size := by omega
          clear HD HN hle hown
          go_wp2_with ((at_builtin; refine wpList_append_own _ rfl _ _ 90 rfl (w.heap.size) 3 i0 (.int .i64 0) 1 8 Tryz.underlying90 hi hz0 hz1 hz2 rfl (by decide) _ _ _ rfl (hown1.alloc _) ⟨wr.heap.size, 0, none⟩ 1 1 (iv [bt t 0]) rfl rfl (cell_one_new _ _ _) (iv_one _) (by unfold maxLen; omega) (by omega) (by simp; omega) ?_))
          intro v' w2 hown' hgrow' _
          rw [iv_app] at hown'
          have hb2 : Below w.heap.size w w2 := (hnx1.alloc hsz1 _).grown hgrow' (by simp; omega) (ownsRow_block hown1)
          obtain ⟨a', c', rfl⟩ := ownsRow_shape hown'
          clear hgrow' hown1
          by_cases hlong : 300 < o.length + 1
          · have HG : Hid (gd code s = none) := gd_long HX.out (by simp; omega)
            have hlong' : (300 : Int) < (o.length : Int) + 1 := by omega
            go_wp2
            go_ret2
            exact ⟨.inr ⟨HG.out, _, rfl⟩, hb2⟩
          · have hlong' : ¬ (300 : Int) < (o.length : Int) + 1 := by omega
            go_wp2
            go_roundw
            case rel => exact ⟨t.extract 1 t.size, o ++ [bt t 0], f - 1, rfl, by rw [ext_len]; omega, by rw [ext_len]; omega, HX, by simp; omega, by simpa using hown', hb2⟩
            case measure => simp [szOf]; omega
    · have ht0 : t.size = 0 := by omega
      have HG : dec code s.size s = some o := by rw [hd.out, dec_end code f t ht0]; simp
      have h0' : ¬ (0 : Int) < t.size := by omega
      obtain ⟨a, cap, rfl, hI⟩ := ints_of_row hown
      have H1 := specPoints a cap o wr hI (by omega)
      rcases hok : okL o with _ | _
      · rw [hok] at H1
        have HG2 : Hid (gd code s = none) := by unfold Hid; rw [gd_is HG, hok]; rfl
        clear HG hd hok
        go_wp2_with (go_at_call 88; refine H1.mono ?_; rintro e w' ⟨rfl, hw⟩; obtain rfl := hw.symm; clear H1 hw)
        go_ret2
        exact ⟨.inr ⟨HG2.out, _, rfl⟩, hnx⟩
      · rw [hok] at H1
        have HG2 : Hid (gd code s = some o) := by unfold Hid; rw [gd_is HG, hok]; rfl
        clear HG hd hok
        go_wp2_with (go_at_call 88; refine H1.mono ?_; rintro e w' ⟨rfl, hw⟩; obtain rfl := hw.symm; clear H1 hw)
        go_ret2
        exact ⟨.inl ⟨o, _, HG2.out, rfl, hown⟩, hnx⟩

end Go.Proofs.YtljnciclbjcinaaGreatDoor
