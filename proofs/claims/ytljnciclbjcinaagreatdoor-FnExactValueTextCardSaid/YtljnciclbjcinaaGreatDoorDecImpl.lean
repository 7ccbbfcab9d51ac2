/-
  The walks of the program's functions that read points from a text in two of the codes.
-/
import Derived.Test.YtljnciclbjcinaaGreatDoorDecSpec
import Derived.Test.YtljnciclbjcinaaGreatDoorDecMath2
namespace Go.Proofs.YtljnciclbjcinaaGreatDoor
open Go.ChangeShapes Go.WideShapes Go.ChangeAt Go.RowKit Go.PlainAid

theorem bt_ext (s : ByteArray) (i k : Nat) : bt (s.extract i s.size) k = bt s (i + k) := by
  rw [bt_list, bt_list, drop_list]
  simp [List.getD, List.getElem?_drop]
theorem ext_ext (s : ByteArray) (i n : Nat) : (s.extract i s.size).extract n (s.extract i s.size).size = s.extract (i + n) s.size := by
  apply WideShapes.bytes_inj
  rw [drop_list, drop_list, drop_list, List.drop_drop]
theorem ext_zero (s : ByteArray) : s.extract 0 s.size = s := by
  apply WideShapes.bytes_inj
  rw [drop_list, List.drop_zero]

set_option maxRecDepth 100000 in
set_option maxHeartbeats 1600000 in
theorem implLatin (s : ByteArray) (hs : s.size ≤ 1200) (w : World) :
    Calls Tryz.prog 162 #[.string s] w fun e w' => ∃ L v, dec 3 s.size s = some L ∧ e = .returned v ∧ w'.ownsRow w.heap.size 3 1 v L.length (iv L) ∧ Below w.heap.size w w' := by
  obtain ⟨i0, hi, hz0, hz1, hz2⟩ := info_parts Tryz.infoi3
  go_enter Tryz.func162, Tryz.ntmps162
  go_wp2
  go_loopw [3, 7] (fun v i wr => ∃ (k : Nat) (o : List Int), k ≤ s.size ∧ i = .int .i64 k ∧ o.length = k ∧ Hid (dec 3 s.size s = (dec 3 (s.size - k) (s.extract k s.size)).map (o ++ ·)) ∧ wr.ownsRow w.heap.size 3 1 v o.length (iv o) ∧ Below w.heap.size w wr) (fun _ i _ => s.size - (intOf i).toNat)
  case atStart => exact ⟨0, [], by omega, rfl, rfl, by unfold Hid; rw [ext_zero]; simp, World.ownsRow_nil _ _ _ _, Below.refl _ _⟩
  case round =>
    obtain ⟨k, o, hk, rfl, hok, hd, hown, hnx⟩ := hrel
    have hsz := hnx.size
    by_cases hlt : k < s.size
    · have hb := get_bt s k hlt
      have hb0 := bt_nonneg s k
      have hb1 := bt_le s k
      have hlt' : (k : Int) < s.size := by omega
      have H1 := dec_next hd.out (by rw [ext_len]; omega) (by rw [ext_len]; omega) (by rw [step3 3 _ (by omega) (by omega)]; simp)
      rw [step3 3 _ (by omega) (by omega), bt_ext s k 0, ext_ext, Nat.add_zero, Nat.sub_sub] at H1
      have HX : Hid (dec 3 s.size s = (dec 3 (s.size - (k + 1)) (s.extract (k + 1) s.size)).map ((o ++ [bt s k]) ++ ·)) := H1
      clear H1 hd
      go_wp2_with (at_builtin; refine wpList_append_own _ rfl _ _ 90 rfl (w.heap.size) 3 i0 (.int .i64 0) 1 8 Tryz.underlying90 hi hz0 hz1 hz2 rfl (by decide) _ _ _ rfl (hown.alloc _) ⟨wr.heap.size, 0, none⟩ 1 1 (iv [bt s k]) rfl rfl (cell_one_new _ _ _) (iv_one _) (by unfold maxLen; omega) (by omega) (by simp; omega) ?_)
      intro v' w2 hown' hgrow' _
      rw [iv_app] at hown'
      have hb2 : Below w.heap.size w w2 := (hnx.alloc hsz _).grown hgrow' (by simp; omega) (ownsRow_block hown)
      clear hgrow' hown
      go_wp2
      go_roundw
      case rel => exact ⟨k + 1, o ++ [bt s k], by omega, by go_num, by simp [hok], HX, by simpa [hok] using hown', hb2⟩
      case measure => simp [intOf]; omega
    · have HG : dec 3 s.size s = some o := by rw [hd.out, dec_end 3 _ _ (by rw [ext_len]; omega)]; simp
      have HG2 : Hid (dec 3 s.size s = some o) := HG
      clear HG hd
      go_wp2
      go_ret
      exact ⟨o, _, HG2.out, rfl, hown, hnx⟩

set_option maxRecDepth 100000 in
set_option maxHeartbeats 800000 in
theorem implPair (t : ByteArray) (h : 2 ≤ t.size) (w : World) :
    Calls Tryz.prog 170 #[.string t] w fun e w' => e = .returned (.int .i64 (lo16 t 0)) ∧ ∃ n, w' = w.drewN n := by
  have hk0 := get_bt t 0 (by omega)
  have hk1 := get_bt t 1 (by omega)
  have hj0 := join8 (bt t 0) (bt t 1) (bt_nonneg _ _) (bt_le _ _) (bt_nonneg _ _) (bt_le _ _)
  have hL0 : bt t 0 + bt t 1 * 256 = lo16 t 0 := rfl
  rw [hL0] at hj0
  have a0 := bt_nonneg t 0
  have a1 := bt_nonneg t 1
  have b0 := bt_le t 0
  have b1 := bt_le t 1
  have hw0 : IntKind.i64.wrap (bt t 0) = bt t 0 := by rw [IntKind.wrap_i64]; omega
  have hw1 : IntKind.i64.wrap (bt t 1) = bt t 1 := by rw [IntKind.wrap_i64]; omega
  have hw2 : IntKind.i64.wrap (bt t 1 * 256) = bt t 1 * 256 := by rw [IntKind.wrap_i64]; omega
  have s0 : (0 : Int) < t.size := by omega
  have s1 : (1 : Int) < t.size := by omega
  clear hL0
  go_enter Tryz.func170, Tryz.ntmps170
  go_wp2
  go_quiet (fail)
  go_wp2
  go_ret
  exact ⟨rfl, nq, rfl⟩

set_option maxRecDepth 100000 in
set_option maxHeartbeats 800000 in
theorem implJoin_yes (u l : Int) (h0 : 55296 ≤ u) (h1 : u ≤ 56319) (h2 : 56320 ≤ l) (h3 : l ≤ 57343) (w : World) :
    Calls Tryz.prog 171 #[.int .i64 u, .int .i64 l] w fun e w' => e = .returned (.tuple #[.int .i64 (u % 1024 * 1024 + l % 1024 + 65536), .bool true]) ∧ w' = w := by
  have d1 : ¬ u < 55296 := by omega
  have d2 : decide (56320 ≤ u) = false := decide_eq_false (by omega)
  have d3 : decide (l < 56320) = false := decide_eq_false (by omega)
  have d4 : decide (57344 ≤ l) = false := decide_eq_false (by omega)
  have HE : Hid (65536 + (u - 55296) * 1024 + l - 56320 = u % 1024 * 1024 + l % 1024 + 65536) := by unfold Hid; omega
  go_enter Tryz.func171, Tryz.ntmps171
  go_wp2
  go_ret2
  exact ⟨by rw [← HE.out]; rfl, rfl⟩

set_option maxRecDepth 100000 in
set_option maxHeartbeats 800000 in
theorem implJoin_no (u l : Int) (h : ¬ (55296 ≤ u ∧ u ≤ 56319 ∧ 56320 ≤ l ∧ l ≤ 57343)) (w : World) :
    Calls Tryz.prog 171 #[.int .i64 u, .int .i64 l] w fun e w' => e = .returned (.tuple #[.int .i64 0, .bool false]) ∧ w' = w := by
  by_cases c1 : u < 55296
  · clear h
    go_enter Tryz.func171, Tryz.ntmps171
    go_wp2
    go_ret2
    exact ⟨rfl, rfl⟩
  · by_cases c2 : 56320 ≤ u
    · have d2 : decide (56320 ≤ u) = true := decide_eq_true c2
      clear h
      go_enter Tryz.func171, Tryz.ntmps171
      go_wp2
      go_ret2
      exact ⟨rfl, rfl⟩
    · have d2 : decide (56320 ≤ u) = false := decide_eq_false c2
      by_cases c3 : l < 56320
      · have d3 : decide (l < 56320) = true := decide_eq_true c3
        clear h
        go_enter Tryz.func171, Tryz.ntmps171
        go_wp2
        go_ret2
        exact ⟨rfl, rfl⟩
      · have d3 : decide (l < 56320) = false := decide_eq_false c3
        have d4 : decide (57344 ≤ l) = true := decide_eq_true (by omega)
        clear h
        go_enter Tryz.func171, Tryz.ntmps171
        go_wp2
        go_ret2
        exact ⟨rfl, rfl⟩

set_option maxRecDepth 100000 in
set_option maxHeartbeats 1600000 in
theorem impl16 (s : ByteArray) (hs : s.size ≤ 1200) (w : World) :
    Calls Tryz.prog 161 #[.string s] w fun e w' => ((∃ L v, dec 2 s.size s = some L ∧ e = .returned (.tuple #[v, .bool true]) ∧ w'.ownsRow w.heap.size 3 1 v L.length (iv L)) ∨ (gd 2 s = none ∧ e = .returned (.tuple #[.slice none 0 0, .bool false]))) ∧ Below w.heap.size w w' := by
  obtain ⟨i0, hi, hz0, hz1, hz2⟩ := info_parts Tryz.infoi3
  by_cases hodd : s.size % 2 = 1
  · have HG : Hid (gd 2 s = none) := gd_odd hodd
    have hm : ((s.size : Int) % 2 != 0) = true := by simp; omega
    go_enter Tryz.func161, Tryz.ntmps161
    go_wp2
    go_ret2
    exact ⟨.inr ⟨HG.out, rfl⟩, Below.refl _ _⟩
  · have hm : ((s.size : Int) % 2 != 0) = false := by simp; omega
    have hev : s.size % 2 = 0 := by omega
    clear hodd
    go_enter Tryz.func161, Tryz.ntmps161
    go_wp2
    go_loopw [0, 4] (fun x v wr => ∃ (t : ByteArray) (o : List Int) (f : Nat), x = .string t ∧ t.size ≤ f ∧ t.size ≤ 1200 ∧ t.size % 2 = 0 ∧ Hid (dec 2 s.size s = (dec 2 f t).map (o ++ ·)) ∧ o.length + t.size ≤ 1200 ∧ wr.ownsRow w.heap.size 3 1 v o.length (iv o) ∧ Below w.heap.size w wr) (fun x _ _ => szOf x)
    case atStart => exact ⟨s, [], s.size, rfl, Nat.le_refl _, hs, hev, by simp [Hid], by simp; omega, World.ownsRow_nil _ _ _ _, Below.refl _ _⟩
    case round =>
      obtain ⟨t, o, f, rfl, htf, hts, hte, hd, hot, hown, hnx⟩ := hrel
      have hsz := hnx.size
      by_cases h0 : 0 < t.size
      · have h0' : (0 : Int) < t.size := by omega
        have HD := fun hn => dec_next hd.out h0 htf hn
        have HP := implPair t (by omega)
        have hle2 : (2 : Int) ≤ t.size := by omega
        rw [step2] at HD
        have H16 : one16 t = if twoH t = true then (lo16 t 0 % 1024 * 1024 + lo16 t 2 % 1024 + 65536, 4) else (lo16 t 0, 2) := by unfold one16; rw [if_neg (by omega)]
        rw [H16] at HD
        clear hd H16
        by_cases h4 : 4 ≤ t.size
        · have h4' : (4 : Int) ≤ t.size := by omega
          have HP2 := implPair (t.extract 2 t.size) (by rw [ext_len]; omega)
          have e2 : lo16 (t.extract 2 t.size) 0 = lo16 t 2 := by unfold lo16; rw [bt_ext, bt_ext]
          rw [e2] at HP2
          clear e2
          by_cases hh : 55296 ≤ lo16 t 0 ∧ lo16 t 0 ≤ 56319 ∧ 56320 ≤ lo16 t 2 ∧ lo16 t 2 ≤ 57343
          · have HJ := implJoin_yes (lo16 t 0) (lo16 t 2) hh.1 hh.2.1 hh.2.2.1 hh.2.2.2
            have htwo : twoH t = true := by unfold twoH; exact decide_eq_true ⟨hh.1, hh.2.1, by omega, hh.2.2.1, hh.2.2.2⟩
            rw [if_pos htwo] at HD
            obtain ⟨q, hq⟩ : ∃ q, q = lo16 t 0 % 1024 * 1024 + lo16 t 2 % 1024 + 65536 := ⟨_, rfl⟩
            rw [← hq] at HJ HD
            have HX : Hid (dec 2 s.size s = (dec 2 (f - 1) (t.extract 4 t.size)).map ((o ++ [q]) ++ ·)) := HD (by simp)
            clear HD htwo hh hq
            go_wp2_with fail
            refine (HP _).mono ?_
            rintro e w1 ⟨rfl, n1, rfl⟩
            go_wp2_with fail
            refine (HP2 _).mono ?_
            rintro e w1 ⟨rfl, n2, rfl⟩
            have hown3 := own_below hown (below_drewN (Below.refl _ _) (n1 + n2))
            have hnx3 := below_drewN hnx (n1 + n2)
            have hsz3 := hnx3.size
            clear hown hnx HP HP2
            go_wp2_with (first | (go_at_call 171; refine (HJ _).mono ?_; rintro e w' ⟨rfl, hw⟩; obtain rfl := hw.symm; clear hw HJ) | (at_builtin; refine wpList_append_own _ rfl _ _ 90 rfl (w.heap.size) 3 i0 (.int .i64 0) 1 8 Tryz.underlying90 hi hz0 hz1 hz2 rfl (by decide) _ _ _ rfl (hown3.alloc _) ⟨(wr.drewN (n1 + n2)).heap.size, 0, none⟩ 1 1 (iv [q]) rfl rfl (cell_one_new _ _ _) (iv_one _) (by unfold maxLen; omega) (by omega) (by simp; omega) ?_))
            intro v' w2 hown' hgrow' _
            rw [iv_app] at hown'
            have hb2 : Below w.heap.size w w2 := (hnx3.alloc hsz3 _).grown hgrow' (by simp; omega) (ownsRow_block hown3)
            clear hgrow' hown3
            go_wp2
            go_roundw
            case rel => exact ⟨t.extract 4 t.size, o ++ [q], f - 1, rfl, by rw [ext_len]; omega, by rw [ext_len]; omega, by rw [ext_len]; omega, HX, by rw [ext_len, List.length_append]; simp; omega, by rw [List.length_append]; exact hown', hb2⟩
            case measure => simp [szOf]; omega
          · have HJ := implJoin_no (lo16 t 0) (lo16 t 2) hh
            have htwo : twoH t = false := by unfold twoH; exact decide_eq_false (by omega)
            rw [if_neg (by rw [htwo]; simp)] at HD
            obtain ⟨q, hq⟩ : ∃ q, q = lo16 t 0 := ⟨_, rfl⟩
            rw [← hq] at HJ HD HP
            have HX : Hid (dec 2 s.size s = (dec 2 (f - 1) (t.extract 2 t.size)).map ((o ++ [q]) ++ ·)) := HD (by simp)
            clear HD htwo hh hq
            go_wp2_with fail
            refine (HP _).mono ?_
            rintro e w1 ⟨rfl, n1, rfl⟩
            go_wp2_with fail
            refine (HP2 _).mono ?_
            rintro e w1 ⟨rfl, n2, rfl⟩
            have hown3 := own_below hown (below_drewN (Below.refl _ _) (n1 + n2))
            have hnx3 := below_drewN hnx (n1 + n2)
            have hsz3 := hnx3.size
            clear hown hnx HP HP2
            go_wp2_with (first | (go_at_call 171; refine (HJ _).mono ?_; rintro e w' ⟨rfl, hw⟩; obtain rfl := hw.symm; clear hw HJ) | (at_builtin; refine wpList_append_own _ rfl _ _ 90 rfl (w.heap.size) 3 i0 (.int .i64 0) 1 8 Tryz.underlying90 hi hz0 hz1 hz2 rfl (by decide) _ _ _ rfl (hown3.alloc _) ⟨(wr.drewN (n1 + n2)).heap.size, 0, none⟩ 1 1 (iv [q]) rfl rfl (cell_one_new _ _ _) (iv_one _) (by unfold maxLen; omega) (by omega) (by simp; omega) ?_))
            intro v' w2 hown' hgrow' _
            rw [iv_app] at hown'
            have hb2 : Below w.heap.size w w2 := (hnx3.alloc hsz3 _).grown hgrow' (by simp; omega) (ownsRow_block hown3)
            clear hgrow' hown3
            go_wp2
            go_roundw
            case rel => exact ⟨t.extract 2 t.size, o ++ [q], f - 1, rfl, by rw [ext_len]; omega, by rw [ext_len]; omega, by rw [ext_len]; omega, HX, by rw [ext_len, List.length_append]; simp; omega, by rw [List.length_append]; exact hown', hb2⟩
            case measure => simp [szOf]; omega
        · have h4' : ¬ (4 : Int) ≤ t.size := by omega
          have htwo : twoH t = false := by unfold twoH; exact decide_eq_false (by omega)
          rw [if_neg (by rw [htwo]; simp)] at HD
          obtain ⟨q, hq⟩ : ∃ q, q = lo16 t 0 := ⟨_, rfl⟩
          rw [← hq] at HD HP
          have HX : Hid (dec 2 s.size s = (dec 2 (f - 1) (t.extract 2 t.size)).map ((o ++ [q]) ++ ·)) := HD (by simp)
          clear HD htwo hq
          go_wp2_with fail
          refine (HP _).mono ?_
          rintro e w1 ⟨rfl, n1, rfl⟩
          have hown3 := own_below hown (below_drewN (Below.refl _ _) n1)
          have hnx3 := below_drewN hnx n1
          have hsz3 := hnx3.size
          clear hown hnx HP
          go_wp2_with (at_builtin; refine wpList_append_own _ rfl _ _ 90 rfl (w.heap.size) 3 i0 (.int .i64 0) 1 8 Tryz.underlying90 hi hz0 hz1 hz2 rfl (by decide) _ _ _ rfl (hown3.alloc _) ⟨(wr.drewN n1).heap.size, 0, none⟩ 1 1 (iv [q]) rfl rfl (cell_one_new _ _ _) (iv_one _) (by unfold maxLen; omega) (by omega) (by simp; omega) ?_)
          intro v' w2 hown' hgrow' _
          rw [iv_app] at hown'
          have hb2 : Below w.heap.size w w2 := (hnx3.alloc hsz3 _).grown hgrow' (by simp; omega) (ownsRow_block hown3)
          clear hgrow' hown3
          go_wp2
          go_roundw
          case rel => exact ⟨t.extract 2 t.size, o ++ [q], f - 1, rfl, by rw [ext_len]; omega, by rw [ext_len]; omega, by rw [ext_len]; omega, HX, by rw [ext_len, List.length_append]; simp; omega, by rw [List.length_append]; exact hown', hb2⟩
          case measure => simp [szOf]; omega
      · have ht0 : t.size = 0 := by omega
        have HG : Hid (dec 2 s.size s = some o) := by unfold Hid; rw [hd.out, dec_end 2 f t ht0]; simp
        have h0' : ¬ (0 : Int) < t.size := by omega
        clear hd
        go_wp2
        go_ret2
        exact ⟨.inl ⟨o, HG.out, _, rfl, hown⟩, hnx⟩

end Go.Proofs.YtljnciclbjcinaaGreatDoor
