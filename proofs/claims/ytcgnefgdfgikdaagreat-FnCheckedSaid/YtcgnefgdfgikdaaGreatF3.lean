/-
  Rounding: spec's.
-/
import Derived.Test.YtcgnefgdfgikdaaGreatF2
import Derived.Deep.Cut
import Derived.Deep.CutRange
import Derived.Deep.DeepCutAuto
import Derived.OpenShut
import Derived.Test.YtcgnefgdfgikdaaGreatU1
import Derived.Test.YtcgnefgdfgikdaaGreatQ1
namespace Go.Proofs.YtcgnefgdfgikdaaGreat
open Go.RowKit

theorem spcZero16 (neg : Bool) (e : Int) (more : Bool) (w : World) :
    Calls Tryz.prog 94 #[(.agg #[.int .u64 5, .int .u64 10]), .bool neg, .int .u64 0, .int .i64 e, .bool more] w fun e w' => e = .returned (.int .u32 (neg.toNat * 32768)) ∧ Below w.heap.size w w' := by
  go_enter Tryz.func94, Tryz.ntmps94
  go_wp2_with (go_at_call 96; refine (l4Sign16 neg _).mono ?_; rintro e w1 ⟨rfl, B1⟩)
  go_ret
  refine ⟨rfl, bel_step ?_ B1⟩
  (repeat (first | refine Below.alloc ?_ (by first | (simp; done) | (simp; omega)) _ | refine Below.setCell ?_ (by first | (simp; done) | (simp; omega)) _ | refine bel_dN ?_ _ | refine Below.drew ?_ | exact Below.refl _ _))

theorem spcZero32 (neg : Bool) (e : Int) (more : Bool) (w : World) :
    Calls Tryz.prog 94 #[(.agg #[.int .u64 8, .int .u64 23]), .bool neg, .int .u64 0, .int .i64 e, .bool more] w fun e w' => e = .returned (.int .u32 (neg.toNat * 2147483648)) ∧ Below w.heap.size w w' := by
  go_enter Tryz.func94, Tryz.ntmps94
  go_wp2_with (go_at_call 96; refine (l4Sign32 neg _).mono ?_; rintro e w1 ⟨rfl, B1⟩)
  go_ret
  refine ⟨rfl, bel_step ?_ B1⟩
  (repeat (first | refine Below.alloc ?_ (by first | (simp; done) | (simp; omega)) _ | refine Below.setCell ?_ (by first | (simp; done) | (simp; omega)) _ | refine bel_dN ?_ _ | refine Below.drew ?_ | exact Below.refl _ _))

set_option maxRecDepth 100000 in
set_option maxHeartbeats 2000000 in
theorem spcRound16 (neg : Bool) (m : Nat) (hm : m < 1152921504606846976) (hm0 : m ≠ 0) (e : Int) (he0 : -2000 ≤ e) (he1 : e ≤ 2000) (more : Bool) (w : World) :
    Calls Tryz.prog 94 #[(.agg #[.int .u64 5, .int .u64 10]), .bool neg, .int .u64 (m : Int), .int .i64 e, .bool more] w fun e' w' => e' = .returned (.int .u32 (neg.toNat * 32768 + ((min (toldOf 10 (-24) m e more) 31744 : Nat) : Int))) ∧ Below w.heap.size w w' := by
  obtain ⟨n, hn⟩ : ∃ n, Lib.bitLen m = n := ⟨_, rfl⟩
  obtain ⟨l, hl⟩ : ∃ l, lastOf 10 (-24) m e = l := ⟨_, rfl⟩
  obtain ⟨kept, hk⟩ : ∃ k, keptOf 10 (-24) m e more = k := ⟨_, rfl⟩
  have hnb : n ≤ 60 := by rw [← hn]; exact bl_le m 60 (by omega) (by omega)
  have hn1 : 1 ≤ n := by rw [← hn]; exact (bl_is m (by omega) hm0).1
  obtain ⟨kb1, kb2⟩ := kept_bounds 10 (-24) m e more hm0 (by omega)
  rw [hk] at kb1 kb2
  rw [hl] at kb2
  have LN : Hid (∀ w, Calls Tryz.prog 97 #[.int .u64 (m : Int)] w fun e w' => e = .returned (.int .i64 (n : Int)) ∧ w' = w) := fun w => by rw [← hn]; exact l4LenB m (by omega) w
  have hlast := hl
  unfold lastOf at hl
  rw [hn] at hl
  replace hl : max (e + n - 10 - 1) (-24) = l := hl
  have hll : (-24) ≤ l := by omega
  have hlu : l ≤ 2100 := by omega
  obtain ⟨D, hD⟩ : ∃ D, l - (-24) = D := ⟨_, rfl⟩
  have hD0 : 0 ≤ D := by omega
  have htold : ((min (toldOf 10 (-24) m e more) 31744 : Nat) : Int) = min (D * 1024 + kept) 31744 := by
    have h := told_min 10 (-24) 31744 m e more hm0
    rw [hlast, hD, hk, show (2 : Nat) ^ 10 = 1024 by decide] at h
    exact h
  rw [htold]
  obtain ⟨R, hR⟩ : ∃ R, min (D * 1024 + (kept : Int)) 31744 = R := ⟨_, rfl⟩
  rw [hR]
  have hkk : Hid (keptOf 10 (-24) m e more = kept ∧ lastOf 10 (-24) m e = l) := ⟨hk, hlast⟩
  obtain ⟨W, hW⟩ : ∃ W, w.alloc (.cells #[.int .u64 5, .int .u64 10] 124) = W := ⟨_, rfl⟩
  have H : Hid (Below w.heap.size w W) := by unfold Hid; rw [← hW]; (repeat (first | refine Below.alloc ?_ (by first | (simp; done) | (simp; omega)) _ | refine Below.setCell ?_ (by first | (simp; done) | (simp; omega)) _ | refine bel_dN ?_ _ | refine Below.drew ?_ | exact Below.refl _ _))
  have hs : W.heap.size = w.heap.size + 1 := by rw [← hW]; simp
  obtain ⟨g, hg⟩ : ∃ g, w.heap.size = g := ⟨_, rfl⟩
  have k0 : ∀ w, Keeps W w → w.cell? ⟨g, 0, none⟩ = some (.int .u64 5) := fun w h => h.cell (by omega) (by rw [← hW, ← hg]; simp)
  have k1 : ∀ w, Keeps W w → w.cell? ⟨g, 1, none⟩ = some (.int .u64 10) := fun w h => h.cell (by omega) (by rw [← hW, ← hg]; simp)
  have HH : Hid (m < 1152921504606846976 ∧ -2000 ≤ e ∧ e ≤ 2000 ∧ 1 ≤ n ∧ n ≤ 60 ∧ kept ≤ 2 * 1024 ∧ ((-24) < l → 1024 ≤ kept) ∧ (-24) ≤ l ∧ l ≤ 2100 ∧ l - (-24) = D ∧ min (D * 1024 + (kept : Int)) 31744 = R ∧ max (e + n - 10 - 1) (-24) = l) := ⟨hm, he0, he1, hn1, hnb, Nat.le_trans kb1 (by decide), fun h => Nat.le_trans (by decide) (kb2 h), hll, hlu, hD, hR, hl⟩
  have v1 : IntKind.i64.wrap (e + n) = e + n := by rw [IntKind.wrap_i64]; omega
  have v2 : IntKind.i64.wrap (e + n - 10) = e + n - 10 := by rw [IntKind.wrap_i64]; omega
  obtain ⟨l0, hl0⟩ : ∃ l0, e + n - 10 - 1 = l0 := ⟨_, rfl⟩
  have v3 : IntKind.i64.wrap (e + n - 10 - 1) = l0 := by rw [IntKind.wrap_i64]; omega
  have v4 : IntKind.i64.wrap 10 = 10 := by rw [IntKind.wrap_i64]; omega
  have HL : Hid (max l0 (-24) = l) := by unfold Hid; omega
  have km : ((m : Int) == 0) = false := by simp; omega
  clear hm he0 he1 hn1 hnb kb1 kb2 hll hlu hD hR hl htold hk hm0 hn hD0 hl0 hlast
  have SG := l4Sign16 neg
  have IN := l4Inf16 neg
  obtain ⟨_, b1, b2⟩ := bool_u32 neg
  generalize (neg.toNat : Int) = N at *
  have HB : Hid (0 ≤ N ∧ N ≤ 1) := ⟨b1, b2⟩
  clear b1 b2
  go_enter Tryz.func94, Tryz.ntmps94
  go_wp2_with fail
  clear hW
  refine region_q (C := Keeps W) (by kernel_rfl) (by kernel_rfl) (Keeps.drew W) ?_
  (iterate 10
    (apply wpQuiet_go _ (by rfl)
     · intro wq hq
       go_simp
       first
         | (go_at_call 97; exact qsame hq (LN.out _))
         | exact rfl
     simp only [Act.put, List.setIfInBounds_toArray, List.set_cons_succ, List.set_cons_zero]))
  refine wpQuiet_nil ?_
  intro w1 hk1
  have q0 := k0 _ hk1
  have q1 := k1 _ hk1
  clear v1 v2 v3 v4 LN
  go_wp2_with fail
  refine (l4Least16 _).mono ?_
  rintro e' w2 ⟨rfl, B2⟩
  have hk2 := hk1.step B2
  clear q0 q1 hk1 B2
  have q0 := k0 _ hk2
  have q1 := k1 _ hk2
  go_upto_if 33 with fail
  go_cut [11] (fun s11 wx => s11 = .int .i64 l ∧ Keeps W wx)
  case first =>
    by_cases hlt : l0 < (-24)
    · have hll : l = (-24) := by have := HL.out; omega
      go_wp2_with fail
      refine (l4Least16 _).mono ?_
      rintro e' w3 ⟨rfl, B3⟩
      go_wp2
      go_meet
      exact ⟨by rw [hll], hk2.step B3⟩
    · have hll : l0 = l := by have := HL.out; omega
      go_wp2
      go_meet
      exact ⟨rfl, hk2⟩
  case rest =>
    obtain ⟨rfl, hk3⟩ := hcut
    clear q0 q1 hk2
    obtain ⟨sh, hsh⟩ : ∃ sh, wrap64 (l - e) = sh := ⟨_, rfl⟩
    have Hsh : Hid (l - e = sh) := by
      obtain ⟨h1, h2, h3, h4, h5, h6, h7, h8, h9, h10, h11, h12⟩ := HH.out
      unfold Hid; rw [← hsh]; unfold wrap64; omega
    go_upto_if 40 with fail
    go_cut [2, 12] (fun s2 s12 wx => s2 = .int .u64 (kept : Int) ∧ wx = wc)
    case first =>
      obtain ⟨h1, h2, h3, h4, h5, h6, h7, h8, h9, h10, h11, h12⟩ := HH.out
      obtain ⟨hkv, hle⟩ := hkk.out
      unfold keptOf at hkv
      rw [hle] at hkv
      by_cases hlt : e < l
      · obtain ⟨T, hT⟩ : ∃ T : Nat, sh = T := ⟨sh.toNat, by have := Hsh.out; omega⟩
        subst hT
        rw [if_pos hlt, show (l - e).toNat = T by have := Hsh.out; omega] at hkv
        have T1 : 1 ≤ T := by have := Hsh.out; omega
        have t1 : ¬ (T : Int) ≤ 0 := by omega
        by_cases hT64 : (T : Int) < 64
        · have t3 : IntKind.u64.wrap (T : Int) = T := by rw [IntKind.wrap_u64]; omega
          have t4 : min T 64 = T := by omega
          obtain ⟨Kq, hK⟩ : ∃ Kq, m / 2 ^ T = Kq := ⟨_, rfl⟩
          obtain ⟨Lm, hL⟩ : ∃ Lm, m % 2 ^ T = Lm := ⟨_, rfl⟩
          obtain ⟨Hh, hH⟩ : ∃ Hh : Nat, 2 ^ (T - 1) = Hh := ⟨_, rfl⟩
          have e2 : 2 ^ T = 2 * Hh := by rw [← hH, ← Nat.pow_succ', show (T - 1).succ = T by omega]
          have e64 : (2 : Nat) ^ T ≤ 2 ^ 63 := Nat.pow_le_pow_right (by omega) (by omega)
          have e63 : (2 : Nat) ^ 63 = 9223372036854775808 := by decide
          rw [e63] at e64
          have f1' : (m : Int) / 2 ^ T = (Kq : Int) := by rw [← hK]; simp
          obtain ⟨Z, hZ⟩ : ∃ Z : Int, (2 : Int) ^ T = Z := ⟨_, rfl⟩
          have hZn : Z = ((2 ^ T : Nat) : Int) := by rw [← hZ]; simp
          have f1 : (m : Int) / Z = (Kq : Int) := by rw [← hZ]; exact f1'
          have f2 : IntKind.u64.wrap Z = Z := by rw [IntKind.wrap_u64]; omega
          have f3 : IntKind.u64.wrap (Z - 1) = Z - 1 := by have := Nat.two_pow_pos T; rw [IntKind.wrap_u64]; omega
          have f4 : bits .and .u64 (m : Int) (Z - 1) = (Lm : Int) := by
            rw [← hZ, low64 T (by omega) (m : Int) (by omega) (by omega), ← hL]; simp
          have g1 : wrap64 ((T : Int) - 1) = (T : Int) - 1 := by unfold wrap64; omega
          have g6 : IntKind.u64.wrap ((T : Int) - 1) = (T : Int) - 1 := by rw [IntKind.wrap_u64]; omega
          have g3 : ((T : Int) - 1).toNat = T - 1 := by omega
          have g4 : min (T - 1) 64 = T - 1 := by omega
          have g7 : (2 : Int) ^ (T - 1) = (Hh : Int) := by rw [← hH]; simp
          have g8 : IntKind.u64.wrap (Hh : Int) = Hh := by rw [IntKind.wrap_u64]; omega
          have g9 : bits .and .u64 (Kq : Int) 1 = (Kq : Int) % 2 := by
            have : Kq ≤ m := by rw [← hK]; exact Nat.div_le_self _ _
            exact low64 1 (by omega) (Kq : Int) (by omega) (by omega)
          have hK1 : IntKind.u64.wrap ((Kq : Int) + 1) = (Kq : Int) + 1 := by
            have : Kq ≤ m := by rw [← hK]; exact Nat.div_le_self _ _
            rw [IntKind.wrap_u64]; omega
          unfold nsh at hkv
          rw [hK, hL, e2] at hkv
          have HK : Hid ((if 2 * Hh < 2 * Lm ∨ (2 * Hh = 2 * Lm ∧ (more = true ∨ Kq % 2 = 1)) then Kq + 1 else Kq) = kept) := hkv
          clear h1 h2 h3 h4 h5 h6 h7 h8 h9 h10 h11 h12 hkv hle hlt T1 hK hL hH e2 e64 e63 hZn f1'
          rcases Nat.lt_trichotomy Hh Lm with h | h | h
          · have c1 : (Hh : Int) < Lm := by omega
            have hv : Hid (((Kq : Int) + 1) = kept) := by unfold Hid; have := HK.out; rw [if_pos (by omega)] at this; omega
            clear h
            go_wp2
            go_meet
            exact ⟨by rw [hv.out], rfl⟩
          · subst h
            cases more
            · by_cases hkq : Kq % 2 = 1
              · have c1 : ((Kq : Int) % 2 == 1) = true := by simp; omega
                have hv : Hid (((Kq : Int) + 1) = kept) := by unfold Hid; have := HK.out; rw [if_pos (by omega)] at this; omega
                clear hkq
                go_wp2
                go_meet
                exact ⟨by rw [hv.out], rfl⟩
              · have c1 : ((Kq : Int) % 2 == 1) = false := by simp; omega
                have hv : Hid (Kq = kept) := by unfold Hid; have := HK.out; rw [if_neg (by simp; omega)] at this; omega
                clear hkq
                go_wp2
                go_meet
                exact ⟨by rw [hv.out], rfl⟩
            · have hv : Hid (((Kq : Int) + 1) = kept) := by unfold Hid; have := HK.out; rw [if_pos (by simp)] at this; omega
              go_wp2
              go_meet
              exact ⟨by rw [hv.out], rfl⟩
          · have c1 : ¬ (Hh : Int) < Lm := by omega
            have c2 : ((Lm : Int) == Hh) = false := by simp; omega
            have hv : Hid (Kq = kept) := by unfold Hid; have := HK.out; rw [if_neg (by omega)] at this; omega
            clear h
            go_wp2
            go_meet
            exact ⟨by rw [hv.out], rfl⟩
        · have hv : kept = 0 := by
            rw [← hkv]
            refine nsh_far m T more ?_
            have : (2 : Nat) ^ 61 ≤ 2 ^ T := Nat.pow_le_pow_right (by omega) (by omega)
            have e61 : (2 : Nat) ^ 61 = 2305843009213693952 := by decide
            omega
          subst hv
          clear h1 h2 h3 h4 h5 h6 h7 h8 h9 h10 h11 h12 hkv hle hlt T1
          go_wp2
          go_meet
          exact ⟨rfl, rfl⟩
      · obtain ⟨T, hT⟩ : ∃ T : Nat, sh = -(T : Int) := ⟨(-sh).toNat, by have := Hsh.out; omega⟩
        rw [if_neg hlt, show (e - l).toNat = T by have := Hsh.out; omega] at hkv
        have t1 : sh ≤ 0 := by omega
        have t2 : wrap64 (-sh) = T := by unfold wrap64; have := Hsh.out; omega
        have t3 : IntKind.u64.wrap (T : Int) = T := by rw [IntKind.wrap_u64]; have := Hsh.out; omega
        have t4 : min T 64 = T := by have := Hsh.out; omega
        have t5 : IntKind.u64.wrap ((m : Int) * 2 ^ T) = kept := by
          rw [show (m : Int) * 2 ^ T = ((m * 2 ^ T : Nat) : Int) by simp, hkv, IntKind.wrap_u64]; omega
        clear h1 h2 h3 h4 h5 h6 h7 h8 h9 h10 h11 h12 hkv hle hlt hT
        go_wp2
        go_meet
        exact ⟨rfl, rfl⟩
    case rest =>
      obtain ⟨rfl, hwc⟩ := hcut
      obtain rfl := hwc.symm
      clear hsh Hsh hkk HL hwc
      have q1 := k1 _ hk3
      have q0 := k0 _ hk3
      obtain ⟨M, hM⟩ : ∃ M : Int, (if kept = 2 * 1024 then (1024 : Int) else kept) = M := ⟨_, rfl⟩
      obtain ⟨low, hlow⟩ : ∃ low : Int, (if kept = 2 * 1024 then l + 1 else l) = low := ⟨_, rfl⟩
      have HM : Hid ((if kept = 2 * 1024 then (1024 : Int) else kept) = M ∧ (if kept = 2 * 1024 then l + 1 else l) = low) := ⟨hM, hlow⟩
      clear hM hlow
      go_upto_if 86 with fail
      go_cut [2, 11] (fun s2 s11 wx => s2 = .int .u64 M ∧ s11 = .int .i64 low ∧ wx = wc)
      case first =>
        obtain ⟨hM, hlow⟩ := HM.out
        by_cases h2 : kept = 2 * 1024
        · rw [if_pos h2] at hM hlow
          have c1 : ((kept : Int) == 2048) = true := by simp; omega
          have c2 : (kept : Int) / 2 = 1024 := by omega
          have c3 : wrap64 (l + 1) = low := by
            obtain ⟨h1, h2, h3, h4, h5, h6, h7, h8, h9, h10, h11, h12⟩ := HH.out
            unfold wrap64; omega
          clear h2 hlow
          go_wp2
          go_meet
          exact ⟨by first | rfl | rw [← hM], by first | rfl | rw [c3], rfl⟩
        · rw [if_neg h2] at hM hlow
          have c1 : ((kept : Int) == 2048) = false := by simp; omega
          clear h2
          go_wp2
          go_meet
          exact ⟨by first | rfl | rw [← hM], by first | rfl | rw [← hlow], rfl⟩
      case rest =>
        obtain ⟨rfl, rfl, hwc⟩ := hcut
        obtain rfl := hwc.symm
        clear hwc
        have HC : Hid (0 ≤ M ∧ M < 2 * 1024 ∧ (M < 1024 → low = (-24) ∧ R = M) ∧ (1024 ≤ M → R = min ((low - (-24) + 1) * 1024 + (M - 1024)) 31744) ∧ (-24) ≤ low ∧ low ≤ 2200) := by
          obtain ⟨h1, h2, h3, h4, h5, h6, h7, h8, h9, h10, h11, h12⟩ := HH.out
          obtain ⟨hM, hlow⟩ := HM.out
          unfold Hid
          by_cases hk2 : kept = 2 * 1024
          · rw [if_pos hk2] at hM hlow
            clear h1 h2 h3 h4 h5 h12 HH HM
            refine ⟨by omega, by omega, fun h => by omega, fun h => ?_, by omega, by omega⟩
            omega
          · rw [if_neg hk2] at hM hlow
            clear h1 h2 h3 h4 h5 h12 HH HM
            refine ⟨by omega, by omega, fun h => ?_, fun h => ?_, by omega, by omega⟩
            · by_cases hll : (-24) < l
              · have := h7 hll; omega
              · omega
            · omega
        clear HH HM
        obtain ⟨b1, b2⟩ := HB.out
        obtain ⟨m0, m1, m2, m3, m4, m5⟩ := HC.out
        by_cases hMP : M < 1024
        · have hor : bits .or .u32 (N * 32768) M = N * 32768 + M := orJoin 15 N M b1 m0 (by omega) (by omega)
          have hwt : IntKind.u32.wrap M = M := by rw [wr_u32]; omega
          have hR : R = M := (m2 hMP).2
          clear m0 m1 m2 m3 m4 m5 b1 b2 HC
          go_wp2_with fail
          refine (SG _).mono ?_
          rintro e' w5 ⟨rfl, B5⟩
          go_wp2
          go_ret
          exact ⟨by rw [hR]; rfl, bel_step (bel_step H.out hk3.below) B5⟩
        · obtain ⟨x, hx⟩ : ∃ x, low - (-24) + 1 = x := ⟨_, rfl⟩
          have d1 : wrap64 (low - (-24)) = x - 1 := by unfold wrap64; omega
          have d2 : wrap64 (low + 24) = x - 1 := by unfold wrap64; omega
          have d3 : wrap64 (x - 1 + 1) = x := by unfold wrap64; omega
          have d4 : wrap64 x = x := by unfold wrap64; omega
          have hR := m3 (by omega)
          rw [hx] at hR
          obtain ⟨f, hf⟩ : ∃ f, M - 1024 = f := ⟨_, rfl⟩
          rw [hf] at hR
          have hMf : M % 1024 = f := by omega
          have f0 : 0 ≤ f := by omega
          have f1 : f < 1024 := by omega
          have x0 : 0 ≤ x := by omega
          have u1 : IntKind.u32.wrap M = M := by rw [wr_u32]; omega
          have u2 : bits .and .u32 M 1023 = f := by rw [← hMf]; exact low32 10 (by omega) M m0 (by omega)
          have HX : Hid (R = min (x * 1024 + f) 31744 ∧ 0 ≤ x ∧ 0 ≤ f ∧ f < 1024) := ⟨hR, x0, f0, f1⟩
          have hx31 : x < 31 → IntKind.u32.wrap x = x ∧ IntKind.u32.wrap (x * 1024) = x * 1024 ∧ bits .or .u32 (N * 32768) (x * 1024) = N * 32768 + x * 1024 ∧ bits .or .u32 (N * 32768 + x * 1024) f = N * 32768 + x * 1024 + f := fun h => by
            obtain ⟨j1, j2, j3, j4⟩ := joined16 N x f b1 b2 x0 (by omega) f0 f1
            exact ⟨by rw [wr_u32]; omega, j2, j3, j4⟩
          clear m0 m1 m2 m3 m4 m5 b1 b2 HC hR hf hMf f0 f1 x0 hx
          go_wp2_with fail
          refine (l4Least16 _).mono ?_
          rintro e' w5 ⟨rfl, B5⟩
          have hk5 := hk3.step B5
          clear q0 q1
          have q0 := k0 _ hk5
          have q1 := k1 _ hk5
          clear hk3 B5
          by_cases hxo : 31 ≤ x
          · have hR : R = 31744 := by obtain ⟨a1, a2, a3, a4⟩ := HX.out; omega
            clear hx31
            go_wp2_with fail
            refine (IN _).mono ?_
            rintro e' w6 ⟨rfl, B6⟩
            go_wp2
            go_ret
            exact ⟨by rw [hR]; rfl, bel_step (bel_step H.out hk5.below) B6⟩
          · obtain ⟨j1, j2, j3, j4⟩ := hx31 (by omega)
            clear hx31
            have hR : N * 32768 + R = N * 32768 + x * 1024 + f := by obtain ⟨a1, a2, a3, a4⟩ := HX.out; omega
            have HRR : Hid (N * 32768 + R = N * 32768 + x * 1024 + f) := hR
            have c1 : IntKind.u32.wrap 1024 = 1024 := by rw [wr_u32]; omega
            have c2 : IntKind.u32.wrap 1023 = 1023 := by rw [wr_u32]; omega
            have hxo' : x < 31 := by omega
            clear hR HX hxo
            go_wp2_with fail
            clear d1 d2 d3 hxo'
            refine region_q (C := Keeps W) (by kernel_rfl) (by kernel_rfl) hk5.more ?_
            clear q0 q1
            (iterate 18
    (apply wpQuiet_go _ (by rfl)
     · intro wq hq
       go_simp
       first
         | (go_at_call 96; exact qcall hq (SG _))
         | exact rfl
     simp only [Act.put, List.setIfInBounds_toArray, List.set_cons_succ, List.set_cons_zero]))
            refine wpQuiet_nil ?_
            intro w7 hk7
            clear k0 k1
            go_wp2
            go_ret
            exact ⟨by rw [HRR.out]; rfl, bel_step H.out hk7.below⟩

set_option maxRecDepth 100000 in
set_option maxHeartbeats 2000000 in
theorem spcRound32 (neg : Bool) (m : Nat) (hm : m < 1152921504606846976) (hm0 : m ≠ 0) (e : Int) (he0 : -2000 ≤ e) (he1 : e ≤ 2000) (more : Bool) (w : World) :
    Calls Tryz.prog 94 #[(.agg #[.int .u64 8, .int .u64 23]), .bool neg, .int .u64 (m : Int), .int .i64 e, .bool more] w fun e' w' => e' = .returned (.int .u32 (neg.toNat * 2147483648 + ((min (toldOf 23 (-149) m e more) 2139095040 : Nat) : Int))) ∧ Below w.heap.size w w' := by
  obtain ⟨n, hn⟩ : ∃ n, Lib.bitLen m = n := ⟨_, rfl⟩
  obtain ⟨l, hl⟩ : ∃ l, lastOf 23 (-149) m e = l := ⟨_, rfl⟩
  obtain ⟨kept, hk⟩ : ∃ k, keptOf 23 (-149) m e more = k := ⟨_, rfl⟩
  have hnb : n ≤ 60 := by rw [← hn]; exact bl_le m 60 (by omega) (by omega)
  have hn1 : 1 ≤ n := by rw [← hn]; exact (bl_is m (by omega) hm0).1
  obtain ⟨kb1, kb2⟩ := kept_bounds 23 (-149) m e more hm0 (by omega)
  rw [hk] at kb1 kb2
  rw [hl] at kb2
  have LN : Hid (∀ w, Calls Tryz.prog 97 #[.int .u64 (m : Int)] w fun e w' => e = .returned (.int .i64 (n : Int)) ∧ w' = w) := fun w => by rw [← hn]; exact l4LenB m (by omega) w
  have hlast := hl
  unfold lastOf at hl
  rw [hn] at hl
  replace hl : max (e + n - 23 - 1) (-149) = l := hl
  have hll : (-149) ≤ l := by omega
  have hlu : l ≤ 2100 := by omega
  obtain ⟨D, hD⟩ : ∃ D, l - (-149) = D := ⟨_, rfl⟩
  have hD0 : 0 ≤ D := by omega
  have htold : ((min (toldOf 23 (-149) m e more) 2139095040 : Nat) : Int) = min (D * 8388608 + kept) 2139095040 := by
    have h := told_min 23 (-149) 2139095040 m e more hm0
    rw [hlast, hD, hk, show (2 : Nat) ^ 23 = 8388608 by decide] at h
    exact h
  rw [htold]
  obtain ⟨R, hR⟩ : ∃ R, min (D * 8388608 + (kept : Int)) 2139095040 = R := ⟨_, rfl⟩
  rw [hR]
  have hkk : Hid (keptOf 23 (-149) m e more = kept ∧ lastOf 23 (-149) m e = l) := ⟨hk, hlast⟩
  obtain ⟨W, hW⟩ : ∃ W, w.alloc (.cells #[.int .u64 8, .int .u64 23] 124) = W := ⟨_, rfl⟩
  have H : Hid (Below w.heap.size w W) := by unfold Hid; rw [← hW]; (repeat (first | refine Below.alloc ?_ (by first | (simp; done) | (simp; omega)) _ | refine Below.setCell ?_ (by first | (simp; done) | (simp; omega)) _ | refine bel_dN ?_ _ | refine Below.drew ?_ | exact Below.refl _ _))
  have hs : W.heap.size = w.heap.size + 1 := by rw [← hW]; simp
  obtain ⟨g, hg⟩ : ∃ g, w.heap.size = g := ⟨_, rfl⟩
  have k0 : ∀ w, Keeps W w → w.cell? ⟨g, 0, none⟩ = some (.int .u64 8) := fun w h => h.cell (by omega) (by rw [← hW, ← hg]; simp)
  have k1 : ∀ w, Keeps W w → w.cell? ⟨g, 1, none⟩ = some (.int .u64 23) := fun w h => h.cell (by omega) (by rw [← hW, ← hg]; simp)
  have HH : Hid (m < 1152921504606846976 ∧ -2000 ≤ e ∧ e ≤ 2000 ∧ 1 ≤ n ∧ n ≤ 60 ∧ kept ≤ 2 * 8388608 ∧ ((-149) < l → 8388608 ≤ kept) ∧ (-149) ≤ l ∧ l ≤ 2100 ∧ l - (-149) = D ∧ min (D * 8388608 + (kept : Int)) 2139095040 = R ∧ max (e + n - 23 - 1) (-149) = l) := ⟨hm, he0, he1, hn1, hnb, Nat.le_trans kb1 (by decide), fun h => Nat.le_trans (by decide) (kb2 h), hll, hlu, hD, hR, hl⟩
  have v1 : IntKind.i64.wrap (e + n) = e + n := by rw [IntKind.wrap_i64]; omega
  have v2 : IntKind.i64.wrap (e + n - 23) = e + n - 23 := by rw [IntKind.wrap_i64]; omega
  obtain ⟨l0, hl0⟩ : ∃ l0, e + n - 23 - 1 = l0 := ⟨_, rfl⟩
  have v3 : IntKind.i64.wrap (e + n - 23 - 1) = l0 := by rw [IntKind.wrap_i64]; omega
  have v4 : IntKind.i64.wrap 23 = 23 := by rw [IntKind.wrap_i64]; omega
  have HL : Hid (max l0 (-149) = l) := by unfold Hid; omega
  have km : ((m : Int) == 0) = false := by simp; omega
  clear hm he0 he1 hn1 hnb kb1 kb2 hll hlu hD hR hl htold hk hm0 hn hD0 hl0 hlast
  have SG := l4Sign32 neg
  have IN := l4Inf32 neg
  obtain ⟨_, b1, b2⟩ := bool_u32 neg
  generalize (neg.toNat : Int) = N at *
  have HB : Hid (0 ≤ N ∧ N ≤ 1) := ⟨b1, b2⟩
  clear b1 b2
  go_enter Tryz.func94, Tryz.ntmps94
  go_wp2_with fail
  clear hW
  refine region_q (C := Keeps W) (by kernel_rfl) (by kernel_rfl) (Keeps.drew W) ?_
  (iterate 10
    (apply wpQuiet_go _ (by rfl)
     · intro wq hq
       go_simp
       first
         | (go_at_call 97; exact qsame hq (LN.out _))
         | exact rfl
     simp only [Act.put, List.setIfInBounds_toArray, List.set_cons_succ, List.set_cons_zero]))
  refine wpQuiet_nil ?_
  intro w1 hk1
  have q0 := k0 _ hk1
  have q1 := k1 _ hk1
  clear v1 v2 v3 v4 LN
  go_wp2_with fail
  refine (l4Least32 _).mono ?_
  rintro e' w2 ⟨rfl, B2⟩
  have hk2 := hk1.step B2
  clear q0 q1 hk1 B2
  have q0 := k0 _ hk2
  have q1 := k1 _ hk2
  go_upto_if 33 with fail
  go_cut [11] (fun s11 wx => s11 = .int .i64 l ∧ Keeps W wx)
  case first =>
    by_cases hlt : l0 < (-149)
    · have hll : l = (-149) := by have := HL.out; omega
      go_wp2_with fail
      refine (l4Least32 _).mono ?_
      rintro e' w3 ⟨rfl, B3⟩
      go_wp2
      go_meet
      exact ⟨by rw [hll], hk2.step B3⟩
    · have hll : l0 = l := by have := HL.out; omega
      go_wp2
      go_meet
      exact ⟨rfl, hk2⟩
  case rest =>
    obtain ⟨rfl, hk3⟩ := hcut
    clear q0 q1 hk2
    obtain ⟨sh, hsh⟩ : ∃ sh, wrap64 (l - e) = sh := ⟨_, rfl⟩
    have Hsh : Hid (l - e = sh) := by
      obtain ⟨h1, h2, h3, h4, h5, h6, h7, h8, h9, h10, h11, h12⟩ := HH.out
      unfold Hid; rw [← hsh]; unfold wrap64; omega
    go_upto_if 40 with fail
    go_cut [2, 12] (fun s2 s12 wx => s2 = .int .u64 (kept : Int) ∧ wx = wc)
    case first =>
      obtain ⟨h1, h2, h3, h4, h5, h6, h7, h8, h9, h10, h11, h12⟩ := HH.out
      obtain ⟨hkv, hle⟩ := hkk.out
      unfold keptOf at hkv
      rw [hle] at hkv
      by_cases hlt : e < l
      · obtain ⟨T, hT⟩ : ∃ T : Nat, sh = T := ⟨sh.toNat, by have := Hsh.out; omega⟩
        subst hT
        rw [if_pos hlt, show (l - e).toNat = T by have := Hsh.out; omega] at hkv
        have T1 : 1 ≤ T := by have := Hsh.out; omega
        have t1 : ¬ (T : Int) ≤ 0 := by omega
        by_cases hT64 : (T : Int) < 64
        · have t3 : IntKind.u64.wrap (T : Int) = T := by rw [IntKind.wrap_u64]; omega
          have t4 : min T 64 = T := by omega
          obtain ⟨Kq, hK⟩ : ∃ Kq, m / 2 ^ T = Kq := ⟨_, rfl⟩
          obtain ⟨Lm, hL⟩ : ∃ Lm, m % 2 ^ T = Lm := ⟨_, rfl⟩
          obtain ⟨Hh, hH⟩ : ∃ Hh : Nat, 2 ^ (T - 1) = Hh := ⟨_, rfl⟩
          have e2 : 2 ^ T = 2 * Hh := by rw [← hH, ← Nat.pow_succ', show (T - 1).succ = T by omega]
          have e64 : (2 : Nat) ^ T ≤ 2 ^ 63 := Nat.pow_le_pow_right (by omega) (by omega)
          have e63 : (2 : Nat) ^ 63 = 9223372036854775808 := by decide
          rw [e63] at e64
          have f1' : (m : Int) / 2 ^ T = (Kq : Int) := by rw [← hK]; simp
          obtain ⟨Z, hZ⟩ : ∃ Z : Int, (2 : Int) ^ T = Z := ⟨_, rfl⟩
          have hZn : Z = ((2 ^ T : Nat) : Int) := by rw [← hZ]; simp
          have f1 : (m : Int) / Z = (Kq : Int) := by rw [← hZ]; exact f1'
          have f2 : IntKind.u64.wrap Z = Z := by rw [IntKind.wrap_u64]; omega
          have f3 : IntKind.u64.wrap (Z - 1) = Z - 1 := by have := Nat.two_pow_pos T; rw [IntKind.wrap_u64]; omega
          have f4 : bits .and .u64 (m : Int) (Z - 1) = (Lm : Int) := by
            rw [← hZ, low64 T (by omega) (m : Int) (by omega) (by omega), ← hL]; simp
          have g1 : wrap64 ((T : Int) - 1) = (T : Int) - 1 := by unfold wrap64; omega
          have g6 : IntKind.u64.wrap ((T : Int) - 1) = (T : Int) - 1 := by rw [IntKind.wrap_u64]; omega
          have g3 : ((T : Int) - 1).toNat = T - 1 := by omega
          have g4 : min (T - 1) 64 = T - 1 := by omega
          have g7 : (2 : Int) ^ (T - 1) = (Hh : Int) := by rw [← hH]; simp
          have g8 : IntKind.u64.wrap (Hh : Int) = Hh := by rw [IntKind.wrap_u64]; omega
          have g9 : bits .and .u64 (Kq : Int) 1 = (Kq : Int) % 2 := by
            have : Kq ≤ m := by rw [← hK]; exact Nat.div_le_self _ _
            exact low64 1 (by omega) (Kq : Int) (by omega) (by omega)
          have hK1 : IntKind.u64.wrap ((Kq : Int) + 1) = (Kq : Int) + 1 := by
            have : Kq ≤ m := by rw [← hK]; exact Nat.div_le_self _ _
            rw [IntKind.wrap_u64]; omega
          unfold nsh at hkv
          rw [hK, hL, e2] at hkv
          have HK : Hid ((if 2 * Hh < 2 * Lm ∨ (2 * Hh = 2 * Lm ∧ (more = true ∨ Kq % 2 = 1)) then Kq + 1 else Kq) = kept) := hkv
          clear h1 h2 h3 h4 h5 h6 h7 h8 h9 h10 h11 h12 hkv hle hlt T1 hK hL hH e2 e64 e63 hZn f1'
          rcases Nat.lt_trichotomy Hh Lm with h | h | h
          · have c1 : (Hh : Int) < Lm := by omega
            have hv : Hid (((Kq : Int) + 1) = kept) := by unfold Hid; have := HK.out; rw [if_pos (by omega)] at this; omega
            clear h
            go_wp2
            go_meet
            exact ⟨by rw [hv.out], rfl⟩
          · subst h
            cases more
            · by_cases hkq : Kq % 2 = 1
              · have c1 : ((Kq : Int) % 2 == 1) = true := by simp; omega
                have hv : Hid (((Kq : Int) + 1) = kept) := by unfold Hid; have := HK.out; rw [if_pos (by omega)] at this; omega
                clear hkq
                go_wp2
                go_meet
                exact ⟨by rw [hv.out], rfl⟩
              · have c1 : ((Kq : Int) % 2 == 1) = false := by simp; omega
                have hv : Hid (Kq = kept) := by unfold Hid; have := HK.out; rw [if_neg (by simp; omega)] at this; omega
                clear hkq
                go_wp2
                go_meet
                exact ⟨by rw [hv.out], rfl⟩
            · have hv : Hid (((Kq : Int) + 1) = kept) := by unfold Hid; have := HK.out; rw [if_pos (by simp)] at this; omega
              go_wp2
              go_meet
              exact ⟨by rw [hv.out], rfl⟩
          · have c1 : ¬ (Hh : Int) < Lm := by omega
            have c2 : ((Lm : Int) == Hh) = false := by simp; omega
            have hv : Hid (Kq = kept) := by unfold Hid; have := HK.out; rw [if_neg (by omega)] at this; omega
            clear h
            go_wp2
            go_meet
            exact ⟨by rw [hv.out], rfl⟩
        · have hv : kept = 0 := by
            rw [← hkv]
            refine nsh_far m T more ?_
            have : (2 : Nat) ^ 61 ≤ 2 ^ T := Nat.pow_le_pow_right (by omega) (by omega)
            have e61 : (2 : Nat) ^ 61 = 2305843009213693952 := by decide
            omega
          subst hv
          clear h1 h2 h3 h4 h5 h6 h7 h8 h9 h10 h11 h12 hkv hle hlt T1
          go_wp2
          go_meet
          exact ⟨rfl, rfl⟩
      · obtain ⟨T, hT⟩ : ∃ T : Nat, sh = -(T : Int) := ⟨(-sh).toNat, by have := Hsh.out; omega⟩
        rw [if_neg hlt, show (e - l).toNat = T by have := Hsh.out; omega] at hkv
        have t1 : sh ≤ 0 := by omega
        have t2 : wrap64 (-sh) = T := by unfold wrap64; have := Hsh.out; omega
        have t3 : IntKind.u64.wrap (T : Int) = T := by rw [IntKind.wrap_u64]; have := Hsh.out; omega
        have t4 : min T 64 = T := by have := Hsh.out; omega
        have t5 : IntKind.u64.wrap ((m : Int) * 2 ^ T) = kept := by
          rw [show (m : Int) * 2 ^ T = ((m * 2 ^ T : Nat) : Int) by simp, hkv, IntKind.wrap_u64]; omega
        clear h1 h2 h3 h4 h5 h6 h7 h8 h9 h10 h11 h12 hkv hle hlt hT
        go_wp2
        go_meet
        exact ⟨rfl, rfl⟩
    case rest =>
      obtain ⟨rfl, hwc⟩ := hcut
      obtain rfl := hwc.symm
      clear hsh Hsh hkk HL hwc
      have q1 := k1 _ hk3
      have q0 := k0 _ hk3
      obtain ⟨M, hM⟩ : ∃ M : Int, (if kept = 2 * 8388608 then (8388608 : Int) else kept) = M := ⟨_, rfl⟩
      obtain ⟨low, hlow⟩ : ∃ low : Int, (if kept = 2 * 8388608 then l + 1 else l) = low := ⟨_, rfl⟩
      have HM : Hid ((if kept = 2 * 8388608 then (8388608 : Int) else kept) = M ∧ (if kept = 2 * 8388608 then l + 1 else l) = low) := ⟨hM, hlow⟩
      clear hM hlow
      go_upto_if 86 with fail
      go_cut [2, 11] (fun s2 s11 wx => s2 = .int .u64 M ∧ s11 = .int .i64 low ∧ wx = wc)
      case first =>
        obtain ⟨hM, hlow⟩ := HM.out
        by_cases h2 : kept = 2 * 8388608
        · rw [if_pos h2] at hM hlow
          have c1 : ((kept : Int) == 16777216) = true := by simp; omega
          have c2 : (kept : Int) / 2 = 8388608 := by omega
          have c3 : wrap64 (l + 1) = low := by
            obtain ⟨h1, h2, h3, h4, h5, h6, h7, h8, h9, h10, h11, h12⟩ := HH.out
            unfold wrap64; omega
          clear h2 hlow
          go_wp2
          go_meet
          exact ⟨by first | rfl | rw [← hM], by first | rfl | rw [c3], rfl⟩
        · rw [if_neg h2] at hM hlow
          have c1 : ((kept : Int) == 16777216) = false := by simp; omega
          clear h2
          go_wp2
          go_meet
          exact ⟨by first | rfl | rw [← hM], by first | rfl | rw [← hlow], rfl⟩
      case rest =>
        obtain ⟨rfl, rfl, hwc⟩ := hcut
        obtain rfl := hwc.symm
        clear hwc
        have HC : Hid (0 ≤ M ∧ M < 2 * 8388608 ∧ (M < 8388608 → low = (-149) ∧ R = M) ∧ (8388608 ≤ M → R = min ((low - (-149) + 1) * 8388608 + (M - 8388608)) 2139095040) ∧ (-149) ≤ low ∧ low ≤ 2200) := by
          obtain ⟨h1, h2, h3, h4, h5, h6, h7, h8, h9, h10, h11, h12⟩ := HH.out
          obtain ⟨hM, hlow⟩ := HM.out
          unfold Hid
          by_cases hk2 : kept = 2 * 8388608
          · rw [if_pos hk2] at hM hlow
            clear h1 h2 h3 h4 h5 h12 HH HM
            refine ⟨by omega, by omega, fun h => by omega, fun h => ?_, by omega, by omega⟩
            omega
          · rw [if_neg hk2] at hM hlow
            clear h1 h2 h3 h4 h5 h12 HH HM
            refine ⟨by omega, by omega, fun h => ?_, fun h => ?_, by omega, by omega⟩
            · by_cases hll : (-149) < l
              · have := h7 hll; omega
              · omega
            · omega
        clear HH HM
        obtain ⟨b1, b2⟩ := HB.out
        obtain ⟨m0, m1, m2, m3, m4, m5⟩ := HC.out
        by_cases hMP : M < 8388608
        · have hor : bits .or .u32 (N * 2147483648) M = N * 2147483648 + M := orJoin 31 N M b1 m0 (by omega) (by omega)
          have hwt : IntKind.u32.wrap M = M := by rw [wr_u32]; omega
          have hR : R = M := (m2 hMP).2
          clear m0 m1 m2 m3 m4 m5 b1 b2 HC
          go_wp2_with fail
          refine (SG _).mono ?_
          rintro e' w5 ⟨rfl, B5⟩
          go_wp2
          go_ret
          exact ⟨by rw [hR]; rfl, bel_step (bel_step H.out hk3.below) B5⟩
        · obtain ⟨x, hx⟩ : ∃ x, low - (-149) + 1 = x := ⟨_, rfl⟩
          have d1 : wrap64 (low - (-149)) = x - 1 := by unfold wrap64; omega
          have d2 : wrap64 (low + 149) = x - 1 := by unfold wrap64; omega
          have d3 : wrap64 (x - 1 + 1) = x := by unfold wrap64; omega
          have d4 : wrap64 x = x := by unfold wrap64; omega
          have hR := m3 (by omega)
          rw [hx] at hR
          obtain ⟨f, hf⟩ : ∃ f, M - 8388608 = f := ⟨_, rfl⟩
          rw [hf] at hR
          have hMf : M % 8388608 = f := by omega
          have f0 : 0 ≤ f := by omega
          have f1 : f < 8388608 := by omega
          have x0 : 0 ≤ x := by omega
          have u1 : IntKind.u32.wrap M = M := by rw [wr_u32]; omega
          have u2 : bits .and .u32 M 8388607 = f := by rw [← hMf]; exact low32 23 (by omega) M m0 (by omega)
          have HX : Hid (R = min (x * 8388608 + f) 2139095040 ∧ 0 ≤ x ∧ 0 ≤ f ∧ f < 8388608) := ⟨hR, x0, f0, f1⟩
          have hx31 : x < 255 → IntKind.u32.wrap x = x ∧ IntKind.u32.wrap (x * 8388608) = x * 8388608 ∧ bits .or .u32 (N * 2147483648) (x * 8388608) = N * 2147483648 + x * 8388608 ∧ bits .or .u32 (N * 2147483648 + x * 8388608) f = N * 2147483648 + x * 8388608 + f := fun h => by
            obtain ⟨j1, j2, j3, j4⟩ := joined32 N x f b1 b2 x0 (by omega) f0 f1
            exact ⟨by rw [wr_u32]; omega, j2, j3, j4⟩
          clear m0 m1 m2 m3 m4 m5 b1 b2 HC hR hf hMf f0 f1 x0 hx
          go_wp2_with fail
          refine (l4Least32 _).mono ?_
          rintro e' w5 ⟨rfl, B5⟩
          have hk5 := hk3.step B5
          clear q0 q1
          have q0 := k0 _ hk5
          have q1 := k1 _ hk5
          clear hk3 B5
          by_cases hxo : 255 ≤ x
          · have hR : R = 2139095040 := by obtain ⟨a1, a2, a3, a4⟩ := HX.out; omega
            clear hx31
            go_wp2_with fail
            refine (IN _).mono ?_
            rintro e' w6 ⟨rfl, B6⟩
            go_wp2
            go_ret
            exact ⟨by rw [hR]; rfl, bel_step (bel_step H.out hk5.below) B6⟩
          · obtain ⟨j1, j2, j3, j4⟩ := hx31 (by omega)
            clear hx31
            have hR : N * 2147483648 + R = N * 2147483648 + x * 8388608 + f := by obtain ⟨a1, a2, a3, a4⟩ := HX.out; omega
            have HRR : Hid (N * 2147483648 + R = N * 2147483648 + x * 8388608 + f) := hR
            have c1 : IntKind.u32.wrap 8388608 = 8388608 := by rw [wr_u32]; omega
            have c2 : IntKind.u32.wrap 8388607 = 8388607 := by rw [wr_u32]; omega
            have hxo' : x < 255 := by omega
            clear hR HX hxo
            go_wp2_with fail
            clear d1 d2 d3 hxo'
            refine region_q (C := Keeps W) (by kernel_rfl) (by kernel_rfl) hk5.more ?_
            clear q0 q1
            (iterate 18
    (apply wpQuiet_go _ (by rfl)
     · intro wq hq
       go_simp
       first
         | (go_at_call 96; exact qcall hq (SG _))
         | exact rfl
     simp only [Act.put, List.setIfInBounds_toArray, List.set_cons_succ, List.set_cons_zero]))
            refine wpQuiet_nil ?_
            intro w7 hk7
            clear k0 k1
            go_wp2
            go_ret
            exact ⟨by rw [HRR.out]; rfl, bel_step H.out hk7.below⟩

theorem specRound16 (neg : Bool) (m : Nat) (hm : m < 1152921504606846976) (e : Int) (he0 : -2000 ≤ e) (he1 : e ≤ 2000) (more : Bool) (w : World) :
    Calls Tryz.prog 94 #[(.agg #[.int .u64 5, .int .u64 10]), .bool neg, .int .u64 (m : Int), .int .i64 e, .bool more] w fun e' w' => e' = .returned (.int .u32 (neg.toNat * 32768 + ((min (toldOf 10 (-24) m e more) 31744 : Nat) : Int))) ∧ Below w.heap.size w w' := by
  by_cases h0 : m = 0
  · subst h0
    have h := spcZero16 neg e more w
    rw [show ((min (toldOf 10 (-24) 0 e more) 31744 : Nat) : Int) = 0 by simp [toldOf], Int.add_zero]
    exact h
  · exact spcRound16 neg m hm h0 e he0 he1 more w

theorem specRound32 (neg : Bool) (m : Nat) (hm : m < 1152921504606846976) (e : Int) (he0 : -2000 ≤ e) (he1 : e ≤ 2000) (more : Bool) (w : World) :
    Calls Tryz.prog 94 #[(.agg #[.int .u64 8, .int .u64 23]), .bool neg, .int .u64 (m : Int), .int .i64 e, .bool more] w fun e' w' => e' = .returned (.int .u32 (neg.toNat * 2147483648 + ((min (toldOf 23 (-149) m e more) 2139095040 : Nat) : Int))) ∧ Below w.heap.size w w' := by
  by_cases h0 : m = 0
  · subst h0
    have h := spcZero32 neg e more w
    rw [show ((min (toldOf 23 (-149) 0 e more) 2139095040 : Nat) : Int) = 0 by simp [toldOf], Int.add_zero]
    exact h
  · exact spcRound32 neg m hm h0 e he0 he1 more w

end Go.Proofs.YtcgnefgdfgikdaaGreat

namespace Go.Proofs.YtcgnefgdfgikdaaGreat
open Go.RowKit


def Fv16 (c m e : Int) : Prop := (c = 0 ∨ c = 1 ∨ c = 2) ∧ 0 ≤ m ∧ m < 2 * 1024 ∧ (-24) ≤ e ∧ e ≤ 31 + (-24) - 2 ∧ (c = 0 → (-24) < e → 1024 ≤ m) ∧ (c ≠ 0 → m = 0 ∧ e = 0)


def Fv32 (c m e : Int) : Prop := (c = 0 ∨ c = 1 ∨ c = 2) ∧ 0 ≤ m ∧ m < 2 * 8388608 ∧ (-149) ≤ e ∧ e ≤ 255 + (-149) - 2 ∧ (c = 0 → (-149) < e → 8388608 ≤ m) ∧ (c ≠ 0 → m = 0 ∧ e = 0)

theorem fv16 (a : Int) : Fv16 (cl16 a) (vm16 a) (ve16 a) := by
  unfold Fv16 cl16 vm16 ve16
  have x0 : 0 ≤ a / 1024 % 32 := by omega
  have x1 : a / 1024 % 32 ≤ 31 := by omega
  have f0 : 0 ≤ a % 1024 := by omega
  have f1 : a % 1024 < 1024 := by omega
  generalize a / 1024 % 32 = x at *
  generalize a % 1024 = f at *
  by_cases hx : x = 31
  · rw [if_pos hx, if_pos hx, if_pos hx]
    by_cases hf : f = 0
    · rw [if_pos hf]; omega
    · rw [if_neg hf]; omega
  · rw [if_neg hx, if_neg hx, if_neg hx]
    by_cases hx0 : x = 0
    · rw [if_pos hx0, if_pos hx0]; omega
    · rw [if_neg hx0, if_neg hx0]; omega

theorem fv32 (a : Int) : Fv32 (cl32 a) (vm32 a) (ve32 a) := by
  unfold Fv32 cl32 vm32 ve32
  have x0 : 0 ≤ a / 8388608 % 256 := by omega
  have x1 : a / 8388608 % 256 ≤ 255 := by omega
  have f0 : 0 ≤ a % 8388608 := by omega
  have f1 : a % 8388608 < 8388608 := by omega
  generalize a / 8388608 % 256 = x at *
  generalize a % 8388608 = f at *
  by_cases hx : x = 255
  · rw [if_pos hx, if_pos hx, if_pos hx]
    by_cases hf : f = 0
    · rw [if_pos hf]; omega
    · rw [if_neg hf]; omega
  · rw [if_neg hx, if_neg hx, if_neg hx]
    by_cases hx0 : x = 0
    · rw [if_pos hx0, if_pos hx0]; omega
    · rw [if_neg hx0, if_neg hx0]; omega

end Go.Proofs.YtcgnefgdfgikdaaGreat

namespace Go.Proofs.YtcgnefgdfgikdaaGreat
open Go.RowKit

/-- Too many bits are cut. -/
theorem cut60 (A j : Nat) (hA : A < 18446744073709551616) (hx : A / 2 ^ j < 1152921504606846976) (hj : j = 0 ∨ 1152921504606846976 ≤ A / 2 ^ (j - 1)) : max ((Lib.bitLen A : Int) - 60) 0 = j := by
  rcases hj with rfl | hj
  · have h : A < 2 ^ 60 := by simpa using hx
    have := bl_le A 60 hA h
    omega
  · by_cases h0 : j = 0
    · subst h0
      have h : A < 2 ^ 60 := by simpa using hx
      have := bl_le A 60 hA h
      omega
    · have hp := Nat.two_pow_pos j
      have hp1 := Nat.two_pow_pos (j - 1)
      have u : A < 2 ^ (60 + j) := by
        rw [Nat.pow_add]
        exact (Nat.div_lt_iff_lt_mul hp).1 hx
      have v : 2 ^ (60 + j - 1) ≤ A := by
        rw [show 60 + j - 1 = 60 + (j - 1) by omega, Nat.pow_add]
        exact (Nat.le_div_iff_mul_le hp1).1 hj
      rw [bl_eq A (60 + j) hA (by omega) v u]
      omega

set_option maxHeartbeats 1000000 in
theorem ofIntSpec16 (n : Int) (n0 : -9223372036854775808 ≤ n) (n1 : n ≤ 9223372036854775807) (A : Nat) (hA : (A : Int) = if n < 0 then -n else n) (w : World) :
    Calls Tryz.prog 86 #[(.agg #[.int .u64 5, .int .u64 10]), .int .i64 n] w fun e w' => (∃ j : Nat, j ≤ 5 ∧ max ((Lib.bitLen A : Int) - 60) 0 = j ∧ A / 2 ^ j < 1152921504606846976 ∧ e = .returned (.int .u32 ((decide (n < 0)).toNat * 32768 + ((min (toldOf 10 (-24) (A / 2 ^ j) j (decide (A % 2 ^ j ≠ 0))) 31744 : Nat) : Int)))) ∧ Below w.heap.size w w' := by
  obtain ⟨W, hW⟩ : ∃ W, w.alloc (.cells #[.int .u64 5, .int .u64 10] 124) = W := ⟨_, rfl⟩
  have H : Hid (Below w.heap.size w W) := by unfold Hid; rw [← hW]; (repeat (first | refine Below.alloc ?_ (by first | (simp; done) | (simp; omega)) _ | refine Below.setCell ?_ (by first | (simp; done) | (simp; omega)) _ | refine bel_dN ?_ _ | refine Below.drew ?_ | exact Below.refl _ _))
  obtain ⟨g, hg⟩ : ∃ g, w.heap.size = g := ⟨_, rfl⟩
  have c0 : W.cell? ⟨g, 0, none⟩ = some (.int .u64 5) := by rw [← hW, ← hg]; simp
  have c1 : W.cell? ⟨g, 1, none⟩ = some (.int .u64 10) := by rw [← hW, ← hg]; simp
  have hA64 : A < 18446744073709551616 := by split at hA <;> omega
  obtain ⟨M0, hM0⟩ : ∃ M0, IntKind.u64.wrap n = M0 := ⟨_, rfl⟩
  obtain ⟨sg, hsg⟩ : ∃ sg, decide (n < 0) = sg := ⟨_, rfl⟩
  have hst : (sg = true → IntKind.u64.wrap (-M0) = A) ∧ (sg = false → M0 = A) := by
    rw [IntKind.wrap_u64] at hM0
    rw [← hsg]
    constructor
    · intro h
      have h' : n < 0 := by simpa using h
      rw [if_pos h'] at hA
      rw [IntKind.wrap_u64]; omega
    · intro h
      have h' : ¬ n < 0 := by simpa using h
      rw [if_neg h'] at hA
      omega
  rw [hsg]
  clear n0 n1 hA
  go_enter Tryz.func86, Tryz.ntmps86
  go_upto_if 13 with fail
  clear hW
  go_cut [6] (fun s6 wx => s6 = .int .u64 (A : Int) ∧ wx = W)
  case first =>
    cases sg
    · have h1 := hst.2 rfl
      clear hst
      go_wp2
      go_meet
      exact ⟨by first | rfl | rw [h1], rfl⟩
    · have h1 := hst.1 rfl
      clear hst
      go_wp2
      go_meet
      exact ⟨by first | rfl | rw [h1], rfl⟩
  case rest =>
    obtain ⟨rfl, hwc⟩ := hcut
    obtain rfl := hwc.symm
    clear hwc hst hM0
    go_wp2
    go_loopw [6, 7, 8] (fun x y z wr => ∃ j : Nat, Hid (j ≤ 5 ∧ (j = 0 ∨ 1152921504606846976 ≤ A / 2 ^ (j - 1))) ∧ x = .int .u64 ((A / 2 ^ j : Nat) : Int) ∧ y = .int .i64 (j : Int) ∧ z = .bool (decide (A % 2 ^ j ≠ 0)) ∧ wr = W) (fun x _ _ _ => (intOf x).toNat)
    case atStart => exact ⟨0, ⟨by omega, Or.inl rfl⟩, by simp, by simp, by simp [Nat.mod_one], rfl⟩
    case round =>
      obtain ⟨j, hj, rfl, rfl, rfl, hwr⟩ := hrel
      obtain rfl := hwr
      obtain ⟨X, hX⟩ : ∃ X, A / 2 ^ j = X := ⟨_, rfl⟩
      by_cases hx : 1152921504606846976 ≤ X
      · have hj4 : j ≤ 3 := by
          have h1 : A / 2 ^ j ≥ 2 ^ 60 := by rw [hX]; simpa using hx
          have hp := Nat.two_pow_pos j
          have h2 : 2 ^ 60 * 2 ^ j ≤ A := (Nat.le_div_iff_mul_le hp).1 h1
          rw [← Nat.pow_add] at h2
          have h3 : 2 ^ (60 + j) < 2 ^ 64 := Nat.lt_of_le_of_lt h2 (by omega)
          have := (Nat.pow_lt_pow_iff_right (by omega)).1 h3
          omega
        have e1 : A / 2 ^ (j + 1) = X / 2 := by rw [Nat.pow_succ, ← Nat.div_div_eq_div_mul, hX]
        have e2 : A % 2 ^ (j + 1) = A % 2 ^ j + 2 ^ j * (X % 2) := by rw [Nat.pow_succ, Nat.mod_mul, hX]
        have hp := Nat.two_pow_pos j
        have hb : decide (A % 2 ^ (j + 1) ≠ 0) = (decide (A % 2 ^ j ≠ 0) || ((X : Int) % 2 == 1)) := by
          rw [e2]
          by_cases h2 : X % 2 = 1
          · rw [h2, show ((X : Int) % 2 == 1) = true by simp; omega]
            first | (simp; done) | (simp; omega)
          · rw [show X % 2 = 0 by omega, show ((X : Int) % 2 == 1) = false by simp; omega]
            simp
        have hm1 : bits .and .u64 (X : Int) 1 = (X : Int) % 2 := by
          have : X ≤ A := by rw [← hX]; exact Nat.div_le_self _ _
          exact low64 1 (by omega) (X : Int) (by omega) (by omega)
        have HB : Hid (decide (A % 2 ^ (j + 1) ≠ 0) = (decide (A % 2 ^ j ≠ 0) || ((X : Int) % 2 == 1)) ∧ A / 2 ^ (j + 1) = X / 2 ∧ A / 2 ^ j = X ∧ j ≤ 3 ∧ 1152921504606846976 ≤ X) := ⟨hb, e1, hX, hj4, hx⟩
        have hw1 : wrap64 ((j : Int) + 1) = (j : Int) + 1 := by unfold wrap64; omega
        obtain ⟨XI, hXI⟩ : ∃ XI : Int, (X : Int) = XI := ⟨_, rfl⟩
        have hxi : 1152921504606846976 ≤ XI := by omega
        rw [hX]
        rw [hXI] at hm1 HB ⊢
        generalize hq : decide (A % 2 ^ j ≠ 0) = q at *
        clear hx hj4 e1 e2 hp hb hX
        cases q
        · obtain ⟨bb, hbb⟩ : ∃ bb, (XI % 2 == 1) = bb := ⟨_, rfl⟩
          go_wp2
          go_roundw
          case rel =>
            obtain ⟨a1, a2, a3, a4, a5⟩ := HB.out
            refine ⟨j + 1, ⟨by omega, Or.inr ?_⟩, ?_, by first | rw [hw1]; simp | simp, ?_, trivial⟩
            · rw [Nat.add_sub_cancel, a3]; exact a5
            · rw [a2, ← hXI]; simp
            · rw [a1, hbb]; simp
          case measure => simp [intOf]; omega
        · go_wp2
          go_roundw
          case rel =>
            obtain ⟨a1, a2, a3, a4, a5⟩ := HB.out
            refine ⟨j + 1, ⟨by omega, Or.inr ?_⟩, ?_, by first | rw [hw1]; simp | simp, ?_, trivial⟩
            · rw [Nat.add_sub_cancel, a3]; exact a5
            · rw [a2, ← hXI]; simp
            · rw [a1]; simp
          case measure => simp [intOf]; omega
      · have hxx : X < 1152921504606846976 := by omega
        have RR := specRound16 sg X hxx j (by have := hj.out.1; omega) (by have := hj.out.1; omega) (decide (A % 2 ^ j ≠ 0))
        have HF : Hid (j ≤ 5 ∧ max ((Lib.bitLen A : Int) - 60) 0 = j ∧ A / 2 ^ j < 1152921504606846976) := ⟨hj.out.1, cut60 A j hA64 (by rw [hX]; exact hxx) hj.out.2, by rw [hX]; exact hxx⟩
        obtain ⟨r, hr⟩ : ∃ r : Int, (sg.toNat : Int) * 32768 + ((min (toldOf 10 (-24) X j (decide (A % 2 ^ j ≠ 0))) 31744 : Nat) : Int) = r := ⟨_, rfl⟩
        rw [hr] at RR
        have HE : Hid ((sg.toNat : Int) * 32768 + ((min (toldOf 10 (-24) (A / 2 ^ j) j (decide (A % 2 ^ j ≠ 0))) 31744 : Nat) : Int) = r) := by unfold Hid; rw [hX]; exact hr
        rw [hX]
        generalize hq : decide (A % 2 ^ j ≠ 0) = q at *
        obtain ⟨XI, hXI⟩ : ∃ XI : Int, (X : Int) = XI := ⟨_, rfl⟩
        have hxi : XI < 1152921504606846976 := by omega
        rw [hXI] at RR ⊢
        have HQ : Hid (decide (A % 2 ^ j ≠ 0) = q) := hq
        clear hr hx hxx hX hXI hq
        go_wp2_with fail
        refine (RR _).mono ?_
        rintro e' w3 ⟨rfl, B3⟩
        go_wp2
        go_ret
        obtain ⟨b1, b2, b3⟩ := HF.out
        refine ⟨⟨j, b1, b2, b3, ?_⟩, bel_step H.out B3⟩
        rw [HQ.out, HE.out]
        rfl

set_option maxHeartbeats 1000000 in
theorem ofIntSpec32 (n : Int) (n0 : -9223372036854775808 ≤ n) (n1 : n ≤ 9223372036854775807) (A : Nat) (hA : (A : Int) = if n < 0 then -n else n) (w : World) :
    Calls Tryz.prog 86 #[(.agg #[.int .u64 8, .int .u64 23]), .int .i64 n] w fun e w' => (∃ j : Nat, j ≤ 5 ∧ max ((Lib.bitLen A : Int) - 60) 0 = j ∧ A / 2 ^ j < 1152921504606846976 ∧ e = .returned (.int .u32 ((decide (n < 0)).toNat * 2147483648 + ((min (toldOf 23 (-149) (A / 2 ^ j) j (decide (A % 2 ^ j ≠ 0))) 2139095040 : Nat) : Int)))) ∧ Below w.heap.size w w' := by
  obtain ⟨W, hW⟩ : ∃ W, w.alloc (.cells #[.int .u64 8, .int .u64 23] 124) = W := ⟨_, rfl⟩
  have H : Hid (Below w.heap.size w W) := by unfold Hid; rw [← hW]; (repeat (first | refine Below.alloc ?_ (by first | (simp; done) | (simp; omega)) _ | refine Below.setCell ?_ (by first | (simp; done) | (simp; omega)) _ | refine bel_dN ?_ _ | refine Below.drew ?_ | exact Below.refl _ _))
  obtain ⟨g, hg⟩ : ∃ g, w.heap.size = g := ⟨_, rfl⟩
  have c0 : W.cell? ⟨g, 0, none⟩ = some (.int .u64 8) := by rw [← hW, ← hg]; simp
  have c1 : W.cell? ⟨g, 1, none⟩ = some (.int .u64 23) := by rw [← hW, ← hg]; simp
  have hA64 : A < 18446744073709551616 := by split at hA <;> omega
  obtain ⟨M0, hM0⟩ : ∃ M0, IntKind.u64.wrap n = M0 := ⟨_, rfl⟩
  obtain ⟨sg, hsg⟩ : ∃ sg, decide (n < 0) = sg := ⟨_, rfl⟩
  have hst : (sg = true → IntKind.u64.wrap (-M0) = A) ∧ (sg = false → M0 = A) := by
    rw [IntKind.wrap_u64] at hM0
    rw [← hsg]
    constructor
    · intro h
      have h' : n < 0 := by simpa using h
      rw [if_pos h'] at hA
      rw [IntKind.wrap_u64]; omega
    · intro h
      have h' : ¬ n < 0 := by simpa using h
      rw [if_neg h'] at hA
      omega
  rw [hsg]
  clear n0 n1 hA
  go_enter Tryz.func86, Tryz.ntmps86
  go_upto_if 13 with fail
  clear hW
  go_cut [6] (fun s6 wx => s6 = .int .u64 (A : Int) ∧ wx = W)
  case first =>
    cases sg
    · have h1 := hst.2 rfl
      clear hst
      go_wp2
      go_meet
      exact ⟨by first | rfl | rw [h1], rfl⟩
    · have h1 := hst.1 rfl
      clear hst
      go_wp2
      go_meet
      exact ⟨by first | rfl | rw [h1], rfl⟩
  case rest =>
    obtain ⟨rfl, hwc⟩ := hcut
    obtain rfl := hwc.symm
    clear hwc hst hM0
    go_wp2
    go_loopw [6, 7, 8] (fun x y z wr => ∃ j : Nat, Hid (j ≤ 5 ∧ (j = 0 ∨ 1152921504606846976 ≤ A / 2 ^ (j - 1))) ∧ x = .int .u64 ((A / 2 ^ j : Nat) : Int) ∧ y = .int .i64 (j : Int) ∧ z = .bool (decide (A % 2 ^ j ≠ 0)) ∧ wr = W) (fun x _ _ _ => (intOf x).toNat)
    case atStart => exact ⟨0, ⟨by omega, Or.inl rfl⟩, by simp, by simp, by simp [Nat.mod_one], rfl⟩
    case round =>
      obtain ⟨j, hj, rfl, rfl, rfl, hwr⟩ := hrel
      obtain rfl := hwr
      obtain ⟨X, hX⟩ : ∃ X, A / 2 ^ j = X := ⟨_, rfl⟩
      by_cases hx : 1152921504606846976 ≤ X
      · have hj4 : j ≤ 3 := by
          have h1 : A / 2 ^ j ≥ 2 ^ 60 := by rw [hX]; simpa using hx
          have hp := Nat.two_pow_pos j
          have h2 : 2 ^ 60 * 2 ^ j ≤ A := (Nat.le_div_iff_mul_le hp).1 h1
          rw [← Nat.pow_add] at h2
          have h3 : 2 ^ (60 + j) < 2 ^ 64 := Nat.lt_of_le_of_lt h2 (by omega)
          have := (Nat.pow_lt_pow_iff_right (by omega)).1 h3
          omega
        have e1 : A / 2 ^ (j + 1) = X / 2 := by rw [Nat.pow_succ, ← Nat.div_div_eq_div_mul, hX]
        have e2 : A % 2 ^ (j + 1) = A % 2 ^ j + 2 ^ j * (X % 2) := by rw [Nat.pow_succ, Nat.mod_mul, hX]
        have hp := Nat.two_pow_pos j
        have hb : decide (A % 2 ^ (j + 1) ≠ 0) = (decide (A % 2 ^ j ≠ 0) || ((X : Int) % 2 == 1)) := by
          rw [e2]
          by_cases h2 : X % 2 = 1
          · rw [h2, show ((X : Int) % 2 == 1) = true by simp; omega]
            first | (simp; done) | (simp; omega)
          · rw [show X % 2 = 0 by omega, show ((X : Int) % 2 == 1) = false by simp; omega]
            simp
        have hm1 : bits .and .u64 (X : Int) 1 = (X : Int) % 2 := by
          have : X ≤ A := by rw [← hX]; exact Nat.div_le_self _ _
          exact low64 1 (by omega) (X : Int) (by omega) (by omega)
        have HB : Hid (decide (A % 2 ^ (j + 1) ≠ 0) = (decide (A % 2 ^ j ≠ 0) || ((X : Int) % 2 == 1)) ∧ A / 2 ^ (j + 1) = X / 2 ∧ A / 2 ^ j = X ∧ j ≤ 3 ∧ 1152921504606846976 ≤ X) := ⟨hb, e1, hX, hj4, hx⟩
        have hw1 : wrap64 ((j : Int) + 1) = (j : Int) + 1 := by unfold wrap64; omega
        obtain ⟨XI, hXI⟩ : ∃ XI : Int, (X : Int) = XI := ⟨_, rfl⟩
        have hxi : 1152921504606846976 ≤ XI := by omega
        rw [hX]
        rw [hXI] at hm1 HB ⊢
        generalize hq : decide (A % 2 ^ j ≠ 0) = q at *
        clear hx hj4 e1 e2 hp hb hX
        cases q
        · obtain ⟨bb, hbb⟩ : ∃ bb, (XI % 2 == 1) = bb := ⟨_, rfl⟩
          go_wp2
          go_roundw
          case rel =>
            obtain ⟨a1, a2, a3, a4, a5⟩ := HB.out
            refine ⟨j + 1, ⟨by omega, Or.inr ?_⟩, ?_, by first | rw [hw1]; simp | simp, ?_, trivial⟩
            · rw [Nat.add_sub_cancel, a3]; exact a5
            · rw [a2, ← hXI]; simp
            · rw [a1, hbb]; simp
          case measure => simp [intOf]; omega
        · go_wp2
          go_roundw
          case rel =>
            obtain ⟨a1, a2, a3, a4, a5⟩ := HB.out
            refine ⟨j + 1, ⟨by omega, Or.inr ?_⟩, ?_, by first | rw [hw1]; simp | simp, ?_, trivial⟩
            · rw [Nat.add_sub_cancel, a3]; exact a5
            · rw [a2, ← hXI]; simp
            · rw [a1]; simp
          case measure => simp [intOf]; omega
      · have hxx : X < 1152921504606846976 := by omega
        have RR := specRound32 sg X hxx j (by have := hj.out.1; omega) (by have := hj.out.1; omega) (decide (A % 2 ^ j ≠ 0))
        have HF : Hid (j ≤ 5 ∧ max ((Lib.bitLen A : Int) - 60) 0 = j ∧ A / 2 ^ j < 1152921504606846976) := ⟨hj.out.1, cut60 A j hA64 (by rw [hX]; exact hxx) hj.out.2, by rw [hX]; exact hxx⟩
        obtain ⟨r, hr⟩ : ∃ r : Int, (sg.toNat : Int) * 2147483648 + ((min (toldOf 23 (-149) X j (decide (A % 2 ^ j ≠ 0))) 2139095040 : Nat) : Int) = r := ⟨_, rfl⟩
        rw [hr] at RR
        have HE : Hid ((sg.toNat : Int) * 2147483648 + ((min (toldOf 23 (-149) (A / 2 ^ j) j (decide (A % 2 ^ j ≠ 0))) 2139095040 : Nat) : Int) = r) := by unfold Hid; rw [hX]; exact hr
        rw [hX]
        generalize hq : decide (A % 2 ^ j ≠ 0) = q at *
        obtain ⟨XI, hXI⟩ : ∃ XI : Int, (X : Int) = XI := ⟨_, rfl⟩
        have hxi : XI < 1152921504606846976 := by omega
        rw [hXI] at RR ⊢
        have HQ : Hid (decide (A % 2 ^ j ≠ 0) = q) := hq
        clear hr hx hxx hX hXI hq
        go_wp2_with fail
        refine (RR _).mono ?_
        rintro e' w3 ⟨rfl, B3⟩
        go_wp2
        go_ret
        obtain ⟨b1, b2, b3⟩ := HF.out
        refine ⟨⟨j, b1, b2, b3, ?_⟩, bel_step H.out B3⟩
        rw [HQ.out, HE.out]
        rfl

end Go.Proofs.YtcgnefgdfgikdaaGreat

namespace Go.Proofs.YtcgnefgdfgikdaaGreat
open Go.RowKit

theorem Aft.of_below {B g : Nat} {w w' : World} (h : Below w.heap.size w w') (hB : B ≤ w.heap.size) : Aft B g w w' := ⟨h.mono hB, h.size, fun b _ hb => h.block b hb⟩

theorem w32_lo (x : Int) : 0 ≤ IntKind.u32.wrap x := by rw [wr_u32]; omega
theorem w32_hi (x : Int) : IntKind.u32.wrap x ≤ 4294967295 := by rw [wr_u32]; omega

theorem curOfInt16 (n : Int) (n0 : -9223372036854775808 ≤ n) (n1 : n ≤ 9223372036854775807) (w : World) :
    Calls Tryz.prog 86 #[(.agg #[.int .u64 5, .int .u64 10]), .int .i64 n] w fun e w' => (∃ r : Int, 0 ≤ r ∧ r ≤ 4294967295 ∧ e = .returned (.int .u32 r)) ∧ Below w.heap.size w w' := by
  obtain ⟨A, hA⟩ : ∃ A : Nat, (A : Int) = if n < 0 then -n else n := by
    by_cases h : n < 0
    · exact ⟨(-n).toNat, by rw [if_pos h]; omega⟩
    · exact ⟨n.toNat, by rw [if_neg h]; omega⟩
  refine (ofIntSpec16 n n0 n1 A hA w).mono ?_
  rintro e w' ⟨⟨j, _, _, _, rfl⟩, hb⟩
  refine ⟨⟨_, ?_, ?_, rfl⟩, hb⟩
  · cases decide (n < 0) <;> simp <;> omega
  · cases decide (n < 0) <;> simp <;> omega

theorem curOfInt32 (n : Int) (n0 : -9223372036854775808 ≤ n) (n1 : n ≤ 9223372036854775807) (w : World) :
    Calls Tryz.prog 86 #[(.agg #[.int .u64 8, .int .u64 23]), .int .i64 n] w fun e w' => (∃ r : Int, 0 ≤ r ∧ r ≤ 4294967295 ∧ e = .returned (.int .u32 r)) ∧ Below w.heap.size w w' := by
  obtain ⟨A, hA⟩ : ∃ A : Nat, (A : Int) = if n < 0 then -n else n := by
    by_cases h : n < 0
    · exact ⟨(-n).toNat, by rw [if_pos h]; omega⟩
    · exact ⟨n.toNat, by rw [if_neg h]; omega⟩
  refine (ofIntSpec32 n n0 n1 A hA w).mono ?_
  rintro e w' ⟨⟨j, _, _, _, rfl⟩, hb⟩
  refine ⟨⟨_, ?_, ?_, rfl⟩, hb⟩
  · cases decide (n < 0) <;> simp <;> omega
  · cases decide (n < 0) <;> simp <;> omega

set_option maxHeartbeats 2000000 in
theorem curFloat16 (g : Nat) (a : Option Addr) (n cap B m : Nat) (hm : Hid (m ≤ 800000)) (w : World) (C : Cur w g a n cap B m) :
    Calls Tryz.prog 67 #[.pointer (some ⟨g, 0, none⟩), .int .i64 16] w fun e w' => ∃ r : Int, 0 ≤ r ∧ r ≤ 4294967295 ∧ e = .returned (.int .u32 r) ∧ Cur w' g a n cap B (m + 20) ∧ Aft B g w w' := by
  go_enter Tryz.func67, Tryz.ntmps67
  go_wp2_with fail
  refine (curWide g a n cap B m (hid_le (by have := hm.out; omega)) w C).mono ?_
  rintro e w1 ⟨x, _, _, rfl, C1, B1⟩
  go_wp2_with fail
  refine (curPick 8 (by omega) (by omega) g a n cap B (m + 8) (hid_le (by have := hm.out; omega)) w1 C1).mono ?_
  rintro e w2 ⟨p, p0, p1, rfl, C2, B2⟩
  have hl2 := C2.lt
  have hB2 := C2.hg
  by_cases h0 : p = 0
  · subst h0
    go_wp2_with fail
    refine (curAmong w2.heap.size 10 (by omega) (by omega) g a n cap B (m + 8 + 2) (hid_le (by have := hm.out; omega)) _ (C2.alloc _) (row_new w2 [.int .i64 0, .int .i64 1, .int .i64 15360, .int .i64 31743, .int .i64 31744, .int .i64 32256, .int .i64 32768, .int .i64 1024, .int .i64 1023, .int .i64 64512] _ (by decide)) (by simp) (by have := C2.lt; omega)).mono ?_
    rintro e w3 ⟨qw3, _, _, rfl, C3, B3⟩
    go_wp2
    go_ret
    exact ⟨_, w32_lo _, w32_hi _, rfl, C3.more (by omega), ((B1.trans B2).trans (Aft.alloc (by omega) _)).trans B3⟩
  · have k0 : (p == 0) = false := by simp [h0]
    by_cases h12 : p = 1 ∨ p = 2
    · rcases h12 with rfl | rfl
      · go_wp2_with fail
        refine (l4Kind16 _).mono ?_
        rintro e w3 ⟨rfl, B3⟩
        have C3 := C2.kept B3
        have hl3 := C3.lt
        have hz3 := B3.size
        go_wp2_with fail
        obtain ⟨W, hW⟩ : ∃ W, w3.alloc (.cells #[.int .u64 5, .int .u64 10] 124) = W := ⟨_, rfl⟩
        have C4 : Cur W g a n cap B (m + 8 + 2) := by rw [← hW]; exact C3.alloc _
        have A4 : Aft B g w2 W := by rw [← hW]; exact (Aft.of_below B3 (by omega)).trans (Aft.alloc (by omega) _)
        obtain ⟨kb, hkb⟩ : ∃ kb, w3.heap.size = kb := ⟨_, rfl⟩
        have hK : W.heap[kb]? = some (.cells #[.int .u64 5, .int .u64 10] 124 (0, 0)) := by rw [← hW, ← hkb]; exact heap_alloc_new w3 _
        rw [hW, hkb]
        have hne : kb ≠ g := by omega
        have hkl : kb < W.heap.size := (Array.getElem?_eq_some_iff.1 hK).1
        clear hW hkb
        refine wa_begin (by kernel_rfl) ?_
        refine wa_take 1 (some 35) (.pointer (some ⟨g, 0, none⟩)) rfl rfl (by kernel_rfl) (by kernel_rfl) (by kernel_rfl) (fun _ _ _ h => h) (by rfl) (fun _ => by rfl) ?_
        simp only [Act.put, List.setIfInBounds_toArray, List.set_cons_zero, List.set_cons_succ]
        refine wa_first 0 (some 34) (.agg #[.int .u64 5, .int .u64 10]) (fun w' => w'.heap[kb]? = some (.cells #[.int .u64 5, .int .u64 10] 124 (0, 0))) rfl rfl (by kernel_rfl) (by kernel_rfl) (by kernel_rfl) (fun _ _ _ h => h) (by rfl) (fun w' hS => ?_) hK ?_
        · have c0 : w'.cell? ⟨kb, 0, none⟩ = some (.int .u64 5) := by simp [World.cell?, hS]
          have c1 : w'.cell? ⟨kb, 1, none⟩ = some (.int .u64 10) := by simp [World.cell?, hS]
          clear hS
          go_simp
        simp only [Act.put, List.setIfInBounds_toArray, List.set_cons_zero, List.set_cons_succ]
        refine wb_call 2 (some 36) 13 #[.pointer (some ⟨g, 0, none⟩), .int .i64 300] (by kernel_rfl) (by kernel_rfl) rfl rfl (by rfl) (by kernel_rfl) ?_
        refine (curPick 300 (by omega) (by omega) g a n cap B (m + 8 + 2) (hid_le (by have := hm.out; omega)) _ (C4.kept (Below.refl _ _).drew)).mono ?_
        rintro e w5 ⟨r5, r50, r51, rfl, C5, B5⟩
        have hK5 := (B5.blk kb hne hkl).trans hK
        refine ⟨_, rfl, hK5, ?_⟩
        simp only [Act.put, List.setIfInBounds_toArray, List.set_cons_zero, List.set_cons_succ]
        have v5 : IntKind.i64.wrap (r5 - 100) = r5 - 100 := by rw [IntKind.wrap_i64]; omega
        refine wb_val 3 (some 37) (.int .i64 (r5 - 100)) w5 (by kernel_rfl) (by kernel_rfl) rfl rfl (by rfl) (by go_simp) hK5 ?_
        simp only [Act.put, List.setIfInBounds_toArray, List.set_cons_zero, List.set_cons_succ]
        refine wb_leave 4 (some 38) 86 #[.agg #[.int .u64 5, .int .u64 10], .int .i64 (r5 - 100)] (by kernel_rfl) (by kernel_rfl) rfl rfl (by rfl) (by kernel_rfl) ?_
        refine (curOfInt16 (r5 - 100) (by omega) (by omega) w5).mono ?_
        rintro e w6 ⟨⟨r6, r60, r61, rfl⟩, K6⟩
        refine ⟨_, rfl, ?_⟩
        simp only [Act.put, List.setIfInBounds_toArray, List.set_cons_zero, List.set_cons_succ]
        refine wa_take 5 (some 5) (.int .u32 r6) rfl rfl (by kernel_rfl) (by kernel_rfl) (by kernel_rfl) (fun _ _ _ h => h) (by rfl) (fun _ => by rfl) ?_
        simp only [Act.put, List.setIfInBounds_toArray, List.set_cons_zero, List.set_cons_succ]
        refine wa_done (by kernel_rfl) ?_
        have HC : Hid (Cur w6 g a n cap B (m + 20) ∧ Aft B g w w6) := ⟨(C5.kept K6).more (by omega), (((B1.trans B2).trans A4).trans (Aft.of_below (Below.refl _ _).drew (by have := A4.size; omega))).trans (B5.trans (Aft.of_below K6 (by have := C5.hg; have := C5.lt; omega)))⟩
        clear C5 K6 B5 A4 C4 hK5 hK C3 B3
        go_wp2
        go_ret
        exact ⟨r6, r60, r61, rfl, HC.out.1, HC.out.2⟩
      · go_wp2_with fail
        refine (l4Kind16 _).mono ?_
        rintro e w3 ⟨rfl, B3⟩
        have C3 := C2.kept B3
        have hl3 := C3.lt
        have hz3 := B3.size
        go_wp2_with fail
        obtain ⟨W, hW⟩ : ∃ W, w3.alloc (.cells #[.int .u64 5, .int .u64 10] 124) = W := ⟨_, rfl⟩
        have C4 : Cur W g a n cap B (m + 8 + 2) := by rw [← hW]; exact C3.alloc _
        have A4 : Aft B g w2 W := by rw [← hW]; exact (Aft.of_below B3 (by omega)).trans (Aft.alloc (by omega) _)
        obtain ⟨kb, hkb⟩ : ∃ kb, w3.heap.size = kb := ⟨_, rfl⟩
        have hK : W.heap[kb]? = some (.cells #[.int .u64 5, .int .u64 10] 124 (0, 0)) := by rw [← hW, ← hkb]; exact heap_alloc_new w3 _
        rw [hW, hkb]
        have hne : kb ≠ g := by omega
        have hkl : kb < W.heap.size := (Array.getElem?_eq_some_iff.1 hK).1
        clear hW hkb
        refine wa_begin (by kernel_rfl) ?_
        refine wa_take 1 (some 35) (.pointer (some ⟨g, 0, none⟩)) rfl rfl (by kernel_rfl) (by kernel_rfl) (by kernel_rfl) (fun _ _ _ h => h) (by rfl) (fun _ => by rfl) ?_
        simp only [Act.put, List.setIfInBounds_toArray, List.set_cons_zero, List.set_cons_succ]
        refine wa_first 0 (some 34) (.agg #[.int .u64 5, .int .u64 10]) (fun w' => w'.heap[kb]? = some (.cells #[.int .u64 5, .int .u64 10] 124 (0, 0))) rfl rfl (by kernel_rfl) (by kernel_rfl) (by kernel_rfl) (fun _ _ _ h => h) (by rfl) (fun w' hS => ?_) hK ?_
        · have c0 : w'.cell? ⟨kb, 0, none⟩ = some (.int .u64 5) := by simp [World.cell?, hS]
          have c1 : w'.cell? ⟨kb, 1, none⟩ = some (.int .u64 10) := by simp [World.cell?, hS]
          clear hS
          go_simp
        simp only [Act.put, List.setIfInBounds_toArray, List.set_cons_zero, List.set_cons_succ]
        refine wb_call 2 (some 36) 13 #[.pointer (some ⟨g, 0, none⟩), .int .i64 300] (by kernel_rfl) (by kernel_rfl) rfl rfl (by rfl) (by kernel_rfl) ?_
        refine (curPick 300 (by omega) (by omega) g a n cap B (m + 8 + 2) (hid_le (by have := hm.out; omega)) _ (C4.kept (Below.refl _ _).drew)).mono ?_
        rintro e w5 ⟨r5, r50, r51, rfl, C5, B5⟩
        have hK5 := (B5.blk kb hne hkl).trans hK
        refine ⟨_, rfl, hK5, ?_⟩
        simp only [Act.put, List.setIfInBounds_toArray, List.set_cons_zero, List.set_cons_succ]
        have v5 : IntKind.i64.wrap (r5 - 100) = r5 - 100 := by rw [IntKind.wrap_i64]; omega
        refine wb_val 3 (some 37) (.int .i64 (r5 - 100)) w5 (by kernel_rfl) (by kernel_rfl) rfl rfl (by rfl) (by go_simp) hK5 ?_
        simp only [Act.put, List.setIfInBounds_toArray, List.set_cons_zero, List.set_cons_succ]
        refine wb_leave 4 (some 38) 86 #[.agg #[.int .u64 5, .int .u64 10], .int .i64 (r5 - 100)] (by kernel_rfl) (by kernel_rfl) rfl rfl (by rfl) (by kernel_rfl) ?_
        refine (curOfInt16 (r5 - 100) (by omega) (by omega) w5).mono ?_
        rintro e w6 ⟨⟨r6, r60, r61, rfl⟩, K6⟩
        refine ⟨_, rfl, ?_⟩
        simp only [Act.put, List.setIfInBounds_toArray, List.set_cons_zero, List.set_cons_succ]
        refine wa_take 5 (some 5) (.int .u32 r6) rfl rfl (by kernel_rfl) (by kernel_rfl) (by kernel_rfl) (fun _ _ _ h => h) (by rfl) (fun _ => by rfl) ?_
        simp only [Act.put, List.setIfInBounds_toArray, List.set_cons_zero, List.set_cons_succ]
        refine wa_done (by kernel_rfl) ?_
        have HC : Hid (Cur w6 g a n cap B (m + 20) ∧ Aft B g w w6) := ⟨(C5.kept K6).more (by omega), (((B1.trans B2).trans A4).trans (Aft.of_below (Below.refl _ _).drew (by have := A4.size; omega))).trans (B5.trans (Aft.of_below K6 (by have := C5.hg; have := C5.lt; omega)))⟩
        clear C5 K6 B5 A4 C4 hK5 hK C3 B3
        go_wp2
        go_ret
        exact ⟨r6, r60, r61, rfl, HC.out.1, HC.out.2⟩
    · have k1 : (p == 1) = false := by simp; omega
      have k2 : (p == 2) = false := by simp; omega
      by_cases h3 : p = 3
      · subst h3
        go_wp2_with fail
        refine (curWide g a n cap B (m + 8 + 2) (hid_le (by have := hm.out; omega)) w2 C2).mono ?_
        rintro e w3 ⟨y, _, _, rfl, C3, B3⟩
        go_wp2
        go_ret
        exact ⟨_, w32_lo _, w32_hi _, rfl, C3.more (by omega), (B1.trans B2).trans B3⟩
      · have k3 : (p == 3) = false := by simp [h3]
        go_wp2
        go_ret
        exact ⟨_, w32_lo _, w32_hi _, rfl, C2.more (by omega), B1.trans B2⟩

set_option maxHeartbeats 2000000 in
theorem curFloat32 (g : Nat) (a : Option Addr) (n cap B m : Nat) (hm : Hid (m ≤ 800000)) (w : World) (C : Cur w g a n cap B m) :
    Calls Tryz.prog 67 #[.pointer (some ⟨g, 0, none⟩), .int .i64 32] w fun e w' => ∃ r : Int, 0 ≤ r ∧ r ≤ 4294967295 ∧ e = .returned (.int .u32 r) ∧ Cur w' g a n cap B (m + 20) ∧ Aft B g w w' := by
  go_enter Tryz.func67, Tryz.ntmps67
  go_wp2_with fail
  refine (curWide g a n cap B m (hid_le (by have := hm.out; omega)) w C).mono ?_
  rintro e w1 ⟨x, _, _, rfl, C1, B1⟩
  go_wp2_with fail
  refine (curPick 8 (by omega) (by omega) g a n cap B (m + 8) (hid_le (by have := hm.out; omega)) w1 C1).mono ?_
  rintro e w2 ⟨p, p0, p1, rfl, C2, B2⟩
  have hl2 := C2.lt
  have hB2 := C2.hg
  by_cases h0 : p = 0
  · subst h0
    go_wp2_with fail
    refine (curAmong w2.heap.size 10 (by omega) (by omega) g a n cap B (m + 8 + 2) (hid_le (by have := hm.out; omega)) _ (C2.alloc _) (row_new w2 [.int .i64 0, .int .i64 1, .int .i64 15360, .int .i64 31743, .int .i64 31744, .int .i64 32256, .int .i64 32768, .int .i64 1024, .int .i64 1023, .int .i64 64512] _ (by decide)) (by simp) (by have := C2.lt; omega)).mono ?_
    rintro e w3 ⟨qw3, _, _, rfl, C3, B3⟩
    go_wp2_with fail
    refine (curAmong w3.heap.size 10 (by omega) (by omega) g a n cap B (m + 8 + 2 + 2) (hid_le (by have := hm.out; omega)) _ (C3.alloc _) (row_new w3 [.int .i64 0, .int .i64 1, .int .i64 1065353216, .int .i64 2139095039, .int .i64 2139095040, .int .i64 2143289344, .int .i64 2147483648, .int .i64 8388608, .int .i64 8388607, .int .i64 4286578688] _ (by decide)) (by simp) (by have := C3.lt; omega)).mono ?_
    rintro e w4 ⟨qw4, _, _, rfl, C4, B4⟩
    go_wp2
    go_ret
    exact ⟨_, w32_lo _, w32_hi _, rfl, C4.more (by omega), ((((B1.trans B2).trans (Aft.alloc (by omega) _)).trans B3).trans (Aft.alloc (by have := C3.hg; have := C3.lt; omega) _)).trans B4⟩
  · have k0 : (p == 0) = false := by simp [h0]
    by_cases h12 : p = 1 ∨ p = 2
    · rcases h12 with rfl | rfl
      · go_wp2_with fail
        refine (l4Kind32 _).mono ?_
        rintro e w3 ⟨rfl, B3⟩
        have C3 := C2.kept B3
        have hl3 := C3.lt
        have hz3 := B3.size
        go_wp2_with fail
        obtain ⟨W, hW⟩ : ∃ W, w3.alloc (.cells #[.int .u64 8, .int .u64 23] 124) = W := ⟨_, rfl⟩
        have C4 : Cur W g a n cap B (m + 8 + 2) := by rw [← hW]; exact C3.alloc _
        have A4 : Aft B g w2 W := by rw [← hW]; exact (Aft.of_below B3 (by omega)).trans (Aft.alloc (by omega) _)
        obtain ⟨kb, hkb⟩ : ∃ kb, w3.heap.size = kb := ⟨_, rfl⟩
        have hK : W.heap[kb]? = some (.cells #[.int .u64 8, .int .u64 23] 124 (0, 0)) := by rw [← hW, ← hkb]; exact heap_alloc_new w3 _
        rw [hW, hkb]
        have hne : kb ≠ g := by omega
        have hkl : kb < W.heap.size := (Array.getElem?_eq_some_iff.1 hK).1
        clear hW hkb
        refine wa_begin (by kernel_rfl) ?_
        refine wa_take 1 (some 35) (.pointer (some ⟨g, 0, none⟩)) rfl rfl (by kernel_rfl) (by kernel_rfl) (by kernel_rfl) (fun _ _ _ h => h) (by rfl) (fun _ => by rfl) ?_
        simp only [Act.put, List.setIfInBounds_toArray, List.set_cons_zero, List.set_cons_succ]
        refine wa_first 0 (some 34) (.agg #[.int .u64 8, .int .u64 23]) (fun w' => w'.heap[kb]? = some (.cells #[.int .u64 8, .int .u64 23] 124 (0, 0))) rfl rfl (by kernel_rfl) (by kernel_rfl) (by kernel_rfl) (fun _ _ _ h => h) (by rfl) (fun w' hS => ?_) hK ?_
        · have c0 : w'.cell? ⟨kb, 0, none⟩ = some (.int .u64 8) := by simp [World.cell?, hS]
          have c1 : w'.cell? ⟨kb, 1, none⟩ = some (.int .u64 23) := by simp [World.cell?, hS]
          clear hS
          go_simp
        simp only [Act.put, List.setIfInBounds_toArray, List.set_cons_zero, List.set_cons_succ]
        refine wb_call 2 (some 36) 13 #[.pointer (some ⟨g, 0, none⟩), .int .i64 300] (by kernel_rfl) (by kernel_rfl) rfl rfl (by rfl) (by kernel_rfl) ?_
        refine (curPick 300 (by omega) (by omega) g a n cap B (m + 8 + 2) (hid_le (by have := hm.out; omega)) _ (C4.kept (Below.refl _ _).drew)).mono ?_
        rintro e w5 ⟨r5, r50, r51, rfl, C5, B5⟩
        have hK5 := (B5.blk kb hne hkl).trans hK
        refine ⟨_, rfl, hK5, ?_⟩
        simp only [Act.put, List.setIfInBounds_toArray, List.set_cons_zero, List.set_cons_succ]
        have v5 : IntKind.i64.wrap (r5 - 100) = r5 - 100 := by rw [IntKind.wrap_i64]; omega
        refine wb_val 3 (some 37) (.int .i64 (r5 - 100)) w5 (by kernel_rfl) (by kernel_rfl) rfl rfl (by rfl) (by go_simp) hK5 ?_
        simp only [Act.put, List.setIfInBounds_toArray, List.set_cons_zero, List.set_cons_succ]
        refine wb_leave 4 (some 38) 86 #[.agg #[.int .u64 8, .int .u64 23], .int .i64 (r5 - 100)] (by kernel_rfl) (by kernel_rfl) rfl rfl (by rfl) (by kernel_rfl) ?_
        refine (curOfInt32 (r5 - 100) (by omega) (by omega) w5).mono ?_
        rintro e w6 ⟨⟨r6, r60, r61, rfl⟩, K6⟩
        refine ⟨_, rfl, ?_⟩
        simp only [Act.put, List.setIfInBounds_toArray, List.set_cons_zero, List.set_cons_succ]
        refine wa_take 5 (some 5) (.int .u32 r6) rfl rfl (by kernel_rfl) (by kernel_rfl) (by kernel_rfl) (fun _ _ _ h => h) (by rfl) (fun _ => by rfl) ?_
        simp only [Act.put, List.setIfInBounds_toArray, List.set_cons_zero, List.set_cons_succ]
        refine wa_done (by kernel_rfl) ?_
        have HC : Hid (Cur w6 g a n cap B (m + 20) ∧ Aft B g w w6) := ⟨(C5.kept K6).more (by omega), (((B1.trans B2).trans A4).trans (Aft.of_below (Below.refl _ _).drew (by have := A4.size; omega))).trans (B5.trans (Aft.of_below K6 (by have := C5.hg; have := C5.lt; omega)))⟩
        clear C5 K6 B5 A4 C4 hK5 hK C3 B3
        go_wp2
        go_ret
        exact ⟨r6, r60, r61, rfl, HC.out.1, HC.out.2⟩
      · go_wp2_with fail
        refine (l4Kind32 _).mono ?_
        rintro e w3 ⟨rfl, B3⟩
        have C3 := C2.kept B3
        have hl3 := C3.lt
        have hz3 := B3.size
        go_wp2_with fail
        obtain ⟨W, hW⟩ : ∃ W, w3.alloc (.cells #[.int .u64 8, .int .u64 23] 124) = W := ⟨_, rfl⟩
        have C4 : Cur W g a n cap B (m + 8 + 2) := by rw [← hW]; exact C3.alloc _
        have A4 : Aft B g w2 W := by rw [← hW]; exact (Aft.of_below B3 (by omega)).trans (Aft.alloc (by omega) _)
        obtain ⟨kb, hkb⟩ : ∃ kb, w3.heap.size = kb := ⟨_, rfl⟩
        have hK : W.heap[kb]? = some (.cells #[.int .u64 8, .int .u64 23] 124 (0, 0)) := by rw [← hW, ← hkb]; exact heap_alloc_new w3 _
        rw [hW, hkb]
        have hne : kb ≠ g := by omega
        have hkl : kb < W.heap.size := (Array.getElem?_eq_some_iff.1 hK).1
        clear hW hkb
        refine wa_begin (by kernel_rfl) ?_
        refine wa_take 1 (some 35) (.pointer (some ⟨g, 0, none⟩)) rfl rfl (by kernel_rfl) (by kernel_rfl) (by kernel_rfl) (fun _ _ _ h => h) (by rfl) (fun _ => by rfl) ?_
        simp only [Act.put, List.setIfInBounds_toArray, List.set_cons_zero, List.set_cons_succ]
        refine wa_first 0 (some 34) (.agg #[.int .u64 8, .int .u64 23]) (fun w' => w'.heap[kb]? = some (.cells #[.int .u64 8, .int .u64 23] 124 (0, 0))) rfl rfl (by kernel_rfl) (by kernel_rfl) (by kernel_rfl) (fun _ _ _ h => h) (by rfl) (fun w' hS => ?_) hK ?_
        · have c0 : w'.cell? ⟨kb, 0, none⟩ = some (.int .u64 8) := by simp [World.cell?, hS]
          have c1 : w'.cell? ⟨kb, 1, none⟩ = some (.int .u64 23) := by simp [World.cell?, hS]
          clear hS
          go_simp
        simp only [Act.put, List.setIfInBounds_toArray, List.set_cons_zero, List.set_cons_succ]
        refine wb_call 2 (some 36) 13 #[.pointer (some ⟨g, 0, none⟩), .int .i64 300] (by kernel_rfl) (by kernel_rfl) rfl rfl (by rfl) (by kernel_rfl) ?_
        refine (curPick 300 (by omega) (by omega) g a n cap B (m + 8 + 2) (hid_le (by have := hm.out; omega)) _ (C4.kept (Below.refl _ _).drew)).mono ?_
        rintro e w5 ⟨r5, r50, r51, rfl, C5, B5⟩
        have hK5 := (B5.blk kb hne hkl).trans hK
        refine ⟨_, rfl, hK5, ?_⟩
        simp only [Act.put, List.setIfInBounds_toArray, List.set_cons_zero, List.set_cons_succ]
        have v5 : IntKind.i64.wrap (r5 - 100) = r5 - 100 := by rw [IntKind.wrap_i64]; omega
        refine wb_val 3 (some 37) (.int .i64 (r5 - 100)) w5 (by kernel_rfl) (by kernel_rfl) rfl rfl (by rfl) (by go_simp) hK5 ?_
        simp only [Act.put, List.setIfInBounds_toArray, List.set_cons_zero, List.set_cons_succ]
        refine wb_leave 4 (some 38) 86 #[.agg #[.int .u64 8, .int .u64 23], .int .i64 (r5 - 100)] (by kernel_rfl) (by kernel_rfl) rfl rfl (by rfl) (by kernel_rfl) ?_
        refine (curOfInt32 (r5 - 100) (by omega) (by omega) w5).mono ?_
        rintro e w6 ⟨⟨r6, r60, r61, rfl⟩, K6⟩
        refine ⟨_, rfl, ?_⟩
        simp only [Act.put, List.setIfInBounds_toArray, List.set_cons_zero, List.set_cons_succ]
        refine wa_take 5 (some 5) (.int .u32 r6) rfl rfl (by kernel_rfl) (by kernel_rfl) (by kernel_rfl) (fun _ _ _ h => h) (by rfl) (fun _ => by rfl) ?_
        simp only [Act.put, List.setIfInBounds_toArray, List.set_cons_zero, List.set_cons_succ]
        refine wa_done (by kernel_rfl) ?_
        have HC : Hid (Cur w6 g a n cap B (m + 20) ∧ Aft B g w w6) := ⟨(C5.kept K6).more (by omega), (((B1.trans B2).trans A4).trans (Aft.of_below (Below.refl _ _).drew (by have := A4.size; omega))).trans (B5.trans (Aft.of_below K6 (by have := C5.hg; have := C5.lt; omega)))⟩
        clear C5 K6 B5 A4 C4 hK5 hK C3 B3
        go_wp2
        go_ret
        exact ⟨r6, r60, r61, rfl, HC.out.1, HC.out.2⟩
    · have k1 : (p == 1) = false := by simp; omega
      have k2 : (p == 2) = false := by simp; omega
      by_cases h3 : p = 3
      · subst h3
        go_wp2_with fail
        refine (curWide g a n cap B (m + 8 + 2) (hid_le (by have := hm.out; omega)) w2 C2).mono ?_
        rintro e w3 ⟨y, _, _, rfl, C3, B3⟩
        go_wp2
        go_ret
        exact ⟨_, w32_lo _, w32_hi _, rfl, C3.more (by omega), (B1.trans B2).trans B3⟩
      · have k3 : (p == 3) = false := by simp [h3]
        go_wp2
        go_ret
        exact ⟨_, w32_lo _, w32_hi _, rfl, C2.more (by omega), B1.trans B2⟩

set_option maxHeartbeats 2000000 in
theorem curFloat64 (g : Nat) (a : Option Addr) (n cap B m : Nat) (hm : Hid (m ≤ 800000)) (w : World) (C : Cur w g a n cap B m) :
    Calls Tryz.prog 67 #[.pointer (some ⟨g, 0, none⟩), .int .i64 64] w fun e w' => ∃ r : Int, 0 ≤ r ∧ r ≤ 4294967295 ∧ e = .returned (.int .u32 r) ∧ Cur w' g a n cap B (m + 20) ∧ Aft B g w w' := by
  go_enter Tryz.func67, Tryz.ntmps67
  go_wp2_with fail
  refine (curWide g a n cap B m (hid_le (by have := hm.out; omega)) w C).mono ?_
  rintro e w1 ⟨x, _, _, rfl, C1, B1⟩
  go_wp2_with fail
  refine (curPick 8 (by omega) (by omega) g a n cap B (m + 8) (hid_le (by have := hm.out; omega)) w1 C1).mono ?_
  rintro e w2 ⟨p, p0, p1, rfl, C2, B2⟩
  have hl2 := C2.lt
  have hB2 := C2.hg
  by_cases h0 : p = 0
  · subst h0
    go_wp2_with fail
    refine (curAmong w2.heap.size 10 (by omega) (by omega) g a n cap B (m + 8 + 2) (hid_le (by have := hm.out; omega)) _ (C2.alloc _) (row_new w2 [.int .i64 0, .int .i64 1, .int .i64 15360, .int .i64 31743, .int .i64 31744, .int .i64 32256, .int .i64 32768, .int .i64 1024, .int .i64 1023, .int .i64 64512] _ (by decide)) (by simp) (by have := C2.lt; omega)).mono ?_
    rintro e w3 ⟨qw3, _, _, rfl, C3, B3⟩
    go_wp2
    go_ret
    exact ⟨_, w32_lo _, w32_hi _, rfl, C3.more (by omega), ((B1.trans B2).trans (Aft.alloc (by omega) _)).trans B3⟩
  · have k0 : (p == 0) = false := by simp [h0]
    by_cases h12 : p = 1 ∨ p = 2
    · rcases h12 with rfl | rfl
      · go_wp2_with fail
        refine (l4KindNo 64 (by decide) (by decide) _).mono ?_
        rintro e w3 ⟨rfl, B3⟩
        go_wp2
        go_ret
        exact ⟨_, w32_lo _, w32_hi _, rfl, ((C2.kept B3).alloc _).more (by omega), ((B1.trans B2).trans (Aft.of_below B3 (by omega))).trans (Aft.alloc (by have := B3.size; omega) _)⟩
      · go_wp2_with fail
        refine (l4KindNo 64 (by decide) (by decide) _).mono ?_
        rintro e w3 ⟨rfl, B3⟩
        go_wp2
        go_ret
        exact ⟨_, w32_lo _, w32_hi _, rfl, ((C2.kept B3).alloc _).more (by omega), ((B1.trans B2).trans (Aft.of_below B3 (by omega))).trans (Aft.alloc (by have := B3.size; omega) _)⟩
    · have k1 : (p == 1) = false := by simp; omega
      have k2 : (p == 2) = false := by simp; omega
      by_cases h3 : p = 3
      · subst h3
        go_wp2_with fail
        refine (curWide g a n cap B (m + 8 + 2) (hid_le (by have := hm.out; omega)) w2 C2).mono ?_
        rintro e w3 ⟨y, _, _, rfl, C3, B3⟩
        go_wp2
        go_ret
        exact ⟨_, w32_lo _, w32_hi _, rfl, C3.more (by omega), (B1.trans B2).trans B3⟩
      · have k3 : (p == 3) = false := by simp [h3]
        go_wp2
        go_ret
        exact ⟨_, w32_lo _, w32_hi _, rfl, C2.more (by omega), B1.trans B2⟩

end Go.Proofs.YtcgnefgdfgikdaaGreat
