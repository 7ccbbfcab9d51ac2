/-
  Rounding: spec's.
-/
import Derived.Test.YtnimlkobcginjaaFRnd
import Derived.Test.YtnimlkobcginjaaFOpen
import Derived.Deep.Cut
import Derived.Deep.CutRange
import Derived.Deep.DeepCutAuto
namespace Go.Proofs.Ytnimlkobcginjaa
open Go.RowKit

theorem spcZero16 (neg : Bool) (e : Int) (more : Bool) (w : World) :
    Calls Try.prog 92 #[(.agg #[.int .u64 5, .int .u64 10]), .bool neg, .int .u64 0, .int .i64 e, .bool more] w fun e w' => e = .returned (.int .u32 (neg.toNat * 32768)) ∧ Below w.heap.size w w' := by
  go_enter Try.func92, Try.ntmps92
  go_wp2_with (go_at_call 106; refine (l4Sign16 neg _).mono ?_; rintro e w1 ⟨rfl, B1⟩)
  go_ret
  refine ⟨rfl, bel_step ?_ B1⟩
  (repeat (first | refine Below.alloc ?_ (by first | (simp; done) | (simp; omega)) _ | refine Below.setCell ?_ (by first | (simp; done) | (simp; omega)) _ | refine bel_dN ?_ _ | refine Below.drew ?_ | exact Below.refl _ _))

theorem spcZero32 (neg : Bool) (e : Int) (more : Bool) (w : World) :
    Calls Try.prog 92 #[(.agg #[.int .u64 8, .int .u64 23]), .bool neg, .int .u64 0, .int .i64 e, .bool more] w fun e w' => e = .returned (.int .u32 (neg.toNat * 2147483648)) ∧ Below w.heap.size w w' := by
  go_enter Try.func92, Try.ntmps92
  go_wp2_with (go_at_call 106; refine (l4Sign32 neg _).mono ?_; rintro e w1 ⟨rfl, B1⟩)
  go_ret
  refine ⟨rfl, bel_step ?_ B1⟩
  (repeat (first | refine Below.alloc ?_ (by first | (simp; done) | (simp; omega)) _ | refine Below.setCell ?_ (by first | (simp; done) | (simp; omega)) _ | refine bel_dN ?_ _ | refine Below.drew ?_ | exact Below.refl _ _))

set_option maxRecDepth 100000 in
set_option maxHeartbeats 2000000 in
theorem spcRound16 (neg : Bool) (m : Nat) (hm : m < 1152921504606846976) (hm0 : m ≠ 0) (e : Int) (he0 : -2000 ≤ e) (he1 : e ≤ 2000) (more : Bool) (w : World) :
    Calls Try.prog 92 #[(.agg #[.int .u64 5, .int .u64 10]), .bool neg, .int .u64 (m : Int), .int .i64 e, .bool more] w fun e' w' => e' = .returned (.int .u32 (neg.toNat * 32768 + ((min (toldOf 10 (-24) m e more) 31744 : Nat) : Int))) ∧ Below w.heap.size w w' := by
  obtain ⟨n, hn⟩ : ∃ n, Lib.bitLen m = n := ⟨_, rfl⟩
  obtain ⟨l, hl⟩ : ∃ l, lastOf 10 (-24) m e = l := ⟨_, rfl⟩
  obtain ⟨kept, hk⟩ : ∃ k, keptOf 10 (-24) m e more = k := ⟨_, rfl⟩
  have hnb : n ≤ 60 := by rw [← hn]; exact bl_le m 60 (by omega) (by omega)
  have hn1 : 1 ≤ n := by rw [← hn]; exact (bl_is m (by omega) hm0).1
  obtain ⟨kb1, kb2⟩ := kept_bounds 10 (-24) m e more hm0 (by omega)
  rw [hk] at kb1 kb2
  rw [hl] at kb2
  have LN : Hid (∀ w, Calls Try.prog 107 #[.int .u64 (m : Int)] w fun e w' => e = .returned (.int .i64 (n : Int)) ∧ w' = w) := fun w => by rw [← hn]; exact l4LenB m (by omega) w
  have hlast := hl
  unfold lastOf at hl
  rw [hn] at hl
  replace hl : max (e + n - 10 - 1) (-24) = l := hl
  have hll : (-24) ≤ l := by omega
  have hlu : l ≤ 2100 := by omega
  obtain ⟨D, hD⟩ : ∃ D, l - (-24) = D := ⟨_, rfl⟩
  have hD0 : 0 ≤ D := by omega
  have htold : ((min (toldOf 10 (-24) m e more) 31744 : Nat) : Int) = min (D * 1024 + kept) 31744 := by
    have h := told_min 10 (-24) 31744 m e more hm0
    rw [hlast, hD, hk, show (2 : Nat) ^ 10 = 1024 by decide] at h
    exact h
  rw [htold]
  obtain ⟨R, hR⟩ : ∃ R, min (D * 1024 + (kept : Int)) 31744 = R := ⟨_, rfl⟩
  rw [hR]
  have hkk : Hid (keptOf 10 (-24) m e more = kept ∧ lastOf 10 (-24) m e = l) := ⟨hk, hlast⟩
  obtain ⟨W, hW⟩ : ∃ W, w.alloc (.cells #[.int .u64 5, .int .u64 10] 97) = W := ⟨_, rfl⟩
  have H : Hid (Below w.heap.size w W) := by unfold Hid; rw [← hW]; (repeat (first | refine Below.alloc ?_ (by first | (simp; done) | (simp; omega)) _ | refine Below.setCell ?_ (by first | (simp; done) | (simp; omega)) _ | refine bel_dN ?_ _ | refine Below.drew ?_ | exact Below.refl _ _))
  have hs : W.heap.size = w.heap.size + 1 := by rw [← hW]; simp
  obtain ⟨g, hg⟩ : ∃ g, w.heap.size = g := ⟨_, rfl⟩
  have k0 : ∀ w, Keeps W w → w.cell? ⟨g, 0, none⟩ = some (.int .u64 5) := fun w h => h.cell (by omega) (by rw [← hW, ← hg]; simp)
  have k1 : ∀ w, Keeps W w → w.cell? ⟨g, 1, none⟩ = some (.int .u64 10) := fun w h => h.cell (by omega) (by rw [← hW, ← hg]; simp)
  have HH : Hid (m < 1152921504606846976 ∧ -2000 ≤ e ∧ e ≤ 2000 ∧ 1 ≤ n ∧ n ≤ 60 ∧ kept ≤ 2 * 1024 ∧ ((-24) < l → 1024 ≤ kept) ∧ (-24) ≤ l ∧ l ≤ 2100 ∧ l - (-24) = D ∧ min (D * 1024 + (kept : Int)) 31744 = R ∧ max (e + n - 10 - 1) (-24) = l) := ⟨hm, he0, he1, hn1, hnb, Nat.le_trans kb1 (by decide), fun h => Nat.le_trans (by decide) (kb2 h), hll, hlu, hD, hR, hl⟩
  have v1 : IntKind.i64.wrap (e + n) = e + n := by rw [IntKind.wrap_i64]; omega
  have v2 : IntKind.i64.wrap (e + n - 10) = e + n - 10 := by rw [IntKind.wrap_i64]; omega
  obtain ⟨l0, hl0⟩ : ∃ l0, e + n - 10 - 1 = l0 := ⟨_, rfl⟩
  have v3 : IntKind.i64.wrap (e + n - 10 - 1) = l0 := by rw [IntKind.wrap_i64]; omega
  have v4 : IntKind.i64.wrap 10 = 10 := by rw [IntKind.wrap_i64]; omega
  have HL : Hid (max l0 (-24) = l) := by unfold Hid; omega
  have km : ((m : Int) == 0) = false := by simp; omega
  clear hm he0 he1 hn1 hnb kb1 kb2 hll hlu hD hR hl htold hk hm0 hn hD0 hl0 hlast
  have SG := l4Sign16 neg
  have IN := l4Inf16 neg
  obtain ⟨_, b1, b2⟩ := bool_u32 neg
  generalize (neg.toNat : Int) = N at *
  have HB : Hid (0 ≤ N ∧ N ≤ 1) := ⟨b1, b2⟩
  clear b1 b2
  go_enter Try.func92, Try.ntmps92
  go_wp2_with fail
  clear hW
  refine region_q (C := Keeps W) (by kernel_rfl) (by kernel_rfl) (Keeps.drew W) ?_
  (iterate 10
    (apply wpQuiet_go _ (by rfl)
     · intro wq hq
       go_simp
       first
         | (go_at_call 107; exact qsame hq (LN.out _))
         | exact rfl
     simp only [Act.put, List.setIfInBounds_toArray, List.set_cons_succ, List.set_cons_zero]))
  refine wpQuiet_nil ?_
  intro w1 hk1
  have q0 := k0 _ hk1
  have q1 := k1 _ hk1
  clear v1 v2 v3 v4 LN
  go_wp2_with fail
  refine (l4Least16 _).mono ?_
  rintro e' w2 ⟨rfl, B2⟩
  have hk2 := hk1.step B2
  clear q0 q1 hk1 B2
  have q0 := k0 _ hk2
  have q1 := k1 _ hk2
  go_upto_if 33 with fail
  go_cut [11] (fun s11 wx => s11 = .int .i64 l ∧ Keeps W wx)
  case first =>
    by_cases hlt : l0 < (-24)
    · have hll : l = (-24) := by have := HL.out; omega
      go_wp2_with fail
      refine (l4Least16 _).mono ?_
      rintro e' w3 ⟨rfl, B3⟩
      go_wp2
      go_meet
      exact ⟨by rw [hll], hk2.step B3⟩
    · have hll : l0 = l := by have := HL.out; omega
      go_wp2
      go_meet
      exact ⟨rfl, hk2⟩
  case rest =>
    obtain ⟨rfl, hk3⟩ := hcut
    clear q0 q1 hk2
    obtain ⟨sh, hsh⟩ : ∃ sh, wrap64 (l - e) = sh := ⟨_, rfl⟩
    have Hsh : Hid (l - e = sh) := by
      obtain ⟨h1, h2, h3, h4, h5, h6, h7, h8, h9, h10, h11, h12⟩ := HH.out
      unfold Hid; rw [← hsh]; unfold wrap64; omega
    go_upto_if 40 with fail
    go_cut [2, 12] (fun s2 s12 wx => s2 = .int .u64 (kept : Int) ∧ wx = wc)
    case first =>
      obtain ⟨h1, h2, h3, h4, h5, h6, h7, h8, h9, h10, h11, h12⟩ := HH.out
      obtain ⟨hkv, hle⟩ := hkk.out
      unfold keptOf at hkv
      rw [hle] at hkv
      by_cases hlt : e < l
      · obtain ⟨T, hT⟩ : ∃ T : Nat, sh = T := ⟨sh.toNat, by have := Hsh.out; omega⟩
        subst hT
        rw [if_pos hlt, show (l - e).toNat = T by have := Hsh.out; omega] at hkv
        have T1 : 1 ≤ T := by have := Hsh.out; omega
        have t1 : ¬ (T : Int) ≤ 0 := by omega
        by_cases hT64 : (T : Int) < 64
        · have t3 : IntKind.u64.wrap (T : Int) = T := by rw [IntKind.wrap_u64]; omega
          have t4 : min T 64 = T := by omega
          obtain ⟨Kq, hK⟩ : ∃ Kq, m / 2 ^ T = Kq := ⟨_, rfl⟩
          obtain ⟨Lm, hL⟩ : ∃ Lm, m % 2 ^ T = Lm := ⟨_, rfl⟩
          obtain ⟨Hh, hH⟩ : ∃ Hh : Nat, 2 ^ (T - 1) = Hh := ⟨_, rfl⟩
          have e2 : 2 ^ T = 2 * Hh := by rw [← hH, ← Nat.pow_succ', show (T - 1).succ = T by omega]
          have e64 : (2 : Nat) ^ T ≤ 2 ^ 63 := Nat.pow_le_pow_right (by omega) (by omega)
          have e63 : (2 : Nat) ^ 63 = 9223372036854775808 := by decide
          rw [e63] at e64
          have f1' : (m : Int) / 2 ^ T = (Kq : Int) := by rw [← hK]; simp
          obtain ⟨Z, hZ⟩ : ∃ Z : Int, (2 : Int) ^ T = Z := ⟨_, rfl⟩
          have hZn : Z = ((2 ^ T : Nat) : Int) := by rw [← hZ]; simp
          have f1 : (m : Int) / Z = (Kq : Int) := by rw [← hZ]; exact f1'
          have f2 : IntKind.u64.wrap Z = Z := by rw [IntKind.wrap_u64]; omega
          have f3 : IntKind.u64.wrap (Z - 1) = Z - 1 := by have := Nat.two_pow_pos T; rw [IntKind.wrap_u64]; omega
          have f4 : bits .and .u64 (m : Int) (Z - 1) = (Lm : Int) := by
            rw [← hZ, low64 T (by omega) (m : Int) (by omega) (by omega), ← hL]; simp
          have g1 : wrap64 ((T : Int) - 1) = (T : Int) - 1 := by unfold wrap64; omega
          have g6 : IntKind.u64.wrap ((T : Int) - 1) = (T : Int) - 1 := by rw [IntKind.wrap_u64]; omega
          have g3 : ((T : Int) - 1).toNat = T - 1 := by omega
          have g4 : min (T - 1) 64 = T - 1 := by omega
          have g7 : (2 : Int) ^ (T - 1) = (Hh : Int) := by rw [← hH]; simp
          have g8 : IntKind.u64.wrap (Hh : Int) = Hh := by rw [IntKind.wrap_u64]; omega
          have g9 : bits .and .u64 (Kq : Int) 1 = (Kq : Int) % 2 := by
            have : Kq ≤ m := by rw [← hK]; exact Nat.div_le_self _ _
            exact low64 1 (by omega) (Kq : Int) (by omega) (by omega)
          have hK1 : IntKind.u64.wrap ((Kq : Int) + 1) = (Kq : Int) + 1 := by
            have : Kq ≤ m := by rw [← hK]; exact Nat.div_le_self _ _
            rw [IntKind.wrap_u64]; omega
          unfold nsh at hkv
          rw [hK, hL, e2] at hkv
          have HK : Hid ((if 2 * Hh < 2 * Lm ∨ (2 * Hh = 2 * Lm ∧ (more = true ∨ Kq % 2 = 1)) then Kq + 1 else Kq) = kept) := hkv
          clear h1 h2 h3 h4 h5 h6 h7 h8 h9 h10 h11 h12 hkv hle hlt T1 hK hL hH e2 e64 e63 hZn f1'
          rcases Nat.lt_trichotomy Hh Lm with h | h | h
          · have c1 : (Hh : Int) < Lm := by omega
            have hv : Hid (((Kq : Int) + 1) = kept) := by unfold Hid; have := HK.out; rw [if_pos (by omega)] at this; omega
            clear h
            go_wp2
            go_meet
            exact ⟨by rw [hv.out], rfl⟩
          · subst h
            cases more
            · by_cases hkq : Kq % 2 = 1
              · have c1 : ((Kq : Int) % 2 == 1) = true := by simp; omega
                have hv : Hid (((Kq : Int) + 1) = kept) := by unfold Hid; have := HK.out; rw [if_pos (by omega)] at this; omega
                clear hkq
                go_wp2
                go_meet
                exact ⟨by rw [hv.out], rfl⟩
              · have c1 : ((Kq : Int) % 2 == 1) = false := by simp; omega
                have hv : Hid (Kq = kept) := by unfold Hid; have := HK.out; rw [if_neg (by simp; omega)] at this; omega
                clear hkq
                go_wp2
                go_meet
                exact ⟨by rw [hv.out], rfl⟩
            · have hv : Hid (((Kq : Int) + 1) = kept) := by unfold Hid; have := HK.out; rw [if_pos (by simp)] at this; omega
              go_wp2
              go_meet
              exact ⟨by rw [hv.out], rfl⟩
          · have c1 : ¬ (Hh : Int) < Lm := by omega
            have c2 : ((Lm : Int) == Hh) = false := by simp; omega
            have hv : Hid (Kq = kept) := by unfold Hid; have := HK.out; rw [if_neg (by omega)] at this; omega
            clear h
            go_wp2
            go_meet
            exact ⟨by rw [hv.out], rfl⟩
        · have hv : kept = 0 := by
            rw [← hkv]
            refine nsh_far m T more ?_
            have : (2 : Nat) ^ 61 ≤ 2 ^ T := Nat.pow_le_pow_right (by omega) (by omega)
            have e61 : (2 : Nat) ^ 61 = 2305843009213693952 := by decide
            omega
          subst hv
          clear h1 h2 h3 h4 h5 h6 h7 h8 h9 h10 h11 h12 hkv hle hlt T1
          go_wp2
          go_meet
          exact ⟨rfl, rfl⟩
      · obtain ⟨T, hT⟩ : ∃ T : Nat, sh = -(T : Int) := ⟨(-sh).toNat, by have := Hsh.out; omega⟩
        rw [if_neg hlt, show (e - l).toNat = T by have := Hsh.out; omega] at hkv
        have t1 : sh ≤ 0 := by omega
        have t2 : wrap64 (-sh) = T := by unfold wrap64; have := Hsh.out; omega
        have t3 : IntKind.u64.wrap (T : Int) = T := by rw [IntKind.wrap_u64]; have := Hsh.out; omega
        have t4 : min T 64 = T := by have := Hsh.out; omega
        have t5 : IntKind.u64.wrap ((m : Int) * 2 ^ T) = kept := by
          rw [show (m : Int) * 2 ^ T = ((m * 2 ^ T : Nat) : Int) by simp, hkv, IntKind.wrap_u64]; omega
        clear h1 h2 h3 h4 h5 h6 h7 h8 h9 h10 h11 h12 hkv hle hlt hT
        go_wp2
        go_meet
        exact ⟨rfl, rfl⟩
    case rest =>
      obtain ⟨rfl, hwc⟩ := hcut
      obtain rfl := hwc.symm
      clear hsh Hsh hkk HL hwc
      have q1 := k1 _ hk3
      have q0 := k0 _ hk3
      obtain ⟨M, hM⟩ : ∃ M : Int, (if kept = 2 * 1024 then (1024 : Int) else kept) = M := ⟨_, rfl⟩
      obtain ⟨low, hlow⟩ : ∃ low : Int, (if kept = 2 * 1024 then l + 1 else l) = low := ⟨_, rfl⟩
      have HM : Hid ((if kept = 2 * 1024 then (1024 : Int) else kept) = M ∧ (if kept = 2 * 1024 then l + 1 else l) = low) := ⟨hM, hlow⟩
      clear hM hlow
      go_upto_if 86 with fail
      go_cut [2, 11] (fun s2 s11 wx => s2 = .int .u64 M ∧ s11 = .int .i64 low ∧ wx = wc)
      case first =>
        obtain ⟨hM, hlow⟩ := HM.out
        by_cases h2 : kept = 2 * 1024
        · rw [if_pos h2] at hM hlow
          have c1 : ((kept : Int) == 2048) = true := by simp; omega
          have c2 : (kept : Int) / 2 = 1024 := by omega
          have c3 : wrap64 (l + 1) = low := by
            obtain ⟨h1, h2, h3, h4, h5, h6, h7, h8, h9, h10, h11, h12⟩ := HH.out
            unfold wrap64; omega
          clear h2 hlow
          go_wp2
          go_meet
          exact ⟨by first | rfl | rw [← hM], by first | rfl | rw [c3], rfl⟩
        · rw [if_neg h2] at hM hlow
          have c1 : ((kept : Int) == 2048) = false := by simp; omega
          clear h2
          go_wp2
          go_meet
          exact ⟨by first | rfl | rw [← hM], by first | rfl | rw [← hlow], rfl⟩
      case rest =>
        obtain ⟨rfl, rfl, hwc⟩ := hcut
        obtain rfl := hwc.symm
        clear hwc
        have HC : Hid (0 ≤ M ∧ M < 2 * 1024 ∧ (M < 1024 → low = (-24) ∧ R = M) ∧ (1024 ≤ M → R = min ((low - (-24) + 1) * 1024 + (M - 1024)) 31744) ∧ (-24) ≤ low ∧ low ≤ 2200) := by
          obtain ⟨h1, h2, h3, h4, h5, h6, h7, h8, h9, h10, h11, h12⟩ := HH.out
          obtain ⟨hM, hlow⟩ := HM.out
          unfold Hid
          by_cases hk2 : kept = 2 * 1024
          · rw [if_pos hk2] at hM hlow
            clear h1 h2 h3 h4 h5 h12 HH HM
            refine ⟨by omega, by omega, fun h => by omega, fun h => ?_, by omega, by omega⟩
            omega
          · rw [if_neg hk2] at hM hlow
            clear h1 h2 h3 h4 h5 h12 HH HM
            refine ⟨by omega, by omega, fun h => ?_, fun h => ?_, by omega, by omega⟩
            · by_cases hll : (-24) < l
              · have := h7 hll; omega
              · omega
            · omega
        clear HH HM
        obtain ⟨b1, b2⟩ := HB.out
        obtain ⟨m0, m1, m2, m3, m4, m5⟩ := HC.out
        by_cases hMP : M < 1024
        · have hor : bits .or .u32 (N * 32768) M = N * 32768 + M := orJoin 15 N M b1 m0 (by omega) (by omega)
          have hwt : IntKind.u32.wrap M = M := by rw [wr_u32]; omega
          have hR : R = M := (m2 hMP).2
          clear m0 m1 m2 m3 m4 m5 b1 b2 HC
          go_wp2_with fail
          refine (SG _).mono ?_
          rintro e' w5 ⟨rfl, B5⟩
          go_wp2
          go_ret
          exact ⟨by rw [hR]; rfl, bel_step (bel_step H.out hk3.below) B5⟩
        · obtain ⟨x, hx⟩ : ∃ x, low - (-24) + 1 = x := ⟨_, rfl⟩
          have d1 : wrap64 (low - (-24)) = x - 1 := by unfold wrap64; omega
          have d2 : wrap64 (low + 24) = x - 1 := by unfold wrap64; omega
          have d3 : wrap64 (x - 1 + 1) = x := by unfold wrap64; omega
          have d4 : wrap64 x = x := by unfold wrap64; omega
          have hR := m3 (by omega)
          rw [hx] at hR
          obtain ⟨f, hf⟩ : ∃ f, M - 1024 = f := ⟨_, rfl⟩
          rw [hf] at hR
          have hMf : M % 1024 = f := by omega
          have f0 : 0 ≤ f := by omega
          have f1 : f < 1024 := by omega
          have x0 : 0 ≤ x := by omega
          have u1 : IntKind.u32.wrap M = M := by rw [wr_u32]; omega
          have u2 : bits .and .u32 M 1023 = f := by rw [← hMf]; exact low32 10 (by omega) M m0 (by omega)
          have HX : Hid (R = min (x * 1024 + f) 31744 ∧ 0 ≤ x ∧ 0 ≤ f ∧ f < 1024) := ⟨hR, x0, f0, f1⟩
          have hx31 : x < 31 → IntKind.u32.wrap x = x ∧ IntKind.u32.wrap (x * 1024) = x * 1024 ∧ bits .or .u32 (N * 32768) (x * 1024) = N * 32768 + x * 1024 ∧ bits .or .u32 (N * 32768 + x * 1024) f = N * 32768 + x * 1024 + f := fun h => by
            obtain ⟨j1, j2, j3, j4⟩ := joined16 N x f b1 b2 x0 (by omega) f0 f1
            exact ⟨by rw [wr_u32]; omega, j2, j3, j4⟩
          clear m0 m1 m2 m3 m4 m5 b1 b2 HC hR hf hMf f0 f1 x0 hx
          go_wp2_with fail
          refine (l4Least16 _).mono ?_
          rintro e' w5 ⟨rfl, B5⟩
          have hk5 := hk3.step B5
          clear q0 q1
          have q0 := k0 _ hk5
          have q1 := k1 _ hk5
          clear hk3 B5
          by_cases hxo : 31 ≤ x
          · have hR : R = 31744 := by obtain ⟨a1, a2, a3, a4⟩ := HX.out; omega
            clear hx31
            go_wp2_with fail
            refine (IN _).mono ?_
            rintro e' w6 ⟨rfl, B6⟩
            go_wp2
            go_ret
            exact ⟨by rw [hR]; rfl, bel_step (bel_step H.out hk5.below) B6⟩
          · obtain ⟨j1, j2, j3, j4⟩ := hx31 (by omega)
            clear hx31
            have hR : N * 32768 + R = N * 32768 + x * 1024 + f := by obtain ⟨a1, a2, a3, a4⟩ := HX.out; omega
            have HRR : Hid (N * 32768 + R = N * 32768 + x * 1024 + f) := hR
            have c1 : IntKind.u32.wrap 1024 = 1024 := by rw [wr_u32]; omega
            have c2 : IntKind.u32.wrap 1023 = 1023 := by rw [wr_u32]; omega
            have hxo' : x < 31 := by omega
            clear hR HX hxo
            go_wp2_with fail
            clear d1 d2 d3 hxo'
            refine region_q (C := Keeps W) (by kernel_rfl) (by kernel_rfl) hk5.more ?_
            clear q0 q1
            (iterate 18
    (apply wpQuiet_go _ (by rfl)
     · intro wq hq
       go_simp
       first
         | (go_at_call 106; exact qcall hq (SG _))
         | exact rfl
     simp only [Act.put, List.setIfInBounds_toArray, List.set_cons_succ, List.set_cons_zero]))
            refine wpQuiet_nil ?_
            intro w7 hk7
            clear k0 k1
            go_wp2
            go_ret
            exact ⟨by rw [HRR.out]; rfl, bel_step H.out hk7.below⟩

set_option maxRecDepth 100000 in
set_option maxHeartbeats 2000000 in
theorem spcRound32 (neg : Bool) (m : Nat) (hm : m < 1152921504606846976) (hm0 : m ≠ 0) (e : Int) (he0 : -2000 ≤ e) (he1 : e ≤ 2000) (more : Bool) (w : World) :
    Calls Try.prog 92 #[(.agg #[.int .u64 8, .int .u64 23]), .bool neg, .int .u64 (m : Int), .int .i64 e, .bool more] w fun e' w' => e' = .returned (.int .u32 (neg.toNat * 2147483648 + ((min (toldOf 23 (-149) m e more) 2139095040 : Nat) : Int))) ∧ Below w.heap.size w w' := by
  obtain ⟨n, hn⟩ : ∃ n, Lib.bitLen m = n := ⟨_, rfl⟩
  obtain ⟨l, hl⟩ : ∃ l, lastOf 23 (-149) m e = l := ⟨_, rfl⟩
  obtain ⟨kept, hk⟩ : ∃ k, keptOf 23 (-149) m e more = k := ⟨_, rfl⟩
  have hnb : n ≤ 60 := by rw [← hn]; exact bl_le m 60 (by omega) (by omega)
  have hn1 : 1 ≤ n := by rw [← hn]; exact (bl_is m (by omega) hm0).1
  obtain ⟨kb1, kb2⟩ := kept_bounds 23 (-149) m e more hm0 (by omega)
  rw [hk] at kb1 kb2
  rw [hl] at kb2
  have LN : Hid (∀ w, Calls Try.prog 107 #[.int .u64 (m : Int)] w fun e w' => e = .returned (.int .i64 (n : Int)) ∧ w' = w) := fun w => by rw [← hn]; exact l4LenB m (by omega) w
  have hlast := hl
  unfold lastOf at hl
  rw [hn] at hl
  replace hl : max (e + n - 23 - 1) (-149) = l := hl
  have hll : (-149) ≤ l := by omega
  have hlu : l ≤ 2100 := by omega
  obtain ⟨D, hD⟩ : ∃ D, l - (-149) = D := ⟨_, rfl⟩
  have hD0 : 0 ≤ D := by omega
  have htold : ((min (toldOf 23 (-149) m e more) 2139095040 : Nat) : Int) = min (D * 8388608 + kept) 2139095040 := by
    have h := told_min 23 (-149) 2139095040 m e more hm0
    rw [hlast, hD, hk, show (2 : Nat) ^ 23 = 8388608 by decide] at h
    exact h
  rw [htold]
  obtain ⟨R, hR⟩ : ∃ R, min (D * 8388608 + (kept : Int)) 2139095040 = R := ⟨_, rfl⟩
  rw [hR]
  have hkk : Hid (keptOf 23 (-149) m e more = kept ∧ lastOf 23 (-149) m e = l) := ⟨hk, hlast⟩
  obtain ⟨W, hW⟩ : ∃ W, w.alloc (.cells #[.int .u64 8, .int .u64 23] 97) = W := ⟨_, rfl⟩
  have H : Hid (Below w.heap.size w W) := by unfold Hid; rw [← hW]; (repeat (first | refine Below.alloc ?_ (by first | (simp; done) | (simp; omega)) _ | refine Below.setCell ?_ (by first | (simp; done) | (simp; omega)) _ | refine bel_dN ?_ _ | refine Below.drew ?_ | exact Below.refl _ _))
  have hs : W.heap.size = w.heap.size + 1 := by rw [← hW]; simp
  obtain ⟨g, hg⟩ : ∃ g, w.heap.size = g := ⟨_, rfl⟩
  have k0 : ∀ w, Keeps W w → w.cell? ⟨g, 0, none⟩ = some (.int .u64 8) := fun w h => h.cell (by omega) (by rw [← hW, ← hg]; simp)
  have k1 : ∀ w, Keeps W w → w.cell? ⟨g, 1, none⟩ = some (.int .u64 23) := fun w h => h.cell (by omega) (by rw [← hW, ← hg]; simp)
  have HH : Hid (m < 1152921504606846976 ∧ -2000 ≤ e ∧ e ≤ 2000 ∧ 1 ≤ n ∧ n ≤ 60 ∧ kept ≤ 2 * 8388608 ∧ ((-149) < l → 8388608 ≤ kept) ∧ (-149) ≤ l ∧ l ≤ 2100 ∧ l - (-149) = D ∧ min (D * 8388608 + (kept : Int)) 2139095040 = R ∧ max (e + n - 23 - 1) (-149) = l) := ⟨hm, he0, he1, hn1, hnb, Nat.le_trans kb1 (by decide), fun h => Nat.le_trans (by decide) (kb2 h), hll, hlu, hD, hR, hl⟩
  have v1 : IntKind.i64.wrap (e + n) = e + n := by rw [IntKind.wrap_i64]; omega
  have v2 : IntKind.i64.wrap (e + n - 23) = e + n - 23 := by rw [IntKind.wrap_i64]; omega
  obtain ⟨l0, hl0⟩ : ∃ l0, e + n - 23 - 1 = l0 := ⟨_, rfl⟩
  have v3 : IntKind.i64.wrap (e + n - 23 - 1) = l0 := by rw [IntKind.wrap_i64]; omega
  have v4 : IntKind.i64.wrap 23 = 23 := by rw [IntKind.wrap_i64]; omega
  have HL : Hid (max l0 (-149) = l) := by unfold Hid; omega
  have km : ((m : Int) == 0) = false := by simp; omega
  clear hm he0 he1 hn1 hnb kb1 kb2 hll hlu hD hR hl htold hk hm0 hn hD0 hl0 hlast
  have SG := l4Sign32 neg
  have IN := l4Inf32 neg
  obtain ⟨_, b1, b2⟩ := bool_u32 neg
  generalize (neg.toNat : Int) = N at *
  have HB : Hid (0 ≤ N ∧ N ≤ 1) := ⟨b1, b2⟩
  clear b1 b2
  go_enter Try.func92, Try.ntmps92
  go_wp2_with fail
  clear hW
  refine region_q (C := Keeps W) (by kernel_rfl) (by kernel_rfl) (Keeps.drew W) ?_
  (iterate 10
    (apply wpQuiet_go _ (by rfl)
     · intro wq hq
       go_simp
       first
         | (go_at_call 107; exact qsame hq (LN.out _))
         | exact rfl
     simp only [Act.put, List.setIfInBounds_toArray, List.set_cons_succ, List.set_cons_zero]))
  refine wpQuiet_nil ?_
  intro w1 hk1
  have q0 := k0 _ hk1
  have q1 := k1 _ hk1
  clear v1 v2 v3 v4 LN
  go_wp2_with fail
  refine (l4Least32 _).mono ?_
  rintro e' w2 ⟨rfl, B2⟩
  have hk2 := hk1.step B2
  clear q0 q1 hk1 B2
  have q0 := k0 _ hk2
  have q1 := k1 _ hk2
  go_upto_if 33 with fail
  go_cut [11] (fun s11 wx => s11 = .int .i64 l ∧ Keeps W wx)
  case first =>
    by_cases hlt : l0 < (-149)
    · have hll : l = (-149) := by have := HL.out; omega
      go_wp2_with fail
      refine (l4Least32 _).mono ?_
      rintro e' w3 ⟨rfl, B3⟩
      go_wp2
      go_meet
      exact ⟨by rw [hll], hk2.step B3⟩
    · have hll : l0 = l := by have := HL.out; omega
      go_wp2
      go_meet
      exact ⟨rfl, hk2⟩
  case rest =>
    obtain ⟨rfl, hk3⟩ := hcut
    clear q0 q1 hk2
    obtain ⟨sh, hsh⟩ : ∃ sh, wrap64 (l - e) = sh := ⟨_, rfl⟩
    have Hsh : Hid (l - e = sh) := by
      obtain ⟨h1, h2, h3, h4, h5, h6, h7, h8, h9, h10, h11, h12⟩ := HH.out
      unfold Hid; rw [← hsh]; unfold wrap64; omega
    go_upto_if 40 with fail
    go_cut [2, 12] (fun s2 s12 wx => s2 = .int .u64 (kept : Int) ∧ wx = wc)
    case first =>
      obtain ⟨h1, h2, h3, h4, h5, h6, h7, h8, h9, h10, h11, h12⟩ := HH.out
      obtain ⟨hkv, hle⟩ := hkk.out
      unfold keptOf at hkv
      rw [hle] at hkv
      by_cases hlt : e < l
      · obtain ⟨T, hT⟩ : ∃ T : Nat, sh = T := ⟨sh.toNat, by have := Hsh.out; omega⟩
        subst hT
        rw [if_pos hlt, show (l - e).toNat = T by have := Hsh.out; omega] at hkv
        have T1 : 1 ≤ T := by have := Hsh.out; omega
        have t1 : ¬ (T : Int) ≤ 0 := by omega
        by_cases hT64 : (T : Int) < 64
        · have t3 : IntKind.u64.wrap (T : Int) = T := by rw [IntKind.wrap_u64]; omega
          have t4 : min T 64 = T := by omega
          obtain ⟨Kq, hK⟩ : ∃ Kq, m / 2 ^ T = Kq := ⟨_, rfl⟩
          obtain ⟨Lm, hL⟩ : ∃ Lm, m % 2 ^ T = Lm := ⟨_, rfl⟩
          obtain ⟨Hh, hH⟩ : ∃ Hh : Nat, 2 ^ (T - 1) = Hh := ⟨_, rfl⟩
          have e2 : 2 ^ T = 2 * Hh := by rw [← hH, ← Nat.pow_succ', show (T - 1).succ = T by omega]
          have e64 : (2 : Nat) ^ T ≤ 2 ^ 63 := Nat.pow_le_pow_right (by omega) (by omega)
          have e63 : (2 : Nat) ^ 63 = 9223372036854775808 := by decide
          rw [e63] at e64
          have f1' : (m : Int) / 2 ^ T = (Kq : Int) := by rw [← hK]; simp
          obtain ⟨Z, hZ⟩ : ∃ Z : Int, (2 : Int) ^ T = Z := ⟨_, rfl⟩
          have hZn : Z = ((2 ^ T : Nat) : Int) := by rw [← hZ]; simp
          have f1 : (m : Int) / Z = (Kq : Int) := by rw [← hZ]; exact f1'
          have f2 : IntKind.u64.wrap Z = Z := by rw [IntKind.wrap_u64]; omega
          have f3 : IntKind.u64.wrap (Z - 1) = Z - 1 := by have := Nat.two_pow_pos T; rw [IntKind.wrap_u64]; omega
          have f4 : bits .and .u64 (m : Int) (Z - 1) = (Lm : Int) := by
            rw [← hZ, low64 T (by omega) (m : Int) (by omega) (by omega), ← hL]; simp
          have g1 : wrap64 ((T : Int) - 1) = (T : Int) - 1 := by unfold wrap64; omega
          have g6 : IntKind.u64.wrap ((T : Int) - 1) = (T : Int) - 1 := by rw [IntKind.wrap_u64]; omega
          have g3 : ((T : Int) - 1).toNat = T - 1 := by omega
          have g4 : min (T - 1) 64 = T - 1 := by omega
          have g7 : (2 : Int) ^ (T - 1) = (Hh : Int) := by rw [← hH]; simp
          have g8 : IntKind.u64.wrap (Hh : Int) = Hh := by rw [IntKind.wrap_u64]; omega
          have g9 : bits .and .u64 (Kq : Int) 1 = (Kq : Int) % 2 := by
            have : Kq ≤ m := by rw [← hK]; exact Nat.div_le_self _ _
            exact low64 1 (by omega) (Kq : Int) (by omega) (by omega)
          have hK1 : IntKind.u64.wrap ((Kq : Int) + 1) = (Kq : Int) + 1 := by
            have : Kq ≤ m := by rw [← hK]; exact Nat.div_le_self _ _
            rw [IntKind.wrap_u64]; omega
          unfold nsh at hkv
          rw [hK, hL, e2] at hkv
          have HK : Hid ((if 2 * Hh < 2 * Lm ∨ (2 * Hh = 2 * Lm ∧ (more = true ∨ Kq % 2 = 1)) then Kq + 1 else Kq) = kept) := hkv
          clear h1 h2 h3 h4 h5 h6 h7 h8 h9 h10 h11 h12 hkv hle hlt T1 hK hL hH e2 e64 e63 hZn f1'
          rcases Nat.lt_trichotomy Hh Lm with h | h | h
          · have c1 : (Hh : Int) < Lm := by omega
            have hv : Hid (((Kq : Int) + 1) = kept) := by unfold Hid; have := HK.out; rw [if_pos (by omega)] at this; omega
            clear h
            go_wp2
            go_meet
            exact ⟨by rw [hv.out], rfl⟩
          · subst h
            cases more
            · by_cases hkq : Kq % 2 = 1
              · have c1 : ((Kq : Int) % 2 == 1) = true := by simp; omega
                have hv : Hid (((Kq : Int) + 1) = kept) := by unfold Hid; have := HK.out; rw [if_pos (by omega)] at this; omega
                clear hkq
                go_wp2
                go_meet
                exact ⟨by rw [hv.out], rfl⟩
              · have c1 : ((Kq : Int) % 2 == 1) = false := by simp; omega
                have hv : Hid (Kq = kept) := by unfold Hid; have := HK.out; rw [if_neg (by simp; omega)] at this; omega
                clear hkq
                go_wp2
                go_meet
                exact ⟨by rw [hv.out], rfl⟩
            · have hv : Hid (((Kq : Int) + 1) = kept) := by unfold Hid; have := HK.out; rw [if_pos (by simp)] at this; omega
              go_wp2
              go_meet
              exact ⟨by rw [hv.out], rfl⟩
          · have c1 : ¬ (Hh : Int) < Lm := by omega
            have c2 : ((Lm : Int) == Hh) = false := by simp; omega
            have hv : Hid (Kq = kept) := by unfold Hid; have := HK.out; rw [if_neg (by omega)] at this; omega
            clear h
            go_wp2
            go_meet
            exact ⟨by rw [hv.out], rfl⟩
        · have hv : kept = 0 := by
            rw [← hkv]
            refine nsh_far m T more ?_
            have : (2 : Nat) ^ 61 ≤ 2 ^ T := Nat.pow_le_pow_right (by omega) (by omega)
            have e61 : (2 : Nat) ^ 61 = 2305843009213693952 := by decide
            omega
          subst hv
          clear h1 h2 h3 h4 h5 h6 h7 h8 h9 h10 h11 h12 hkv hle hlt T1
          go_wp2
          go_meet
          exact ⟨rfl, rfl⟩
      · obtain ⟨T, hT⟩ : ∃ T : Nat, sh = -(T : Int) := ⟨(-sh).toNat, by have := Hsh.out; omega⟩
        rw [if_neg hlt, show (e - l).toNat = T by have := Hsh.out; omega] at hkv
        have t1 : sh ≤ 0 := by omega
        have t2 : wrap64 (-sh) = T := by unfold wrap64; have := Hsh.out; omega
        have t3 : IntKind.u64.wrap (T : Int) = T := by rw [IntKind.wrap_u64]; have := Hsh.out; omega
        have t4 : min T 64 = T := by have := Hsh.out; omega
        have t5 : IntKind.u64.wrap ((m : Int) * 2 ^ T) = kept := by
          rw [show (m : Int) * 2 ^ T = ((m * 2 ^ T : Nat) : Int) by simp, hkv, IntKind.wrap_u64]; omega
        clear h1 h2 h3 h4 h5 h6 h7 h8 h9 h10 h11 h12 hkv hle hlt hT
        go_wp2
        go_meet
        exact ⟨rfl, rfl⟩
    case rest =>
      obtain ⟨rfl, hwc⟩ := hcut
      obtain rfl := hwc.symm
      clear hsh Hsh hkk HL hwc
      have q1 := k1 _ hk3
      have q0 := k0 _ hk3
      obtain ⟨M, hM⟩ : ∃ M : Int, (if kept = 2 * 8388608 then (8388608 : Int) else kept) = M := ⟨_, rfl⟩
      obtain ⟨low, hlow⟩ : ∃ low : Int, (if kept = 2 * 8388608 then l + 1 else l) = low := ⟨_, rfl⟩
      have HM : Hid ((if kept = 2 * 8388608 then (8388608 : Int) else kept) = M ∧ (if kept = 2 * 8388608 then l + 1 else l) = low) := ⟨hM, hlow⟩
      clear hM hlow
      go_upto_if 86 with fail
      go_cut [2, 11] (fun s2 s11 wx => s2 = .int .u64 M ∧ s11 = .int .i64 low ∧ wx = wc)
      case first =>
        obtain ⟨hM, hlow⟩ := HM.out
        by_cases h2 : kept = 2 * 8388608
        · rw [if_pos h2] at hM hlow
          have c1 : ((kept : Int) == 16777216) = true := by simp; omega
          have c2 : (kept : Int) / 2 = 8388608 := by omega
          have c3 : wrap64 (l + 1) = low := by
            obtain ⟨h1, h2, h3, h4, h5, h6, h7, h8, h9, h10, h11, h12⟩ := HH.out
            unfold wrap64; omega
          clear h2 hlow
          go_wp2
          go_meet
          exact ⟨by first | rfl | rw [← hM], by first | rfl | rw [c3], rfl⟩
        · rw [if_neg h2] at hM hlow
          have c1 : ((kept : Int) == 16777216) = false := by simp; omega
          clear h2
          go_wp2
          go_meet
          exact ⟨by first | rfl | rw [← hM], by first | rfl | rw [← hlow], rfl⟩
      case rest =>
        obtain ⟨rfl, rfl, hwc⟩ := hcut
        obtain rfl := hwc.symm
        clear hwc
        have HC : Hid (0 ≤ M ∧ M < 2 * 8388608 ∧ (M < 8388608 → low = (-149) ∧ R = M) ∧ (8388608 ≤ M → R = min ((low - (-149) + 1) * 8388608 + (M - 8388608)) 2139095040) ∧ (-149) ≤ low ∧ low ≤ 2200) := by
          obtain ⟨h1, h2, h3, h4, h5, h6, h7, h8, h9, h10, h11, h12⟩ := HH.out
          obtain ⟨hM, hlow⟩ := HM.out
          unfold Hid
          by_cases hk2 : kept = 2 * 8388608
          · rw [if_pos hk2] at hM hlow
            clear h1 h2 h3 h4 h5 h12 HH HM
            refine ⟨by omega, by omega, fun h => by omega, fun h => ?_, by omega, by omega⟩
            omega
          · rw [if_neg hk2] at hM hlow
            clear h1 h2 h3 h4 h5 h12 HH HM
            refine ⟨by omega, by omega, fun h => ?_, fun h => ?_, by omega, by omega⟩
            · by_cases hll : (-149) < l
              · have := h7 hll; omega
              · omega
            · omega
        clear HH HM
        obtain ⟨b1, b2⟩ := HB.out
        obtain ⟨m0, m1, m2, m3, m4, m5⟩ := HC.out
        by_cases hMP : M < 8388608
        · have hor : bits .or .u32 (N * 2147483648) M = N * 2147483648 + M := orJoin 31 N M b1 m0 (by omega) (by omega)
          have hwt : IntKind.u32.wrap M = M := by rw [wr_u32]; omega
          have hR : R = M := (m2 hMP).2
          clear m0 m1 m2 m3 m4 m5 b1 b2 HC
          go_wp2_with fail
          refine (SG _).mono ?_
          rintro e' w5 ⟨rfl, B5⟩
          go_wp2
          go_ret
          exact ⟨by rw [hR]; rfl, bel_step (bel_step H.out hk3.below) B5⟩
        · obtain ⟨x, hx⟩ : ∃ x, low - (-149) + 1 = x := ⟨_, rfl⟩
          have d1 : wrap64 (low - (-149)) = x - 1 := by unfold wrap64; omega
          have d2 : wrap64 (low + 149) = x - 1 := by unfold wrap64; omega
          have d3 : wrap64 (x - 1 + 1) = x := by unfold wrap64; omega
          have d4 : wrap64 x = x := by unfold wrap64; omega
          have hR := m3 (by omega)
          rw [hx] at hR
          obtain ⟨f, hf⟩ : ∃ f, M - 8388608 = f := ⟨_, rfl⟩
          rw [hf] at hR
          have hMf : M % 8388608 = f := by omega
          have f0 : 0 ≤ f := by omega
          have f1 : f < 8388608 := by omega
          have x0 : 0 ≤ x := by omega
          have u1 : IntKind.u32.wrap M = M := by rw [wr_u32]; omega
          have u2 : bits .and .u32 M 8388607 = f := by rw [← hMf]; exact low32 23 (by omega) M m0 (by omega)
          have HX : Hid (R = min (x * 8388608 + f) 2139095040 ∧ 0 ≤ x ∧ 0 ≤ f ∧ f < 8388608) := ⟨hR, x0, f0, f1⟩
          have hx31 : x < 255 → IntKind.u32.wrap x = x ∧ IntKind.u32.wrap (x * 8388608) = x * 8388608 ∧ bits .or .u32 (N * 2147483648) (x * 8388608) = N * 2147483648 + x * 8388608 ∧ bits .or .u32 (N * 2147483648 + x * 8388608) f = N * 2147483648 + x * 8388608 + f := fun h => by
            obtain ⟨j1, j2, j3, j4⟩ := joined32 N x f b1 b2 x0 (by omega) f0 f1
            exact ⟨by rw [wr_u32]; omega, j2, j3, j4⟩
          clear m0 m1 m2 m3 m4 m5 b1 b2 HC hR hf hMf f0 f1 x0 hx
          go_wp2_with fail
          refine (l4Least32 _).mono ?_
          rintro e' w5 ⟨rfl, B5⟩
          have hk5 := hk3.step B5
          clear q0 q1
          have q0 := k0 _ hk5
          have q1 := k1 _ hk5
          clear hk3 B5
          by_cases hxo : 255 ≤ x
          · have hR : R = 2139095040 := by obtain ⟨a1, a2, a3, a4⟩ := HX.out; omega
            clear hx31
            go_wp2_with fail
            refine (IN _).mono ?_
            rintro e' w6 ⟨rfl, B6⟩
            go_wp2
            go_ret
            exact ⟨by rw [hR]; rfl, bel_step (bel_step H.out hk5.below) B6⟩
          · obtain ⟨j1, j2, j3, j4⟩ := hx31 (by omega)
            clear hx31
            have hR : N * 2147483648 + R = N * 2147483648 + x * 8388608 + f := by obtain ⟨a1, a2, a3, a4⟩ := HX.out; omega
            have HRR : Hid (N * 2147483648 + R = N * 2147483648 + x * 8388608 + f) := hR
            have c1 : IntKind.u32.wrap 8388608 = 8388608 := by rw [wr_u32]; omega
            have c2 : IntKind.u32.wrap 8388607 = 8388607 := by rw [wr_u32]; omega
            have hxo' : x < 255 := by omega
            clear hR HX hxo
            go_wp2_with fail
            clear d1 d2 d3 hxo'
            refine region_q (C := Keeps W) (by kernel_rfl) (by kernel_rfl) hk5.more ?_
            clear q0 q1
            (iterate 18
    (apply wpQuiet_go _ (by rfl)
     · intro wq hq
       go_simp
       first
         | (go_at_call 106; exact qcall hq (SG _))
         | exact rfl
     simp only [Act.put, List.setIfInBounds_toArray, List.set_cons_succ, List.set_cons_zero]))
            refine wpQuiet_nil ?_
            intro w7 hk7
            clear k0 k1
            go_wp2
            go_ret
            exact ⟨by rw [HRR.out]; rfl, bel_step H.out hk7.below⟩

theorem specRound16 (neg : Bool) (m : Nat) (hm : m < 1152921504606846976) (e : Int) (he0 : -2000 ≤ e) (he1 : e ≤ 2000) (more : Bool) (w : World) :
    Calls Try.prog 92 #[(.agg #[.int .u64 5, .int .u64 10]), .bool neg, .int .u64 (m : Int), .int .i64 e, .bool more] w fun e' w' => e' = .returned (.int .u32 (neg.toNat * 32768 + ((min (toldOf 10 (-24) m e more) 31744 : Nat) : Int))) ∧ Below w.heap.size w w' := by
  by_cases h0 : m = 0
  · subst h0
    have h := spcZero16 neg e more w
    rw [show ((min (toldOf 10 (-24) 0 e more) 31744 : Nat) : Int) = 0 by simp [toldOf], Int.add_zero]
    exact h
  · exact spcRound16 neg m hm h0 e he0 he1 more w

theorem specRound32 (neg : Bool) (m : Nat) (hm : m < 1152921504606846976) (e : Int) (he0 : -2000 ≤ e) (he1 : e ≤ 2000) (more : Bool) (w : World) :
    Calls Try.prog 92 #[(.agg #[.int .u64 8, .int .u64 23]), .bool neg, .int .u64 (m : Int), .int .i64 e, .bool more] w fun e' w' => e' = .returned (.int .u32 (neg.toNat * 2147483648 + ((min (toldOf 23 (-149) m e more) 2139095040 : Nat) : Int))) ∧ Below w.heap.size w w' := by
  by_cases h0 : m = 0
  · subst h0
    have h := spcZero32 neg e more w
    rw [show ((min (toldOf 23 (-149) 0 e more) 2139095040 : Nat) : Int) = 0 by simp [toldOf], Int.add_zero]
    exact h
  · exact spcRound32 neg m hm h0 e he0 he1 more w

theorem implRound16 (neg : Bool) (m : Nat) (hm : m < 1152921504606846976) (e : Int) (he0 : -2000 ≤ e) (he1 : e ≤ 2000) (more : Bool) (w : World) :
    Calls Try.prog 79 #[(.agg #[.int .i64 10, .int .i64 15, .int .u32 31]), .bool neg, .int .u64 (m : Int), .int .i64 e, .bool more] w fun e' w' => e' = .returned (.int .u32 (neg.toNat * 32768 + ((min (toldOf 10 (-24) m e more) 31744 : Nat) : Int))) ∧ Below w.heap.size w w' := by
  by_cases h0 : m = 0
  · subst h0
    have h := rndZero16 neg e more w
    rw [show ((min (toldOf 10 (-24) 0 e more) 31744 : Nat) : Int) = 0 by simp [toldOf], Int.add_zero]
    exact h
  · have hb := kept_bounds 10 (-24) m e more h0 (by omega)
    have hk4 : keptOf 10 (-24) m e more ≤ 4 * 1024 := Nat.le_trans hb.1 (by decide)
    rw [told_min 10 (-24) 31744 m e more h0, show (2 : Nat) ^ 10 = 1024 by decide]
    have hnb : Lib.bitLen m ≤ 60 := bl_le m 60 (by omega) (by omega)
    have hn1 := (bl_is m (by omega) h0).1
    have hl : max (e + (Lib.bitLen m : Int) - 10 - 1) (-24) = lastOf 10 (-24) m e := rfl
    have hkv : keptOf 10 (-24) m e more = keptOf 10 (-24) m e more := rfl
    conv at hkv => lhs; unfold keptOf
    have LN : Hid (∀ w, Calls Try.prog 87 #[.int .u64 (m : Int)] w fun e w' => e = .returned (.int .i64 (Lib.bitLen m : Int)) ∧ w' = w) := fun w => len64F m (by omega) w
    generalize lastOf 10 (-24) m e = l at *
    generalize Lib.bitLen m = n at *
    have km : ((m : Int) == 0) = false := by simp; omega
    by_cases hlt : e < l
    · rw [if_pos hlt] at hkv
      have NS : Hid (∀ w, Calls Try.prog 103 #[.int .u64 (m : Int), .int .i64 (((l - e).toNat : Nat) : Int), .bool more] w fun e' w' => e' = .returned (.int .u64 ((nsh m (l - e).toNat more : Nat) : Int)) ∧ Below w.heap.size w w') := fun w => nearest m (l - e).toNat more (by omega) hm (by omega) w
      rw [hkv] at NS
      exact rndUp16 neg m n (l - e).toNat _ e l more km LN NS (by rw [IntKind.wrap_u64]; omega) he0 he1 (by omega) hl (by omega) hlt hk4 w
    · rw [if_neg hlt] at hkv
      refine rndEx16 neg m n (e - l).toNat _ e l more km LN ?_ he0 he1 (by omega) hl (by omega) hlt (by omega) hk4 w
      rw [← hkv, show (m : Int) * 2 ^ (e - l).toNat = ((m * 2 ^ (e - l).toNat : Nat) : Int) by simp, hkv, IntKind.wrap_u64]
      omega

theorem implRound32 (neg : Bool) (m : Nat) (hm : m < 1152921504606846976) (e : Int) (he0 : -2000 ≤ e) (he1 : e ≤ 2000) (more : Bool) (w : World) :
    Calls Try.prog 79 #[(.agg #[.int .i64 23, .int .i64 127, .int .u32 255]), .bool neg, .int .u64 (m : Int), .int .i64 e, .bool more] w fun e' w' => e' = .returned (.int .u32 (neg.toNat * 2147483648 + ((min (toldOf 23 (-149) m e more) 2139095040 : Nat) : Int))) ∧ Below w.heap.size w w' := by
  by_cases h0 : m = 0
  · subst h0
    have h := rndZero32 neg e more w
    rw [show ((min (toldOf 23 (-149) 0 e more) 2139095040 : Nat) : Int) = 0 by simp [toldOf], Int.add_zero]
    exact h
  · have hb := kept_bounds 23 (-149) m e more h0 (by omega)
    have hk4 : keptOf 23 (-149) m e more ≤ 4 * 8388608 := Nat.le_trans hb.1 (by decide)
    rw [told_min 23 (-149) 2139095040 m e more h0, show (2 : Nat) ^ 23 = 8388608 by decide]
    have hnb : Lib.bitLen m ≤ 60 := bl_le m 60 (by omega) (by omega)
    have hn1 := (bl_is m (by omega) h0).1
    have hl : max (e + (Lib.bitLen m : Int) - 23 - 1) (-149) = lastOf 23 (-149) m e := rfl
    have hkv : keptOf 23 (-149) m e more = keptOf 23 (-149) m e more := rfl
    conv at hkv => lhs; unfold keptOf
    have LN : Hid (∀ w, Calls Try.prog 87 #[.int .u64 (m : Int)] w fun e w' => e = .returned (.int .i64 (Lib.bitLen m : Int)) ∧ w' = w) := fun w => len64F m (by omega) w
    generalize lastOf 23 (-149) m e = l at *
    generalize Lib.bitLen m = n at *
    have km : ((m : Int) == 0) = false := by simp; omega
    by_cases hlt : e < l
    · rw [if_pos hlt] at hkv
      have NS : Hid (∀ w, Calls Try.prog 103 #[.int .u64 (m : Int), .int .i64 (((l - e).toNat : Nat) : Int), .bool more] w fun e' w' => e' = .returned (.int .u64 ((nsh m (l - e).toNat more : Nat) : Int)) ∧ Below w.heap.size w w') := fun w => nearest m (l - e).toNat more (by omega) hm (by omega) w
      rw [hkv] at NS
      exact rndUp32 neg m n (l - e).toNat _ e l more km LN NS (by rw [IntKind.wrap_u64]; omega) he0 he1 (by omega) hl (by omega) hlt hk4 w
    · rw [if_neg hlt] at hkv
      refine rndEx32 neg m n (e - l).toNat _ e l more km LN ?_ he0 he1 (by omega) hl (by omega) hlt (by omega) hk4 w
      rw [← hkv, show (m : Int) * 2 ^ (e - l).toNat = ((m * 2 ^ (e - l).toNat : Nat) : Int) by simp, hkv, IntKind.wrap_u64]
      omega

end Go.Proofs.Ytnimlkobcginjaa
