/-
  The law on what is stored and loaded again.
-/
import Derived.Test.YtcnjllecobhalaaCurN
import Derived.Test.YtcnjllecobhalaaFLoadB
import Derived.Test.YtcnjllecobhalaaKeep
import Derived.Test.YtcnjllecobhalaaBel
import Derived.BigQuiet
namespace Go.Proofs.Ytcnjllecobhalaa
open Go.ChangeShapes Go.WideShapes Go.ChangeAt Go.RowKit

theorem Bys.later {w w' : World} {a : Option Addr} {n : Nat} (h : Bys w a n w.heap.size) (k : Below w.heap.size w w') : Bys w' a n w'.heap.size := fun hn => by
  obtain ⟨b, off, e, hl, hc⟩ := (h.below k) hn
  exact ⟨b, off, e, Nat.lt_of_lt_of_le hl k.size, hc⟩

theorem i64w (n : Int) (h0 : -9223372036854775808 ≤ n) (h1 : n ≤ 9223372036854775807) : IntKind.i64.wrap n = n := by rw [IntKind.wrap_i64]; omega

set_option maxHeartbeats 4000000 in
set_option maxRecDepth 2000000 in
theorem loadedB (a1 : Option Addr) (n1 c1 : Nat) (a2 : Option Addr) (n2 c2 : Nat) (w : World) (h1 : Bys w a1 n1 w.heap.size) (h2 : Bys w a2 n2 w.heap.size) :
    Calls Try.prog 8 #[.slice a1 n1 c1, .slice a2 n2 c2] w fun e w' => e = .returned (.bool true) ∧ Below w.heap.size w w' := by
  by_cases hlen : 1048576 < wrap64 ((n1 : Int) + n2)
  · go_enter Try.func8, Try.ntmps8
    go_wp2
    go_ret
    exact ⟨rfl, Below.refl _ _⟩
  · go_enter Try.func8, Try.ntmps8
    go_wp2_with fail
    refine (drawStoreBytes a1 n1 c1 w h1).mono ?_
    rintro e w1 ⟨M, p, D, s, hD, p0, p1, hs, rfl, B1⟩
    rcases storeAll M D (by omega) p s (by omega) p1 with ⟨M', D', c, hc, S, I⟩ | ⟨k, rfl, hf, S, I, LB⟩
    · clear hD p0 p1 hs
      go_wp2_with fail
      refine (I _).mono ?_
      rintro e w2 ⟨rfl, B2⟩
      have m0 : w2.cell? ⟨w1.heap.size, 0, none⟩ = some (.int .i64 M) := keepCell B2 (by simp) (newCell rfl rfl)
      have m1 : w2.cell? ⟨w1.heap.size, 1, none⟩ = some (.string D) := keepCell B2 (by simp) (newCell rfl rfl)
      have HB2 : Hid (Below w.heap.size w w2) := bel_step (bel_alloc B1 _) B2
      have ml : w1.heap.size < w2.heap.size := by have := B2.size; simp at this; omega
      have ma0 : (w2.alloc (.cells #[.int .i64 M', .string D'] 47)).cell? ⟨w1.heap.size, 0, none⟩ = some (.int .i64 M) := pastCell ml m0
      have ma1 : (w2.alloc (.cells #[.int .i64 M', .string D'] 47)).cell? ⟨w1.heap.size, 1, none⟩ = some (.string D) := pastCell ml m1
      clear B2 m0 m1 ml
      go_wp2_with fail
      refine (S _).mono ?_
      rintro e w3 ⟨rfl, B3⟩
      have HBA : Hid (Below w.heap.size w (w3.alloc (.cells #[.int .i64 M', .string D'] 47))) := bel_alloc (bel_step (bel_alloc HB2.out _) B3) _
      clear B3 S I B1
      go_wp2_with fail
      refine (drawStoreInt a2 n2 c2 _ (h2.later HBA.out)).mono ?_
      rintro e v1 ⟨U, q, z, vv, E, hE, q0, q1, z0, z1, v0, v1', rfl, V1⟩
      obtain ⟨x, rfl⟩ : ∃ k : Nat, vv = (k : Int) := ⟨vv.toNat, by omega⟩
      have hx : Hid (x < 18446744073709551616) := by unfold Hid; omega
      have HV1 : Hid (Below w.heap.size w v1) := bel_step HBA.out V1
      rcases intAll U E (by omega) q z x q1 with ⟨M', D', c, hc, S, I⟩ | ⟨D', nn, hnn, h4, S, I, LF, LT⟩
      · clear hE q0 q1 z0 z1 v0 v1' V1
        go_wp2_with fail
        refine (I _).mono ?_
        rintro e v2 ⟨rfl, V2⟩
        have u0 : v2.cell? ⟨v1.heap.size, 0, none⟩ = some (.int .i64 U) := keepCell V2 (by simp) (newCell rfl rfl)
        have u1 : v2.cell? ⟨v1.heap.size, 1, none⟩ = some (.string E) := keepCell V2 (by simp) (newCell rfl rfl)
        have HV2 : Hid (Below w.heap.size w v2) := bel_step (bel_alloc HV1.out _) V2
        have ul : v1.heap.size < v2.heap.size := by have := V2.size; simp at this; omega
        have ua0 : (v2.alloc (.cells #[.int .i64 M', .string D'] 47)).cell? ⟨v1.heap.size, 0, none⟩ = some (.int .i64 U) := pastCell ul u0
        have ua1 : (v2.alloc (.cells #[.int .i64 M', .string D'] 47)).cell? ⟨v1.heap.size, 1, none⟩ = some (.string E) := pastCell ul u1
        clear V2 u0 u1 ul
        go_wp2_with fail
        refine (S _).mono ?_
        rintro e v3 ⟨rfl, V3⟩
        have HV3 : Hid (Below w.heap.size w v3) := bel_step (bel_alloc HV2.out _) V3
        clear V3
        go_wp2
        go_ret
        exact ⟨rfl, bel_alloc HV3.out _⟩
      · subst hnn
        clear hE q0 q1 z0 z1 v0 v1' V1
        go_wp2_with fail
        refine (I _).mono ?_
        rintro e v2 ⟨rfl, V2⟩
        have u0 : v2.cell? ⟨v1.heap.size, 0, none⟩ = some (.int .i64 U) := keepCell V2 (by simp) (newCell rfl rfl)
        have u1 : v2.cell? ⟨v1.heap.size, 1, none⟩ = some (.string E) := keepCell V2 (by simp) (newCell rfl rfl)
        have HV2 : Hid (Below w.heap.size w v2) := bel_step (bel_alloc HV1.out _) V2
        have ul : v1.heap.size < v2.heap.size := by have := V2.size; simp at this; omega
        have ua0 : (v2.alloc (.cells #[.int .i64 U, .string D'] 47)).cell? ⟨v1.heap.size, 0, none⟩ = some (.int .i64 U) := pastCell ul u0
        have ua1 : (v2.alloc (.cells #[.int .i64 U, .string D'] 47)).cell? ⟨v1.heap.size, 1, none⟩ = some (.string E) := pastCell ul u1
        clear V2 u0 u1 ul
        go_wp2_with fail
        refine (S _).mono ?_
        rintro e v3 ⟨rfl, V3⟩
        have y0 : v3.cell? ⟨v2.heap.size, 0, none⟩ = some (.int .i64 U) := keepCell V3 (by simp) (newCell rfl rfl)
        have y1 : v3.cell? ⟨v2.heap.size, 1, none⟩ = some (.string D') := keepCell V3 (by simp) (newCell rfl rfl)
        have HV3 : Hid (Below w.heap.size w v3) := bel_step (bel_alloc HV2.out _) V3
        have hs3 : v2.heap.size < v3.heap.size := by have := V3.size; simp at this; omega
        have HS3 : Hid (v2.heap.size < v3.heap.size) := hs3
        have ya0 : (v3.alloc (.cells #[.int .i64 U, .string D'] 47)).cell? ⟨v2.heap.size, 0, none⟩ = some (.int .i64 U) := pastCell hs3 y0
        have ya1 : (v3.alloc (.cells #[.int .i64 U, .string D'] 47)).cell? ⟨v2.heap.size, 1, none⟩ = some (.string D') := pastCell hs3 y1
        clear V3 hs3
        go_wp2_with fail
        refine (LF _).mono ?_
        rintro e v4 ⟨rfl, V4⟩
        have x0 : v4.cell? ⟨v2.heap.size, 0, none⟩ = some (.int .i64 U) := keepCell V4 (by have := HS3.out; simp; omega) (pastCell HS3.out y0)
        have x1 : v4.cell? ⟨v2.heap.size, 1, none⟩ = some (.string D') := keepCell V4 (by have := HS3.out; simp; omega) (pastCell HS3.out y1)
        have HV4 : Hid (Below w.heap.size w v4) := bel_step (bel_alloc HV3.out _) V4
        clear V4
        go_wp2_with fail
        refine (LT _).mono ?_
        rintro e v5 ⟨rfl, V5⟩
        have HV5 : Hid (Below w.heap.size w v5) := bel_step HV4.out V5
        clear V5 S I LF LT
        have hx' := hx.out
        rcases h4 with rfl | rfl | rfl | rfl
        · obtain ⟨r, hr⟩ : ∃ r : Nat, x % 256 = r := ⟨_, rfl⟩
          have hrl : r < 256 := by omega
          have e1 : x % 2 ^ (8 * 1) = r := hr
          rw [e1]
          have hxr : (x : Int) % 256 = (r : Int) := by omega
          have han : bits .and .u64 (x : Int) 255 = (r : Int) := by rw [← hr]; exact and_low x 256 (by omega) hx'
          obtain ⟨t, ht⟩ : ∃ t, sgn 1 (r : Int) = t := ⟨_, rfl⟩
          rw [ht]
          unfold sgn at ht
          simp only [Nat.reduceMul, Nat.reduceSub, Int.reducePow, Nat.reduceEqDiff, if_false] at ht
          by_cases hb : (128 : Int) ≤ (r : Int)
          · rw [if_pos hb] at ht
            have htw : IntKind.u64.wrap (t * 72057594037927936) = (r : Int) * 72057594037927936 := by rw [IntKind.wrap_u64]; omega
            have k1 : t / 9223372036854775808 = 1 := by omega
            have k2 : (r : Int) / 128 = 1 := by omega
            clear e1 hr ht hb hrl hx'
            go_wp2
            go_ret
            exact ⟨rfl, HV5.out⟩
          · rw [if_neg hb] at ht
            have htw : IntKind.u64.wrap (t * 72057594037927936) = (r : Int) * 72057594037927936 := by rw [IntKind.wrap_u64]; omega
            have k1 : t / 9223372036854775808 = 0 := by omega
            have k2 : (r : Int) / 128 = 0 := by omega
            clear e1 hr ht hb hrl hx'
            go_wp2
            go_ret
            exact ⟨rfl, HV5.out⟩
        · obtain ⟨r, hr⟩ : ∃ r : Nat, x % 65536 = r := ⟨_, rfl⟩
          have hrl : r < 65536 := by omega
          have e1 : x % 2 ^ (8 * 2) = r := hr
          rw [e1]
          have hxr : (x : Int) % 65536 = (r : Int) := by omega
          have han : bits .and .u64 (x : Int) 65535 = (r : Int) := by rw [← hr]; exact and_low x 65536 (by omega) hx'
          obtain ⟨t, ht⟩ : ∃ t, sgn 2 (r : Int) = t := ⟨_, rfl⟩
          rw [ht]
          unfold sgn at ht
          simp only [Nat.reduceMul, Nat.reduceSub, Int.reducePow, Nat.reduceEqDiff, if_false] at ht
          by_cases hb : (32768 : Int) ≤ (r : Int)
          · rw [if_pos hb] at ht
            have htw : IntKind.u64.wrap (t * 281474976710656) = (r : Int) * 281474976710656 := by rw [IntKind.wrap_u64]; omega
            have k1 : t / 9223372036854775808 = 1 := by omega
            have k2 : (r : Int) / 32768 = 1 := by omega
            clear e1 hr ht hb hrl hx'
            go_wp2
            go_ret
            exact ⟨rfl, HV5.out⟩
          · rw [if_neg hb] at ht
            have htw : IntKind.u64.wrap (t * 281474976710656) = (r : Int) * 281474976710656 := by rw [IntKind.wrap_u64]; omega
            have k1 : t / 9223372036854775808 = 0 := by omega
            have k2 : (r : Int) / 32768 = 0 := by omega
            clear e1 hr ht hb hrl hx'
            go_wp2
            go_ret
            exact ⟨rfl, HV5.out⟩
        · obtain ⟨r, hr⟩ : ∃ r : Nat, x % 4294967296 = r := ⟨_, rfl⟩
          have hrl : r < 4294967296 := by omega
          have e1 : x % 2 ^ (8 * 4) = r := hr
          rw [e1]
          have hxr : (x : Int) % 4294967296 = (r : Int) := by omega
          have han : bits .and .u64 (x : Int) 4294967295 = (r : Int) := by rw [← hr]; exact and_low x 4294967296 (by omega) hx'
          obtain ⟨t, ht⟩ : ∃ t, sgn 4 (r : Int) = t := ⟨_, rfl⟩
          rw [ht]
          unfold sgn at ht
          simp only [Nat.reduceMul, Nat.reduceSub, Int.reducePow, Nat.reduceEqDiff, if_false] at ht
          by_cases hb : (2147483648 : Int) ≤ (r : Int)
          · rw [if_pos hb] at ht
            have htw : IntKind.u64.wrap (t * 4294967296) = (r : Int) * 4294967296 := by rw [IntKind.wrap_u64]; omega
            have k1 : t / 9223372036854775808 = 1 := by omega
            have k2 : (r : Int) / 2147483648 = 1 := by omega
            clear e1 hr ht hb hrl hx'
            go_wp2
            go_ret
            exact ⟨rfl, HV5.out⟩
          · rw [if_neg hb] at ht
            have htw : IntKind.u64.wrap (t * 4294967296) = (r : Int) * 4294967296 := by rw [IntKind.wrap_u64]; omega
            have k1 : t / 9223372036854775808 = 0 := by omega
            have k2 : (r : Int) / 2147483648 = 0 := by omega
            clear e1 hr ht hb hrl hx'
            go_wp2
            go_ret
            exact ⟨rfl, HV5.out⟩
        · have e1 : x % 2 ^ (8 * 8) = x := Nat.mod_eq_of_lt hx'
          rw [e1]
          have e2 : sgn 8 (x : Int) = x := by simp [sgn]
          rw [e2]
          go_wp2
          go_ret
          exact ⟨rfl, HV5.out⟩
    · have hz := size_laidOver D k s hf
      have g1 : (laidOver D k s).extract 0 k = D.extract 0 k := lo_lo D k s hf
      have g2 : (laidOver D k s).extract (k + s.size) D.size = D.extract (k + s.size) D.size := lo_hi D k s hf _
      have hk0 : (0 : Int) ≤ (k : Int) := by omega
      have hk1 : (k : Int) ≤ (D.size : Int) := by omega
      have hk2 : (0 : Int) ≤ (k : Int) + (s.size : Int) := by omega
      have hk3 : (k : Int) + (s.size : Int) ≤ (D.size : Int) := by omega
      have hkw : wrap64 ((k : Int) + (s.size : Int)) = (k : Int) + (s.size : Int) := by unfold wrap64; omega
      have hki : IntKind.i64.wrap ((k : Int) + (s.size : Int)) = (k : Int) + (s.size : Int) := i64w _ (by omega) (by omega)
      have hkn : ((k : Int) + (s.size : Int)).toNat = k + s.size := by omega
      obtain ⟨X, hX⟩ : ∃ X, laidOver D k s = X := ⟨_, rfl⟩
      rw [hX] at hz g1 g2 S I LB
      have ha : ∀ w, (Instr.slice 9 (.string X) none (some (.int .i64 (k : Int))) none).run Try.prog w = .ok (.string (D.extract 0 k)) w := fun w => by
        rw [run_slice_string_h _ _ _ Try.underlying9 .i64 (k : Int) hk0 (by omega), Int.toNat_natCast, g1]
      have hb : ∀ w, (Instr.slice 9 (.string D) none (some (.int .i64 (k : Int))) none).run Try.prog w = .ok (.string (D.extract 0 k)) w := fun w => by
        rw [run_slice_string_h _ _ _ Try.underlying9 .i64 (k : Int) hk0 (by omega), Int.toNat_natCast]
      have hcc : ∀ w, (Instr.slice 9 (.string X) (some (.int .i64 ((k : Int) + (s.size : Int)))) none none).run Try.prog w = .ok (.string (D.extract (k + s.size) D.size)) w := fun w => by
        rw [run_slice_string_l _ _ _ Try.underlying9 .i64 ((k : Int) + (s.size : Int)) hk2 (by omega), hkn, hz, g2]
      have hdd : ∀ w, (Instr.slice 9 (.string D) (some (.int .i64 ((k : Int) + (s.size : Int)))) none none).run Try.prog w = .ok (.string (D.extract (k + s.size) D.size)) w := fun w => by
        rw [run_slice_string_l _ _ _ Try.underlying9 .i64 ((k : Int) + (s.size : Int)) hk2 (by omega), hkn]
      have hzi : (X.size : Int) = (D.size : Int) := by omega
      clear g1 g2 hk0 hk1 hk2 hk3 hkn hf hD p0 p1 hs hX
      go_wp2_with fail
      refine (I _).mono ?_
      rintro e w2 ⟨rfl, B2⟩
      have m0 : w2.cell? ⟨w1.heap.size, 0, none⟩ = some (.int .i64 M) := keepCell B2 (by simp) (newCell rfl rfl)
      have m1 : w2.cell? ⟨w1.heap.size, 1, none⟩ = some (.string D) := keepCell B2 (by simp) (newCell rfl rfl)
      have HB2 : Hid (Below w.heap.size w w2) := bel_step (bel_alloc B1 _) B2
      have ml : w1.heap.size < w2.heap.size := by have := B2.size; simp at this; omega
      have ma0 : (w2.alloc (.cells #[.int .i64 M, .string X] 47)).cell? ⟨w1.heap.size, 0, none⟩ = some (.int .i64 M) := pastCell ml m0
      have ma1 : (w2.alloc (.cells #[.int .i64 M, .string X] 47)).cell? ⟨w1.heap.size, 1, none⟩ = some (.string D) := pastCell ml m1
      clear B2 m0 m1
      go_wp2_with fail
      refine (S _).mono ?_
      rintro e w3 ⟨rfl, B3⟩
      have hz3 : w2.heap.size < w3.heap.size := by have := B3.size; simp at this; omega
      have mb1 : w3.cell? ⟨w1.heap.size, 1, none⟩ = some (.string D) := keepCell B3 (by simp; omega) ma1
      have xb0 : (w3.alloc (.cells #[.int .i64 M, .string X] 47)).cell? ⟨w2.heap.size, 0, none⟩ = some (.int .i64 M) := pastCell hz3 (keepCell B3 (by simp) (newCell rfl rfl))
      have xb1 : (w3.alloc (.cells #[.int .i64 M, .string X] 47)).cell? ⟨w2.heap.size, 1, none⟩ = some (.string X) := pastCell hz3 (keepCell B3 (by simp) (newCell rfl rfl))
      have mc1 : (w3.alloc (.cells #[.int .i64 M, .string X] 47)).cell? ⟨w1.heap.size, 1, none⟩ = some (.string D) := pastCell (by omega) mb1
      have HB3 : Hid (Below w.heap.size w (w3.alloc (.cells #[.int .i64 M, .string X] 47))) := bel_alloc (bel_step (bel_alloc HB2.out _) B3) _
      have hl1 : Hid (w1.heap.size < (w3.alloc (.cells #[.int .i64 M, .string X] 47)).heap.size) := by unfold Hid; simp; omega
      have hl2 : Hid (w2.heap.size < (w3.alloc (.cells #[.int .i64 M, .string X] 47)).heap.size) := by unfold Hid; simp; omega
      clear B3 ml hz3 mb1 ma0 ma1
      go_wp2_with fail
      refine (LB _).mono ?_
      rintro e w4 ⟨rfl, B4⟩
      have HB4 := bel_step HB3.out B4
      have HBQ : ∀ q, Hid (Below w.heap.size w (w4.drewN q)) := fun q => bel_drewN HB4 q
      have md1 : w4.cell? ⟨w1.heap.size, 1, none⟩ = some (.string D) := keepCell B4 hl1.out mc1
      have xd1 : w4.cell? ⟨w2.heap.size, 1, none⟩ = some (.string X) := keepCell B4 hl2.out xb1
      clear B4 HB4 mc1 xb0 xb1 S I LB B1
      go_wp2_with fail
      go_quiet (fail)
      go_wp2_with fail
      refine (drawStoreInt a2 n2 c2 _ (h2.later (HBQ _).out)).mono ?_
      rintro e v1 ⟨U, q, z, vv, E, hE, q0, q1, z0, z1, v0, v1', rfl, V1⟩
      obtain ⟨x, rfl⟩ : ∃ k : Nat, vv = (k : Int) := ⟨vv.toNat, by omega⟩
      have hx : Hid (x < 18446744073709551616) := by unfold Hid; omega
      have HV1 : Hid (Below w.heap.size w v1) := bel_step (HBQ _).out V1
      rcases intAll U E (by omega) q z x q1 with ⟨M', D', c, hc, S, I⟩ | ⟨D', nn, hnn, h4, S, I, LF, LT⟩
      · clear hE q0 q1 z0 z1 v0 v1' V1
        go_wp2_with fail
        refine (I _).mono ?_
        rintro e v2 ⟨rfl, V2⟩
        have u0 : v2.cell? ⟨v1.heap.size, 0, none⟩ = some (.int .i64 U) := keepCell V2 (by simp) (newCell rfl rfl)
        have u1 : v2.cell? ⟨v1.heap.size, 1, none⟩ = some (.string E) := keepCell V2 (by simp) (newCell rfl rfl)
        have HV2 : Hid (Below w.heap.size w v2) := bel_step (bel_alloc HV1.out _) V2
        have ul : v1.heap.size < v2.heap.size := by have := V2.size; simp at this; omega
        have ua0 : (v2.alloc (.cells #[.int .i64 M', .string D'] 47)).cell? ⟨v1.heap.size, 0, none⟩ = some (.int .i64 U) := pastCell ul u0
        have ua1 : (v2.alloc (.cells #[.int .i64 M', .string D'] 47)).cell? ⟨v1.heap.size, 1, none⟩ = some (.string E) := pastCell ul u1
        clear V2 u0 u1 ul
        go_wp2_with fail
        refine (S _).mono ?_
        rintro e v3 ⟨rfl, V3⟩
        have HV3 : Hid (Below w.heap.size w v3) := bel_step (bel_alloc HV2.out _) V3
        clear V3
        go_wp2
        go_ret
        exact ⟨rfl, bel_alloc HV3.out _⟩
      · subst hnn
        clear hE q0 q1 z0 z1 v0 v1' V1
        go_wp2_with fail
        refine (I _).mono ?_
        rintro e v2 ⟨rfl, V2⟩
        have u0 : v2.cell? ⟨v1.heap.size, 0, none⟩ = some (.int .i64 U) := keepCell V2 (by simp) (newCell rfl rfl)
        have u1 : v2.cell? ⟨v1.heap.size, 1, none⟩ = some (.string E) := keepCell V2 (by simp) (newCell rfl rfl)
        have HV2 : Hid (Below w.heap.size w v2) := bel_step (bel_alloc HV1.out _) V2
        have ul : v1.heap.size < v2.heap.size := by have := V2.size; simp at this; omega
        have ua0 : (v2.alloc (.cells #[.int .i64 U, .string D'] 47)).cell? ⟨v1.heap.size, 0, none⟩ = some (.int .i64 U) := pastCell ul u0
        have ua1 : (v2.alloc (.cells #[.int .i64 U, .string D'] 47)).cell? ⟨v1.heap.size, 1, none⟩ = some (.string E) := pastCell ul u1
        clear V2 u0 u1 ul
        go_wp2_with fail
        refine (S _).mono ?_
        rintro e v3 ⟨rfl, V3⟩
        have y0 : v3.cell? ⟨v2.heap.size, 0, none⟩ = some (.int .i64 U) := keepCell V3 (by simp) (newCell rfl rfl)
        have y1 : v3.cell? ⟨v2.heap.size, 1, none⟩ = some (.string D') := keepCell V3 (by simp) (newCell rfl rfl)
        have HV3 : Hid (Below w.heap.size w v3) := bel_step (bel_alloc HV2.out _) V3
        have hs3 : v2.heap.size < v3.heap.size := by have := V3.size; simp at this; omega
        have HS3 : Hid (v2.heap.size < v3.heap.size) := hs3
        have ya0 : (v3.alloc (.cells #[.int .i64 U, .string D'] 47)).cell? ⟨v2.heap.size, 0, none⟩ = some (.int .i64 U) := pastCell hs3 y0
        have ya1 : (v3.alloc (.cells #[.int .i64 U, .string D'] 47)).cell? ⟨v2.heap.size, 1, none⟩ = some (.string D') := pastCell hs3 y1
        clear V3 hs3
        go_wp2_with fail
        refine (LF _).mono ?_
        rintro e v4 ⟨rfl, V4⟩
        have x0 : v4.cell? ⟨v2.heap.size, 0, none⟩ = some (.int .i64 U) := keepCell V4 (by have := HS3.out; simp; omega) (pastCell HS3.out y0)
        have x1 : v4.cell? ⟨v2.heap.size, 1, none⟩ = some (.string D') := keepCell V4 (by have := HS3.out; simp; omega) (pastCell HS3.out y1)
        have HV4 : Hid (Below w.heap.size w v4) := bel_step (bel_alloc HV3.out _) V4
        clear V4
        go_wp2_with fail
        refine (LT _).mono ?_
        rintro e v5 ⟨rfl, V5⟩
        have HV5 : Hid (Below w.heap.size w v5) := bel_step HV4.out V5
        clear V5 S I LF LT
        have hx' := hx.out
        rcases h4 with rfl | rfl | rfl | rfl
        · obtain ⟨r, hr⟩ : ∃ r : Nat, x % 256 = r := ⟨_, rfl⟩
          have hrl : r < 256 := by omega
          have e1 : x % 2 ^ (8 * 1) = r := hr
          rw [e1]
          have hxr : (x : Int) % 256 = (r : Int) := by omega
          have han : bits .and .u64 (x : Int) 255 = (r : Int) := by rw [← hr]; exact and_low x 256 (by omega) hx'
          obtain ⟨t, ht⟩ : ∃ t, sgn 1 (r : Int) = t := ⟨_, rfl⟩
          rw [ht]
          unfold sgn at ht
          simp only [Nat.reduceMul, Nat.reduceSub, Int.reducePow, Nat.reduceEqDiff, if_false] at ht
          by_cases hb : (128 : Int) ≤ (r : Int)
          · rw [if_pos hb] at ht
            have htw : IntKind.u64.wrap (t * 72057594037927936) = (r : Int) * 72057594037927936 := by rw [IntKind.wrap_u64]; omega
            have k1 : t / 9223372036854775808 = 1 := by omega
            have k2 : (r : Int) / 128 = 1 := by omega
            clear e1 hr ht hb hrl hx'
            go_wp2
            go_ret
            exact ⟨rfl, HV5.out⟩
          · rw [if_neg hb] at ht
            have htw : IntKind.u64.wrap (t * 72057594037927936) = (r : Int) * 72057594037927936 := by rw [IntKind.wrap_u64]; omega
            have k1 : t / 9223372036854775808 = 0 := by omega
            have k2 : (r : Int) / 128 = 0 := by omega
            clear e1 hr ht hb hrl hx'
            go_wp2
            go_ret
            exact ⟨rfl, HV5.out⟩
        · obtain ⟨r, hr⟩ : ∃ r : Nat, x % 65536 = r := ⟨_, rfl⟩
          have hrl : r < 65536 := by omega
          have e1 : x % 2 ^ (8 * 2) = r := hr
          rw [e1]
          have hxr : (x : Int) % 65536 = (r : Int) := by omega
          have han : bits .and .u64 (x : Int) 65535 = (r : Int) := by rw [← hr]; exact and_low x 65536 (by omega) hx'
          obtain ⟨t, ht⟩ : ∃ t, sgn 2 (r : Int) = t := ⟨_, rfl⟩
          rw [ht]
          unfold sgn at ht
          simp only [Nat.reduceMul, Nat.reduceSub, Int.reducePow, Nat.reduceEqDiff, if_false] at ht
          by_cases hb : (32768 : Int) ≤ (r : Int)
          · rw [if_pos hb] at ht
            have htw : IntKind.u64.wrap (t * 281474976710656) = (r : Int) * 281474976710656 := by rw [IntKind.wrap_u64]; omega
            have k1 : t / 9223372036854775808 = 1 := by omega
            have k2 : (r : Int) / 32768 = 1 := by omega
            clear e1 hr ht hb hrl hx'
            go_wp2
            go_ret
            exact ⟨rfl, HV5.out⟩
          · rw [if_neg hb] at ht
            have htw : IntKind.u64.wrap (t * 281474976710656) = (r : Int) * 281474976710656 := by rw [IntKind.wrap_u64]; omega
            have k1 : t / 9223372036854775808 = 0 := by omega
            have k2 : (r : Int) / 32768 = 0 := by omega
            clear e1 hr ht hb hrl hx'
            go_wp2
            go_ret
            exact ⟨rfl, HV5.out⟩
        · obtain ⟨r, hr⟩ : ∃ r : Nat, x % 4294967296 = r := ⟨_, rfl⟩
          have hrl : r < 4294967296 := by omega
          have e1 : x % 2 ^ (8 * 4) = r := hr
          rw [e1]
          have hxr : (x : Int) % 4294967296 = (r : Int) := by omega
          have han : bits .and .u64 (x : Int) 4294967295 = (r : Int) := by rw [← hr]; exact and_low x 4294967296 (by omega) hx'
          obtain ⟨t, ht⟩ : ∃ t, sgn 4 (r : Int) = t := ⟨_, rfl⟩
          rw [ht]
          unfold sgn at ht
          simp only [Nat.reduceMul, Nat.reduceSub, Int.reducePow, Nat.reduceEqDiff, if_false] at ht
          by_cases hb : (2147483648 : Int) ≤ (r : Int)
          · rw [if_pos hb] at ht
            have htw : IntKind.u64.wrap (t * 4294967296) = (r : Int) * 4294967296 := by rw [IntKind.wrap_u64]; omega
            have k1 : t / 9223372036854775808 = 1 := by omega
            have k2 : (r : Int) / 2147483648 = 1 := by omega
            clear e1 hr ht hb hrl hx'
            go_wp2
            go_ret
            exact ⟨rfl, HV5.out⟩
          · rw [if_neg hb] at ht
            have htw : IntKind.u64.wrap (t * 4294967296) = (r : Int) * 4294967296 := by rw [IntKind.wrap_u64]; omega
            have k1 : t / 9223372036854775808 = 0 := by omega
            have k2 : (r : Int) / 2147483648 = 0 := by omega
            clear e1 hr ht hb hrl hx'
            go_wp2
            go_ret
            exact ⟨rfl, HV5.out⟩
        · have e1 : x % 2 ^ (8 * 8) = x := Nat.mod_eq_of_lt hx'
          rw [e1]
          have e2 : sgn 8 (x : Int) = x := by simp [sgn]
          rw [e2]
          go_wp2
          go_ret
          exact ⟨rfl, HV5.out⟩

end Go.Proofs.Ytcnjllecobhalaa
