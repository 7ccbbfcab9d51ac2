/-
  Counts of noughts and ones, and numbers that come back from their bits: the law's walk.
-/
import Derived.Test.YtnimlkobcginjaaDoorICnt
import Derived.Test.YtnimlkobcginjaaDoorICntD
import Derived.Test.YtnimlkobcginjaaDoorISmall
import Derived.Deep.DeepCutAuto
namespace Go.Proofs.YtnimlkobcginjaaDoor
open Go.RowKit

theorem Bys.later5 {w w' : World} {a : Option Addr} {n : Nat} (h : Bys w a n w.heap.size) (k : Below w.heap.size w w') : Bys w' a n w'.heap.size := fun hn => by
  obtain ⟨b, off, e, hl, hc⟩ := (h.below k) hn
  exact ⟨b, off, e, Nat.lt_of_lt_of_le hl k.size, hc⟩
theorem bel_s5 {w a b : World} (h : Below w.heap.size w a) (k : Below a.heap.size a b) : Below w.heap.size w b := h.trans (k.mono h.size)
theorem cutSmall (b v : Int) (h0 : 0 ≤ v) (h1 : v ≤ 64) : cutW b v = v := by unfold cutW; split <;> omega
theorem uW (x y : Int) (h : x = y) (h0 : 0 ≤ y) (h1 : y ≤ 18446744073709551615) : IntKind.u64.wrap x = y := by rw [IntKind.wrap_u64, h]; omega

/-- What the walk wants to know of a number that is not nought. -/
structure CntOk (b : Int) (x L c P Y l1 : Nat) (A Q Q1 PA : Int) : Prop where
  v0 : IntKind.u64.wrap b = b
  v1 : IntKind.u64.wrap (b - A) = L
  v2 : IntKind.u64.wrap ((L : Int) - 1) = l1
  s1 : (x : Int) / 2 ^ l1 = 1
  s2 : bits .and .u64 ((x : Int) / 2 ^ c) 1 = 1
  s3 : IntKind.u64.wrap (2 ^ c) = Q
  s4 : IntKind.u64.wrap (Q - 1) = Q1
  s5 : bits .and .u64 (x : Int) Q1 = 0
  s6 : IntKind.u64.wrap ((P : Int) + A) = PA
  s7 : IntKind.u64.wrap (PA + c) = PA + c
  s8 : ¬ b < PA + c
  s9 : IntKind.u64.wrap ((x : Int) - 1) = ((x - 1 : Nat) : Int)
  t1 : bits .and .u64 (x : Int) ((x - 1 : Nat) : Int) = (Y : Int)
  t2 : IntKind.u64.wrap ((P : Int) - 1) = ((P - 1 : Nat) : Int)
  m1 : min l1 64 = l1
  m2 : min c 64 = c

theorem cnt_ok (b : Int) (hb : b = 32 ∨ b = 64) (a : Int) (a0 : 0 ≤ a) (aa : a ≤ 18446744073709551615) (x : Nat) (hx : cutW b a = x) (hl : x < 2 ^ b.toNat) (hs : x < 18446744073709551616) (h0 : x ≠ 0) : ∃ (L c P Y l1 : Nat) (A Q Q1 PA : Int), CntOk b x L c P Y l1 A Q Q1 PA ∧
    (∀ w, Calls Tryd.prog 5 #[.int .i64 b, .int .i64 22, .int .u64 a] w fun e w' => e = .returned (.tuple #[.int .u64 A, .int .i64 0]) ∧ Below w.heap.size w w') ∧
    (∀ w, Tabs w → Calls Tryd.prog 5 #[.int .i64 b, .int .i64 23, .int .u64 a] w fun e w' => e = .returned (.tuple #[.int .u64 (c : Int), .int .i64 0]) ∧ Below w.heap.size w w') ∧
    (∀ w, Calls Tryd.prog 5 #[.int .i64 b, .int .i64 24, .int .u64 a] w fun e w' => e = .returned (.tuple #[.int .u64 (P : Int), .int .i64 0]) ∧ Below w.heap.size w w') ∧
    (∀ w, Calls Tryd.prog 5 #[.int .i64 b, .int .i64 24, .int .u64 (Y : Int)] w fun e w' => e = .returned (.tuple #[.int .u64 ((P - 1 : Nat) : Int), .int .i64 0]) ∧ Below w.heap.size w w') := by
  have hn : b.toNat ≤ 64 := by omega
  obtain ⟨L, c, eL, ec, L1, Lb, cL, d1, d2, d3, d4, d5⟩ := cnt_facts x b.toNat h0 hn hl
  have CL := clzI b a hb a0 aa x hx hl hs
  have CT := ctzI b a hb a0 aa x hx hs
  have PC := pcI b a hb a0 aa x hx hs
  have hYx : x &&& (x - 1) ≤ x := Nat.and_le_left
  have hp64 : pc 64 (x &&& (x - 1)) + 1 = pc 64 x := pc_dec 64 x h0 hs
  have hxY : cutW b ((x &&& (x - 1) : Nat) : Int) = ((x &&& (x - 1) : Nat) : Int) := by
    unfold cutW
    rcases hb with rfl | rfl
    · have : x < 2 ^ 32 := hl
      rw [if_pos rfl]; omega
    · rw [if_neg (by decide)]
  have PY := pcI b ((x &&& (x - 1) : Nat) : Int) hb (by omega) (by omega) (x &&& (x - 1)) hxY (by omega)
  have t1 : bits .and .u64 (x : Int) ((x - 1 : Nat) : Int) = ((x &&& (x - 1) : Nat) : Int) := and_u64 x (x - 1) hs (by omega)
  have hp : 2 ^ c < 18446744073709551616 := Nat.lt_of_lt_of_le (Nat.pow_lt_pow_right (by omega) (show c < 64 by omega)) (by decide)
  have hp0 := Nat.two_pow_pos c
  have hm : x &&& (2 ^ c - 1) = 0 := by rw [Nat.and_two_pow_sub_one_eq_mod]; exact d3
  have s5 : bits .and .u64 (x : Int) ((2 ^ c - 1 : Nat) : Int) = 0 := by rw [and_u64 x (2 ^ c - 1) hs (by omega), hm]; rfl
  have hdc : x / 2 ^ c ≤ x := Nat.div_le_self _ _
  have s2 : bits .and .u64 ((x : Int) / 2 ^ c) 1 = 1 := by
    have e : (x : Int) / 2 ^ c = ((x / 2 ^ c : Nat) : Int) := by simp
    rw [e]
    generalize x / 2 ^ c = q2 at *
    rw [and_one' _ (by omega) (by omega)]
    omega
  have s1 : (x : Int) / 2 ^ (L - 1) = 1 := by
    have e : (x : Int) / 2 ^ (L - 1) = ((x / 2 ^ (L - 1) : Nat) : Int) := by simp
    rw [e, d1]; rfl
  have s3 : IntKind.u64.wrap (2 ^ c) = ((2 ^ c : Nat) : Int) := uW _ _ (by simp) (by omega) (by omega)
  rw [eL] at CL
  rw [ec] at CT
  have e1 : cutW b (b - (L : Int)) = b - (L : Int) := cutSmall _ _ (by omega) (by omega)
  have e2 : cutW b (min b (c : Int)) = (c : Int) := by rw [show min b (c : Int) = c by omega]; exact cutSmall _ _ (by omega) (by omega)
  have e3 : cutW b ((pc 64 x : Nat) : Int) = ((pc 64 x : Nat) : Int) := cutSmall _ _ (by omega) (by omega)
  have e4 : cutW b ((pc 64 (x &&& (x - 1)) : Nat) : Int) = ((pc 64 x - 1 : Nat) : Int) := by rw [show pc 64 (x &&& (x - 1)) = pc 64 x - 1 by omega]; exact cutSmall _ _ (by omega) (by omega)
  rw [e1] at CL
  rw [e2] at CT
  rw [e3] at PC
  rw [e4] at PY
  generalize 2 ^ c = q at *
  refine ⟨L, c, pc 64 x, x &&& (x - 1), L - 1, b - (L : Int), (q : Int), ((q - 1 : Nat) : Int), (pc 64 x : Int) + (b - L), ?_, CL, CT, PC, PY⟩
  exact ⟨uW _ _ rfl (by omega) (by omega), uW _ _ (by omega) (by omega) (by omega), uW _ _ (by omega) (by omega) (by omega), s1, s2, s3, uW _ _ (by omega) (by omega) (by omega), s5, uW _ _ rfl (by omega) (by omega), uW _ _ rfl (by omega) (by omega), by omega, uW _ _ (by omega) (by omega) (by omega), t1, uW _ _ (by omega) (by omega) (by omega), by omega, by omega⟩

set_option maxHeartbeats 4000000 in
set_option maxRecDepth 2000000 in
theorem countsB (a1 : Option Addr) (n1 c1 : Nat) (a2 : Option Addr) (n2 c2 : Nat) (w : World) (h1 : Bys w a1 n1 w.heap.size) (h2 : Bys w a2 n2 w.heap.size) (hT : Tabs w) :
    Calls Tryd.prog 3 #[.slice a1 n1 c1, .slice a2 n2 c2] w fun e w' => e = .returned (.bool true) ∧ Below w.heap.size w w' := by
  have H2 : Hid (Bys w a2 n2 w.heap.size) := h2
  have HT : Hid (Tabs w) := hT
  clear h2 hT
  by_cases hlen : 1048576 < wrap64 ((n1 : Int) + n2)
  · go_enter Tryd.func3, Tryd.ntmps3
    go_wp2
    go_ret
    exact ⟨rfl, Below.refl _ _⟩
  · go_enter Tryd.func3, Tryd.ntmps3
    go_wp2_with fail
    refine (drawUnary a1 n1 c1 w h1).mono ?_
    rintro e w1 ⟨b, op, a, _, a0, aa, rfl, B1⟩
    clear hlen h1
    obtain ⟨r, t, RS, RI⟩ := un_both b op a a0 aa w1 (tabs_keep HT.out B1)
    have HA : Hid (0 ≤ a ∧ a ≤ 18446744073709551615) := ⟨a0, aa⟩
    clear a0 aa
    go_wp2_with fail
    refine RI.out.mono ?_
    rintro e w2 ⟨rfl, B2⟩
    go_wp2_with fail
    refine (RS.out _).mono ?_
    rintro e w3 ⟨rfl, hw3⟩
    rw [hw3]
    have HB2 : Hid (Below w.heap.size w w2) := bel_s5 B1 B2
    clear hw3 w3 B1 B2 RS RI
    go_upto_region 8 with fail
    go_cut [71] (fun s71 wx => s71 = .bool (b == 32 || b == 64) ∧ wx = w2)
    case first =>
      by_cases k32 : b = 32
      · subst k32
        go_wp2
        go_meet
        exact ⟨rfl, rfl⟩
      · by_cases k64 : b = 64
        · subst k64
          go_wp2
          go_meet
          exact ⟨rfl, rfl⟩
        · have k : Hid ((b == 32 || b == 64) = false) := by unfold Hid; simp [k32, k64]
          go_wp2
          go_meet
          exact ⟨by rw [k.out], rfl⟩
    case rest =>
    obtain ⟨rfl, hwc⟩ := hcut
    obtain rfl := hwc.symm
    clear hwc
    obtain ⟨b9, hb9⟩ : ∃ q, (b == 32 || b == 64) = q := ⟨_, rfl⟩
    have HK : Hid (b9 = true → b = 32 ∨ b = 64) := fun h => by simpa using hb9.trans h
    rw [hb9]
    clear hb9
    go_upto_if 71 with fail
    go_cut [12, 13, 14, 15, 16, 17, 18, 19, 20] (fun _ _ _ _ _ _ _ _ _ wx => Hid (Below w.heap.size w wx))
    case first =>
      cases b9
      · go_wp2
        go_meet
        exact HB2
      obtain ⟨a0, aa⟩ := HA.out
      have HKB := HK.out rfl
      clear HK HA
      rcases HKB with rfl | rfl
      · obtain ⟨x, hx, hl, hs⟩ := cut_nat 32 a (Or.inl rfl) a0 aa
        by_cases x0 : x = 0
        · subst x0
          have CL := clzI 32 a (Or.inl rfl) a0 aa 0 hx hl hs
          have CT := ctzI 32 a (Or.inl rfl) a0 aa 0 hx hs
          have PC := pcI 32 a (Or.inl rfl) a0 aa 0 hx hs
          have PZ := pcI 32 0 (Or.inl rfl) (by omega) (by omega) 0 (by rfl) hs
          rw [show cutW 32 (32 - ((Lib.bitLen 0 : Nat) : Int)) = 32 by decide] at CL
          rw [show cutW 32 (min 32 ((Lib.ctz 64 0 : Nat) : Int)) = 32 by decide] at CT
          rw [pc_zero, show cutW 32 (((0 : Nat)) : Int) = 0 by decide] at PC PZ
          have z0 : bits .and .u64 0 18446744073709551615 = 0 := by decide
          have hx' : a % 4294967296 = 0 := hx
          clear hx
          clear hl hs a0 aa
          go_wp2_with fail
          refine (implWrap a _).mono ?_
          rintro e w3 ⟨rfl, hw3⟩
          rw [hw3, hx']
          clear hw3 hx' w3
          go_wp2_with fail
          refine (CL _).mono ?_
          rintro e w4 ⟨rfl, B4⟩
          go_wp2_with fail
          refine (CT _ (tabs_keep HT.out (bel_s5 HB2.out B4))).mono ?_
          rintro e w5 ⟨rfl, B5⟩
          go_wp2_with fail
          refine (PC _).mono ?_
          rintro e w6 ⟨rfl, B6⟩
          go_wp2_with fail
          refine (PZ _).mono ?_
          rintro e w7 ⟨rfl, B7⟩
          have HB7 : Hid (Below w.heap.size w w7) := bel_s5 (bel_s5 (bel_s5 (bel_s5 HB2.out B4) B5) B6) B7
          clear B4 B5 B6 B7 CL CT PC PZ HB2 HT
          go_wp2
          go_meet
          exact HB7
        · obtain ⟨L, c, P, Y, l1, A, Q, Q1, PA, OK, CL, CT, PC, PY⟩ := cnt_ok 32 (Or.inl rfl) a a0 aa x hx hl hs x0
          obtain ⟨v0, v1, v2, s1, s2, s3, s4, s5, s6, s7, s8, s9, t1, t2, m1, m2⟩ := OK
          have xi : ¬ (x : Int) = 0 := by omega
          have hx' : a % 4294967296 = (x : Int) := hx
          clear hx
          clear hl hs a0 aa v0 x0
          generalize P - 1 = P1 at *
          generalize x - 1 = x1 at *
          go_wp2_with fail
          refine (implWrap a _).mono ?_
          rintro e w3 ⟨rfl, hw3⟩
          rw [hw3, hx']
          clear hw3 hx' w3
          go_wp2_with fail
          refine (CL _).mono ?_
          rintro e w4 ⟨rfl, B4⟩
          go_wp2_with fail
          refine (CT _ (tabs_keep HT.out (bel_s5 HB2.out B4))).mono ?_
          rintro e w5 ⟨rfl, B5⟩
          go_wp2_with fail
          refine (PC _).mono ?_
          rintro e w6 ⟨rfl, B6⟩
          go_wp2_with fail
          refine (PY _).mono ?_
          rintro e w7 ⟨rfl, B7⟩
          have HB7 : Hid (Below w.heap.size w w7) := bel_s5 (bel_s5 (bel_s5 (bel_s5 HB2.out B4) B5) B6) B7
          clear B4 B5 B6 B7 CL CT PC PY HB2 HT
          go_wp2
          go_meet
          exact HB7
      · obtain ⟨x, hx, hl, hs⟩ := cut_nat 64 a (Or.inr rfl) a0 aa
        by_cases x0 : x = 0
        · subst x0
          have CL := clzI 64 a (Or.inr rfl) a0 aa 0 hx hl hs
          have CT := ctzI 64 a (Or.inr rfl) a0 aa 0 hx hs
          have PC := pcI 64 a (Or.inr rfl) a0 aa 0 hx hs
          have PZ := pcI 64 0 (Or.inr rfl) (by omega) (by omega) 0 (by rfl) hs
          rw [show cutW 64 (64 - ((Lib.bitLen 0 : Nat) : Int)) = 64 by decide] at CL
          rw [show cutW 64 (min 64 ((Lib.ctz 64 0 : Nat) : Int)) = 64 by decide] at CT
          rw [pc_zero, show cutW 64 (((0 : Nat)) : Int) = 0 by decide] at PC PZ
          have z0 : bits .and .u64 0 18446744073709551615 = 0 := by decide
          obtain rfl : a = 0 := hx
          clear hl hs a0 aa
          go_wp2_with fail
          refine (CL _).mono ?_
          rintro e w4 ⟨rfl, B4⟩
          go_wp2_with fail
          refine (CT _ (tabs_keep HT.out (bel_s5 HB2.out B4))).mono ?_
          rintro e w5 ⟨rfl, B5⟩
          go_wp2_with fail
          refine (PC _).mono ?_
          rintro e w6 ⟨rfl, B6⟩
          go_wp2_with fail
          refine (PZ _).mono ?_
          rintro e w7 ⟨rfl, B7⟩
          have HB7 : Hid (Below w.heap.size w w7) := bel_s5 (bel_s5 (bel_s5 (bel_s5 HB2.out B4) B5) B6) B7
          clear B4 B5 B6 B7 CL CT PC PZ HB2 HT
          go_wp2
          go_meet
          exact HB7
        · obtain ⟨L, c, P, Y, l1, A, Q, Q1, PA, OK, CL, CT, PC, PY⟩ := cnt_ok 64 (Or.inr rfl) a a0 aa x hx hl hs x0
          obtain ⟨v0, v1, v2, s1, s2, s3, s4, s5, s6, s7, s8, s9, t1, t2, m1, m2⟩ := OK
          have xi : ¬ (x : Int) = 0 := by omega
          obtain rfl : a = (x : Int) := hx
          clear hl hs a0 aa v0 x0
          generalize P - 1 = P1 at *
          generalize x - 1 = x1 at *
          go_wp2_with fail
          refine (CL _).mono ?_
          rintro e w4 ⟨rfl, B4⟩
          go_wp2_with fail
          refine (CT _ (tabs_keep HT.out (bel_s5 HB2.out B4))).mono ?_
          rintro e w5 ⟨rfl, B5⟩
          go_wp2_with fail
          refine (PC _).mono ?_
          rintro e w6 ⟨rfl, B6⟩
          go_wp2_with fail
          refine (PY _).mono ?_
          rintro e w7 ⟨rfl, B7⟩
          have HB7 : Hid (Below w.heap.size w w7) := bel_s5 (bel_s5 (bel_s5 (bel_s5 HB2.out B4) B5) B6) B7
          clear B4 B5 B6 B7 CL CT PC PY HB2 HT
          go_wp2
          go_meet
          exact HB7
    case rest =>
      have HC := hcut
      clear HK HA HB2 hcut HT
      go_wp2_with fail
      refine (drawSignedOf a2 n2 c2 _ (H2.out.later5 HC.out)).mono ?_
      rintro e w4 ⟨d, y, _, y0, y1, rfl, B4⟩
      have HB4 : Hid (Below w.heap.size w w4) := bel_s5 HC.out B4
      clear HC B4 H2
      have SI := implSignedOf d y ⟨y0, y1⟩
      have SS := specSignedOf d y
      by_cases k32 : d = 32
      · subst k32
        have g1 : sgOf 32 y = s32 y := rfl
        have g2 : btOf 32 (s32 y) = y % 4294967296 := by unfold btOf s32; rw [if_pos rfl]; omega
        have g3 : btOf 32 (wrap64 y) = y % 4294967296 := by unfold btOf wrap64; rw [if_pos rfl]; omega
        have BI := implBitsOf 32 (s32 y)
        have BS := specBitsOf 32 (wrap64 y)
        have EI := implExtend y true
        rw [g1] at SI SS
        rw [g2] at BI
        rw [g3] at BS
        have g4 : IntKind.u64.wrap (s32 y) = s32 y % 18446744073709551616 := by rw [IntKind.wrap_u64]
        rw [if_pos rfl, ← g4] at EI
        generalize y % 4294967296 = z at *
        generalize s32 y = s at *
        obtain ⟨e9, he9⟩ : ∃ q, IntKind.u64.wrap s = q := ⟨_, rfl⟩
        rw [he9] at EI
        clear g1 g2 g3 g4 y0 y1
        have kk : ((32 : Int) == 32 || (32 : Int) == 64) = true := by decide
        rw [kk] at SI SS BI BS
        clear kk
        go_wp2_with fail
        refine (SI _).mono ?_
        rintro e w5 ⟨rfl, hw5⟩
        rw [hw5]
        clear hw5 w5
        go_wp2_with fail
        refine (SS _).mono ?_
        rintro e w5 ⟨rfl, hw5⟩
        rw [hw5]
        clear hw5 w5
        go_wp2_with fail
        refine (BI _).mono ?_
        rintro e w5 ⟨rfl, hw5⟩
        rw [hw5]
        clear hw5 w5
        go_wp2_with fail
        refine (BS _).mono ?_
        rintro e w5 ⟨rfl, hw5⟩
        rw [hw5]
        clear hw5 w5
        go_wp2_with fail
        refine (EI _).mono ?_
        rintro e w5 ⟨rfl, hw5⟩
        rw [hw5]
        clear hw5 w5 SI SS BI BS EI
        go_wp2
        go_ret
        exact ⟨rfl, HB4.out⟩
      · by_cases k64 : d = 64
        · subst k64
          have g1 : sgOf 64 y = s64 y := rfl
          have g2 : btOf 64 (s64 y) = y := by unfold btOf s64; rw [if_neg (by decide), if_pos rfl]; omega
          have g3 : btOf 64 (wrap64 y) = y := by unfold btOf wrap64; rw [if_neg (by decide), if_pos rfl]; omega
          have BI := implBitsOf 64 (s64 y)
          have BS := specBitsOf 64 (wrap64 y)
          have EI := implExtend y true
          rw [g1] at SI SS
          rw [g2] at BI
          rw [g3] at BS
          rw [if_pos rfl] at EI
          generalize s32 y % 18446744073709551616 = e9 at *
          generalize s64 y = s at *
          clear g1 g2 g3 y0 y1 k32
          have kk : ((64 : Int) == 32 || (64 : Int) == 64) = true := by decide
          rw [kk] at SI SS BI BS
          clear kk
          go_wp2_with fail
          refine (SI _).mono ?_
          rintro e w5 ⟨rfl, hw5⟩
          rw [hw5]
          clear hw5 w5
          go_wp2_with fail
          refine (SS _).mono ?_
          rintro e w5 ⟨rfl, hw5⟩
          rw [hw5]
          clear hw5 w5
          go_wp2_with fail
          refine (BI _).mono ?_
          rintro e w5 ⟨rfl, hw5⟩
          rw [hw5]
          clear hw5 w5
          go_wp2_with fail
          refine (BS _).mono ?_
          rintro e w5 ⟨rfl, hw5⟩
          rw [hw5]
          clear hw5 w5
          go_wp2_with fail
          refine (EI _).mono ?_
          rintro e w5 ⟨rfl, hw5⟩
          rw [hw5]
          clear hw5 w5 SI SS BI BS EI
          go_wp2
          go_ret
          exact ⟨rfl, HB4.out⟩
        · have k : (d == 32 || d == 64) = false := by simp [k32, k64]
          have g1 : sgOf d y = 0 := by unfold sgOf; rw [if_neg k32, if_neg k64]
          rw [k, g1] at SI SS
          clear g1 k y0 y1
          go_wp2_with fail
          refine (SI _).mono ?_
          rintro e w5 ⟨rfl, hw5⟩
          rw [hw5]
          clear hw5 w5
          go_wp2_with fail
          refine (SS _).mono ?_
          rintro e w5 ⟨rfl, hw5⟩
          rw [hw5]
          clear hw5 w5
          go_wp2
          go_ret
          exact ⟨rfl, HB4.out⟩

end Go.Proofs.YtnimlkobcginjaaDoor
