/-
  A float lies between its floor and its ceiling: the law's walk.
-/
import Derived.Test.YtnimlkobcginjaaFWhM
namespace Go.Proofs.Ytnimlkobcginjaa
open Go.RowKit

theorem Bys.later4 {w w' : World} {a : Option Addr} {n : Nat} (h : Bys w a n w.heap.size) (k : Below w.heap.size w w') : Bys w' a n w'.heap.size := fun hn => by
  obtain ⟨b, off, e, hl, hc⟩ := (h.below k) hn
  exact ⟨b, off, e, Nat.lt_of_lt_of_le hl k.size, hc⟩
theorem bel_s4 {w a b : World} (h : Below w.heap.size w a) (k : Below a.heap.size a b) : Below w.heap.size w b := h.trans (k.mono h.size)
theorem w63W (x : Int) (h0 : -9223372036854775808 ≤ x) (h1 : x ≤ 9223372036854775807) : wrap64 x = x := by unfold wrap64; omega

set_option maxHeartbeats 400000 in
theorem sizeW (n r : Int) (hr : ((n.natAbs : Nat) : Int) = r) (h0 : -9223372036854775807 ≤ n) (w : World) :
    Calls Try.prog 36 #[.int .i64 n] w fun e w' => e = .returned (.int .i64 r) ∧ w' = w := by
  by_cases h : n < 0
  · have v : wrap64 (-n) = r := by rw [w63W _ (by omega) (by omega)]; omega
    clear hr h0
    go_enter Try.func36, Try.ntmps36
    go_wp2
    go_ret
    exact ⟨by first | rfl | exact congrArg (fun z => Ending.returned (.int .i64 z)) v, rfl⟩
  · have v : n = r := by omega
    subst v
    clear hr h0
    go_enter Try.func36, Try.ntmps36
    go_wp2
    go_ret
    exact ⟨rfl, rfl⟩

set_option maxRecDepth 100000 in
set_option maxHeartbeats 1000000 in
theorem numberOfW (a : Option Addr) (n cap : Nat) (hn : n ≤ 9223372036854775807) (w : World) (hb : Bys w a n w.heap.size) :
    Calls Try.prog 37 #[.slice a n cap] w fun e w' => ∃ r : Int, 0 ≤ r ∧ r < 1000003 ∧ e = .returned (.int .i64 r) ∧ w' = w := by
  go_enter Try.func37, Try.ntmps37
  go_wp2
  go_loopw [3, 8] (fun vs vi wr => ∃ (j : Nat) (r : Int), j ≤ n ∧ vi = .int .i64 (j : Int) ∧ vs = .int .i64 r ∧ (0 ≤ r ∧ r < 1000003) ∧ wr = w) (fun _ vi _ => n - (intOf vi).toNat)
  case atStart => exact ⟨0, 0, by omega, rfl, rfl, by omega, rfl⟩
  case round =>
    obtain ⟨j, r, hj, rfl, rfl, hr, hw⟩ := hrel
    obtain rfl := hw.symm
    by_cases hlt : j < n
    · obtain ⟨b, off, rfl, hl, hc⟩ := hb (by omega)
      obtain ⟨z, z0, z1, hz⟩ := hc j hlt
      have hji : (j : Int) < (n : Int) := by omega
      have v1 : wrap64 (31 * r) = 31 * r := w63W _ (by omega) (by omega)
      have v2 : wrap64 (31 * r + z) = 31 * r + z := w63W _ (by omega) (by omega)
      have v3 : wrap64 z = z := w63W _ (by omega) (by omega)
      have v4 : Int.tmod (31 * r + z) 1000003 = (31 * r + z) % 1000003 := Int.tmod_eq_emod_of_nonneg (by omega)
      clear hc hb
      go_wp2
      go_roundw
      case rel => exact ⟨j + 1, (31 * r + z) % 1000003, by omega, by go_num, by first | rfl | (rw [v4]) | (congr 1), by omega, by trivial⟩
      case measure => first | (simp [intOf]; done) | (simp [intOf]; omega)
    · have hje : ¬ (j : Int) < (n : Int) := by omega
      go_wp2
      go_ret
      exact ⟨r, hr.1, hr.2, rfl, rfl⟩

theorem drawFRound (a : Option Addr) (n cap : Nat) (w : World) (hb : Bys w a n w.heap.size) :
    Calls Try.prog 33 #[.slice a n cap] w fun e w' => ∃ k t x : Int, (k = 16 ∨ k = 32 ∨ k = 64) ∧ (0 ≤ t ∧ t < 6) ∧ 0 ≤ x ∧ x ≤ 4294967295 ∧ e = .returned (.tuple #[.int .i64 k, .int .i64 t, .int .u32 x]) ∧ Below w.heap.size w w' := by
  have C0 := cur_new w a n cap 69 hb
  have N0 := below_new w (.cells #[.slice a n cap, .int .i64 0, .int .u64 0] 69)
  go_enter Try.func33, Try.ntmps33
  go_wp2_with fail
  refine (curKind w.heap.size a n cap w.heap.size 0 (hid_le (by omega)) _ C0).mono ?_
  rintro e w1 ⟨k, hk, rfl, C1, B1⟩
  go_wp2_with fail
  refine (curPick 6 (by omega) (by omega) w.heap.size a n cap w.heap.size (0 + 4) (hid_le (by omega)) _ C1).mono ?_
  rintro e w2 ⟨t, t0, t1, rfl, C2, B2⟩
  go_wp2_with fail
  refine (curFloat k hk w.heap.size a n cap w.heap.size (0 + 4 + 2) (hid_le (by omega)) _ C2).mono ?_
  rintro e w3 ⟨x, x0, x1, rfl, C3, B3⟩
  have HB : Hid (Below w.heap.size w w3) := ((N0.trans B1.below).trans B2.below).trans B3.below
  clear C0 C1 C2 C3 B1 B2 B3 N0 hb
  go_wp2
  refine bodyPost_ret (three_resD Try.results33 _ _ _) rfl ⟨k, t, x, hk, ⟨t0, t1⟩, x0, x1, rfl, HB.out⟩

/-- FRound of whatever kind and mode: both sides. -/
theorem roundAny (k mode a : Int) (a0 : 0 ≤ a) (a1 : a ≤ 4294967295) : ∃ r : Int,
    (∀ w, Calls Try.prog 35 #[.int .i64 k, .int .i64 mode, .int .u32 a] w fun x w' => x = .returned (.int .u32 r) ∧ Below w.heap.size w w') ∧
    (∀ w, Calls Try.prog 34 #[.int .i64 k, .int .i64 mode, .int .u32 a] w fun x w' => x = .returned (.int .u32 r) ∧ Below w.heap.size w w') := by
  by_cases h1 : k = 16
  · subst h1
    by_cases hm : 1 ≤ mode ∧ mode ≤ 4
    · exact roundBoth16 mode a a0 a1 hm.1 hm.2
    · exact ⟨0, roundMode16 mode a hm⟩
  · by_cases h2 : k = 32
    · subst h2
      by_cases hm : 1 ≤ mode ∧ mode ≤ 4
      · exact roundBoth32 mode a a0 a1 hm.1 hm.2
      · exact ⟨0, roundMode32 mode a hm⟩
    · exact ⟨0, roundNo k mode a h1 h2⟩

theorem tmod_mul (z : Int) : Int.tmod (16777216 * z) 16777216 = 0 := Int.mul_tmod_right 16777216 z

set_option maxHeartbeats 4000000 in
set_option maxRecDepth 2000000 in
theorem wholeB (a1 : Option Addr) (n1 c1 : Nat) (a2 : Option Addr) (n2 c2 : Nat) (w : World) (h1 : Bys w a1 n1 w.heap.size ∧ n1 ≤ 9223372036854775807) (h2 : Bys w a2 n2 w.heap.size ∧ n2 ≤ 9223372036854775807) :
    Calls Try.prog 6 #[.slice a1 n1 c1, .slice a2 n2 c2] w fun e w' => e = .returned (.bool true) ∧ Below w.heap.size w w' := by
  have h1 := h1.1
  have hn2 : Hid (n2 ≤ 9223372036854775807) := h2.2
  have h2 : Hid (Bys w a2 n2 w.heap.size) := h2.1
  by_cases hlen : 1048576 < wrap64 ((n1 : Int) + n2)
  · go_enter Try.func6, Try.ntmps6
    go_wp2
    go_ret
    exact ⟨rfl, Below.refl _ _⟩
  · go_enter Try.func6, Try.ntmps6
    go_wp2_with fail
    refine (drawFRound a1 n1 c1 w h1).mono ?_
    rintro e w1 ⟨k, mode, a, hk, _, a0, aa, rfl, B1⟩
    obtain ⟨r, RS, RI⟩ := roundAny k mode a a0 aa
    clear hlen
    go_wp2_with fail
    refine (RI _).mono ?_
    rintro e w2 ⟨rfl, B2⟩
    go_wp2_with fail
    refine (RS _).mono ?_
    rintro e w3 ⟨rfl, B3⟩
    have EX := exactAny a a0 aa
    clear RS RI h1
    go_wp2_with fail
    refine (EX _).mono ?_
    rintro e w4 ⟨rfl, B4⟩
    have HB4 : Hid (Below w.heap.size w w4) := bel_s4 (bel_s4 (bel_s4 B1 B2) B3) B4
    clear B1 B2 B3 B4 EX
    obtain ⟨bx, hbx⟩ : ∃ b, exB a = b := ⟨_, rfl⟩
    have HBX : Hid (bx = true → cl16 a = 0 ∧ exV a = exa a) := fun h => by
      have cx : cl16 a = 0 := of_decide_eq_true (hbx.trans h)
      exact ⟨cx, if_pos cx⟩
    have HA : Hid (0 ≤ a ∧ a ≤ 4294967295) := ⟨a0, aa⟩
    rw [hbx]
    clear hbx a0 aa
    go_upto_region 8 with fail
    go_cut [57] (fun s57 wx => s57 = .bool (bx && decide (k = 16)) ∧ wx = w4)
    case first =>
      clear HBX HA
      cases bx
      · go_wp2
        go_meet
        exact ⟨rfl, rfl⟩
      · by_cases k16 : k = 16
        · subst k16
          go_wp2
          go_meet
          exact ⟨rfl, rfl⟩
        · have k17 : Hid (decide (k = 16) = false) := decide_eq_false k16
          clear hk
          go_wp2
          go_meet
          exact ⟨congrArg Value.bool (by rw [k17.out]; simpa using k16), rfl⟩
    case rest =>
    obtain ⟨rfl, hwc⟩ := hcut
    obtain rfl := hwc.symm
    clear hwc
    obtain ⟨b9, hb9⟩ : ∃ b, (bx && decide (k = 16)) = b := ⟨_, rfl⟩
    have HK : Hid (b9 = true → bx = true ∧ k = 16) := fun h => by
      have q := hb9.trans h
      rw [Bool.and_eq_true] at q
      exact ⟨q.1, of_decide_eq_true q.2⟩
    rw [hb9]
    clear hb9
    obtain ⟨vx, hvx⟩ : ∃ b, exV a = b := ⟨_, rfl⟩
    have HVX : Hid (exV a = vx) := hvx
    rw [hvx]
    clear hvx hk
    go_upto_if 57 with fail
    go_cut [11, 12, 13, 14, 15, 16, 17, 18] (fun _ _ _ _ _ _ _ _ wx => Hid (Below w.heap.size w wx))
    case first =>
      cases b9
      · go_wp2
        go_meet
        exact HB4
      obtain ⟨hb1, k16⟩ := HK.out rfl
      obtain ⟨cx, vq⟩ := HBX.out hb1
      obtain ⟨a0, aa⟩ := HA.out
      subst hb1
      subst k16
      obtain rfl : vx = exa a := HVX.out.symm.trans vq
      clear HK HBX HA HVX vq
      obtain ⟨f, c, t, n, ⟨bf, F1, F2, F3, F4, F5⟩, ⟨bc, C1, C2, C3, C4, C5⟩, ⟨bt, T1, T2, T3, T4, T5⟩, ⟨bn, N1, N2, N3, N4, N5⟩, OK⟩ := half_near a a0 aa cx
      have EF := exactYes bf F4 (by omega) F2
      have EC := exactYes bc C4 (by omega) C2
      have ET := exactYes bt T4 (by omega) T2
      have EN := exactYes bn N4 (by omega) N2
      rw [F3] at EF
      rw [C3] at EC
      rw [T3] at ET
      rw [N3] at EN
      generalize exa a = x at *
      obtain ⟨fx, xc, cf, fz, cz, tx, tf, nf, nx, lx⟩ := OK
      have HOK : Hid (t.natAbs ≤ x.natAbs ∧ (t = f ∨ t = c) ∧ (n = f ∨ n = c) ∧ 2 * (n - x).natAbs ≤ 16777216 ∧ x.natAbs ≤ 4398046511104 ∧ f ≤ x ∧ x ≤ c ∧ c - f ≤ 16777216) := ⟨tx, tf, nf, nx, lx, fx, xc, cf⟩
      have fm : Int.tmod f 16777216 = 0 := by obtain ⟨z, hz⟩ := fz; rw [hz]; exact tmod_mul z
      have cm : Int.tmod c 16777216 = 0 := by obtain ⟨z, hz⟩ := cz; rw [hz]; exact tmod_mul z
      have wcf : wrap64 (c - f) = c - f := w63W _ (by omega) (by omega)
      have wnx : wrap64 (n - x) = n - x := w63W _ (by omega) (by omega)
      have g1 : ¬ x < f := by omega
      have g2 : ¬ c < x := by omega
      have g3 : ¬ 16777216 < c - f := by omega
      obtain ⟨st, hst⟩ : ∃ y : Int, ((t.natAbs : Nat) : Int) = y := ⟨_, rfl⟩
      obtain ⟨sx, hsx⟩ : ∃ y : Int, ((x.natAbs : Nat) : Int) = y := ⟨_, rfl⟩
      obtain ⟨sn, hsn⟩ : ∃ y : Int, (((n - x).natAbs : Nat) : Int) = y := ⟨_, rfl⟩
      have ST := sizeW t st hst (by omega)
      have SX := sizeW x sx hsx (by omega)
      have SN := sizeW (n - x) sn hsn (by omega)
      have g4 : ¬ sx < st := by omega
      have g5 : ¬ 16777216 < 2 * sn := by omega
      have w2n : wrap64 (2 * sn) = 2 * sn := w63W _ (by omega) (by omega)
      clear fx xc cf fz cz tx nx lx hst hsx hsn F2 F3 F4 F5 C2 C3 C4 C5 T2 T3 T4 T5 N2 N3 N4 N5 a0 aa cx
      go_wp2_with fail
      refine (F1 _).mono ?_
      rintro e w5 ⟨rfl, B5⟩
      go_wp2_with fail
      refine (EF _).mono ?_
      rintro e w6 ⟨rfl, B6⟩
      go_wp2_with fail
      refine (C1 _).mono ?_
      rintro e w7 ⟨rfl, B7⟩
      go_wp2_with fail
      refine (EC _).mono ?_
      rintro e w8 ⟨rfl, B8⟩
      go_wp2_with fail
      refine (T1 _).mono ?_
      rintro e w9 ⟨rfl, B9⟩
      go_wp2_with fail
      refine (ET _).mono ?_
      rintro e wa ⟨rfl, Ba⟩
      go_wp2_with fail
      refine (N1 _).mono ?_
      rintro e wb ⟨rfl, Bb⟩
      go_wp2_with fail
      refine (EN _).mono ?_
      rintro e wc ⟨rfl, Bc⟩
      have HBc : Hid (Below w.heap.size w wc) := bel_s4 (bel_s4 (bel_s4 (bel_s4 (bel_s4 (bel_s4 (bel_s4 (bel_s4 HB4.out B5) B6) B7) B8) B9) Ba) Bb) Bc
      clear B5 B6 B7 B8 B9 Ba Bb Bc F1 C1 T1 N1 EF EC ET EN HB4
      by_cases etf : t = f
      · by_cases enf : n = f
        · subst etf
          subst enf
          clear HOK
          go_wp2_with fail
          refine (ST _).mono ?_
          rintro e wd ⟨rfl, hwd⟩
          rw [hwd]
          clear hwd wd
          go_wp2_with fail
          refine (SX _).mono ?_
          rintro e wd ⟨rfl, hwd⟩
          rw [hwd]
          clear hwd wd
          go_wp2_with fail
          refine (SN _).mono ?_
          rintro e wd ⟨rfl, hwd⟩
          rw [hwd]
          clear hwd wd ST SX SN
          go_wp2
          go_meet
          exact HBc
        · subst etf
          obtain rfl := (HOK.out.2.2.1).resolve_left enf
          clear HOK
          go_wp2_with fail
          refine (ST _).mono ?_
          rintro e wd ⟨rfl, hwd⟩
          rw [hwd]
          clear hwd wd
          go_wp2_with fail
          refine (SX _).mono ?_
          rintro e wd ⟨rfl, hwd⟩
          rw [hwd]
          clear hwd wd
          go_wp2_with fail
          refine (SN _).mono ?_
          rintro e wd ⟨rfl, hwd⟩
          rw [hwd]
          clear hwd wd ST SX SN
          go_wp2
          go_meet
          exact HBc
      · by_cases enf : n = f
        · obtain rfl : t = c := (HOK.out.2.1).resolve_left etf
          subst enf
          clear HOK
          go_wp2_with fail
          refine (ST _).mono ?_
          rintro e wd ⟨rfl, hwd⟩
          rw [hwd]
          clear hwd wd
          go_wp2_with fail
          refine (SX _).mono ?_
          rintro e wd ⟨rfl, hwd⟩
          rw [hwd]
          clear hwd wd
          go_wp2_with fail
          refine (SN _).mono ?_
          rintro e wd ⟨rfl, hwd⟩
          rw [hwd]
          clear hwd wd ST SX SN
          go_wp2
          go_meet
          exact HBc
        · obtain rfl : t = c := (HOK.out.2.1).resolve_left etf
          obtain rfl := (HOK.out.2.2.1).resolve_left enf
          clear HOK
          go_wp2_with fail
          refine (ST _).mono ?_
          rintro e wd ⟨rfl, hwd⟩
          rw [hwd]
          clear hwd wd
          go_wp2_with fail
          refine (SX _).mono ?_
          rintro e wd ⟨rfl, hwd⟩
          rw [hwd]
          clear hwd wd
          go_wp2_with fail
          refine (SN _).mono ?_
          rintro e wd ⟨rfl, hwd⟩
          rw [hwd]
          clear hwd wd ST SX SN
          go_wp2
          go_meet
          exact HBc
    case rest =>
      clear HK HBX HA HVX HB4
      go_wp2_with fail
      refine (numberOfW a2 n2 c2 hn2.out _ (h2.out.later4 hcut.out)).mono ?_
      rintro e wg ⟨u, u0, u1, rfl, hwg⟩
      have HBg : Hid (Below w.heap.size w wg) := by unfold Hid; rw [hwg]; exact hcut.out
      obtain ⟨d, hd⟩ : ∃ d, u % 4097 = d := ⟨_, rfl⟩
      have v1 : Int.tmod u 4097 = d := by rw [← hd]; exact Int.tmod_eq_emod_of_nonneg u0
      have v2 : wrap64 (d - 2048) = d - 2048 := w63W _ (by omega) (by omega)
      have v3 : wrap64 d = d := w63W _ (by omega) (by omega)
      have D0 : Hid (-2048 ≤ d - 2048 ∧ d - 2048 ≤ 2048) := by unfold Hid; omega
      obtain ⟨g, hg⟩ : ∃ g, wg.heap.size = g := ⟨_, rfl⟩
      clear hwg hcut h2 hn2 hd u0 u1
      go_wp2
      have k0 : (wg.alloc (.cells #[.int .i64 16, .int .i64 32] 3)).cell? ⟨g, 0, none⟩ = some (.int .i64 16) := by rw [← hg]; simp
      have k1 : (wg.alloc (.cells #[.int .i64 16, .int .i64 32] 3)).cell? ⟨g, 1, none⟩ = some (.int .i64 32) := by rw [← hg]; simp
      have gl : g < (wg.alloc (.cells #[.int .i64 16, .int .i64 32] 3)).heap.size := by rw [← hg]; simp
      have HB2 : Hid (Below w.heap.size w (wg.alloc (.cells #[.int .i64 16, .int .i64 32] 3))) := bel_alloc HBg.out _
      generalize wg.alloc (.cells #[.int .i64 16, .int .i64 32] 3) = w2 at *
      rw [v2]
      generalize d - 2048 = m at *
      clear hg HBg v1 v2 v3
      obtain ⟨m0, m1⟩ := D0.out
      obtain ⟨x16, O16, I16⟩ := backInt16 m m0 m1
      obtain ⟨x32, O32, I32⟩ := backInt32 m m0 m1
      have SG : ∀ w, Calls Try.prog 40 #[.int .i64 32, .int .u64 (m % 4294967296)] w fun e w' => e = .returned (.tuple #[.int .i64 m, .bool true]) ∧ Below w.heap.size w w' := fun w => (signedW m m0 m1 w).mono fun e w' ⟨p1, p2⟩ => ⟨p1, by rw [p2]; exact Below.refl _ _⟩
      generalize m % 4294967296 = M at *
      have HX : Hid ((∀ w, Calls Try.prog 39 #[.int .i64 16, .int .i64 m] w fun e w' => e = .returned (.int .u32 x16) ∧ Below w.heap.size w w') ∧ (∀ w, Calls Try.prog 38 #[.int .i64 16, .int .u32 x16, .int .i64 32, .bool true] w fun e w' => e = .returned (.tuple #[.int .u64 M, .int .i64 0]) ∧ Below w.heap.size w w') ∧ (∀ w, Calls Try.prog 39 #[.int .i64 32, .int .i64 m] w fun e w' => e = .returned (.int .u32 x32) ∧ Below w.heap.size w w') ∧ (∀ w, Calls Try.prog 38 #[.int .i64 32, .int .u32 x32, .int .i64 32, .bool true] w fun e w' => e = .returned (.tuple #[.int .u64 M, .int .i64 0]) ∧ Below w.heap.size w w') ∧ (∀ w, Calls Try.prog 40 #[.int .i64 32, .int .u64 M] w fun e w' => e = .returned (.tuple #[.int .i64 m, .bool true]) ∧ Below w.heap.size w w')) := ⟨O16, I16, O32, I32, SG⟩
      clear O16 I16 O32 I32 SG m0 m1 D0
      go_loopw [165] (fun i wr => ∃ j : Nat, j ≤ 2 ∧ i = .int .i64 j ∧ Hid (Below w2.heap.size w2 wr)) (fun i _ => 2 - (intOf i).toNat)
      case atStart => exact ⟨0, by omega, rfl, Below.refl _ _⟩
      case round =>
        obtain ⟨j, hj, rfl, hnx⟩ := hrel
        have c0 := (hnx.out.cell (p := ⟨g, 0, none⟩) gl).trans k0
        have c1 := (hnx.out.cell (p := ⟨g, 1, none⟩) gl).trans k1
        clear k0 k1
        obtain ⟨O16, I16, O32, I32, SG⟩ := HX.out
        rcases (by omega : j = 0 ∨ j = 1 ∨ j = 2) with rfl | rfl | rfl
        · go_wp2_with fail
          refine (O16 _).mono ?_
          rintro e y1 ⟨rfl, b1⟩
          clear c0 c1
          go_wp2_with fail
          refine (I16 _).mono ?_
          rintro e y2 ⟨rfl, b2⟩
          go_wp2_with fail
          refine (SG _).mono ?_
          rintro e y3 ⟨rfl, b3⟩
          have hn3 : Hid (Below w2.heap.size w2 y3) := bel_s4 (bel_s4 (bel_s4 hnx.out b1) b2) b3
          clear b1 b2 b3 O16 I16 O32 I32 SG HX
          go_wp2
          go_roundw
          case rel => exact ⟨1, by omega, by go_num, hn3⟩
          case measure => simp [intOf]
        · go_wp2_with fail
          refine (O32 _).mono ?_
          rintro e y1 ⟨rfl, b1⟩
          clear c0 c1
          go_wp2_with fail
          refine (I32 _).mono ?_
          rintro e y2 ⟨rfl, b2⟩
          go_wp2_with fail
          refine (SG _).mono ?_
          rintro e y3 ⟨rfl, b3⟩
          have hn3 : Hid (Below w2.heap.size w2 y3) := bel_s4 (bel_s4 (bel_s4 hnx.out b1) b2) b3
          clear b1 b2 b3 O16 I16 O32 I32 SG HX
          go_wp2
          go_roundw
          case rel => exact ⟨2, by omega, by go_num, hn3⟩
          case measure => simp [intOf]
        · clear O16 I16 O32 I32 SG HX
          go_wp2
          go_ret
          exact ⟨rfl, bel_s4 HB2.out hnx.out⟩

end Go.Proofs.Ytnimlkobcginjaa
