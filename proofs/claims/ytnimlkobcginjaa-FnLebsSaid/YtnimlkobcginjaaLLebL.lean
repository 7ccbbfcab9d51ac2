/-
  Numbers come back from their bytes: the law's walk.
-/
import Derived.Test.YtnimlkobcginjaaLLeb2
import Derived.Test.YtnimlkobcginjaaCurS
import Derived.Test.YtnimlkobcginjaaTakeU
import Derived.Test.YtnimlkobcginjaaTakeS
import Derived.Test.YtnimlkobcginjaaUlebBytes
namespace Go.Proofs.Ytnimlkobcginjaa
open Go.ChangeShapes Go.WideShapes Go.ChangeAt Go.RowKit

theorem implSlebBytes (n : Int) (h : Hid (sfit 9 n)) (w : World) :
    Calls Try.prog 14 #[.int .i64 n] w fun e w' => e = .returned (.string ⟨(sl 10 n).toArray⟩) ∧ Below w.heap.size w w' := implSleb n h w

/-- TakeSleb of whatever text and whatever bits: both sides. -/
theorem takeSAny (s : ByteArray) (b : Int) (hs : s.size ≤ 1048576) : ∃ x y : Int,
    (∀ w, Calls Try.prog 18 #[.string s, .int .i64 b] w fun e w' => e = .returned (.tuple #[.int .i64 x, .int .i64 y]) ∧ w' = w) ∧
    (∀ w, Calls Try.prog 15 #[.string s, .int .i64 b] w fun e w' => e = .returned (.tuple #[.int .i64 x, .int .i64 y]) ∧ w' = w) := by
  by_cases hb : b < 1 ∨ 64 < b
  · exact ⟨0, 0, fun w => specTakeSleb_out s b hb w, fun w => implTakeS_zero s b (fun w => groups_out s b hb w) w⟩
  · obtain ⟨k, rfl⟩ : ∃ k : Nat, b = k := ⟨b.toNat, by omega⟩
    exact ⟨_, _, fun w => specTakeSleb s k hs (by omega) (by omega) w, fun w => implTakeS s k hs (by omega) (by omega) w⟩

/-- The bytes of a number without sign are as few as can be. -/
theorem ul_few (n : Nat) (h : n < 18446744073709551616) : 1 ≤ (ul 10 n).length ∧ (ul 10 n).length ≤ 10 ∧ ((ul 10 n).length ≠ 1 → ¬ (n : Int) / 2 ^ (7 * ((ul 10 n).length - 1)) = 0) ∧ (n : Int) / 2 ^ (7 * (ul 10 n).length) = 0 := by
  have hn : n < 128 ^ (9 + 1) := Nat.lt_trans h (by decide)
  obtain ⟨h1, h2, h3⟩ := ul_span 9 n hn
  have hp := (ul_leb 9 n hn).pos
  refine ⟨hp, h1, fun hne => ?_, ?_⟩
  · have h4 := h3 hne
    rw [two_seven, ipow]
    have hP : 0 < 128 ^ ((ul 10 n).length - 1) := Nat.pow_pos (by omega)
    change 128 ^ ((ul 10 n).length - 1) ≤ n at h4
    generalize 128 ^ ((ul 10 n).length - 1) = P at *
    intro h0
    have h5 : 0 < n / P := Nat.div_pos h4 hP
    have h6 : ((n / P : Nat) : Int) = 0 := by rw [← h0]; simp
    omega
  · rw [two_seven, ipow]
    change n < 128 ^ (ul 10 n).length at h2
    generalize 128 ^ (ul 10 n).length = P at *
    have h5 : n / P = 0 := Nat.div_eq_of_lt h2
    have h6 : ((n / P : Nat) : Int) = (n : Int) / (P : Int) := by simp
    omega
theorem sl_few (N : Int) (h0 : -9223372036854775808 ≤ N) (h1 : N ≤ 9223372036854775807) : 1 ≤ (sl 10 N).length ∧ (sl 10 N).length ≤ 10 ∧ -(2 ^ (7 * (sl 10 N).length - 1)) ≤ N ∧ N < 2 ^ (7 * (sl 10 N).length - 1) := by
  have hf := sfit_i64 N h0 h1
  obtain ⟨g1, g2, g3⟩ := sl_span 9 N hf
  have hp := (sl_leb 9 N hf).pos
  change (sl 10 N).length ≤ 9 + 1 at g1
  change -(64 * 128 ^ ((sl 10 N).length - 1)) ≤ N at g2
  change N < 64 * 128 ^ ((sl 10 N).length - 1) at g3
  change 0 < (sl 10 N).length at hp
  obtain ⟨k, hk⟩ : ∃ k, (sl 10 N).length = k + 1 := ⟨(sl 10 N).length - 1, by omega⟩
  rw [hk] at g1 g2 g3 ⊢
  rw [show k + 1 - 1 = k by omega] at g2 g3
  have e : (2 : Int) ^ (7 * (k + 1) - 1) = 64 * 128 ^ k := by
    rw [show 7 * (k + 1) - 1 = 6 + 7 * k by omega, Int.pow_add, two_seven]
    rfl
  rw [e]
  exact ⟨by omega, by omega, g2, g3⟩

theorem pow62 (r : Nat) (h : r ≤ 62) : 1 ≤ (2 : Int) ^ r ∧ (2 : Int) ^ r ≤ 4611686018427387904 := by
  have h1 : 2 ^ r ≤ 2 ^ 62 := Nat.pow_le_pow_right (by omega) h
  have h0 := Nat.two_pow_pos r
  have e : (2 : Int) ^ r = ((2 ^ r : Nat) : Int) := by simp
  rw [e]
  rw [show (2 : Nat) ^ 62 = 4611686018427387904 by decide] at h1
  omega
theorem Bys.later2 {w w' : World} {a : Option Addr} {n : Nat} (h : Bys w a n w.heap.size) (k : Below w.heap.size w w') : Bys w' a n w'.heap.size := fun hn => by
  obtain ⟨b, off, e, hl, hc⟩ := (h.below k) hn
  exact ⟨b, off, e, Nat.lt_of_lt_of_le hl k.size, hc⟩
theorem bel_dr {B : Nat} {a w : World} (h : Below B a w) (n : Nat) : Below B a (w.drewN n) := ⟨h.os, h.tape, h.output, h.size, h.block⟩
theorem bel_st {w a b : World} (h : Below w.heap.size w a) (k : Below a.heap.size a b) : Below w.heap.size w b := h.trans (k.mono h.size)

set_option maxHeartbeats 2000000 in
set_option maxRecDepth 2000000 in
theorem lebsB (a1 : Option Addr) (n1 c1 : Nat) (a2 : Option Addr) (n2 c2 : Nat) (w : World) (h1 : Bys w a1 n1 w.heap.size) (h2 : Bys w a2 n2 w.heap.size) :
    Calls Try.prog 3 #[.slice a1 n1 c1, .slice a2 n2 c2] w fun e w' => e = .returned (.bool true) ∧ Below w.heap.size w w' := by
  by_cases hlen : 1048576 < wrap64 ((n1 : Int) + n2)
  · go_enter Try.func3, Try.ntmps3
    go_wp2
    go_ret
    exact ⟨rfl, Below.refl _ _⟩
  · go_enter Try.func3, Try.ntmps3
    go_wp2_with fail
    refine (drawUlebBytes a1 n1 c1 w h1).mono ?_
    rintro e w1 ⟨n, hn, rfl, B1⟩
    have UB := implUlebBytes n hn
    have US := specUlebBytes n hn
    have UZ := implSize n (Nat.lt_trans hn (by decide))
    have hsz : (ByteArray.mk (ul 10 n).toArray).size = (ul 10 n).length := by simp [ByteArray.size]
    have TU := implTakeU (ByteArray.mk (ul 10 n).toArray ++ ⟨#[109, 111, 114, 101]⟩) 64 (by rw [ByteArray.size_append, hsz]; have := ul_len 10 n; have e : (ByteArray.mk #[109, 111, 114, 101]).size = 4 := rfl; omega) (by omega) (by omega)
    rw [tu_ul n hn] at TU
    simp only at TU
    obtain ⟨f1, f2, f3, f4⟩ := ul_few n hn
    generalize (ul 10 n).length = L at *
    generalize ByteArray.mk (ul 10 n).toArray = S at *
    have hcat : ¬ 9223372036854775807 < S.size + 4 := by omega
    have HF : Hid (n < 18446744073709551616 ∧ (L ≠ 1 → ¬ (n : Int) / 2 ^ (7 * (L - 1)) = 0) ∧ (n : Int) / 2 ^ (7 * L) = 0) := ⟨hn, f3, f4⟩
    clear f3 f4 hn hlen
    go_wp2_with fail
    refine (UB _).mono ?_
    rintro e w2 ⟨rfl, B2⟩
    go_wp2_with fail
    refine (TU _).mono ?_
    rintro e w3 ⟨rfl, ⟨d, rfl⟩⟩
    go_wp2_with fail
    refine (US _).mono ?_
    rintro e w4 ⟨rfl, B4⟩
    go_wp2_with fail
    refine (UZ _).mono ?_
    rintro e w5 ⟨rfl, rfl⟩
    have HB5 : Hid (Below w.heap.size w w5) := bel_st (bel_dr (bel_st B1 B2) d) B4
    clear B1 B2 B4 UB TU US UZ h1
    have hLL : L = 1 ∨ (1 < L ∧ L < 10) ∨ L = 10 := by omega
    rcases hLL with rfl | ⟨g1, g2⟩ | rfl
    · have z1 : (n : Int) / 2 ^ 7 = 0 := HF.out.2.2
      go_wp2_with fail
      refine (drawSlebBytes a2 n2 c2 _ (h2.later2 HB5.out)).mono ?_
      rintro e wa ⟨x, x0, x1, rfl, Ba⟩
      have hfit := sfit_i64 x x0 x1
      have SI := implSlebBytes x hfit
      have SS := specSlebBytes x hfit
      have hsz2 : (ByteArray.mk (sl 10 x).toArray).size = (sl 10 x).length := by simp [ByteArray.size]
      have TT := implTakeS (ByteArray.mk (sl 10 x).toArray ++ ⟨#[109, 111, 114, 101]⟩) 64 (by rw [ByteArray.size_append, hsz2]; have := sl_len 10 x; have e : (ByteArray.mk #[109, 111, 114, 101]).size = 4 := rfl; omega) (by omega) (by omega)
      rw [ts_sl x x0 x1] at TT
      simp only at TT
      obtain ⟨k1, k2, k3, k4⟩ := sl_few x x0 x1
      generalize (sl 10 x).length = J at *
      generalize ByteArray.mk (sl 10 x).toArray = Y at *
      have hcat2 : ¬ 9223372036854775807 < Y.size + 4 := by omega
      have HK : Hid (-(2 ^ (7 * J - 1)) ≤ x ∧ x < 2 ^ (7 * J - 1)) := ⟨k3, k4⟩
      have HBa : Hid (Below w.heap.size w wa) := bel_st HB5.out Ba
      clear k3 k4 hfit Ba HB5 HF
      go_wp2_with fail
      refine (SI _).mono ?_
      rintro e wb ⟨rfl, Bb⟩
      go_wp2_with fail
      refine (TT _).mono ?_
      rintro e wc ⟨rfl, rfl⟩
      go_wp2_with fail
      refine (SS _).mono ?_
      rintro e wd ⟨rfl, Bd⟩
      have HB9 : Hid (Below w.heap.size w wd) := bel_st (bel_st HBa.out Bb) Bd
      clear Bb Bd HBa SI SS TT
      by_cases hJ : J = 10
      · subst hJ
        have HBx : Hid (Below w.heap.size w wd) := HB9.out
        go_wp2_with fail
        refine (drawTakeSleb a2 n2 c2 _ (h2.later2 HBx.out)).mono ?_
        rintro e we ⟨X, b, hX, b0, b1, rfl, Be⟩
        obtain ⟨u, v, TS, TI⟩ := takeSAny X b (by omega)
        have HBe : Hid (Below w.heap.size w we) := bel_st HBx.out Be
        clear Be HBx HB9 hX b0 b1 h2
        go_wp2_with fail
        refine (TI _).mono ?_
        rintro e wf ⟨rfl, rfl⟩
        go_wp2_with fail
        refine (TS _).mono ?_
        rintro e wg ⟨rfl, rfl⟩
        clear TS TI
        go_wp2
        go_ret
        exact ⟨rfl, HBe.out⟩
      · obtain ⟨r, hr⟩ : ∃ r : Nat, 7 * (J : Int) - 1 = (r : Int) := ⟨7 * J - 1, by omega⟩
        have r1 : r ≤ 62 := by omega
        have hJ7 : 7 * (J : Int) < 64 := by omega
        obtain ⟨y1, y2⟩ : -((2 : Int) ^ r) ≤ x ∧ x < 2 ^ r := by
          have h := HK.out
          rw [show 7 * J - 1 = r by omega] at h
          exact h
        have hP := pow62 r r1
        obtain ⟨P, hPe⟩ : ∃ P : Int, (2 : Int) ^ r = P := ⟨_, rfl⟩
        rw [hPe] at y1 y2 hP
        have wn : wrap64 (-P) = -P := by unfold wrap64; omega
        have wp : wrap64 P = P := by unfold wrap64; omega
        have ly : ¬ x < -P := by omega
        have lz : ¬ P ≤ x := by omega
        have lz2 : decide (P ≤ x) = false := by simpa using lz
        have HBx : Hid (Below w.heap.size w wd) := HB9.out
        go_wp2_with fail
        refine (drawTakeSleb a2 n2 c2 _ (h2.later2 HBx.out)).mono ?_
        rintro e we ⟨X, b, hX, b0, b1, rfl, Be⟩
        obtain ⟨u, v, TS, TI⟩ := takeSAny X b (by omega)
        have HBe : Hid (Below w.heap.size w we) := bel_st HBx.out Be
        clear Be HBx HB9 hX b0 b1 h2
        go_wp2_with fail
        refine (TI _).mono ?_
        rintro e wf ⟨rfl, rfl⟩
        go_wp2_with fail
        refine (TS _).mono ?_
        rintro e wg ⟨rfl, rfl⟩
        clear TS TI
        go_wp2
        go_ret
        exact ⟨rfl, HBe.out⟩
    · obtain ⟨p, hp⟩ : ∃ p : Nat, 7 * ((L : Int) - 1) = (p : Int) := ⟨7 * (L - 1), by omega⟩
      obtain ⟨q, hq⟩ : ∃ q : Nat, 7 * (L : Int) = (q : Int) := ⟨7 * L, by omega⟩
      have p1 : p ≤ 64 := by omega
      have q1 : q ≤ 64 := by omega
      have z1 : ¬ (n : Int) / 2 ^ p = 0 := by
        have h := HF.out.2.1 (by omega)
        rw [show 7 * (L - 1) = p by omega] at h
        exact h
      have z2 : (n : Int) / 2 ^ q = 0 := by
        have h := HF.out.2.2
        rw [show 7 * L = q by omega] at h
        exact h
      have hL1 : (1 : Int) < (L : Int) := by omega
      have hL2 : (L : Int) < 10 := by omega
      go_wp2_with fail
      refine (drawSlebBytes a2 n2 c2 _ (h2.later2 HB5.out)).mono ?_
      rintro e wa ⟨x, x0, x1, rfl, Ba⟩
      have hfit := sfit_i64 x x0 x1
      have SI := implSlebBytes x hfit
      have SS := specSlebBytes x hfit
      have hsz2 : (ByteArray.mk (sl 10 x).toArray).size = (sl 10 x).length := by simp [ByteArray.size]
      have TT := implTakeS (ByteArray.mk (sl 10 x).toArray ++ ⟨#[109, 111, 114, 101]⟩) 64 (by rw [ByteArray.size_append, hsz2]; have := sl_len 10 x; have e : (ByteArray.mk #[109, 111, 114, 101]).size = 4 := rfl; omega) (by omega) (by omega)
      rw [ts_sl x x0 x1] at TT
      simp only at TT
      obtain ⟨k1, k2, k3, k4⟩ := sl_few x x0 x1
      generalize (sl 10 x).length = J at *
      generalize ByteArray.mk (sl 10 x).toArray = Y at *
      have hcat2 : ¬ 9223372036854775807 < Y.size + 4 := by omega
      have HK : Hid (-(2 ^ (7 * J - 1)) ≤ x ∧ x < 2 ^ (7 * J - 1)) := ⟨k3, k4⟩
      have HBa : Hid (Below w.heap.size w wa) := bel_st HB5.out Ba
      clear k3 k4 hfit Ba HB5 HF
      go_wp2_with fail
      refine (SI _).mono ?_
      rintro e wb ⟨rfl, Bb⟩
      go_wp2_with fail
      refine (TT _).mono ?_
      rintro e wc ⟨rfl, rfl⟩
      go_wp2_with fail
      refine (SS _).mono ?_
      rintro e wd ⟨rfl, Bd⟩
      have HB9 : Hid (Below w.heap.size w wd) := bel_st (bel_st HBa.out Bb) Bd
      clear Bb Bd HBa SI SS TT
      by_cases hJ : J = 10
      · subst hJ
        have HBx : Hid (Below w.heap.size w wd) := HB9.out
        go_wp2_with fail
        refine (drawTakeSleb a2 n2 c2 _ (h2.later2 HBx.out)).mono ?_
        rintro e we ⟨X, b, hX, b0, b1, rfl, Be⟩
        obtain ⟨u, v, TS, TI⟩ := takeSAny X b (by omega)
        have HBe : Hid (Below w.heap.size w we) := bel_st HBx.out Be
        clear Be HBx HB9 hX b0 b1 h2
        go_wp2_with fail
        refine (TI _).mono ?_
        rintro e wf ⟨rfl, rfl⟩
        go_wp2_with fail
        refine (TS _).mono ?_
        rintro e wg ⟨rfl, rfl⟩
        clear TS TI
        go_wp2
        go_ret
        exact ⟨rfl, HBe.out⟩
      · obtain ⟨r, hr⟩ : ∃ r : Nat, 7 * (J : Int) - 1 = (r : Int) := ⟨7 * J - 1, by omega⟩
        have r1 : r ≤ 62 := by omega
        have hJ7 : 7 * (J : Int) < 64 := by omega
        obtain ⟨y1, y2⟩ : -((2 : Int) ^ r) ≤ x ∧ x < 2 ^ r := by
          have h := HK.out
          rw [show 7 * J - 1 = r by omega] at h
          exact h
        have hP := pow62 r r1
        obtain ⟨P, hPe⟩ : ∃ P : Int, (2 : Int) ^ r = P := ⟨_, rfl⟩
        rw [hPe] at y1 y2 hP
        have wn : wrap64 (-P) = -P := by unfold wrap64; omega
        have wp : wrap64 P = P := by unfold wrap64; omega
        have ly : ¬ x < -P := by omega
        have lz : ¬ P ≤ x := by omega
        have lz2 : decide (P ≤ x) = false := by simpa using lz
        have HBx : Hid (Below w.heap.size w wd) := HB9.out
        go_wp2_with fail
        refine (drawTakeSleb a2 n2 c2 _ (h2.later2 HBx.out)).mono ?_
        rintro e we ⟨X, b, hX, b0, b1, rfl, Be⟩
        obtain ⟨u, v, TS, TI⟩ := takeSAny X b (by omega)
        have HBe : Hid (Below w.heap.size w we) := bel_st HBx.out Be
        clear Be HBx HB9 hX b0 b1 h2
        go_wp2_with fail
        refine (TI _).mono ?_
        rintro e wf ⟨rfl, rfl⟩
        go_wp2_with fail
        refine (TS _).mono ?_
        rintro e wg ⟨rfl, rfl⟩
        clear TS TI
        go_wp2
        go_ret
        exact ⟨rfl, HBe.out⟩
    · have z1 : ¬ (n : Int) / 2 ^ 63 = 0 := HF.out.2.1 (by omega)
      go_wp2_with fail
      refine (drawSlebBytes a2 n2 c2 _ (h2.later2 HB5.out)).mono ?_
      rintro e wa ⟨x, x0, x1, rfl, Ba⟩
      have hfit := sfit_i64 x x0 x1
      have SI := implSlebBytes x hfit
      have SS := specSlebBytes x hfit
      have hsz2 : (ByteArray.mk (sl 10 x).toArray).size = (sl 10 x).length := by simp [ByteArray.size]
      have TT := implTakeS (ByteArray.mk (sl 10 x).toArray ++ ⟨#[109, 111, 114, 101]⟩) 64 (by rw [ByteArray.size_append, hsz2]; have := sl_len 10 x; have e : (ByteArray.mk #[109, 111, 114, 101]).size = 4 := rfl; omega) (by omega) (by omega)
      rw [ts_sl x x0 x1] at TT
      simp only at TT
      obtain ⟨k1, k2, k3, k4⟩ := sl_few x x0 x1
      generalize (sl 10 x).length = J at *
      generalize ByteArray.mk (sl 10 x).toArray = Y at *
      have hcat2 : ¬ 9223372036854775807 < Y.size + 4 := by omega
      have HK : Hid (-(2 ^ (7 * J - 1)) ≤ x ∧ x < 2 ^ (7 * J - 1)) := ⟨k3, k4⟩
      have HBa : Hid (Below w.heap.size w wa) := bel_st HB5.out Ba
      clear k3 k4 hfit Ba HB5 HF
      go_wp2_with fail
      refine (SI _).mono ?_
      rintro e wb ⟨rfl, Bb⟩
      go_wp2_with fail
      refine (TT _).mono ?_
      rintro e wc ⟨rfl, rfl⟩
      go_wp2_with fail
      refine (SS _).mono ?_
      rintro e wd ⟨rfl, Bd⟩
      have HB9 : Hid (Below w.heap.size w wd) := bel_st (bel_st HBa.out Bb) Bd
      clear Bb Bd HBa SI SS TT
      by_cases hJ : J = 10
      · subst hJ
        have HBx : Hid (Below w.heap.size w wd) := HB9.out
        go_wp2_with fail
        refine (drawTakeSleb a2 n2 c2 _ (h2.later2 HBx.out)).mono ?_
        rintro e we ⟨X, b, hX, b0, b1, rfl, Be⟩
        obtain ⟨u, v, TS, TI⟩ := takeSAny X b (by omega)
        have HBe : Hid (Below w.heap.size w we) := bel_st HBx.out Be
        clear Be HBx HB9 hX b0 b1 h2
        go_wp2_with fail
        refine (TI _).mono ?_
        rintro e wf ⟨rfl, rfl⟩
        go_wp2_with fail
        refine (TS _).mono ?_
        rintro e wg ⟨rfl, rfl⟩
        clear TS TI
        go_wp2
        go_ret
        exact ⟨rfl, HBe.out⟩
      · obtain ⟨r, hr⟩ : ∃ r : Nat, 7 * (J : Int) - 1 = (r : Int) := ⟨7 * J - 1, by omega⟩
        have r1 : r ≤ 62 := by omega
        have hJ7 : 7 * (J : Int) < 64 := by omega
        obtain ⟨y1, y2⟩ : -((2 : Int) ^ r) ≤ x ∧ x < 2 ^ r := by
          have h := HK.out
          rw [show 7 * J - 1 = r by omega] at h
          exact h
        have hP := pow62 r r1
        obtain ⟨P, hPe⟩ : ∃ P : Int, (2 : Int) ^ r = P := ⟨_, rfl⟩
        rw [hPe] at y1 y2 hP
        have wn : wrap64 (-P) = -P := by unfold wrap64; omega
        have wp : wrap64 P = P := by unfold wrap64; omega
        have ly : ¬ x < -P := by omega
        have lz : ¬ P ≤ x := by omega
        have lz2 : decide (P ≤ x) = false := by simpa using lz
        have HBx : Hid (Below w.heap.size w wd) := HB9.out
        go_wp2_with fail
        refine (drawTakeSleb a2 n2 c2 _ (h2.later2 HBx.out)).mono ?_
        rintro e we ⟨X, b, hX, b0, b1, rfl, Be⟩
        obtain ⟨u, v, TS, TI⟩ := takeSAny X b (by omega)
        have HBe : Hid (Below w.heap.size w we) := bel_st HBx.out Be
        clear Be HBx HB9 hX b0 b1 h2
        go_wp2_with fail
        refine (TI _).mono ?_
        rintro e wf ⟨rfl, rfl⟩
        go_wp2_with fail
        refine (TS _).mono ?_
        rintro e wg ⟨rfl, rfl⟩
        clear TS TI
        go_wp2
        go_ret
        exact ⟨rfl, HBe.out⟩

end Go.Proofs.Ytnimlkobcginjaa
