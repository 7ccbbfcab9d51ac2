/-
  Halves are compared by what they are: the law's walk.
-/
import Derived.Test.YtnimlkobcginjaaFCpd
namespace Go.Proofs.Ytnimlkobcginjaa
open Go.RowKit

/-- What is told of two finite halves. -/
theorem cpd_out (x y n m : Int) (cx : cl16 x = 0) (cy : cl16 y = 0) (hn : cmpOf (cl16 x) (rk16 x) (cl16 y) (rk16 y) = n) (hm : minV16 x y = m) :
    (n = -1 ∧ exa x < exa y ∧ cl16 m = 0 ∧ exa m = exa x ∧ 0 ≤ m ∧ m ≤ 4294967295) ∨ (n = 1 ∧ exa y < exa x ∧ cl16 m = 0 ∧ exa m = exa y ∧ 0 ≤ m ∧ m ≤ 4294967295) ∨ (n = 0 ∧ exa x = exa y ∧ cl16 m = 0 ∧ exa m = exa x ∧ 0 ≤ m ∧ m ≤ 4294967295) := by
  have h1 := exa_rk x y cx cy
  have h2 := exa_rk y x cy cx
  unfold minV16 at hm
  rw [hn] at hm
  rw [cx, cy] at hn
  unfold cmpOf at hn
  rw [if_neg (by decide)] at hn
  by_cases g1 : rk16 x < rk16 y
  · rw [if_pos g1] at hn
    subst hn
    rw [show minOf (-1) (31744 + 512) (x % 65536) (y % 65536) (bits .or .u32 (x % 65536) (y % 65536)) = x % 65536 from rfl] at hm
    subst hm
    exact Or.inl ⟨rfl, h1.1.2 g1, (exa_cut x).2.trans cx, (exa_cut x).1, by omega, by omega⟩
  · rw [if_neg g1] at hn
    by_cases g2 : rk16 y < rk16 x
    · rw [if_pos g2] at hn
      subst hn
      rw [show minOf 1 (31744 + 512) (x % 65536) (y % 65536) (bits .or .u32 (x % 65536) (y % 65536)) = y % 65536 from rfl] at hm
      subst hm
      exact Or.inr (Or.inl ⟨rfl, h2.1.2 g2, (exa_cut y).2.trans cy, (exa_cut y).1, by omega, by omega⟩)
    · rw [if_neg g2] at hn
      subst hn
      rw [show minOf 0 (31744 + 512) (x % 65536) (y % 65536) (bits .or .u32 (x % 65536) (y % 65536)) = bits .or .u32 (x % 65536) (y % 65536) from rfl] at hm
      subst hm
      have he : rk16 x = rk16 y := by omega
      obtain ⟨c1, c2, c3, c4⟩ := or_place x y cx cy he
      exact Or.inr (Or.inr ⟨rfl, h1.2.2 he, c1, c2, c3, c4⟩)

set_option maxHeartbeats 2000000 in
set_option maxRecDepth 2000000 in
theorem comparedB (a1 : Option Addr) (n1 c1 : Nat) (w : World) (h1 : Bys w a1 n1 w.heap.size) :
    Calls Try.prog 5 #[.slice a1 n1 c1] w fun e w' => e = .returned (.bool true) ∧ Below w.heap.size w w' := by
  obtain ⟨N, hN⟩ : ∃ N : Int, (n1 : Int) = N := ⟨_, rfl⟩
  by_cases hlen : 1048576 < N
  · go_enter Try.func5, Try.ntmps5
    go_wp2
    go_ret
    exact ⟨rfl, Below.refl _ _⟩
  · go_enter Try.func5, Try.ntmps5
    go_wp2_with fail
    refine (drawFCompare a1 n1 c1 w h1).mono ?_
    rintro e w1 ⟨k, x, y, hk, x0, x1, y0, y1, rfl, B1⟩
    clear hlen hN h1
    by_cases h16 : k = 16
    · subst h16
      clear hk
      have C0 := cmp416 x y x0 x1 y0 y1
      obtain ⟨n, hn⟩ : ∃ n, cmpOf (cl16 x) (rk16 x) (cl16 y) (rk16 y) = n := ⟨_, rfl⟩
      obtain ⟨n2, hn2⟩ : ∃ n, cmpOf (cl16 y) (rk16 y) (cl16 x) (rk16 x) = n := ⟨_, rfl⟩
      obtain ⟨m, hm⟩ : ∃ m, minV16 x y = m := ⟨_, rfl⟩
      rw [hn, hn2, hm] at C0
      have C : Hid (Cmp4 16 x y n n2 m) := C0
      have HN : Hid (cmpOf (cl16 x) (rk16 x) (cl16 y) (rk16 y) = n) := hn
      have HM : Hid (minV16 x y = m) := hm
      clear hn hn2 hm C0
      rcases C.out.nn with ⟨rfl, rfl⟩ | ⟨rfl, rfl⟩ | ⟨rfl, rfl⟩ | ⟨rfl, rfl⟩
      · go_wp2_with fail
        refine (C.out.i1 _).mono ?_
        rintro e w2 ⟨rfl, B2⟩
        go_wp2_with fail
        refine (C.out.m2 _).mono ?_
        rintro e w3 ⟨rfl, B3⟩
        go_wp2_with fail
        refine (C.out.s1 _).mono ?_
        rintro e w4 ⟨rfl, B4⟩
        go_wp2_with fail
        refine (C.out.m1 _).mono ?_
        rintro e w5 ⟨rfl, B5⟩
        go_wp2_with fail
        refine (C.out.m3 _).mono ?_
        rintro e w6 ⟨rfl, B6⟩
        have HB6 : Hid (Below w.heap.size w w6) := bel_step (bel_step (bel_step (bel_step (bel_step B1 B2) B3) B4) B5) B6
        clear B1 B2 B3 B4 B5 B6
        have HB7 : Hid (Below w.heap.size w w6) := HB6.out
        have EX := exactAny x x0 x1
        have EY := exactAny y y0 y1
        clear C
        go_wp2_with fail
        refine (EX _).mono ?_
        rintro e w8 ⟨rfl, B8⟩
        go_wp2_with fail
        refine (EY _).mono ?_
        rintro e w9 ⟨rfl, B9⟩
        have HB9 : Hid (Below w.heap.size w w9) := bel_step (bel_step HB7.out B8) B9
        clear B8 B9 EX EY HB6 HB7
        by_cases cx : cl16 x = 0
        · by_cases cy : cl16 y = 0
          · have ex : exB x = true := decide_eq_true cx
            have ey : exB y = true := decide_eq_true cy
            have vx : exV x = exa x := if_pos cx
            have vy : exV y = exa y := if_pos cy
            rw [ex, ey, vx, vy]
            clear ex ey vx vy
            rcases cpd_out x y _ m cx cy HN.out HM.out with ⟨hn, _⟩ | ⟨hn, _⟩ | ⟨hn, _⟩ <;> simp at hn
          · have ex : exB x = true := decide_eq_true cx
            have ey : exB y = false := decide_eq_false cy
            rw [ex, ey]
            go_wp2
            go_ret
            exact ⟨rfl, HB9.out⟩
        · have ex : exB x = false := decide_eq_false cx
          rw [ex]
          go_wp2
          go_ret
          exact ⟨rfl, HB9.out⟩
      · go_wp2_with fail
        refine (C.out.i1 _).mono ?_
        rintro e w2 ⟨rfl, B2⟩
        go_wp2_with fail
        refine (C.out.m2 _).mono ?_
        rintro e w3 ⟨rfl, B3⟩
        go_wp2_with fail
        refine (C.out.s1 _).mono ?_
        rintro e w4 ⟨rfl, B4⟩
        go_wp2_with fail
        refine (C.out.m1 _).mono ?_
        rintro e w5 ⟨rfl, B5⟩
        go_wp2_with fail
        refine (C.out.m3 _).mono ?_
        rintro e w6 ⟨rfl, B6⟩
        have HB6 : Hid (Below w.heap.size w w6) := bel_step (bel_step (bel_step (bel_step (bel_step B1 B2) B3) B4) B5) B6
        clear B1 B2 B3 B4 B5 B6
        go_wp2_with fail
        refine (C.out.i2 _).mono ?_
        rintro e w7 ⟨rfl, B7⟩
        have HB7 : Hid (Below w.heap.size w w7) := bel_step HB6.out B7
        clear B7
        have EX := exactAny x x0 x1
        have EY := exactAny y y0 y1
        clear C
        go_wp2_with fail
        refine (EX _).mono ?_
        rintro e w8 ⟨rfl, B8⟩
        go_wp2_with fail
        refine (EY _).mono ?_
        rintro e w9 ⟨rfl, B9⟩
        have HB9 : Hid (Below w.heap.size w w9) := bel_step (bel_step HB7.out B8) B9
        clear B8 B9 EX EY HB6 HB7
        by_cases cx : cl16 x = 0
        · by_cases cy : cl16 y = 0
          · have ex : exB x = true := decide_eq_true cx
            have ey : exB y = true := decide_eq_true cy
            have vx : exV x = exa x := if_pos cx
            have vy : exV y = exa y := if_pos cy
            rw [ex, ey, vx, vy]
            clear ex ey vx vy
            rcases cpd_out x y _ m cx cy HN.out HM.out with ⟨_, hl, cm, em, m0, m1⟩ | ⟨hn, _⟩ | ⟨hn, _⟩
            · have EM := exactYes m m0 m1 cm
              rw [em] at EM
              clear cm em m0 m1 HM HN
              generalize exa x = X at *
              generalize exa y = Y at *
              have d1 : decide (X < Y) = true := by simpa using hl
              have d2 : decide (Y < X) = false := by simp; omega
              have d3 : decide (X ≤ X) = true := by simp
              have d4 : decide (X ≤ Y) = true := by simp; omega
              have g2 : ¬ Y < X := by omega
              go_wp2_with fail
              refine (EM _).mono ?_
              rintro e wa ⟨rfl, Ba⟩
              have HBa : Hid (Below w.heap.size w wa) := bel_step HB9.out Ba
              clear Ba EM HB9
              go_wp2
              go_ret
              exact ⟨rfl, HBa.out⟩
            · simp at hn
            · simp at hn
          · have ex : exB x = true := decide_eq_true cx
            have ey : exB y = false := decide_eq_false cy
            rw [ex, ey]
            go_wp2
            go_ret
            exact ⟨rfl, HB9.out⟩
        · have ex : exB x = false := decide_eq_false cx
          rw [ex]
          go_wp2
          go_ret
          exact ⟨rfl, HB9.out⟩
      · go_wp2_with fail
        refine (C.out.i1 _).mono ?_
        rintro e w2 ⟨rfl, B2⟩
        go_wp2_with fail
        refine (C.out.m2 _).mono ?_
        rintro e w3 ⟨rfl, B3⟩
        go_wp2_with fail
        refine (C.out.s1 _).mono ?_
        rintro e w4 ⟨rfl, B4⟩
        go_wp2_with fail
        refine (C.out.m1 _).mono ?_
        rintro e w5 ⟨rfl, B5⟩
        go_wp2_with fail
        refine (C.out.m3 _).mono ?_
        rintro e w6 ⟨rfl, B6⟩
        have HB6 : Hid (Below w.heap.size w w6) := bel_step (bel_step (bel_step (bel_step (bel_step B1 B2) B3) B4) B5) B6
        clear B1 B2 B3 B4 B5 B6
        go_wp2_with fail
        refine (C.out.i2 _).mono ?_
        rintro e w7 ⟨rfl, B7⟩
        have HB7 : Hid (Below w.heap.size w w7) := bel_step HB6.out B7
        clear B7
        have EX := exactAny x x0 x1
        have EY := exactAny y y0 y1
        clear C
        go_wp2_with fail
        refine (EX _).mono ?_
        rintro e w8 ⟨rfl, B8⟩
        go_wp2_with fail
        refine (EY _).mono ?_
        rintro e w9 ⟨rfl, B9⟩
        have HB9 : Hid (Below w.heap.size w w9) := bel_step (bel_step HB7.out B8) B9
        clear B8 B9 EX EY HB6 HB7
        by_cases cx : cl16 x = 0
        · by_cases cy : cl16 y = 0
          · have ex : exB x = true := decide_eq_true cx
            have ey : exB y = true := decide_eq_true cy
            have vx : exV x = exa x := if_pos cx
            have vy : exV y = exa y := if_pos cy
            rw [ex, ey, vx, vy]
            clear ex ey vx vy
            rcases cpd_out x y _ m cx cy HN.out HM.out with ⟨hn, _⟩ | ⟨_, hl, cm, em, m0, m1⟩ | ⟨hn, _⟩
            · simp at hn
            · have EM := exactYes m m0 m1 cm
              rw [em] at EM
              clear cm em m0 m1 HM HN
              generalize exa x = X at *
              generalize exa y = Y at *
              have d1 : decide (X < Y) = false := by simp; omega
              have d2 : decide (Y < X) = true := by simpa using hl
              have d3 : decide (Y ≤ X) = true := by simp; omega
              have d4 : decide (Y ≤ Y) = true := by simp
              have g2 : ¬ X < Y := by omega
              have d5 : (Y == X) = false := by simp; omega
              go_wp2_with fail
              refine (EM _).mono ?_
              rintro e wa ⟨rfl, Ba⟩
              have HBa : Hid (Below w.heap.size w wa) := bel_step HB9.out Ba
              clear Ba EM HB9
              go_wp2
              go_ret
              exact ⟨rfl, HBa.out⟩
            · simp at hn
          · have ex : exB x = true := decide_eq_true cx
            have ey : exB y = false := decide_eq_false cy
            rw [ex, ey]
            go_wp2
            go_ret
            exact ⟨rfl, HB9.out⟩
        · have ex : exB x = false := decide_eq_false cx
          rw [ex]
          go_wp2
          go_ret
          exact ⟨rfl, HB9.out⟩
      · go_wp2_with fail
        refine (C.out.i1 _).mono ?_
        rintro e w2 ⟨rfl, B2⟩
        go_wp2_with fail
        refine (C.out.m2 _).mono ?_
        rintro e w3 ⟨rfl, B3⟩
        go_wp2_with fail
        refine (C.out.s1 _).mono ?_
        rintro e w4 ⟨rfl, B4⟩
        go_wp2_with fail
        refine (C.out.m1 _).mono ?_
        rintro e w5 ⟨rfl, B5⟩
        go_wp2_with fail
        refine (C.out.m3 _).mono ?_
        rintro e w6 ⟨rfl, B6⟩
        have HB6 : Hid (Below w.heap.size w w6) := bel_step (bel_step (bel_step (bel_step (bel_step B1 B2) B3) B4) B5) B6
        clear B1 B2 B3 B4 B5 B6
        go_wp2_with fail
        refine (C.out.i2 _).mono ?_
        rintro e w7 ⟨rfl, B7⟩
        have HB7 : Hid (Below w.heap.size w w7) := bel_step HB6.out B7
        clear B7
        have EX := exactAny x x0 x1
        have EY := exactAny y y0 y1
        clear C
        go_wp2_with fail
        refine (EX _).mono ?_
        rintro e w8 ⟨rfl, B8⟩
        go_wp2_with fail
        refine (EY _).mono ?_
        rintro e w9 ⟨rfl, B9⟩
        have HB9 : Hid (Below w.heap.size w w9) := bel_step (bel_step HB7.out B8) B9
        clear B8 B9 EX EY HB6 HB7
        by_cases cx : cl16 x = 0
        · by_cases cy : cl16 y = 0
          · have ex : exB x = true := decide_eq_true cx
            have ey : exB y = true := decide_eq_true cy
            have vx : exV x = exa x := if_pos cx
            have vy : exV y = exa y := if_pos cy
            rw [ex, ey, vx, vy]
            clear ex ey vx vy
            rcases cpd_out x y _ m cx cy HN.out HM.out with ⟨hn, _⟩ | ⟨hn, _⟩ | ⟨_, hl, cm, em, m0, m1⟩
            · simp at hn
            · simp at hn
            · have EM := exactYes m m0 m1 cm
              rw [em] at EM
              clear cm em m0 m1 HM HN
              generalize exa x = X at *
              generalize exa y = Y at *
              subst hl
              have d1 : decide (X < X) = false := by simp
              have d4 : decide (X ≤ X) = true := by simp
              go_wp2_with fail
              refine (EM _).mono ?_
              rintro e wa ⟨rfl, Ba⟩
              have HBa : Hid (Below w.heap.size w wa) := bel_step HB9.out Ba
              clear Ba EM HB9
              go_wp2
              go_ret
              exact ⟨rfl, HBa.out⟩
          · have ex : exB x = true := decide_eq_true cx
            have ey : exB y = false := decide_eq_false cy
            rw [ex, ey]
            go_wp2
            go_ret
            exact ⟨rfl, HB9.out⟩
        · have ex : exB x = false := decide_eq_false cx
          rw [ex]
          go_wp2
          go_ret
          exact ⟨rfl, HB9.out⟩
    · have CK : ∃ n n2 m, Cmp4 k x y n n2 m := by
        rcases hk with rfl | rfl | rfl
        · exact absurd rfl h16
        · exact ⟨_, _, _, cmp432 x y x0 x1 y0 y1⟩
        · exact ⟨_, _, _, cmp4No 64 x y (by decide) (by decide)⟩
      obtain ⟨n, n2, m, C0⟩ := CK
      have C : Hid (Cmp4 k x y n n2 m) := C0
      clear C0 hk
      rcases C.out.nn with ⟨rfl, rfl⟩ | ⟨rfl, rfl⟩ | ⟨rfl, rfl⟩ | ⟨rfl, rfl⟩
      · go_wp2_with fail
        refine (C.out.i1 _).mono ?_
        rintro e w2 ⟨rfl, B2⟩
        go_wp2_with fail
        refine (C.out.m2 _).mono ?_
        rintro e w3 ⟨rfl, B3⟩
        go_wp2_with fail
        refine (C.out.s1 _).mono ?_
        rintro e w4 ⟨rfl, B4⟩
        go_wp2_with fail
        refine (C.out.m1 _).mono ?_
        rintro e w5 ⟨rfl, B5⟩
        go_wp2_with fail
        refine (C.out.m3 _).mono ?_
        rintro e w6 ⟨rfl, B6⟩
        have HB6 : Hid (Below w.heap.size w w6) := bel_step (bel_step (bel_step (bel_step (bel_step B1 B2) B3) B4) B5) B6
        clear B1 B2 B3 B4 B5 B6
        have HB7 : Hid (Below w.heap.size w w6) := HB6.out
        have EX := exactAny x x0 x1
        have EY := exactAny y y0 y1
        clear C
        go_wp2_with fail
        refine (EX _).mono ?_
        rintro e w8 ⟨rfl, B8⟩
        go_wp2_with fail
        refine (EY _).mono ?_
        rintro e w9 ⟨rfl, B9⟩
        have HB9 : Hid (Below w.heap.size w w9) := bel_step (bel_step HB7.out B8) B9
        clear B8 B9 EX EY HB6 HB7
        go_wp2
        go_ret
        exact ⟨rfl, HB9.out⟩
      · go_wp2_with fail
        refine (C.out.i1 _).mono ?_
        rintro e w2 ⟨rfl, B2⟩
        go_wp2_with fail
        refine (C.out.m2 _).mono ?_
        rintro e w3 ⟨rfl, B3⟩
        go_wp2_with fail
        refine (C.out.s1 _).mono ?_
        rintro e w4 ⟨rfl, B4⟩
        go_wp2_with fail
        refine (C.out.m1 _).mono ?_
        rintro e w5 ⟨rfl, B5⟩
        go_wp2_with fail
        refine (C.out.m3 _).mono ?_
        rintro e w6 ⟨rfl, B6⟩
        have HB6 : Hid (Below w.heap.size w w6) := bel_step (bel_step (bel_step (bel_step (bel_step B1 B2) B3) B4) B5) B6
        clear B1 B2 B3 B4 B5 B6
        go_wp2_with fail
        refine (C.out.i2 _).mono ?_
        rintro e w7 ⟨rfl, B7⟩
        have HB7 : Hid (Below w.heap.size w w7) := bel_step HB6.out B7
        clear B7
        have EX := exactAny x x0 x1
        have EY := exactAny y y0 y1
        clear C
        go_wp2_with fail
        refine (EX _).mono ?_
        rintro e w8 ⟨rfl, B8⟩
        go_wp2_with fail
        refine (EY _).mono ?_
        rintro e w9 ⟨rfl, B9⟩
        have HB9 : Hid (Below w.heap.size w w9) := bel_step (bel_step HB7.out B8) B9
        clear B8 B9 EX EY HB6 HB7
        go_wp2
        go_ret
        exact ⟨rfl, HB9.out⟩
      · go_wp2_with fail
        refine (C.out.i1 _).mono ?_
        rintro e w2 ⟨rfl, B2⟩
        go_wp2_with fail
        refine (C.out.m2 _).mono ?_
        rintro e w3 ⟨rfl, B3⟩
        go_wp2_with fail
        refine (C.out.s1 _).mono ?_
        rintro e w4 ⟨rfl, B4⟩
        go_wp2_with fail
        refine (C.out.m1 _).mono ?_
        rintro e w5 ⟨rfl, B5⟩
        go_wp2_with fail
        refine (C.out.m3 _).mono ?_
        rintro e w6 ⟨rfl, B6⟩
        have HB6 : Hid (Below w.heap.size w w6) := bel_step (bel_step (bel_step (bel_step (bel_step B1 B2) B3) B4) B5) B6
        clear B1 B2 B3 B4 B5 B6
        go_wp2_with fail
        refine (C.out.i2 _).mono ?_
        rintro e w7 ⟨rfl, B7⟩
        have HB7 : Hid (Below w.heap.size w w7) := bel_step HB6.out B7
        clear B7
        have EX := exactAny x x0 x1
        have EY := exactAny y y0 y1
        clear C
        go_wp2_with fail
        refine (EX _).mono ?_
        rintro e w8 ⟨rfl, B8⟩
        go_wp2_with fail
        refine (EY _).mono ?_
        rintro e w9 ⟨rfl, B9⟩
        have HB9 : Hid (Below w.heap.size w w9) := bel_step (bel_step HB7.out B8) B9
        clear B8 B9 EX EY HB6 HB7
        go_wp2
        go_ret
        exact ⟨rfl, HB9.out⟩
      · go_wp2_with fail
        refine (C.out.i1 _).mono ?_
        rintro e w2 ⟨rfl, B2⟩
        go_wp2_with fail
        refine (C.out.m2 _).mono ?_
        rintro e w3 ⟨rfl, B3⟩
        go_wp2_with fail
        refine (C.out.s1 _).mono ?_
        rintro e w4 ⟨rfl, B4⟩
        go_wp2_with fail
        refine (C.out.m1 _).mono ?_
        rintro e w5 ⟨rfl, B5⟩
        go_wp2_with fail
        refine (C.out.m3 _).mono ?_
        rintro e w6 ⟨rfl, B6⟩
        have HB6 : Hid (Below w.heap.size w w6) := bel_step (bel_step (bel_step (bel_step (bel_step B1 B2) B3) B4) B5) B6
        clear B1 B2 B3 B4 B5 B6
        go_wp2_with fail
        refine (C.out.i2 _).mono ?_
        rintro e w7 ⟨rfl, B7⟩
        have HB7 : Hid (Below w.heap.size w w7) := bel_step HB6.out B7
        clear B7
        have EX := exactAny x x0 x1
        have EY := exactAny y y0 y1
        clear C
        go_wp2_with fail
        refine (EX _).mono ?_
        rintro e w8 ⟨rfl, B8⟩
        go_wp2_with fail
        refine (EY _).mono ?_
        rintro e w9 ⟨rfl, B9⟩
        have HB9 : Hid (Below w.heap.size w w9) := bel_step (bel_step HB7.out B8) B9
        clear B8 B9 EX EY HB6 HB7
        go_wp2
        go_ret
        exact ⟨rfl, HB9.out⟩

end Go.Proofs.Ytnimlkobcginjaa
