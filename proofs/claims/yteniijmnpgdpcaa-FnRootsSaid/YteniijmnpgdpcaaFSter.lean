/-
  Sterbenz's lemma and Knuth's sum of two: the laws' walks.
-/
import Derived.Test.YteniijmnpgdpcaaFHv
import Derived.Test.YteniijmnpgdpcaaFDrx
namespace Go.Proofs.Yteniijmnpgdpcaa
open Go.RowKit

/-- What laws.exact answers of any half. -/
def exV (a : Int) : Int := if cl16 a = 0 then exa a else 0
def exB (a : Int) : Bool := decide (cl16 a = 0)
theorem exactAny (a : Int) (h0 : 0 ≤ a) (h1 : a ≤ 4294967295) (w : World) :
    Calls Try.prog 16 #[.int .u32 a] w fun e w' => e = .returned (.tuple #[.int .i64 (exV a), .bool (exB a)]) ∧ Below w.heap.size w w' := by
  unfold exV exB
  by_cases hc : cl16 a = 0
  · rw [if_pos hc, decide_eq_true hc]; exact exactYes a h0 h1 hc w
  · rw [if_neg hc, decide_eq_false hc]; exact exactNo a h0 h1 hc w

theorem drawFSub (a : Option Addr) (n cap : Nat) (w : World) (hb : Bys w a n w.heap.size) :
    Calls Try.prog 19 #[.slice a n cap] w fun e w' => ∃ k x y : Int, (k = 16 ∨ k = 32 ∨ k = 64) ∧ 0 ≤ x ∧ x ≤ 4294967295 ∧ 0 ≤ y ∧ y ≤ 4294967295 ∧ e = .returned (.tuple #[.int .i64 k, .int .u32 x, .int .u32 y]) ∧ Below w.heap.size w w' := by
  go_enter Try.func19, Try.ntmps19
  go_wp2_with fail
  refine (drawFAdd a n cap w hb).mono ?_
  rintro e w1 ⟨k, x, y, hk, x0, x1, y0, y1, rfl, B1⟩
  go_wp2
  refine bodyPost_ret (three_resD Try.results19 _ _ _) rfl ⟨k, x, y, hk, x0, x1, y0, y1, rfl, B1⟩

/-- A difference of any kind: both sides. -/
theorem subAny (k a b : Int) (hk : k = 16 ∨ k = 32 ∨ k = 64) (a0 : 0 ≤ a) (a1 : a ≤ 4294967295) (b0 : 0 ≤ b) (b1 : b ≤ 4294967295) : ∃ r : Int,
    (∀ w, Calls Try.prog 13 #[.int .i64 k, .int .u32 a, .int .u32 b] w fun x w' => x = .returned (.int .u32 r) ∧ Below w.heap.size w w') ∧
    (∀ w, Calls Try.prog 9 #[.int .i64 k, .int .u32 a, .int .u32 b] w fun x w' => x = .returned (.int .u32 r) ∧ Below w.heap.size w w') := by
  rcases hk with rfl | rfl | rfl
  · exact bothFSub16 a b a0 a1 b0 b1
  · exact bothFSub32 a b a0 a1 b0 b1
  · exact ⟨0, noFSub 64 a b (by decide) (by decide)⟩
theorem addAnyK (k a b : Int) (hk : k = 16 ∨ k = 32 ∨ k = 64) (a0 : 0 ≤ a) (a1 : a ≤ 4294967295) (b0 : 0 ≤ b) (b1 : b ≤ 4294967295) : ∃ r : Int,
    (∀ w, Calls Try.prog 12 #[.int .i64 k, .int .u32 a, .int .u32 b] w fun x w' => x = .returned (.int .u32 r) ∧ Below w.heap.size w w') ∧
    (∀ w, Calls Try.prog 8 #[.int .i64 k, .int .u32 a, .int .u32 b] w fun x w' => x = .returned (.int .u32 r) ∧ Below w.heap.size w w') := by
  rcases hk with rfl | rfl | rfl
  · exact bothFAdd16 a b a0 a1 b0 b1
  · exact bothFAdd32 a b a0 a1 b0 b1
  · exact ⟨0, noFAdd 64 a b (by decide) (by decide)⟩

/-- A sum that is finite, opened again. -/
theorem hv_open (z : Int) (s : Bool) (hz : z.natAbs ≤ 4398046511104) : (0 ≤ hv z s ∧ hv z s ≤ 65535) ∧ (cl16 (hv z s) = 0 → exa (hv z s) = R z ∧ (R z).natAbs ≤ 1098974756864) := by
  have hb : bigZ z := by unfold bigZ; omega
  obtain ⟨h1, h2, h3⟩ := hv_exa z s hb
  refine ⟨h1, fun hc => ?_⟩
  rcases Nat.lt_or_ge (bitsN z.natAbs) 31744 with h | h
  · refine ⟨(h2 h).2, ?_⟩
    have := fin_bits z.natAbs hb.out h
    unfold R
    split <;> omega
  · exact absurd hc (h3 h)

theorem ster_out (X Y : Int) (s : Bool) (Fx : isF X) (Fy : isF Y) (_lx : X.natAbs ≤ 1098974756864) (ly : Y.natAbs ≤ 1098974756864) (g1 : ¬ X ≤ 0) (g2 : ¬ Y ≤ 0) (g3 : ¬ 2 * Y < X) (g4 : ¬ 2 * X < Y) :
    cl16 (hv (X - Y) s) = 0 ∧ exa (hv (X - Y) s) = X - Y ∧ 0 ≤ hv (X - Y) s ∧ hv (X - Y) s ≤ 4294967295 := by
  have hF := sterbenz X Y Fx Fy (by omega) (by omega) (by omega) (by omega)
  have hb : bigZ (X - Y) := by unfold bigZ; omega
  obtain ⟨⟨r0, r1⟩, q2, _⟩ := hv_exa (X - Y) s hb
  obtain ⟨cr, vr⟩ := q2 (bits_fin _ hb.out (by omega))
  rw [R_exact _ hb hF] at vr
  exact ⟨cr, vr, r0, by omega⟩

set_option maxHeartbeats 2000000 in
set_option maxRecDepth 2000000 in
theorem sterbenzB (a1 : Option Addr) (n1 c1 : Nat) (w : World) (h1 : Bys w a1 n1 w.heap.size) :
    Calls Try.prog 5 #[.slice a1 n1 c1] w fun e w' => e = .returned (.bool true) ∧ Below w.heap.size w w' := by
  obtain ⟨N, hN⟩ : ∃ N : Int, (n1 : Int) = N := ⟨_, rfl⟩
  by_cases hlen : 1048576 < N
  · go_enter Try.func5, Try.ntmps5
    go_wp2
    go_ret
    exact ⟨rfl, Below.refl _ _⟩
  · go_enter Try.func5, Try.ntmps5
    go_wp2_with fail
    refine (drawFSub a1 n1 c1 w h1).mono ?_
    rintro e w1 ⟨k, x, y, hk, x0, x1, y0, y1, rfl, B1⟩
    clear hlen hN h1
    by_cases h16 : k = 16
    · subst h16
      obtain ⟨r, S, I, hf, _⟩ := subHalf x y x0 x1 y0 y1
      go_wp2_with fail
      refine (I _).mono ?_
      rintro e w2 ⟨rfl, B2⟩
      go_wp2_with fail
      refine (S _).mono ?_
      rintro e w3 ⟨rfl, B3⟩
      have EX := exactAny x x0 x1
      have EY := exactAny y y0 y1
      clear S I
      go_wp2_with fail
      refine (EX _).mono ?_
      rintro e w4 ⟨rfl, B4⟩
      go_wp2_with fail
      refine (EY _).mono ?_
      rintro e w5 ⟨rfl, B5⟩
      have HB : Hid (Below w.heap.size w w5) := bel_step (bel_step (bel_step (bel_step B1 B2) B3) B4) B5
      clear B1 B2 B3 B4 B5 EX EY
      by_cases cx : cl16 x = 0
      · by_cases cy : cl16 y = 0
        · have ex : exB x = true := decide_eq_true cx
          have ey : exB y = true := decide_eq_true cy
          have vx : exV x = exa x := if_pos cx
          have vy : exV y = exa y := if_pos cy
          obtain ⟨Fx, lx⟩ := exa_F x cx
          obtain ⟨Fy, ly⟩ := exa_F y cy
          obtain ⟨s, hr⟩ := hf cx cy
          rw [ex, ey, vx, vy]
          generalize exa x = X at *
          generalize exa y = Y at *
          have wX : wrap64 (2 * X) = 2 * X := w64_ok _ (by omega) (by omega)
          have wY : wrap64 (2 * Y) = 2 * Y := w64_ok _ (by omega) (by omega)
          have wD : wrap64 (X - Y) = X - Y := w64_ok _ (by omega) (by omega)
          by_cases g1 : X ≤ 0
          · clear hr hf
            go_wp2
            go_ret
            exact ⟨rfl, HB.out⟩
          · by_cases g2 : Y ≤ 0
            · clear hr hf
              go_wp2
              go_ret
              exact ⟨rfl, HB.out⟩
            · by_cases g3 : 2 * Y < X
              · clear hr hf
                go_wp2
                go_ret
                exact ⟨rfl, HB.out⟩
              · by_cases g4 : 2 * X < Y
                · clear hr hf
                  go_wp2
                  go_ret
                  exact ⟨rfl, HB.out⟩
                · obtain ⟨cr, vr, r0, r1⟩ := ster_out X Y s Fx Fy lx ly g1 g2 g3 g4
                  rw [← hr] at cr vr r0 r1
                  have EZ := exactYes r r0 r1 cr
                  rw [vr] at EZ
                  clear hr hf Fx Fy lx ly cr vr r0 r1
                  go_wp2_with fail
                  refine (EZ _).mono ?_
                  rintro e w6 ⟨rfl, B6⟩
                  have HB6 : Hid (Below w.heap.size w w6) := bel_step HB.out B6
                  clear B6 HB EZ
                  go_wp2
                  go_ret
                  exact ⟨rfl, HB6.out⟩
        · have ex : exB x = true := decide_eq_true cx
          have ey : exB y = false := decide_eq_false cy
          rw [ex, ey]
          clear hf
          go_wp2
          go_ret
          exact ⟨rfl, HB.out⟩
      · have ex : exB x = false := decide_eq_false cx
        rw [ex]
        clear hf
        go_wp2
        go_ret
        exact ⟨rfl, HB.out⟩
    · obtain ⟨r, S, I⟩ := subAny k x y hk x0 x1 y0 y1
      go_wp2_with fail
      refine (I _).mono ?_
      rintro e w2 ⟨rfl, B2⟩
      go_wp2_with fail
      refine (S _).mono ?_
      rintro e w3 ⟨rfl, B3⟩
      have EX := exactAny x x0 x1
      have EY := exactAny y y0 y1
      clear S I
      go_wp2_with fail
      refine (EX _).mono ?_
      rintro e w4 ⟨rfl, B4⟩
      go_wp2_with fail
      refine (EY _).mono ?_
      rintro e w5 ⟨rfl, B5⟩
      have HB : Hid (Below w.heap.size w w5) := bel_step (bel_step (bel_step (bel_step B1 B2) B3) B4) B5
      clear B1 B2 B3 B4 B5 EX EY hk
      go_wp2
      go_ret
      exact ⟨rfl, HB.out⟩

end Go.Proofs.Yteniijmnpgdpcaa
