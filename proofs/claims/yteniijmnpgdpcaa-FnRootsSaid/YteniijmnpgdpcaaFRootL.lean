/-
  Roots of halves are nearest: the law's walk.
-/
import Derived.Test.YteniijmnpgdpcaaFRootM
import Derived.Test.YteniijmnpgdpcaaFSqV
import Derived.Test.YteniijmnpgdpcaaFSter
import Derived.Test.YteniijmnpgdpcaaIMul
namespace Go.Proofs.Yteniijmnpgdpcaa
open Go.RowKit

theorem sqAny (k a : Int) (hk : k = 16 ∨ k = 32 ∨ k = 64) (a0 : 0 ≤ a) (a1 : a ≤ 4294967295) : ∃ r : Int,
    (∀ w, Calls Try.prog 22 #[.int .i64 k, .int .u32 a] w fun x w' => x = .returned (.int .u32 r) ∧ Below w.heap.size w w') ∧
    (∀ w, Calls Try.prog 21 #[.int .i64 k, .int .u32 a] w fun x w' => x = .returned (.int .u32 r) ∧ Below w.heap.size w w') := by
  rcases hk with rfl | rfl | rfl
  · exact sqBoth16 a a0 a1
  · exact sqBoth32 a a0 a1
  · exact ⟨0, sqNo 64 a (by decide) (by decide)⟩

/-- All that the law asks of a root. -/
theorem root_out (a r : Int) (ca : cl16 a = 0) (hx : ¬ exa a ≤ 0)
    (hr : cl16 a = 0 → (a / 32768 % 2 == 1) = false → ∀ n : Nat, vm16 a = n → n ≠ 0 → ∃ U s0 : Nat, (U + Lib.bitLen n = 60 ∨ U + Lib.bitLen n = 59) ∧ (ve16 a - U) % 2 = 0 ∧ s0 * s0 ≤ n * 2 ^ U ∧ n * 2 ^ U < (s0 + 1) * (s0 + 1) ∧ r = ((min (toldOf 10 (-24) s0 ((ve16 a - U) / 2) (decide (s0 * s0 ≠ n * 2 ^ U))) 31744 : Nat) : Int)) :
    ∃ X V Up Lo : Nat, exa a = X ∧ (1 ≤ r ∧ r + 1 < 31744) ∧ (cl16 r = 0 ∧ exa r = V) ∧ (cl16 (r + 1) = 0 ∧ exa (r + 1) = Up) ∧ (cl16 (r - 1) = 0 ∧ exa (r - 1) = Lo) ∧ 0 < V ∧ V ≤ 8589934592 ∧ Up ≤ 8589934592 ∧ Lo ≤ 8589934592 ∧ X ≤ 1098974756864 ∧
      (V + Lo) * (V + Lo) ≤ X * 67108864 ∧ X * 67108864 ≤ (V + Up) * (V + Up) := by
  obtain ⟨n, hn, hn2, e0, e1, he⟩ := exa_zz a ca
  have hs : (a / 32768 % 2 == 1) = false := by
    cases hq : (a / 32768 % 2 == 1)
    · rfl
    · rw [hq] at he
      unfold zz at he
      rw [if_pos rfl] at he
      omega
  rw [hs] at he
  unfold zz at he
  rw [if_neg (by decide)] at he
  have hn0 : n ≠ 0 := by rintro rfl; rw [he] at hx; simp at hx
  obtain ⟨U, s0, hU, hp, t1, t2, hrr⟩ := hr ca hs n hn hn0
  obtain ⟨T, hT, T1, T2, v1, v2, v3, v4, m1, m2⟩ := root_math n U s0 (ve16 a) hn0 hn2 e0 e1 hU hp t1 t2
  rw [hT, Nat.min_eq_left (by omega)] at hrr
  have hF := (exa_F a ca).2
  have x0 := exa_fin 0 T (Or.inl rfl) (by omega)
  have x1 := exa_fin 0 (T + 1) (Or.inl rfl) (by omega)
  have x2 := exa_fin 0 (T - 1) (Or.inl rfl) (by omega)
  rw [if_neg (by decide), Int.zero_mul, Int.zero_add] at x0 x1 x2
  refine ⟨n * 2 ^ (ve16 a + 24).toNat, valN T, valN (T + 1), valN (T - 1), he, by omega, ?_, ?_, ?_, v1, v3, v2, v4, ?_, m1, m2⟩
  · rw [hrr]; exact x0
  · rw [hrr, show (T : Int) + 1 = ((T + 1 : Nat) : Int) by omega]; exact x1
  · rw [hrr, show (T : Int) - 1 = ((T - 1 : Nat) : Int) by omega]; exact x2
  · rw [he, Int.natAbs_natCast] at hF; exact hF

/-- A product in two words, by what it is. -/
theorem words_le (p q : Nat) : p ≤ q ↔ ((p / 18446744073709551616 : Nat) : Int) < ((q / 18446744073709551616 : Nat) : Int) ∨ (((p / 18446744073709551616 : Nat) : Int) = ((q / 18446744073709551616 : Nat) : Int) ∧ ((p % 18446744073709551616 : Nat) : Int) ≤ ((q % 18446744073709551616 : Nat) : Int)) := by
  omega

theorem u32_ok (x : Int) (h0 : 0 ≤ x) (h1 : x ≤ 4294967295) : IntKind.u32.wrap x = x := by rw [IntKind.wrap_u32]; omega
theorem pos_not {n : Nat} (h : 0 < n) : ¬ (n : Int) ≤ 0 := by omega
theorem sum_room (V U : Nat) (h1 : V ≤ 8589934592) (h2 : U ≤ 8589934592) : V + U < 18446744073709551616 ∧ (V : Int) + U = ((V + U : Nat) : Int) ∧ wrap64 ((V + U : Nat) : Int) = ((V + U : Nat) : Int) ∧ IntKind.u64.wrap ((V + U : Nat) : Int) = ((V + U : Nat) : Int) :=
  ⟨by omega, by omega, w64_ok _ (by omega) (by omega), u64_ok _ (by omega) (by omega)⟩
theorem word_ways (p q : Nat) (h : p ≤ q) : ((p / 18446744073709551616 : Nat) : Int) < ((q / 18446744073709551616 : Nat) : Int) ∨ ¬ ((p / 18446744073709551616 : Nat) : Int) < ((q / 18446744073709551616 : Nat) : Int) ∧ (((p / 18446744073709551616 : Nat) : Int) == ((q / 18446744073709551616 : Nat) : Int)) = true ∧ ((p % 18446744073709551616 : Nat) : Int) ≤ ((q % 18446744073709551616 : Nat) : Int) := by
  rcases (words_le p q).1 h with g | ⟨g, g2⟩
  · exact Or.inl g
  · exact Or.inr ⟨by omega, by simp [g], g2⟩
theorem word_ways' (p q : Nat) (h : p ≤ q) : ((p / 18446744073709551616 : Nat) : Int) < ((q / 18446744073709551616 : Nat) : Int) ∨ ¬ ((p / 18446744073709551616 : Nat) : Int) < ((q / 18446744073709551616 : Nat) : Int) ∧ (((q / 18446744073709551616 : Nat) : Int) == ((p / 18446744073709551616 : Nat) : Int)) = true ∧ ((p % 18446744073709551616 : Nat) : Int) ≤ ((q % 18446744073709551616 : Nat) : Int) := by
  rcases (words_le p q).1 h with g | ⟨g, g2⟩
  · exact Or.inl g
  · exact Or.inr ⟨by omega, by simp [g], g2⟩
theorem r_room (r : Int) (r1 : 1 ≤ r) (r2 : r + 1 < 31744) : (0 ≤ r ∧ r ≤ 4294967295) ∧ (0 ≤ r + 1 ∧ r + 1 ≤ 4294967295) ∧ (0 ≤ r - 1 ∧ r - 1 ≤ 4294967295) := by omega
theorem x_room (X : Nat) (h : X ≤ 1098974756864) : X < 18446744073709551616 ∧ IntKind.u64.wrap (X : Int) = X := ⟨by omega, u64_ok _ (by omega) (by omega)⟩

set_option maxHeartbeats 4000000 in
set_option maxRecDepth 2000000 in
theorem rootsB (a1 : Option Addr) (n1 c1 : Nat) (w : World) (h1 : Bys w a1 n1 w.heap.size) :
    Calls Try.prog 6 #[.slice a1 n1 c1] w fun e w' => e = .returned (.bool true) ∧ Below w.heap.size w w' := by
  obtain ⟨N, hN⟩ : ∃ N : Int, (n1 : Int) = N := ⟨_, rfl⟩
  by_cases hlen : 1048576 < N
  · go_enter Try.func6, Try.ntmps6
    go_wp2
    go_ret
    exact ⟨rfl, Below.refl _ _⟩
  · go_enter Try.func6, Try.ntmps6
    go_wp2_with fail
    refine (drawFSqrt a1 n1 c1 w h1).mono ?_
    rintro e w1 ⟨k, a, hk, x0, x1, rfl, B1⟩
    clear hlen hN h1
    by_cases h16 : k = 16
    · subst h16
      obtain ⟨r, S, I, hr⟩ := sqHalf a x0 x1
      have EA := exactAny a x0 x1
      go_wp2_with fail
      refine (I _).mono ?_
      rintro e w2 ⟨rfl, B2⟩
      go_wp2_with fail
      refine (S _).mono ?_
      rintro e w3 ⟨rfl, B3⟩
      clear S I
      go_wp2_with fail
      refine (EA _).mono ?_
      rintro e w4 ⟨rfl, B4⟩
      have HB4 : Hid (Below w.heap.size w w4) := bel_step (bel_step (bel_step B1 B2) B3) B4
      clear B1 B2 B3 B4 EA hk
      by_cases ca : cl16 a = 0
      · have ea : exB a = true := decide_eq_true ca
        have va : exV a = exa a := if_pos ca
        rw [ea, va]
        by_cases hx : exa a ≤ 0
        · clear hr
          go_wp2
          go_ret
          exact ⟨rfl, HB4.out⟩
        · obtain ⟨X, V, Up, Lo, hX, ⟨r1, r2⟩, ⟨cr, er⟩, ⟨cu, eu⟩, ⟨cl, el⟩, V0, V1, U1, L1, X1, m1, m2⟩ := root_out a r ca hx hr
          obtain ⟨⟨p0, p1⟩, ⟨p2, p3⟩, ⟨p4, p5⟩⟩ := r_room r r1 r2
          have ER := exactYes r p0 p1 cr
          have EU := exactYes (r + 1) p2 p3 cu
          have EL := exactYes (r - 1) p4 p5 cl
          rw [er] at ER
          rw [eu] at EU
          rw [el] at EL
          have HW1 : Hid (IntKind.u32.wrap (r + 1) = r + 1) := u32_ok (r + 1) p2 p3
          have HW2 : Hid (IntKind.u32.wrap (r - 1) = r - 1) := u32_ok (r - 1) p4 p5
          rw [hX] at hx ⊢
          have x2 := (x_room X X1).1
          have HU0 : Hid (IntKind.u64.wrap (X : Int) = X) := (x_room X X1).2
          have s1 := (sum_room V Up V1 U1).1
          have HA : Hid ((V : Int) + Up = ((V + Up : Nat) : Int) ∧ wrap64 ((V + Up : Nat) : Int) = ((V + Up : Nat) : Int) ∧ IntKind.u64.wrap ((V + Up : Nat) : Int) = ((V + Up : Nat) : Int)) := (sum_room V Up V1 U1).2
          have s2 := (sum_room V Lo V1 L1).1
          have HBB : Hid ((V : Int) + Lo = ((V + Lo : Nat) : Int) ∧ wrap64 ((V + Lo : Nat) : Int) = ((V + Lo : Nat) : Int) ∧ IntKind.u64.wrap ((V + Lo : Nat) : Int) = ((V + Lo : Nat) : Int)) := (sum_room V Lo V1 L1).2
          have M0 := fun w => specMul X 67108864 x2 (by unfold Hid; decide) w
          have M1 := fun w => specMul (V + Up) (V + Up) s1 s1 w
          have M2 := fun w => specMul (V + Lo) (V + Lo) s2 s2 w
          rw [show (((67108864 : Nat) : Int)) = 67108864 by rfl] at M0
          obtain ⟨H0, h0e⟩ : ∃ H, ((X * 67108864 / 18446744073709551616 : Nat) : Int) = H := ⟨_, rfl⟩
          obtain ⟨L0, l0e⟩ : ∃ H, ((X * 67108864 % 18446744073709551616 : Nat) : Int) = H := ⟨_, rfl⟩
          obtain ⟨H1, h1e⟩ : ∃ H, (((V + Up) * (V + Up) / 18446744073709551616 : Nat) : Int) = H := ⟨_, rfl⟩
          obtain ⟨L1', l1e⟩ : ∃ H, (((V + Up) * (V + Up) % 18446744073709551616 : Nat) : Int) = H := ⟨_, rfl⟩
          obtain ⟨H2, h2e⟩ : ∃ H, (((V + Lo) * (V + Lo) / 18446744073709551616 : Nat) : Int) = H := ⟨_, rfl⟩
          obtain ⟨L2, l2e⟩ : ∃ H, (((V + Lo) * (V + Lo) % 18446744073709551616 : Nat) : Int) = H := ⟨_, rfl⟩
          have W1' : Hid (H0 < H1 ∨ ¬ H0 < H1 ∧ (H0 == H1) = true ∧ L0 ≤ L1') := by unfold Hid; rw [← h0e, ← l0e, ← h1e, ← l1e]; exact word_ways _ _ m2
          have W2' : Hid (H2 < H0 ∨ ¬ H2 < H0 ∧ (H0 == H2) = true ∧ L2 ≤ L0) := by unfold Hid; rw [← h0e, ← l0e, ← h2e, ← l2e]; exact word_ways' _ _ m1
          have V0' := pos_not V0
          unfold mhi mlo at M0 M1 M2
          rw [h0e, l0e] at M0
          rw [h1e, l1e] at M1
          rw [h2e, l2e] at M2
          clear h0e l0e h1e l1e h2e l2e
          obtain ⟨A, hA⟩ : ∃ A : Int, ((V + Up : Nat) : Int) = A := ⟨_, rfl⟩
          obtain ⟨B, hB⟩ : ∃ B : Int, ((V + Lo : Nat) : Int) = B := ⟨_, rfl⟩
          rw [hA] at M1 HA
          rw [hB] at M2 HBB
          clear hA hB
          clear m1 m2 V0 V1 U1 L1 X1 r1 r2 cr er cu eu cl el hr s1 s2 x2 p0 p1 p2 p3 p4 p5 x0 x1
          go_wp2_with fail
          refine (ER _).mono ?_
          rintro e w5 ⟨rfl, B5⟩
          have w1' := HW1.out
          go_wp2_with fail
          refine (EU _).mono ?_
          rintro e w6 ⟨rfl, B6⟩
          clear w1' HW1
          have w2' := HW2.out
          go_wp2_with fail
          refine (EL _).mono ?_
          rintro e w7 ⟨rfl, B7⟩
          clear w2' HW2
          have HB7 : Hid (Below w.heap.size w w7) := bel_step (bel_step (bel_step HB4.out B5) B6) B7
          clear B5 B6 B7 HB4 ER EU EL
          have u0 := HU0.out
          go_wp2_with fail
          refine (M0 _).mono ?_
          rintro e w8 ⟨rfl, hw⟩
          obtain rfl := hw.symm
          clear u0 HU0 M0 hx V0'
          obtain ⟨a1', u3, u1⟩ := HA.out
          go_wp2_with fail
          refine (M1 _).mono ?_
          rintro e w9 ⟨rfl, hw⟩
          obtain rfl := hw.symm
          clear a1' u3 u1 HA M1
          obtain ⟨a2', u4, u2⟩ := HBB.out
          go_wp2_with fail
          refine (M2 _).mono ?_
          rintro e wa ⟨rfl, hw⟩
          obtain rfl := hw.symm
          clear a2' u4 u2 HBB M2
          rcases W1'.out with g | ⟨g, g2, g3⟩
          · rcases W2'.out with q | ⟨q, q2, q3⟩
            · go_wp2
              go_ret
              exact ⟨rfl, HB7.out⟩
            · go_wp2
              go_ret
              exact ⟨rfl, HB7.out⟩
          · rcases W2'.out with q | ⟨q, q2, q3⟩
            · go_wp2
              go_ret
              exact ⟨rfl, HB7.out⟩
            · go_wp2
              go_ret
              exact ⟨rfl, HB7.out⟩
      · have ea : exB a = false := decide_eq_false ca
        rw [ea]
        clear hr
        go_wp2
        go_ret
        exact ⟨rfl, HB4.out⟩
    · obtain ⟨r, S, I⟩ := sqAny k a hk x0 x1
      have EA := exactAny a x0 x1
      go_wp2_with fail
      refine (I _).mono ?_
      rintro e w2 ⟨rfl, B2⟩
      go_wp2_with fail
      refine (S _).mono ?_
      rintro e w3 ⟨rfl, B3⟩
      clear S I
      go_wp2_with fail
      refine (EA _).mono ?_
      rintro e w4 ⟨rfl, B4⟩
      have HB4 : Hid (Below w.heap.size w w4) := bel_step (bel_step (bel_step B1 B2) B3) B4
      clear B1 B2 B3 B4 EA hk
      go_wp2
      go_ret
      exact ⟨rfl, HB4.out⟩

end Go.Proofs.Yteniijmnpgdpcaa
