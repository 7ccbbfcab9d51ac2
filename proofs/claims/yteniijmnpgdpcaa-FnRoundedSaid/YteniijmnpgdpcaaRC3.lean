/-
  laws.near: its walk. (Made by a generator.)
-/
import Derived.Test.YteniijmnpgdpcaaRC2
import Derived.Test.YteniijmnpgdpcaaRC1
namespace Go.Proofs.Yteniijmnpgdpcaa
open Go.RowKit

/-- What is reckoned on the way to the other one. -/
structure Way (r T BS : Int) (step : Int) (n : Int) : Prop where
  low : bits .and .u32 r 32767 = T
  sign : bits .and .u32 r 32768 = BS
  conv : IntKind.i64.wrap T = T
  conv' : wrap64 T = T

theorem i64w (x : Int) (h0 : -9223372036854775808 ≤ x) (h1 : x ≤ 9223372036854775807) : IntKind.i64.wrap x = x := by rw [IntKind.wrap_i64]; omega
theorem u32w (x : Int) (h0 : 0 ≤ x) (h1 : x ≤ 4294967295) : IntKind.u32.wrap x = x := by rw [IntKind.wrap_u32]; omega
theorem xor_one (b : Nat) (hb : b ≤ 1) : bits .xor .u32 (bits .or .u32 1 ((b * 32768 : Nat) : Int)) 32768 = (((1 - b) * 32768 + 1 : Nat) : Int) := by
  rcases (by omega : b = 0 ∨ b = 1) with rfl | rfl <;> decide
theorem half_exact (b T : Nat) (hb : b ≤ 1) (hT : T < 31744) (w : World) :
    Calls Try.prog 16 #[.int .u32 ((b * 32768 + T : Nat) : Int)] w fun e w' => e = .returned (.tuple #[.int .i64 (sgn b (valN T)), .bool true]) ∧ Below w.heap.size w w' := by
  obtain ⟨c1, c2⟩ := exa_fin (b : Int) T (by omega) hT
  have e : ((b * 32768 + T : Nat) : Int) = (b : Int) * 32768 + T := by omega
  have H := exactYes ((b : Int) * 32768 + T) (by omega) (by omega) c1 w
  rw [c2] at H
  rw [e]
  have e2 : (if (b : Int) = 1 then -(valN T : Int) else (valN T : Int)) = sgn b (valN T) := by
    unfold sgn
    by_cases h : b = 1
    · rw [if_pos (by omega), if_pos h]
    · rw [if_neg (by omega), if_neg h]
  rw [e2] at H
  exact H
theorem half_inexact (b : Nat) (hb : b ≤ 1) (w : World) :
    Calls Try.prog 16 #[.int .u32 ((b * 32768 + 31744 : Nat) : Int)] w fun e w' => e = .returned (.tuple #[.int .i64 0, .bool false]) ∧ Below w.heap.size w w' := by
  have c := cl_top (b : Int) (by omega)
  have e : ((b * 32768 + 31744 : Nat) : Int) = (b : Int) * 32768 + 31744 := by omega
  rw [e]
  exact exactNo ((b : Int) * 32768 + 31744) (by omega) (by omega) c w


set_option maxHeartbeats 4000000 in
set_option maxRecDepth 100000 in
theorem nearFin (b X B t k : Nat) (hb : b ≤ 1) (hB : 0 < B) (hk : k ≤ 2048) (hk2 : t ≠ 0 → 1024 ≤ k) (h : NearBy X B t k) (hX : X ≤ 4611686018427387904) (hB2 : B ≤ 4398046511104) (hT : t * 1024 + k < 31744) (w : World) :
    Calls Try.prog 17 #[.int .u32 ((b * 32768 + (t * 1024 + k) : Nat) : Int), .int .i64 (sgn b X), .int .i64 (B : Int)] w fun e w' => e = .returned (.bool true) ∧ Below w.heap.size w w' := by
  have NU := fun fin => near_at_up b X B t k 0 0 hB hk hk2 h hX hB2 fin
  have ND := near_at_down b X B t k 0 0 hB hk hk2 h hX hB2
  have NN : t * 1024 + k = 0 → NearAt (sgn b X) B (sgn b (valN (t * 1024 + k))) 0 0 (sgn (1 - b) 1) true (decide ((t * 1024 + k) % 2 = 1)) := fun e => by
    obtain rfl : t = 0 := by omega
    obtain rfl : k = 0 := by omega
    exact near_at_nought b X B 0 0 hb hB h hB2
  obtain ⟨T, hTT⟩ : ∃ T, t * 1024 + k = T := ⟨_, rfl⟩
  rw [hTT] at NU ND NN hT ⊢
  clear h hk hk2 hX hB2 hTT hB
  have EX := half_exact b T hb hT
  have HP : Hid (∀ i : Nat, i < 31744 → ∀ w, Calls Try.prog 16 #[.int .u32 ((b * 32768 + i : Nat) : Int)] w fun e w' => e = .returned (.tuple #[.int .i64 (sgn b (valN i)), .bool true]) ∧ Below w.heap.size w w') := fun i hi w => half_exact b i hb hi w
  have HQ : Hid (∀ w, Calls Try.prog 16 #[.int .u32 ((b * 32768 + 31744 : Nat) : Int)] w fun e w' => e = .returned (.tuple #[.int .i64 0, .bool false]) ∧ Below w.heap.size w w') := fun w => half_inexact b hb w
  have HO : Hid (∀ w, Calls Try.prog 16 #[.int .u32 (((1 - b) * 32768 + 1 : Nat) : Int)] w fun e w' => e = .returned (.tuple #[.int .i64 (sgn (1 - b) 1), .bool true]) ∧ Below w.heap.size w w') := fun w => half_exact (1 - b) 1 (by omega) (by omega) w
  have A1 : Hid (bits .and .u32 ((b * 32768 + T : Nat) : Int) 32767 = (T : Int)) := and_low _ b T rfl hb (by omega)
  have A2 : Hid (bits .and .u32 ((b * 32768 + T : Nat) : Int) 32768 = ((b * 32768 : Nat) : Int)) := and_sign _ b T rfl hb (by omega)
  have A3 : Hid (bits .and .u32 ((b * 32768 + T : Nat) : Int) 1 = ((T % 2 : Nat) : Int)) := and_one _ b T rfl hb (by omega)
  have A4 : Hid (∀ i : Nat, i < 32768 → bits .or .u32 (i : Int) ((b * 32768 : Nat) : Int) = ((b * 32768 + i : Nat) : Int)) := fun i hi => or_sign b i hb hi
  have A5 : Hid (bits .xor .u32 (bits .or .u32 1 ((b * 32768 : Nat) : Int)) 32768 = (((1 - b) * 32768 + 1 : Nat) : Int)) := xor_one b hb
  have SZ : Hid (∀ n w, -9223372036854775807 ≤ n → Calls Try.prog 18 #[.int .i64 n] w fun e w' => e = .returned (.int .i64 ((n.natAbs : Nat) : Int)) ∧ w' = w) := fun n w h => sizeC n h w
  have HT31 : Hid (T < 31744) := hT
  have HNU : Hid (∀ fin, NearAt (sgn b X) B (sgn b (valN T)) 0 0 (sgn b (valN (T + 1))) fin (decide (T % 2 = 1))) := NU
  have HND : Hid (T ≠ 0 → NearAt (sgn b X) B (sgn b (valN T)) 0 0 (sgn b (valN (T - 1))) true (decide (T % 2 = 1))) := ND
  have HNN : Hid (T = 0 → NearAt (sgn b X) B (sgn b (valN T)) 0 0 (sgn (1 - b) 1) true (decide (T % 2 = 1))) := NN
  clear NU ND NN hT hb
  obtain ⟨Ri, hRi⟩ : ∃ R : Int, ((b * 32768 + T : Nat) : Int) = R := ⟨_, rfl⟩
  obtain ⟨Si, hSi⟩ : ∃ R : Int, ((b * 32768 : Nat) : Int) = R := ⟨_, rfl⟩
  obtain ⟨x, hx⟩ : ∃ x, sgn b X = x := ⟨_, rfl⟩
  obtain ⟨v, hv⟩ : ∃ v, sgn b (valN T) = v := ⟨_, rfl⟩
  obtain ⟨Oi, hOi⟩ : ∃ R : Int, (((1 - b) * 32768 + 1 : Nat) : Int) = R := ⟨_, rfl⟩
  obtain ⟨u, hu⟩ : ∃ u, sgn (1 - b) 1 = u := ⟨_, rfl⟩
  rw [hRi] at A1 A2 A3 EX ⊢
  rw [hSi] at A2 A4 A5
  rw [hx] at HNU HND HNN ⊢
  rw [hv] at HNU HND HNN EX
  rw [hOi] at HO A5
  rw [hu] at HO HNN
  clear hRi hSi hx hv hOi hu
  go_enter Try.func17, Try.ntmps17
  go_wp2_with fail
  refine (EX _).mono ?_
  rintro e w1 ⟨rfl, B1⟩
  have HB1 : Hid (Below w.heap.size w w1) := B1
  obtain ⟨g, hg⟩ : ∃ g, w1.heap.size = g := ⟨_, rfl⟩
  clear B1 EX
  go_wp2
  have k0 : (w1.alloc (.cells #[.int .i64 (-1), .int .i64 1] 3)).cell? ⟨g, 0, none⟩ = some (.int .i64 (-1)) := by rw [← hg]; simp
  have k1 : (w1.alloc (.cells #[.int .i64 (-1), .int .i64 1] 3)).cell? ⟨g, 1, none⟩ = some (.int .i64 1) := by rw [← hg]; simp
  have gl : g < (w1.alloc (.cells #[.int .i64 (-1), .int .i64 1] 3)).heap.size := by rw [← hg]; simp
  have HB2 : Hid (Below w.heap.size w (w1.alloc (.cells #[.int .i64 (-1), .int .i64 1] 3))) := bel_alloc HB1.out _
  generalize w1.alloc (.cells #[.int .i64 (-1), .int .i64 1] 3) = w2 at *
  clear hg HB1
  go_loopw [44] (fun i wr => ∃ j : Nat, j ≤ 2 ∧ i = .int .i64 j ∧ Hid (Below w2.heap.size w2 wr)) (fun i _ => 2 - (intOf i).toNat)
  case atStart => exact ⟨0, by omega, rfl, Below.refl _ _⟩
  case round =>
    obtain ⟨j, hj, rfl, hnx⟩ := hrel
    have c0 := (hnx.out.cell (p := ⟨g, 0, none⟩) gl).trans k0
    have c1 := (hnx.out.cell (p := ⟨g, 1, none⟩) gl).trans k1
    clear k0 k1
    rcases (by omega : j = 0 ∨ j = 1 ∨ j = 2) with rfl | rfl | rfl
    · by_cases hT0 : T = 0
      · have N := HNN.out hT0
        obtain ⟨n1, n2, n3, n4, n5, n6⟩ := N
        have n2' := n2 rfl
        have n4' := n4 rfl
        have n5' := n5 rfl
        have n6' := n6 rfl
        clear n2 n4 n5 n6
        have S0 : Hid (∀ w, Calls Try.prog 18 #[.int .i64 (x - v * (B : Int))] w fun e w' => e = .returned (.int .i64 (((x - v * (B : Int)).natAbs : Nat) : Int)) ∧ w' = w) := fun w => SZ.out _ w n3.1
        have S1 : Hid (∀ w, Calls Try.prog 18 #[.int .i64 (x - u * (B : Int))] w fun e w' => e = .returned (.int .i64 (((x - u * (B : Int)).natAbs : Nat) : Int)) ∧ w' = w) := fun w => SZ.out _ w n4'.1
        have D0 : Hid (wrap64 (v * (B : Int)) = v * (B : Int) ∧ wrap64 (x - v * (B : Int)) = x - v * (B : Int)) := ⟨n1, w63_ok _ (Int.le_trans (by decide) n3.1) n3.2⟩
        have D1 : Hid (wrap64 (u * (B : Int)) = u * (B : Int) ∧ wrap64 (x - u * (B : Int)) = x - u * (B : Int)) := ⟨n2', w63_ok _ (Int.le_trans (by decide) n4'.1) n4'.2⟩
        have LE : Hid ((((x - v * (B : Int)).natAbs : Nat) : Int) < (((x - u * (B : Int)).natAbs : Nat) : Int) ∨ ((((x - v * (B : Int)).natAbs : Nat) : Int) = (((x - u * (B : Int)).natAbs : Nat) : Int) ∧ decide (T % 2 = 1) = false)) := by
          rcases Nat.lt_or_ge (x - v * (B : Int)).natAbs (x - u * (B : Int)).natAbs with q | q
          · exact Or.inl (Int.ofNat_lt.2 q)
          · have qe : (x - v * (B : Int)).natAbs = (x - u * (B : Int)).natAbs := Nat.le_antisymm n5' q
            exact Or.inr ⟨congrArg _ qe, n6' qe⟩
        clear n1 n2' n3 n4' n5' n6'
        obtain ⟨V, hV⟩ : ∃ V, v * (B : Int) = V := ⟨_, rfl⟩
        obtain ⟨Wq, hW⟩ : ∃ V, u * (B : Int) = V := ⟨_, rfl⟩
        rw [hV] at S0 D0 LE
        rw [hW] at S1 D1 LE
        obtain ⟨E0, hE0⟩ : ∃ E, x - V = E := ⟨_, rfl⟩
        obtain ⟨E1, hE1⟩ : ∃ E, x - Wq = E := ⟨_, rfl⟩
        rw [hE0] at S0 D0 LE
        rw [hE1] at S1 D1 LE
        obtain ⟨a0, ha0⟩ : ∃ a : Int, ((E0.natAbs : Nat) : Int) = a := ⟨_, rfl⟩
        obtain ⟨a1, ha1⟩ : ∃ a : Int, ((E1.natAbs : Nat) : Int) = a := ⟨_, rfl⟩
        rw [ha0] at S0 LE
        rw [ha1] at S1 LE
        have hVh : Hid (v * (B : Int) = V ∧ x - V = E0) := ⟨hV, hE0⟩
        have hWh : Hid (u * (B : Int) = Wq ∧ x - Wq = E1) := ⟨hW, hE1⟩
        clear hV hW hE0 hE1 ha0 ha1
        have M0 : Hid (bits .and .u32 Ri 32767 = 0) := by have q := A1.out; rw [hT0] at q; exact q
        obtain ⟨J, hJ⟩ : ∃ J, bits .or .u32 (IntKind.u32.wrap (-1)) Si = J := ⟨_, rfl⟩
        have m0 := M0.out
        have m1 := A2.out
        have m5 := A5.out
        obtain ⟨Y, hY⟩ : ∃ Y, bits .or .u32 1 Si = Y := ⟨_, rfl⟩
        rw [hY] at m5
        go_wp2_with fail
        refine (HO.out _).mono ?_
        rintro e w3 ⟨rfl, B3⟩
        have HB3 : Hid (Below w2.heap.size w2 w3) := bel_step hnx.out B3
        clear m0 m1 m5 hY hJ B3 c0 c1
        obtain ⟨d0, d1⟩ := D0.out
        obtain ⟨d2, d3⟩ := hVh.out
        go_wp2_with fail
        refine (S0.out _).mono ?_
        rintro e w4 ⟨rfl, hw⟩
        obtain rfl := hw.symm
        clear d0 d1 d2 d3 S0 D0 hVh
        obtain ⟨d0, d1⟩ := D1.out
        obtain ⟨d2, d3⟩ := hWh.out
        go_wp2_with fail
        refine (S1.out _).mono ?_
        rintro e w5 ⟨rfl, hw⟩
        obtain rfl := hw.symm
        clear d0 d1 d2 d3 S1 D1 hWh
        have a3 := A3.out
        rcases LE.out with q | ⟨q, q2⟩
        · have q1 : ¬ a1 < a0 := by omega
          have q3 : (a0 == a1) = false := by simp; omega
          clear a3 LE
          go_wp2
          go_roundw
          case rel => exact ⟨1, by omega, by go_num, HB3⟩
          case measure => simp [intOf]
        · have q1 : ¬ a1 < a0 := by omega
          have q4 : ((T % 2 : Nat) : Int) = 0 := by have := of_decide_eq_false q2; omega
          rw [q4] at a3
          subst q
          clear LE q2 q4
          go_wp2
          go_roundw
          case rel => exact ⟨1, by omega, by go_num, HB3⟩
          case measure => simp [intOf]
      · have N := HND.out hT0
        obtain ⟨T', hT'⟩ : ∃ T', T = T' + 1 := ⟨T - 1, by omega⟩
        have hT2 : T - 1 = T' := by omega
        have hl : T' < 31744 := by have := HT31.out; omega
        rw [hT2] at N
        have hl2 : T' < 32768 := by omega
        have m6 : ¬ (T' : Int) < 0 := by omega
        have i1 : -9223372036854775808 ≤ (T : Int) + -1 ∧ (T : Int) + -1 ≤ 9223372036854775807 ∧ (T : Int) + -1 = T' := by omega
        have i2 : -9223372036854775808 ≤ (T : Int) ∧ (T : Int) ≤ 9223372036854775807 ∧ 0 ≤ (T' : Int) ∧ (T' : Int) ≤ 4294967295 := by omega
        clear hT' hT2
        obtain ⟨n1, n2, n3, n4, n5, n6⟩ := N
        have n2' := n2 rfl
        have n4' := n4 rfl
        have n5' := n5 rfl
        have n6' := n6 rfl
        clear n2 n4 n5 n6
        have S0 : Hid (∀ w, Calls Try.prog 18 #[.int .i64 (x - v * (B : Int))] w fun e w' => e = .returned (.int .i64 (((x - v * (B : Int)).natAbs : Nat) : Int)) ∧ w' = w) := fun w => SZ.out _ w n3.1
        have S1 : Hid (∀ w, Calls Try.prog 18 #[.int .i64 (x - (sgn b (valN T')) * (B : Int))] w fun e w' => e = .returned (.int .i64 (((x - (sgn b (valN T')) * (B : Int)).natAbs : Nat) : Int)) ∧ w' = w) := fun w => SZ.out _ w n4'.1
        have D0 : Hid (wrap64 (v * (B : Int)) = v * (B : Int) ∧ wrap64 (x - v * (B : Int)) = x - v * (B : Int)) := ⟨n1, w63_ok _ (Int.le_trans (by decide) n3.1) n3.2⟩
        have D1 : Hid (wrap64 ((sgn b (valN T')) * (B : Int)) = (sgn b (valN T')) * (B : Int) ∧ wrap64 (x - (sgn b (valN T')) * (B : Int)) = x - (sgn b (valN T')) * (B : Int)) := ⟨n2', w63_ok _ (Int.le_trans (by decide) n4'.1) n4'.2⟩
        have LE : Hid ((((x - v * (B : Int)).natAbs : Nat) : Int) < (((x - (sgn b (valN T')) * (B : Int)).natAbs : Nat) : Int) ∨ ((((x - v * (B : Int)).natAbs : Nat) : Int) = (((x - (sgn b (valN T')) * (B : Int)).natAbs : Nat) : Int) ∧ decide (T % 2 = 1) = false)) := by
          rcases Nat.lt_or_ge (x - v * (B : Int)).natAbs (x - (sgn b (valN T')) * (B : Int)).natAbs with q | q
          · exact Or.inl (Int.ofNat_lt.2 q)
          · have qe : (x - v * (B : Int)).natAbs = (x - (sgn b (valN T')) * (B : Int)).natAbs := Nat.le_antisymm n5' q
            exact Or.inr ⟨congrArg _ qe, n6' qe⟩
        clear n1 n2' n3 n4' n5' n6'
        obtain ⟨V, hV⟩ : ∃ V, v * (B : Int) = V := ⟨_, rfl⟩
        obtain ⟨Wq, hW⟩ : ∃ V, (sgn b (valN T')) * (B : Int) = V := ⟨_, rfl⟩
        rw [hV] at S0 D0 LE
        rw [hW] at S1 D1 LE
        obtain ⟨E0, hE0⟩ : ∃ E, x - V = E := ⟨_, rfl⟩
        obtain ⟨E1, hE1⟩ : ∃ E, x - Wq = E := ⟨_, rfl⟩
        rw [hE0] at S0 D0 LE
        rw [hE1] at S1 D1 LE
        obtain ⟨a0, ha0⟩ : ∃ a : Int, ((E0.natAbs : Nat) : Int) = a := ⟨_, rfl⟩
        obtain ⟨a1, ha1⟩ : ∃ a : Int, ((E1.natAbs : Nat) : Int) = a := ⟨_, rfl⟩
        rw [ha0] at S0 LE
        rw [ha1] at S1 LE
        have hVh : Hid (v * (B : Int) = V ∧ x - V = E0) := ⟨hV, hE0⟩
        have hWh : Hid ((sgn b (valN T')) * (B : Int) = Wq ∧ x - Wq = E1) := ⟨hW, hE1⟩
        clear hV hW hE0 hE1 ha0 ha1
        have m0 := A1.out
        have m1 := A2.out
        have m2 := A4.out T' hl2
        have m3 : wrap64 ((T : Int) + -1) = (T' : Int) := (w63_ok _ i1.1 i1.2.1).trans i1.2.2
        have m4 : IntKind.i64.wrap (T : Int) = T := i64w _ i2.1 i2.2.1
        have m5 : IntKind.u32.wrap (T' : Int) = T' := u32w _ i2.2.2.1 i2.2.2.2
        clear i1 i2
        go_wp2_with fail
        refine (HP.out T' hl _).mono ?_
        rintro e w3 ⟨rfl, B3⟩
        have HB3 : Hid (Below w2.heap.size w2 w3) := bel_step hnx.out B3
        clear m0 m1 m2 m3 m4 m5 m6 B3 c0 c1
        obtain ⟨d0, d1⟩ := D0.out
        obtain ⟨d2, d3⟩ := hVh.out
        go_wp2_with fail
        refine (S0.out _).mono ?_
        rintro e w4 ⟨rfl, hw⟩
        obtain rfl := hw.symm
        clear d0 d1 d2 d3 S0 D0 hVh
        obtain ⟨d0, d1⟩ := D1.out
        obtain ⟨d2, d3⟩ := hWh.out
        go_wp2_with fail
        refine (S1.out _).mono ?_
        rintro e w5 ⟨rfl, hw⟩
        obtain rfl := hw.symm
        clear d0 d1 d2 d3 S1 D1 hWh
        have a3 := A3.out
        rcases LE.out with q | ⟨q, q2⟩
        · have q1 : ¬ a1 < a0 := by omega
          have q3 : (a0 == a1) = false := by simp; omega
          clear a3 LE
          go_wp2
          go_roundw
          case rel => exact ⟨1, by omega, by go_num, HB3⟩
          case measure => simp [intOf]
        · have q1 : ¬ a1 < a0 := by omega
          have q4 : ((T % 2 : Nat) : Int) = 0 := by have := of_decide_eq_false q2; omega
          rw [q4] at a3
          subst q
          clear LE q2 q4
          go_wp2
          go_roundw
          case rel => exact ⟨1, by omega, by go_num, HB3⟩
          case measure => simp [intOf]
    · by_cases hTT : T + 1 = 31744
      · have m0 := A1.out
        have m1 := A2.out
        have m2 := A4.out 31744 (by omega)
        rw [show ((31744 : Nat) : Int) = 31744 by rfl] at m2
        have i1 : -9223372036854775808 ≤ (T : Int) + 1 ∧ (T : Int) + 1 ≤ 9223372036854775807 ∧ (T : Int) + 1 = 31744 := by omega
        have i2 : -9223372036854775808 ≤ (T : Int) ∧ (T : Int) ≤ 9223372036854775807 := by omega
        have m3 : wrap64 ((T : Int) + 1) = 31744 := (w63_ok _ i1.1 i1.2.1).trans i1.2.2
        have m4 : IntKind.i64.wrap (T : Int) = T := i64w _ i2.1 i2.2
        have m5 : IntKind.u32.wrap 31744 = 31744 := u32w _ (by decide) (by decide)
        clear hTT i1 i2
        go_wp2_with fail
        refine (HQ.out _).mono ?_
        rintro e w3 ⟨rfl, B3⟩
        have HB3 : Hid (Below w2.heap.size w2 w3) := bel_step hnx.out B3
        clear m0 m1 m2 m3 m4 m5 B3 c0 c1
        go_wp2
        go_roundw
        case rel => exact ⟨2, by omega, by go_num, HB3⟩
        case measure => simp [intOf]
      · have N := HNU.out true
        have hl : T + 1 < 31744 := by have := HT31.out; omega
        obtain ⟨T', hT'⟩ : ∃ T', T + 1 = T' := ⟨_, rfl⟩
        rw [hT'] at N hl
        have hl2 : T' < 32768 := by omega
        have m6 : ¬ (T' : Int) < 0 := by omega
        have i1 : -9223372036854775808 ≤ (T : Int) + 1 ∧ (T : Int) + 1 ≤ 9223372036854775807 ∧ (T : Int) + 1 = T' := by omega
        have i2 : -9223372036854775808 ≤ (T : Int) ∧ (T : Int) ≤ 9223372036854775807 ∧ 0 ≤ (T' : Int) ∧ (T' : Int) ≤ 4294967295 := by omega
        clear hT' hTT
        obtain ⟨n1, n2, n3, n4, n5, n6⟩ := N
        have n2' := n2 rfl
        have n4' := n4 rfl
        have n5' := n5 rfl
        have n6' := n6 rfl
        clear n2 n4 n5 n6
        have S0 : Hid (∀ w, Calls Try.prog 18 #[.int .i64 (x - v * (B : Int))] w fun e w' => e = .returned (.int .i64 (((x - v * (B : Int)).natAbs : Nat) : Int)) ∧ w' = w) := fun w => SZ.out _ w n3.1
        have S1 : Hid (∀ w, Calls Try.prog 18 #[.int .i64 (x - (sgn b (valN T')) * (B : Int))] w fun e w' => e = .returned (.int .i64 (((x - (sgn b (valN T')) * (B : Int)).natAbs : Nat) : Int)) ∧ w' = w) := fun w => SZ.out _ w n4'.1
        have D0 : Hid (wrap64 (v * (B : Int)) = v * (B : Int) ∧ wrap64 (x - v * (B : Int)) = x - v * (B : Int)) := ⟨n1, w63_ok _ (Int.le_trans (by decide) n3.1) n3.2⟩
        have D1 : Hid (wrap64 ((sgn b (valN T')) * (B : Int)) = (sgn b (valN T')) * (B : Int) ∧ wrap64 (x - (sgn b (valN T')) * (B : Int)) = x - (sgn b (valN T')) * (B : Int)) := ⟨n2', w63_ok _ (Int.le_trans (by decide) n4'.1) n4'.2⟩
        have LE : Hid ((((x - v * (B : Int)).natAbs : Nat) : Int) < (((x - (sgn b (valN T')) * (B : Int)).natAbs : Nat) : Int) ∨ ((((x - v * (B : Int)).natAbs : Nat) : Int) = (((x - (sgn b (valN T')) * (B : Int)).natAbs : Nat) : Int) ∧ decide (T % 2 = 1) = false)) := by
          rcases Nat.lt_or_ge (x - v * (B : Int)).natAbs (x - (sgn b (valN T')) * (B : Int)).natAbs with q | q
          · exact Or.inl (Int.ofNat_lt.2 q)
          · have qe : (x - v * (B : Int)).natAbs = (x - (sgn b (valN T')) * (B : Int)).natAbs := Nat.le_antisymm n5' q
            exact Or.inr ⟨congrArg _ qe, n6' qe⟩
        clear n1 n2' n3 n4' n5' n6'
        obtain ⟨V, hV⟩ : ∃ V, v * (B : Int) = V := ⟨_, rfl⟩
        obtain ⟨Wq, hW⟩ : ∃ V, (sgn b (valN T')) * (B : Int) = V := ⟨_, rfl⟩
        rw [hV] at S0 D0 LE
        rw [hW] at S1 D1 LE
        obtain ⟨E0, hE0⟩ : ∃ E, x - V = E := ⟨_, rfl⟩
        obtain ⟨E1, hE1⟩ : ∃ E, x - Wq = E := ⟨_, rfl⟩
        rw [hE0] at S0 D0 LE
        rw [hE1] at S1 D1 LE
        obtain ⟨a0, ha0⟩ : ∃ a : Int, ((E0.natAbs : Nat) : Int) = a := ⟨_, rfl⟩
        obtain ⟨a1, ha1⟩ : ∃ a : Int, ((E1.natAbs : Nat) : Int) = a := ⟨_, rfl⟩
        rw [ha0] at S0 LE
        rw [ha1] at S1 LE
        have hVh : Hid (v * (B : Int) = V ∧ x - V = E0) := ⟨hV, hE0⟩
        have hWh : Hid ((sgn b (valN T')) * (B : Int) = Wq ∧ x - Wq = E1) := ⟨hW, hE1⟩
        clear hV hW hE0 hE1 ha0 ha1
        have m0 := A1.out
        have m1 := A2.out
        have m2 := A4.out T' hl2
        have m3 : wrap64 ((T : Int) + 1) = (T' : Int) := (w63_ok _ i1.1 i1.2.1).trans i1.2.2
        have m4 : IntKind.i64.wrap (T : Int) = T := i64w _ i2.1 i2.2.1
        have m5 : IntKind.u32.wrap (T' : Int) = T' := u32w _ i2.2.2.1 i2.2.2.2
        clear i1 i2
        go_wp2_with fail
        refine (HP.out T' hl _).mono ?_
        rintro e w3 ⟨rfl, B3⟩
        have HB3 : Hid (Below w2.heap.size w2 w3) := bel_step hnx.out B3
        clear m0 m1 m2 m3 m4 m5 m6 B3 c0 c1
        obtain ⟨d0, d1⟩ := D0.out
        obtain ⟨d2, d3⟩ := hVh.out
        go_wp2_with fail
        refine (S0.out _).mono ?_
        rintro e w4 ⟨rfl, hw⟩
        obtain rfl := hw.symm
        clear d0 d1 d2 d3 S0 D0 hVh
        obtain ⟨d0, d1⟩ := D1.out
        obtain ⟨d2, d3⟩ := hWh.out
        go_wp2_with fail
        refine (S1.out _).mono ?_
        rintro e w5 ⟨rfl, hw⟩
        obtain rfl := hw.symm
        clear d0 d1 d2 d3 S1 D1 hWh
        have a3 := A3.out
        rcases LE.out with q | ⟨q, q2⟩
        · have q1 : ¬ a1 < a0 := by omega
          have q3 : (a0 == a1) = false := by simp; omega
          clear a3 LE
          go_wp2
          go_roundw
          case rel => exact ⟨2, by omega, by go_num, HB3⟩
          case measure => simp [intOf]
        · have q1 : ¬ a1 < a0 := by omega
          have q4 : ((T % 2 : Nat) : Int) = 0 := by have := of_decide_eq_false q2; omega
          rw [q4] at a3
          subst q
          clear LE q2 q4
          go_wp2
          go_roundw
          case rel => exact ⟨2, by omega, by go_num, HB3⟩
          case measure => simp [intOf]
    · go_wp2
      go_ret
      exact ⟨rfl, bel_step HB2.out hnx.out⟩

end Go.Proofs.Yteniijmnpgdpcaa

namespace Go.Proofs.Yteniijmnpgdpcaa
open Go.RowKit

set_option maxHeartbeats 4000000 in
set_option maxRecDepth 100000 in
theorem nearTop (b X B : Nat) (hb : b ≤ 1) (hB : 0 < B) (hX : X ≤ 4611686018427387904) (h : 1099243192320 * B ≤ X) (w : World) :
    Calls Try.prog 17 #[.int .u32 ((b * 32768 + 31744 : Nat) : Int), .int .i64 (sgn b X), .int .i64 (B : Int)] w fun e w' => e = .returned (.bool true) ∧ Below w.heap.size w w' := by
  have EX := half_inexact b hb
  have i1 : -9223372036854775807 ≤ sgn b X ∧ (sgn b X).natAbs = X := by unfold sgn; split <;> omega
  have SZ := sizeC (sgn b X) i1.1
  rw [i1.2] at SZ
  have i2 : -9223372036854775808 ≤ 1099243192320 * (B : Int) ∧ 1099243192320 * (B : Int) ≤ 9223372036854775807 := by omega
  have D0 : Hid (wrap64 (1099243192320 * (B : Int)) = 1099243192320 * (B : Int)) := w63_ok _ i2.1 i2.2
  have g1 : 1099243192320 * (B : Int) ≤ (X : Int) := by omega
  have hX0 : 0 < X := by omega
  clear i1 i2 h hX hB
  rcases (by omega : b = 0 ∨ b = 1) with rfl | rfl
  · have hx : sgn 0 X = (X : Int) := rfl
    rw [hx] at SZ ⊢
    have hx0 : ¬ (X : Int) < 0 := by omega
    have m0 : bits .and .u32 31744 32767 = 31744 := by decide
    rw [show ((0 * 32768 + 31744 : Nat) : Int) = 31744 by rfl] at EX ⊢
    generalize (X : Int) = x at *
    obtain ⟨P, hP⟩ : ∃ P, 1099243192320 * (B : Int) = P := ⟨_, rfl⟩
    rw [hP] at D0 g1
    have HP : Hid (1099243192320 * (B : Int) = P) := hP
    clear hX0 hb hx hP
    go_enter Try.func17, Try.ntmps17
    go_wp2_with fail
    refine (EX _).mono ?_
    rintro e w1 ⟨rfl, B1⟩
    go_wp2_with fail
    refine (SZ _).mono ?_
    rintro e w2 ⟨rfl, hw⟩
    obtain rfl := hw.symm
    have hP := HP.out
    have d0 := D0.out
    go_wp2
    go_ret
    exact ⟨congrArg (fun z => Ending.returned (.bool z)) (show (!decide (x < 0)) = true by simpa using hx0), B1⟩
  · have hx : sgn 1 X = -(X : Int) := rfl
    rw [hx] at SZ ⊢
    have hx0 : -(X : Int) < 0 := by omega
    have m0 : bits .and .u32 64512 32767 = 31744 := by decide
    rw [show ((1 * 32768 + 31744 : Nat) : Int) = 64512 by rfl] at EX ⊢
    obtain ⟨x, hxx⟩ : ∃ x : Int, -(X : Int) = x := ⟨_, rfl⟩
    rw [hxx] at SZ hx0 ⊢
    obtain ⟨P, hP⟩ : ∃ P, 1099243192320 * (B : Int) = P := ⟨_, rfl⟩
    rw [hP] at D0 g1
    have HP : Hid (1099243192320 * (B : Int) = P) := hP
    clear hX0 hb hx hP hxx
    go_enter Try.func17, Try.ntmps17
    go_wp2_with fail
    refine (EX _).mono ?_
    rintro e w1 ⟨rfl, B1⟩
    go_wp2_with fail
    refine (SZ _).mono ?_
    rintro e w2 ⟨rfl, hw⟩
    obtain rfl := hw.symm
    have hP := HP.out
    have d0 := D0.out
    go_wp2
    go_ret
    exact ⟨rfl, B1⟩

/-- What laws.near is to say yes to. -/
def NearOk (r x y : Int) : Prop := ∃ b X B t k : Nat, r = ((b * 32768 + min (t * 1024 + k) 31744 : Nat) : Int) ∧ x = sgn b X ∧ y = (B : Int) ∧ b ≤ 1 ∧ 0 < B ∧ k ≤ 2048 ∧ (t ≠ 0 → 1024 ≤ k) ∧ NearBy X B t k ∧ X ≤ 4611686018427387904 ∧ B ≤ 4398046511104
theorem nearYes (r x y : Int) (h : NearOk r x y) (w : World) :
    Calls Try.prog 17 #[.int .u32 r, .int .i64 x, .int .i64 y] w fun e w' => e = .returned (.bool true) ∧ Below w.heap.size w w' := by
  obtain ⟨b, X, B, t, k, rfl, rfl, rfl, hb, hB, hk, hk2, hN, hX, hB2⟩ := h
  rcases Nat.lt_or_ge (t * 1024 + k) 31744 with q | q
  · rw [Nat.min_eq_left (by omega)]
    exact nearFin b X B t k hb hB hk hk2 hN hX hB2 q w
  · rw [Nat.min_eq_right q]
    exact nearTop b X B hb hB hX (near_top X B t k hB hk hN q) w

theorem near_nought (B : Nat) : NearBy 0 B 0 0 := ⟨by omega, by omega, fun _ => rfl, fun h => absurd rfl h, by omega⟩

/-- Sums and differences. -/
theorem hv_ok (z : Int) (s : Bool) (hz : z.natAbs ≤ 4398046511104) : NearOk (hv z s) z 1 := by
  by_cases h0 : z = 0
  · subst h0
    rw [hv_zero]
    refine ⟨s.toNat, 0, 1, 0, 0, ?_, ?_, rfl, by cases s <;> decide, by omega, by omega, fun h => absurd rfl h, near_nought 1, by omega, by omega⟩
    · cases s <;> rfl
    · cases s <;> rfl
  · obtain ⟨t, k, hT, hk, hk2, hN⟩ := told_near z.natAbs (-24) false z.natAbs 1 24 (by omega) (by unfold big; omega) (by omega) (by omega) (by omega) (by simp) (by simp) (fun _ => by simp) (fun h => absurd h (by decide))
    rw [told_half _ (by unfold big; omega)] at hT
    by_cases hn : z < 0
    · refine ⟨1, z.natAbs, 1, t, k, ?_, ?_, rfl, by omega, by omega, hk, hk2, hN, by omega, by omega⟩
      · rw [← hT]; unfold hv; rw [if_pos hn]; omega
      · unfold sgn; rw [if_pos rfl]; omega
    · refine ⟨0, z.natAbs, 1, t, k, ?_, ?_, rfl, by omega, by omega, hk, hk2, hN, by omega, by omega⟩
      · rw [← hT]; unfold hv; rw [if_neg hn, if_neg h0]; omega
      · unfold sgn; rw [if_neg (by decide)]; omega

theorem zz_sgn (s : Bool) (m : Nat) (e : Int) : zz s m e = sgn s.toNat (m * 2 ^ (e + 24).toNat) := by unfold zz sgn; cases s <;> rfl
theorem sgn_prod (s1 s2 : Bool) (X Y : Nat) : sgn s1.toNat X * sgn s2.toNat Y = sgn (!(s1 == s2)).toNat (X * Y) := by
  unfold sgn; cases s1 <;> cases s2 <;> simp [Int.neg_mul, Int.mul_neg]
theorem sgn_abs (b X : Nat) : (sgn b X).natAbs = X := by unfold sgn; split <;> omega

/-- Products. -/
theorem mul_ok (a b r : Int) (ca : cl16 a = 0) (cb : cl16 b = 0) (hx : (exa a).natAbs < 1073741824) (hy : (exa b).natAbs < 1073741824)
    (hr : ∀ n1 n2 : Nat, vm16 a = n1 → vm16 b = n2 → r = ((!((a / 32768 % 2 == 1) == (b / 32768 % 2 == 1))).toNat : Int) * 32768 + ((min (toldOf 10 (-24) (n1 * n2) (ve16 a + ve16 b) false) 31744 : Nat) : Int)) :
    NearOk r (exa a * exa b) 16777216 := by
  obtain ⟨n1, g1, l1, e0, e1, ha⟩ := exa_zz a ca
  obtain ⟨n2, g2, l2, f0, f1, hb⟩ := exa_zz b cb
  have hr' := hr n1 n2 g1 g2
  rw [ha] at hx ⊢
  rw [hb] at hy ⊢
  rw [zz_sgn] at hx hy
  rw [zz_sgn, zz_sgn, sgn_prod]
  rw [sgn_abs] at hx hy
  generalize (a / 32768 % 2 == 1) = s1 at *
  generalize (b / 32768 % 2 == 1) = s2 at *
  generalize ve16 a = z1 at *
  generalize ve16 b = z2 at *
  obtain ⟨sg, hsg⟩ : ∃ sg, (!(s1 == s2)) = sg := ⟨_, rfl⟩
  rw [hsg] at hr' ⊢
  have hsb : sg.toNat ≤ 1 := by cases sg <;> decide
  have hXY : n1 * 2 ^ (z1 + 24).toNat * (n2 * 2 ^ (z2 + 24).toNat) = n1 * n2 * 2 ^ (z1 + z2 + 48).toNat := by
    rw [Nat.mul_mul_mul_comm, ← Nat.pow_add]
    congr 2
    omega
  have hlim : n1 * 2 ^ (z1 + 24).toNat * (n2 * 2 ^ (z2 + 24).toNat) ≤ 1073741824 * 1073741824 := Nat.mul_le_mul (by omega) (by omega)
  rw [hXY] at hlim ⊢
  by_cases h0 : n1 * n2 = 0
  · rw [h0] at hr' ⊢
    have ht : toldOf 10 (-24) 0 (z1 + z2) false = 0 := by unfold toldOf; rw [if_pos rfl]
    rw [ht] at hr'
    refine ⟨sg.toNat, 0, 16777216, 0, 0, ?_, by rw [Nat.zero_mul], rfl, hsb, by omega, by omega, fun h => absurd rfl h, near_nought _, by omega, by omega⟩
    rw [hr']; simp
  · have hb : n1 * n2 < 2048 * 2048 := Nat.lt_of_le_of_lt (Nat.mul_le_mul (show n1 ≤ 2047 by omega) (show n2 ≤ 2047 by omega)) (by decide)
    have hM : n1 * n2 * 2 ^ (z1 + z2 + 48).toNat * 2 ^ (48 - 24) = n1 * n2 * (2 ^ (z1 + z2 + ((48 : Nat) : Int)).toNat * 16777216) := by
      rw [Nat.mul_assoc, show (2 : Nat) ^ (48 - 24) = 16777216 by decide]
      rfl
    have hpos : 0 < 2 ^ (z1 + z2 + ((48 : Nat) : Int)).toNat * 16777216 := Nat.mul_pos (Nat.two_pow_pos _) (by decide)
    obtain ⟨t, k, hT, hk, hk2, hN⟩ := told_near (n1 * n2) (z1 + z2) false (n1 * n2 * 2 ^ (z1 + z2 + 48).toNat) 16777216 48 h0 (by unfold big; omega) (by omega) (by omega) (by omega) (by rw [hM]; exact Nat.le_refl _) (by rw [hM, Nat.succ_mul]; omega) (fun _ => hM) (fun h => absurd h (by decide))
    rw [hT] at hr'
    exact ⟨sg.toNat, _, 16777216, t, k, by rw [hr']; omega, rfl, rfl, hsb, by omega, hk, hk2, hN, Nat.le_trans hlim (by decide), by omega⟩

/-- Quotients. -/
theorem div_ok (a b r : Int) (ca : cl16 a = 0) (cb : cl16 b = 0) (hx : (exa a).natAbs < 274877906944) (hy : exa b ≠ 0)
    (hr : ∀ n1 n2 : Nat, vm16 a = n1 → vm16 b = n2 → n2 ≠ 0 → (n1 = 0 → r = ((!((a / 32768 % 2 == 1) == (b / 32768 % 2 == 1))).toNat : Int) * 32768) ∧ (n1 ≠ 0 → ∃ U, U + Lib.bitLen n1 = 60 ∧ r = ((!((a / 32768 % 2 == 1) == (b / 32768 % 2 == 1))).toNat : Int) * 32768 + ((min (toldOf 10 (-24) (n1 * 2 ^ U / n2) (ve16 a - U - ve16 b) (decide (n1 * 2 ^ U % n2 ≠ 0))) 31744 : Nat) : Int))) :
    NearOk r ((if exa b < 0 then -exa a else exa a) * 16777216) ((exa b).natAbs : Nat) := by
  have ly := (exa_F b cb).2
  obtain ⟨n1, g1, l1, e0, e1, ha⟩ := exa_zz a ca
  obtain ⟨n2, g2, l2, f0, f1, hb⟩ := exa_zz b cb
  rw [ha] at hx ⊢
  rw [hb] at hy ly ⊢
  rw [zz_sgn] at hx hy ly
  rw [zz_sgn, zz_sgn]
  rw [sgn_abs] at hx ly ⊢
  have hn2 : n2 ≠ 0 := by rintro rfl; apply hy; rw [Nat.zero_mul]; unfold sgn; split <;> rfl
  obtain ⟨q0, q1⟩ := hr n1 n2 g1 g2 hn2
  clear hr ha hb ca cb g1 g2
  generalize (a / 32768 % 2 == 1) = s1 at *
  generalize (b / 32768 % 2 == 1) = s2 at *
  generalize ve16 a = z1 at *
  generalize ve16 b = z2 at *
  obtain ⟨sg, hsg⟩ : ∃ sg, (!(s1 == s2)) = sg := ⟨_, rfl⟩
  have hsb : sg.toNat ≤ 1 := by cases sg <;> decide
  obtain ⟨X, hX⟩ : ∃ X, n1 * 2 ^ (z1 + 24).toNat = X := ⟨_, rfl⟩
  obtain ⟨Y, hY⟩ : ∃ Y, n2 * 2 ^ (z2 + 24).toNat = Y := ⟨_, rfl⟩
  have hY0 : 0 < Y := by rw [← hY]; exact Nat.mul_pos (by omega) (Nat.two_pow_pos _)
  have hflip : (if sgn s2.toNat Y < 0 then -sgn s1.toNat X else sgn s1.toNat X) * 16777216 = sgn sg.toNat (X * 16777216) := by
    rw [← hsg]
    unfold sgn
    cases s1 <;> cases s2 <;> simp <;> omega
  rw [hX] at hx ⊢
  rw [hY] at ly ⊢
  rw [hflip]
  rw [hsg] at q0 q1
  by_cases h0 : n1 = 0
  · have hX0 : X = 0 := by rw [← hX, h0, Nat.zero_mul]
    rw [hX0]
    refine ⟨sg.toNat, 0, Y, 0, 0, ?_, by rw [Nat.zero_mul], rfl, hsb, hY0, by omega, fun h => absurd rfl h, near_nought _, by omega, by omega⟩
    rw [q0 h0]; simp
  · obtain ⟨U, hU, hr⟩ := q1 h0
    clear q0 q1
    obtain ⟨b1, b2, b3, b4⟩ := bl_is n1 (by omega) h0
    have hL : Lib.bitLen n1 ≤ 11 := bl_le n1 11 (by omega) (by omega)
    have N1 : 2 ^ 59 ≤ n1 * 2 ^ U := by
      refine Nat.le_trans ?_ (Nat.mul_le_mul_right _ b3)
      rw [← Nat.pow_add]
      exact Nat.pow_le_pow_right (by omega) (by omega)
    have N2 : n1 * 2 ^ U < 2 ^ 60 := by
      have h := Nat.mul_lt_mul_of_pos_right b4 (Nat.two_pow_pos U)
      rw [← Nat.pow_add, show Lib.bitLen n1 + U = 60 by omega] at h
      exact h
    have hle : n1 * 2 ^ U / n2 ≤ n1 * 2 ^ U := Nat.div_le_self _ _
    have hM12 : 2 ^ 12 ≤ n1 * 2 ^ U / n2 := by
      rw [Nat.le_div_iff_mul_le (by omega)]
      have p11 : (2 : Nat) ^ 11 = 2048 := by decide
      refine Nat.le_trans (Nat.mul_le_mul_left _ (show n2 ≤ 2 ^ 11 by omega)) ?_
      refine Nat.le_trans ?_ N1
      decide
    -- both by one power of two
    have hXX : X * 16777216 * 2 ^ (100 - 24) = n1 * 2 ^ U * 2 ^ (z1 - U + 124).toNat := by
      rw [← hX, show (16777216 : Nat) = 2 ^ 24 by decide, Nat.mul_assoc, Nat.mul_assoc, Nat.mul_assoc, ← Nat.pow_add, ← Nat.pow_add, ← Nat.pow_add]
      congr 2
      omega
    have hYY : 2 ^ (z1 - U - z2 + ((100 : Nat) : Int)).toNat * Y = n2 * 2 ^ (z1 - U + 124).toNat := by
      rw [← hY, Nat.mul_left_comm, ← Nat.pow_add]
      congr 2
      omega
    have hpw := Nat.two_pow_pos (z1 - U + 124).toNat
    have dm := Nat.div_add_mod (n1 * 2 ^ U) n2
    have ml := Nat.mod_lt (n1 * 2 ^ U) (show 0 < n2 by omega)
    obtain ⟨M, hM⟩ : ∃ M, n1 * 2 ^ U / n2 = M := ⟨_, rfl⟩
    obtain ⟨Rr, hRr⟩ : ∃ Rr, n1 * 2 ^ U % n2 = Rr := ⟨_, rfl⟩
    obtain ⟨NN, hNN⟩ : ∃ NN, n1 * 2 ^ U = NN := ⟨_, rfl⟩
    rw [hM, hRr] at hr
    rw [hM] at hle hM12 dm
    rw [hRr] at dm ml
    rw [hNN] at hXX dm hle N1 N2
    rw [Nat.mul_comm n2 M] at dm
    have p12 : (2 : Nat) ^ 12 = 4096 := by decide
    have p60 : (2 : Nat) ^ 60 = 1152921504606846976 := by decide
    have hM0 : M ≠ 0 := by omega
    have hMb : big M := by unfold big; omega
    obtain ⟨t, k, hT, hk, hk2, hN⟩ := told_near M (z1 - U - z2) (decide (Rr ≠ 0)) (X * 16777216) Y 100 hM0 hMb (by omega) (by omega) hY0
      (by rw [hXX, hYY, ← Nat.mul_assoc]; exact Nat.mul_le_mul_right _ (by omega))
      (by rw [hXX, hYY, ← Nat.mul_assoc]; refine Nat.mul_lt_mul_of_pos_right ?_ hpw; rw [Nat.succ_mul]; omega)
      (fun h => by
        have : Rr = 0 := by simpa using h
        rw [hXX, hYY, ← Nat.mul_assoc]; congr 1; omega)
      (fun h => ⟨hM12, by
        have : Rr ≠ 0 := by simpa using h
        rw [hXX, hYY, ← Nat.mul_assoc]; refine Nat.mul_lt_mul_of_pos_right ?_ hpw; omega⟩)
    rw [hT] at hr
    exact ⟨sg.toNat, _, Y, t, k, by rw [hr]; omega, rfl, rfl, hsb, hY0, hk, hk2, hN, by omega, by omega⟩

end Go.Proofs.Yteniijmnpgdpcaa

namespace Go.Proofs.Yteniijmnpgdpcaa
open Go.RowKit

theorem sumK (k a b : Int) (hk : k = 16 ∨ k = 32 ∨ k = 64) (a0 : 0 ≤ a) (a1 : a ≤ 4294967295) (b0 : 0 ≤ b) (b1 : b ≤ 4294967295) : ∃ r : Int,
    (∀ w, Calls Try.prog 12 #[.int .i64 k, .int .u32 a, .int .u32 b] w fun x w' => x = .returned (.int .u32 r) ∧ Below w.heap.size w w') ∧
    (∀ w, Calls Try.prog 8 #[.int .i64 k, .int .u32 a, .int .u32 b] w fun x w' => x = .returned (.int .u32 r) ∧ Below w.heap.size w w') ∧
    (∀ w, Calls Try.prog 8 #[.int .i64 k, .int .u32 b, .int .u32 a] w fun x w' => x = .returned (.int .u32 r) ∧ Below w.heap.size w w') ∧
    (k = 16 → cl16 a = 0 → cl16 b = 0 → NearOk r (exa a + exa b) 1) := by
  rcases hk with rfl | rfl | rfl
  · obtain ⟨r, S, I, J, hf, _⟩ := addHalfC a b a0 a1 b0 b1
    refine ⟨r, S, I, J, fun _ ca cb => ?_⟩
    obtain ⟨s, hs⟩ := hf ca cb
    have := (exa_F a ca).2
    have := (exa_F b cb).2
    rw [hs]
    exact hv_ok _ s (by omega)
  · obtain ⟨r, S, I, J⟩ := bothFAddC32 a b a0 a1 b0 b1
    exact ⟨r, S, I, J, fun h => absurd h (by decide)⟩
  · exact ⟨0, (noFAdd 64 a b (by decide) (by decide)).1, (noFAdd 64 a b (by decide) (by decide)).2, (noFAdd 64 b a (by decide) (by decide)).2, fun h => absurd h (by decide)⟩
theorem difK (k a b : Int) (hk : k = 16 ∨ k = 32 ∨ k = 64) (a0 : 0 ≤ a) (a1 : a ≤ 4294967295) (b0 : 0 ≤ b) (b1 : b ≤ 4294967295) : ∃ r : Int,
    (∀ w, Calls Try.prog 13 #[.int .i64 k, .int .u32 a, .int .u32 b] w fun x w' => x = .returned (.int .u32 r) ∧ Below w.heap.size w w') ∧
    (∀ w, Calls Try.prog 9 #[.int .i64 k, .int .u32 a, .int .u32 b] w fun x w' => x = .returned (.int .u32 r) ∧ Below w.heap.size w w') ∧
    (k = 16 → cl16 a = 0 → cl16 b = 0 → NearOk r (exa a - exa b) 1) := by
  rcases hk with rfl | rfl | rfl
  · obtain ⟨r, S, I, hf, _⟩ := subHalf a b a0 a1 b0 b1
    refine ⟨r, S, I, fun _ ca cb => ?_⟩
    obtain ⟨s, hs⟩ := hf ca cb
    have := (exa_F a ca).2
    have := (exa_F b cb).2
    rw [hs]
    exact hv_ok _ s (by omega)
  · obtain ⟨r, S, I⟩ := bothFSub32 a b a0 a1 b0 b1
    exact ⟨r, S, I, fun h => absurd h (by decide)⟩
  · exact ⟨0, (noFSub 64 a b (by decide) (by decide)).1, (noFSub 64 a b (by decide) (by decide)).2, fun h => absurd h (by decide)⟩
theorem mulK (k a b : Int) (hk : k = 16 ∨ k = 32 ∨ k = 64) (a0 : 0 ≤ a) (a1 : a ≤ 4294967295) (b0 : 0 ≤ b) (b1 : b ≤ 4294967295) : ∃ r : Int,
    (∀ w, Calls Try.prog 14 #[.int .i64 k, .int .u32 a, .int .u32 b] w fun x w' => x = .returned (.int .u32 r) ∧ Below w.heap.size w w') ∧
    (∀ w, Calls Try.prog 10 #[.int .i64 k, .int .u32 a, .int .u32 b] w fun x w' => x = .returned (.int .u32 r) ∧ Below w.heap.size w w') ∧
    (∀ w, Calls Try.prog 10 #[.int .i64 k, .int .u32 b, .int .u32 a] w fun x w' => x = .returned (.int .u32 r) ∧ Below w.heap.size w w') ∧
    (k = 16 → cl16 a = 0 → cl16 b = 0 → (exa a).natAbs < 1073741824 → (exa b).natAbs < 1073741824 → NearOk r (exa a * exa b) 16777216) := by
  rcases hk with rfl | rfl | rfl
  · obtain ⟨r, S, I, J, hf⟩ := mulBothC16 a b a0 a1 b0 b1
    exact ⟨r, S, I, J, fun _ ca cb hx hy => mul_ok a b r ca cb hx hy (hf ca cb)⟩
  · obtain ⟨r, S, I, J, _⟩ := mulBothC32 a b a0 a1 b0 b1
    exact ⟨r, S, I, J, fun h => absurd h (by decide)⟩
  · exact ⟨0, (mulNo 64 a b (by decide) (by decide)).1, (mulNo 64 a b (by decide) (by decide)).2, (mulNo 64 b a (by decide) (by decide)).2, fun h => absurd h (by decide)⟩
theorem quoK (k a b : Int) (hk : k = 16 ∨ k = 32 ∨ k = 64) (a0 : 0 ≤ a) (a1 : a ≤ 4294967295) (b0 : 0 ≤ b) (b1 : b ≤ 4294967295) : ∃ r : Int,
    (∀ w, Calls Try.prog 15 #[.int .i64 k, .int .u32 a, .int .u32 b] w fun x w' => x = .returned (.int .u32 r) ∧ Below w.heap.size w w') ∧
    (∀ w, Calls Try.prog 11 #[.int .i64 k, .int .u32 a, .int .u32 b] w fun x w' => x = .returned (.int .u32 r) ∧ Below w.heap.size w w') ∧
    (k = 16 → cl16 a = 0 → cl16 b = 0 → (exa a).natAbs < 274877906944 → exa b ≠ 0 → NearOk r ((if exa b < 0 then -exa a else exa a) * 16777216) ((exa b).natAbs : Nat)) := by
  rcases hk with rfl | rfl | rfl
  · obtain ⟨r, S, I, hf⟩ := divHalf a b a0 a1 b0 b1
    exact ⟨r, S, I, fun _ ca cb hx hy => div_ok a b r ca cb hx hy (hf ca cb)⟩
  · obtain ⟨r, S, I⟩ := divBoth32 a b a0 a1 b0 b1
    exact ⟨r, S, I, fun h => absurd h (by decide)⟩
  · exact ⟨0, (divNo 64 a b (by decide) (by decide)).1, (divNo 64 a b (by decide) (by decide)).2, fun h => absurd h (by decide)⟩

theorem sum_ok2 (X Y : Int) (lx : X.natAbs ≤ 1098974756864) (ly : Y.natAbs ≤ 1098974756864) : wrap64 (X + Y) = X + Y ∧ wrap64 (X - Y) = X - Y := ⟨w64_ok _ (by omega) (by omega), w64_ok _ (by omega) (by omega)⟩
theorem prod_ok2 (X Y : Int) (lx : X.natAbs < 1073741824) (ly : Y.natAbs < 1073741824) : wrap64 (X * Y) = X * Y := by
  have h : (X * Y).natAbs ≤ 1073741824 * 1073741824 := by rw [Int.natAbs_mul]; exact Nat.mul_le_mul (by omega) (by omega)
  exact w64_ok _ (by omega) (by omega)
theorem shift_ok2 (X : Int) (lx : X.natAbs < 274877906944) : wrap64 (X * 2 ^ 24) = X * 16777216 ∧ wrap64 (X * 16777216) = X * 16777216 := by
  have e : (2 : Int) ^ 24 = 16777216 := by decide
  rw [e]
  exact ⟨w63_ok _ (by omega) (by omega), w63_ok _ (by omega) (by omega)⟩
theorem size_lo (X : Int) (lx : X.natAbs ≤ 1098974756864) : -9223372036854775807 ≤ X := by omega
theorem neg_w (X : Int) (lx : X.natAbs ≤ 1098974756864) : wrap64 (-X) = -X := w64_ok _ (by omega) (by omega)


set_option maxHeartbeats 8000000 in
set_option maxRecDepth 2000000 in
theorem roundedB (a1 : Option Addr) (n1 c1 : Nat) (w : World) (h1 : Bys w a1 n1 w.heap.size) :
    Calls Try.prog 3 #[.slice a1 n1 c1] w fun e w' => e = .returned (.bool true) ∧ Below w.heap.size w w' := by
  obtain ⟨N, hN⟩ : ∃ N : Int, (n1 : Int) = N := ⟨_, rfl⟩
  by_cases hlen : 1048576 < N
  · go_enter Try.func3, Try.ntmps3
    go_wp2
    go_ret
    exact ⟨rfl, Below.refl _ _⟩
  · go_enter Try.func3, Try.ntmps3
    go_wp2_with fail
    refine (drawFAdd a1 n1 c1 w h1).mono ?_
    rintro e w1 ⟨k, a, b, hk, x0, x1, y0, y1, rfl, B1⟩
    have HB1 : Hid (Below w.heap.size w w1) := B1
    clear hlen hN h1 B1
    obtain ⟨s, SA, IA, JA, NA⟩ := sumK k a b hk x0 x1 y0 y1
    obtain ⟨d, SD, ID, ND⟩ := difK k a b hk x0 x1 y0 y1
    obtain ⟨m, SM, IM, JM, NM⟩ := mulK k a b hk x0 x1 y0 y1
    obtain ⟨q, SQ, IQ, NQ⟩ := quoK k a b hk x0 x1 y0 y1
    have HNA : Hid (k = 16 → cl16 a = 0 → cl16 b = 0 → NearOk s (exa a + exa b) 1) := NA
    have HND : Hid (k = 16 → cl16 a = 0 → cl16 b = 0 → NearOk d (exa a - exa b) 1) := ND
    have HNM : Hid (k = 16 → cl16 a = 0 → cl16 b = 0 → (exa a).natAbs < 1073741824 → (exa b).natAbs < 1073741824 → NearOk m (exa a * exa b) 16777216) := NM
    have HNQ : Hid (k = 16 → cl16 a = 0 → cl16 b = 0 → (exa a).natAbs < 274877906944 → exa b ≠ 0 → NearOk q ((if exa b < 0 then -exa a else exa a) * 16777216) ((exa b).natAbs : Nat)) := NQ
    have EA : Hid (∀ w, Calls Try.prog 16 #[.int .u32 a] w fun e w' => e = .returned (.tuple #[.int .i64 (exV a), .bool (exB a)]) ∧ Below w.heap.size w w') := exactAny a x0 x1
    have EB : Hid (∀ w, Calls Try.prog 16 #[.int .u32 b] w fun e w' => e = .returned (.tuple #[.int .i64 (exV b), .bool (exB b)]) ∧ Below w.heap.size w w') := exactAny b y0 y1
    clear NA ND NM NQ x0 x1 y0 y1 hk
    go_wp2_with fail
    refine (IA _).mono ?_
    rintro e w2 ⟨rfl, B2⟩
    have HB2 : Hid (Below w.heap.size w w2) := bel_step HB1.out B2
    clear B2 HB1
    go_wp2_with fail
    refine (ID _).mono ?_
    rintro e w3 ⟨rfl, B3⟩
    have HB3 : Hid (Below w.heap.size w w3) := bel_step HB2.out B3
    clear B3 HB2
    go_wp2_with fail
    refine (IM _).mono ?_
    rintro e w4 ⟨rfl, B4⟩
    have HB4 : Hid (Below w.heap.size w w4) := bel_step HB3.out B4
    clear B4 HB3
    go_wp2_with fail
    refine (IQ _).mono ?_
    rintro e w5 ⟨rfl, B5⟩
    have HB5 : Hid (Below w.heap.size w w5) := bel_step HB4.out B5
    clear B5 HB4
    go_wp2_with fail
    refine (SA _).mono ?_
    rintro e w6 ⟨rfl, B6⟩
    have HB6 : Hid (Below w.heap.size w w6) := bel_step HB5.out B6
    clear B6 HB5
    go_wp2_with fail
    refine (SD _).mono ?_
    rintro e w7 ⟨rfl, B7⟩
    have HB7 : Hid (Below w.heap.size w w7) := bel_step HB6.out B7
    clear B7 HB6
    go_wp2_with fail
    refine (SM _).mono ?_
    rintro e w8 ⟨rfl, B8⟩
    have HB8 : Hid (Below w.heap.size w w8) := bel_step HB7.out B8
    clear B8 HB7
    go_wp2_with fail
    refine (SQ _).mono ?_
    rintro e w9 ⟨rfl, B9⟩
    have HB9 : Hid (Below w.heap.size w w9) := bel_step HB8.out B9
    clear B9 HB8
    go_wp2_with fail
    refine (JA _).mono ?_
    rintro e w10 ⟨rfl, B10⟩
    have HB10 : Hid (Below w.heap.size w w10) := bel_step HB9.out B10
    clear B10 HB9
    go_wp2_with fail
    refine (JM _).mono ?_
    rintro e w11 ⟨rfl, B11⟩
    have HB11 : Hid (Below w.heap.size w w11) := bel_step HB10.out B11
    clear B11 HB10
    clear IA ID IM IQ SA SD SM SQ JA JM
    by_cases h16 : k = 16
    rotate_left
    · clear HNA HND HNM HNQ EA EB
      go_wp2
      go_ret
      exact ⟨rfl, HB11.out⟩
    subst h16
    go_wp2_with fail
    refine (EA.out _).mono ?_
    rintro e w12 ⟨rfl, B12⟩
    have HB12 : Hid (Below w.heap.size w w12) := bel_step HB11.out B12
    clear B12 HB11
    go_wp2_with fail
    refine (EB.out _).mono ?_
    rintro e w13 ⟨rfl, B13⟩
    have HB13 : Hid (Below w.heap.size w w13) := bel_step HB12.out B13
    clear B13 HB12
    clear EA EB
    by_cases ca : cl16 a = 0
    rotate_left
    · have ea : exB a = false := decide_eq_false ca
      rw [ea]
      clear HNA HND HNM HNQ
      go_wp2
      go_ret
      exact ⟨rfl, HB13.out⟩
    by_cases cb : cl16 b = 0
    rotate_left
    · have ea : exB a = true := decide_eq_true ca
      have eb : exB b = false := decide_eq_false cb
      rw [ea, eb]
      clear HNA HND HNM HNQ
      go_wp2
      go_ret
      exact ⟨rfl, HB13.out⟩
    have ea : exB a = true := decide_eq_true ca
    have eb : exB b = true := decide_eq_true cb
    have va : exV a = exa a := if_pos ca
    have vb : exV b = exa b := if_pos cb
    rw [ea, eb, va, vb]
    have lx := (exa_F a ca).2
    have ly := (exa_F b cb).2
    have QA : Hid (∀ w, Calls Try.prog 17 #[.int .u32 s, .int .i64 (exa a + exa b), .int .i64 1] w fun e w' => e = .returned (.bool true) ∧ Below w.heap.size w w') := nearYes _ _ _ (HNA.out (by trivial) ca cb)
    have QD : Hid (∀ w, Calls Try.prog 17 #[.int .u32 d, .int .i64 (exa a - exa b), .int .i64 1] w fun e w' => e = .returned (.bool true) ∧ Below w.heap.size w w') := nearYes _ _ _ (HND.out (by trivial) ca cb)
    have QM : Hid ((exa a).natAbs < 1073741824 → (exa b).natAbs < 1073741824 → ∀ w, Calls Try.prog 17 #[.int .u32 m, .int .i64 (exa a * exa b), .int .i64 16777216] w fun e w' => e = .returned (.bool true) ∧ Below w.heap.size w w') := fun h1 h2 => nearYes _ _ _ (HNM.out (by trivial) ca cb h1 h2)
    have QQ : Hid ((exa a).natAbs < 274877906944 → exa b ≠ 0 → ∀ w, Calls Try.prog 17 #[.int .u32 q, .int .i64 ((if exa b < 0 then -exa a else exa a) * 16777216), .int .i64 (((exa b).natAbs : Nat) : Int)] w fun e w' => e = .returned (.bool true) ∧ Below w.heap.size w w') := fun h1 h2 => nearYes _ _ _ (HNQ.out (by trivial) ca cb h1 h2)
    clear HNA HND HNM HNQ ca cb ea eb va vb
    generalize exa a = X at *
    generalize exa b = Y at *
    have ZX := sizeC X (size_lo X lx)
    have ZY := sizeC Y (size_lo Y ly)
    have HL : Hid (X.natAbs ≤ 1098974756864 ∧ Y.natAbs ≤ 1098974756864) := ⟨lx, ly⟩
    clear lx ly
    obtain ⟨u1, u2⟩ := sum_ok2 X Y HL.out.1 HL.out.2
    go_wp2_with fail
    refine (QA.out _).mono ?_
    rintro e w14 ⟨rfl, B14⟩
    have HB14 : Hid (Below w.heap.size w w14) := bel_step HB13.out B14
    clear B14 HB13
    go_wp2_with fail
    refine (QD.out _).mono ?_
    rintro e w15 ⟨rfl, B15⟩
    have HB15 : Hid (Below w.heap.size w w15) := bel_step HB14.out B15
    clear B15 HB14
    clear u1 u2 QA QD
    obtain ⟨nx, hnx⟩ : ∃ nx, X.natAbs = nx := ⟨_, rfl⟩
    obtain ⟨ny, hny⟩ : ∃ ny, Y.natAbs = ny := ⟨_, rfl⟩
    rw [hnx] at ZX
    rw [hny] at ZY
    have HNX : Hid (X.natAbs = nx ∧ Y.natAbs = ny) := ⟨hnx, hny⟩
    clear hnx hny
    obtain ⟨NX, hNX⟩ : ∃ NX : Int, (nx : Int) = NX := ⟨_, rfl⟩
    obtain ⟨NY, hNY⟩ : ∃ NY : Int, (ny : Int) = NY := ⟨_, rfl⟩
    rw [hNX] at ZX
    rw [hNY] at ZY
    have HNI : Hid ((nx : Int) = NX ∧ (ny : Int) = NY) := ⟨hNX, hNY⟩
    clear hNX hNY
    have REST : Hid (∀ wq : World, Below w.heap.size w wq → True) := fun _ _ => trivial
    clear REST
    go_wp2_with fail
    refine (ZX _).mono ?_
    rintro e wu ⟨rfl, hw⟩
    obtain rfl := hw.symm
    by_cases hX30 : NX < 1073741824
    · go_wp2_with fail
      refine (ZY _).mono ?_
      rintro e wu ⟨rfl, hw⟩
      obtain rfl := hw.symm
      by_cases hY30 : NY < 1073741824
      · have s1 : X.natAbs < 1073741824 := by have h1 := HNX.out; have h2 := HNI.out; omega
        have s2 : Y.natAbs < 1073741824 := by have h1 := HNX.out; have h2 := HNI.out; omega
        have u3 := prod_ok2 X Y s1 s2
        have QM2 := QM.out s1 s2
        clear s1 s2
        go_wp2_with fail
        refine (QM2 _).mono ?_
        rintro e w16 ⟨rfl, B16⟩
        have HB16 : Hid (Below w.heap.size w w16) := bel_step HB15.out B16
        clear B16 HB15
        clear u3 QM2
        by_cases hY : Y = 0
        · have hY' : (Y == 0) = true := by simp [hY]
          clear QQ QM
          go_wp2
          go_ret
          exact ⟨rfl, HB16.out⟩
        have hY' : (Y == 0) = false := by simp [hY]
        go_wp2_with fail
        refine (ZX _).mono ?_
        rintro e wv ⟨rfl, hw⟩
        obtain rfl := hw.symm
        by_cases hG : 274877906944 ≤ NX
        · clear QQ QM
          go_wp2
          go_ret
          exact ⟨rfl, HB16.out⟩
        have hXs : X.natAbs < 274877906944 := by have h1 := HNX.out; have h2 := HNI.out; omega
        have Q := QQ.out hXs hY
        have QH : Hid (∀ w, Calls Try.prog 17 #[.int .u32 q, .int .i64 ((if Y < 0 then -X else X) * 16777216), .int .i64 ((Y.natAbs : Nat) : Int)] w fun e w' => e = .returned (.bool true) ∧ Below w.heap.size w w') := Q
        clear Q QQ QM ZX ZY hY hY'
        by_cases hY0 : Y < 0
        · have v1 := neg_w X HL.out.1
          have v2 := neg_w Y HL.out.2
          have v3 := shift_ok2 (-X) (by rw [Int.natAbs_neg]; exact hXs)
          have Q2 := QH.out
          rw [if_pos hY0, show ((Y.natAbs : Nat) : Int) = -Y by omega] at Q2
          have v4 := v3.1
          have v5 := v3.2
          clear v3 hXs HNX HNI HL QH
          obtain ⟨X2, hX2⟩ : ∃ X2, -X = X2 := ⟨_, rfl⟩
          obtain ⟨Y2, hY2⟩ : ∃ Y2, -Y = Y2 := ⟨_, rfl⟩
          rw [hX2] at v1 v4 v5 Q2
          rw [hY2] at v2 Q2
          go_wp2_with fail
          refine (Q2 _).mono ?_
          rintro e wz ⟨rfl, Bz⟩
          have HBz : Hid (Below w.heap.size w wz) := bel_step HB16.out Bz
          clear Bz v1 v2 v4 v5 Q2
          go_wp2
          go_ret
          exact ⟨rfl, HBz.out⟩
        · have v3 := shift_ok2 X hXs
          have Q2 := QH.out
          rw [if_neg hY0, show ((Y.natAbs : Nat) : Int) = Y by omega] at Q2
          have v4 := v3.1
          have v5 := v3.2
          clear v3 hXs HNX HNI HL QH
          go_wp2_with fail
          refine (Q2 _).mono ?_
          rintro e wz ⟨rfl, Bz⟩
          have HBz : Hid (Below w.heap.size w wz) := bel_step HB16.out Bz
          clear Bz v4 v5 Q2
          go_wp2
          go_ret
          exact ⟨rfl, HBz.out⟩
      · skip
        by_cases hY : Y = 0
        · have hY' : (Y == 0) = true := by simp [hY]
          clear QQ QM
          go_wp2
          go_ret
          exact ⟨rfl, HB15.out⟩
        have hY' : (Y == 0) = false := by simp [hY]
        go_wp2_with fail
        refine (ZX _).mono ?_
        rintro e wv ⟨rfl, hw⟩
        obtain rfl := hw.symm
        by_cases hG : 274877906944 ≤ NX
        · clear QQ QM
          go_wp2
          go_ret
          exact ⟨rfl, HB15.out⟩
        have hXs : X.natAbs < 274877906944 := by have h1 := HNX.out; have h2 := HNI.out; omega
        have Q := QQ.out hXs hY
        have QH : Hid (∀ w, Calls Try.prog 17 #[.int .u32 q, .int .i64 ((if Y < 0 then -X else X) * 16777216), .int .i64 ((Y.natAbs : Nat) : Int)] w fun e w' => e = .returned (.bool true) ∧ Below w.heap.size w w') := Q
        clear Q QQ QM ZX ZY hY hY'
        by_cases hY0 : Y < 0
        · have v1 := neg_w X HL.out.1
          have v2 := neg_w Y HL.out.2
          have v3 := shift_ok2 (-X) (by rw [Int.natAbs_neg]; exact hXs)
          have Q2 := QH.out
          rw [if_pos hY0, show ((Y.natAbs : Nat) : Int) = -Y by omega] at Q2
          have v4 := v3.1
          have v5 := v3.2
          clear v3 hXs HNX HNI HL QH
          obtain ⟨X2, hX2⟩ : ∃ X2, -X = X2 := ⟨_, rfl⟩
          obtain ⟨Y2, hY2⟩ : ∃ Y2, -Y = Y2 := ⟨_, rfl⟩
          rw [hX2] at v1 v4 v5 Q2
          rw [hY2] at v2 Q2
          go_wp2_with fail
          refine (Q2 _).mono ?_
          rintro e wz ⟨rfl, Bz⟩
          have HBz : Hid (Below w.heap.size w wz) := bel_step HB15.out Bz
          clear Bz v1 v2 v4 v5 Q2
          go_wp2
          go_ret
          exact ⟨rfl, HBz.out⟩
        · have v3 := shift_ok2 X hXs
          have Q2 := QH.out
          rw [if_neg hY0, show ((Y.natAbs : Nat) : Int) = Y by omega] at Q2
          have v4 := v3.1
          have v5 := v3.2
          clear v3 hXs HNX HNI HL QH
          go_wp2_with fail
          refine (Q2 _).mono ?_
          rintro e wz ⟨rfl, Bz⟩
          have HBz : Hid (Below w.heap.size w wz) := bel_step HB15.out Bz
          clear Bz v4 v5 Q2
          go_wp2
          go_ret
          exact ⟨rfl, HBz.out⟩
    · skip
      by_cases hY : Y = 0
      · have hY' : (Y == 0) = true := by simp [hY]
        clear QQ QM
        go_wp2
        go_ret
        exact ⟨rfl, HB15.out⟩
      have hY' : (Y == 0) = false := by simp [hY]
      go_wp2_with fail
      refine (ZX _).mono ?_
      rintro e wv ⟨rfl, hw⟩
      obtain rfl := hw.symm
      by_cases hG : 274877906944 ≤ NX
      · clear QQ QM
        go_wp2
        go_ret
        exact ⟨rfl, HB15.out⟩
      have hXs : X.natAbs < 274877906944 := by have h1 := HNX.out; have h2 := HNI.out; omega
      have Q := QQ.out hXs hY
      have QH : Hid (∀ w, Calls Try.prog 17 #[.int .u32 q, .int .i64 ((if Y < 0 then -X else X) * 16777216), .int .i64 ((Y.natAbs : Nat) : Int)] w fun e w' => e = .returned (.bool true) ∧ Below w.heap.size w w') := Q
      clear Q QQ QM ZX ZY hY hY'
      by_cases hY0 : Y < 0
      · have v1 := neg_w X HL.out.1
        have v2 := neg_w Y HL.out.2
        have v3 := shift_ok2 (-X) (by rw [Int.natAbs_neg]; exact hXs)
        have Q2 := QH.out
        rw [if_pos hY0, show ((Y.natAbs : Nat) : Int) = -Y by omega] at Q2
        have v4 := v3.1
        have v5 := v3.2
        clear v3 hXs HNX HNI HL QH
        obtain ⟨X2, hX2⟩ : ∃ X2, -X = X2 := ⟨_, rfl⟩
        obtain ⟨Y2, hY2⟩ : ∃ Y2, -Y = Y2 := ⟨_, rfl⟩
        rw [hX2] at v1 v4 v5 Q2
        rw [hY2] at v2 Q2
        go_wp2_with fail
        refine (Q2 _).mono ?_
        rintro e wz ⟨rfl, Bz⟩
        have HBz : Hid (Below w.heap.size w wz) := bel_step HB15.out Bz
        clear Bz v1 v2 v4 v5 Q2
        go_wp2
        go_ret
        exact ⟨rfl, HBz.out⟩
      · have v3 := shift_ok2 X hXs
        have Q2 := QH.out
        rw [if_neg hY0, show ((Y.natAbs : Nat) : Int) = Y by omega] at Q2
        have v4 := v3.1
        have v5 := v3.2
        clear v3 hXs HNX HNI HL QH
        go_wp2_with fail
        refine (Q2 _).mono ?_
        rintro e wz ⟨rfl, Bz⟩
        have HBz : Hid (Below w.heap.size w wz) := bel_step HB15.out Bz
        clear Bz v4 v5 Q2
        go_wp2
        go_ret
        exact ⟨rfl, HBz.out⟩

end Go.Proofs.Yteniijmnpgdpcaa
