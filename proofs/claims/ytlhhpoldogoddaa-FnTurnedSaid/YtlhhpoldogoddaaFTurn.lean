/-
  The law on turning.
-/
import Derived.Test.YtlhhpoldogoddaaCurE
import Derived.Test.YtlhhpoldogoddaaIBoth2
import Derived.Test.YtlhhpoldogoddaaFTurnF
namespace Go.Proofs.Ytlhhpoldogoddaa
open Go.RowKit

theorem noBits (b op a c : Int) (hb : ¬ (b = 32 ∨ b = 64)) (w : World) : Calls Try.prog 7 #[.int .i64 b, .int .i64 op, .int .u64 a, .int .u64 c] w fun e w' => e = .returned (.tuple #[.int .u64 0, .int .i64 3]) ∧ Below w.heap.size w w' := by
  obtain ⟨v, hv⟩ := work_any op
  exact binNoBits b op a c (by omega) (by omega) v hv w

theorem bstep {a b c : World} (h : Below a.heap.size a b) (k : Below b.heap.size b c) : Below a.heap.size a c := h.trans (k.mono h.size)

set_option maxHeartbeats 2000000 in
set_option maxRecDepth 2000000 in
theorem turnB (a1 : Option Addr) (n1 c1 : Nat) (w : World) (h1 : Bys w a1 n1 w.heap.size) :
    Calls Try.prog 4 #[.slice a1 n1 c1] w fun e w' => e = .returned (.bool true) ∧ Below w.heap.size w w' := by
  obtain ⟨N, hN⟩ : ∃ N : Int, (n1 : Int) = N := ⟨_, rfl⟩
  by_cases hlen : 1048576 < N
  · go_enter Try.func4, Try.ntmps4
    go_wp2
    go_ret
    exact ⟨rfl, Below.refl _ _⟩
  · go_enter Try.func4, Try.ntmps4
    go_wp2_with fail
    refine (drawBin a1 n1 c1 w h1).mono ?_
    rintro e w1 ⟨b, o, x, y, b0, b1, o0, o1, x0, x1, y0, y1, rfl, B1⟩
    obtain ⟨r, t, I, S⟩ := bin_both b o x y x0 x1 y0 y1
    go_wp2_with fail
    refine (S.out _).mono ?_
    rintro e w2 ⟨rfl, B2⟩
    go_wp2_with fail
    refine (I.out _).mono ?_
    rintro e w' ⟨rfl, hw⟩
    obtain rfl := hw.symm
    by_cases hb : b = 32 ∨ b = 64
    · obtain ⟨X, hX, hXb, hXs⟩ := cut_nat' b x hb x0 x1
      obtain ⟨Y, hY, hYb, hYs⟩ := cut_nat' b y hb y0 y1
      have q0 := n_lo hb (Y : Int)
      have q1 := n_lt hb (Y : Int)
      obtain ⟨n, hn⟩ : ∃ n : Nat, (Y : Int) % b = n := ⟨((Y : Int) % b).toNat, by omega⟩
      obtain ⟨k, hk⟩ : ∃ k : Nat, b - (Y : Int) % b = k := ⟨(b - (Y : Int) % b).toNat, by omega⟩
      have hkn : k + n = b.toNat := by omega
      have hyn : y % b = n := by
        rw [← hn, ← hY]
        rcases hb with rfl | rfl
        · show y % 32 = y % 4294967296 % 32
          omega
        · rfl
      have t1 : (n : Int).toNat = n := by omega
      have t2 : (k : Int).toNat = k := by omega
      obtain ⟨l, hl⟩ : ∃ l, X % 2 ^ k * 2 ^ n + X / 2 ^ k = l := ⟨_, rfl⟩
      have ll := turned_lt b.toNat X n k hkn hXb
      rw [hl] at ll
      have hls : l < 18446744073709551616 := Nat.lt_of_lt_of_le ll (by rcases hb with rfl | rfl <;> decide)
      have A1 := (both_add b x 0 hb x0 x1 (by omega) (by omega)).2
      have A2 := (both_rotl b x y hb x0 x1 y0 y1).2
      have A3 := (both_rotr b l y hb (by omega) (by omega) y0 y1).2
      have A4 := (both_shl b x y hb x0 x1 y0 y1).2
      have A6 := (both_xor b x y hb x0 x1 y0 y1).2
      have A8 := (both_and b x y hb x0 x1 y0 y1).2
      have A9 := (both_or b x y hb x0 x1 y0 y1).2
      have A10 := (both_add b x y hb x0 x1 y0 y1).2
      have hnb : (n : Int) < b := by rw [← hn]; exact q1
      have hpn : (2 : Nat) ^ n < 2 ^ b.toNat := Nat.pow_lt_pow_right (by omega) (by omega)
      have hps : (2 : Nat) ^ n < 18446744073709551616 := Nat.lt_of_lt_of_le hpn (by rcases hb with rfl | rfl <;> decide)
      obtain ⟨P, hP⟩ : ∃ P : Nat, 2 ^ n = P := ⟨_, rfl⟩
      rw [hP] at hpn hps
      have A5 := (both_mul b x (P : Int) hb x0 x1 (by omega) (by omega)).2
      obtain ⟨f1, f2⟩ := xor_back b X Y hb hXb hYb hXs hYs
      obtain ⟨g1, g2, g3⟩ := and_or_sum b X Y hb hXb hYb hXs hYs
      rw [cut_zero, hX, Int.add_zero, (show IntKind.u64.wrap (X : Int) = X by rw [IntKind.wrap_u64]; omega), cut_own b X hb hXb] at A1
      rw [hX, hY, hn] at A2
      rw [← hn, hk, hn, t1, t2, turned b X n k hb hkn hXb, hl] at A2
      rw [cut_own b l hb ll, hY, hk, hn, t1, t2, there_back b X n k hb hkn hXb l hl.symm] at A3
      rw [hX, hY, hn, t1] at A4
      rw [hX, cut_own b P hb hpn] at A5
      rw [hX, hY, f1] at A6
      rw [hX, hY, g1] at A8
      rw [hX, hY, g2] at A9
      rw [hX, hY] at A10
      have hz : X ^^^ Y < 2 ^ b.toNat := Nat.xor_lt_two_pow hXb hYb
      have hz' : X ^^^ Y < 18446744073709551616 := Nat.xor_lt_two_pow (n := 64) hXs hYs
      have hu : X &&& Y < 2 ^ b.toNat := Nat.and_lt_two_pow _ hYb
      have hu' : X &&& Y < 18446744073709551616 := Nat.and_lt_two_pow (n := 64) _ hYs
      have hv : X ||| Y < 2 ^ b.toNat := Nat.or_lt_two_pow hXb hYb
      have hv' : X ||| Y < 18446744073709551616 := Nat.or_lt_two_pow (n := 64) hXs hYs
      have A7 := (both_xor b ((X ^^^ Y : Nat) : Int) y hb (by omega) (by omega) y0 y1).2
      rw [cut_own b _ hb hz, hY, f2] at A7
      have A11 := (both_add b ((X &&& Y : Nat) : Int) ((X ||| Y : Nat) : Int) hb (by omega) (by omega) (by omega) (by omega)).2
      rw [cut_own b _ hb hu, cut_own b _ hb hv, g3] at A11
      have hpi : (2 : Int) ^ n = (P : Int) := by rw [← hP]; simp
      have hpw : IntKind.u64.wrap ((2 : Int) ^ n) = (P : Int) := by rw [hpi, IntKind.wrap_u64]; omega
      rw [hpi] at A4
      have hbw := b_wrap hb
      have hb0 := b_not0 hb
      have hmin : min n 64 = n := by omega
      generalize (P : Int) = pw at A4 A5 hpw
      generalize cutW b (IntKind.u64.wrap ((X : Int) * pw)) = sv at A4 A5
      generalize cutW b (IntKind.u64.wrap ((X : Int) + Y)) = sm at A10 A11
      generalize ((X ^^^ Y : Nat) : Int) = xv at A6 A7
      generalize ((X &&& Y : Nat) : Int) = uv at A8 A11
      generalize ((X ||| Y : Nat) : Int) = vv at A9 A11
      generalize (X : Int) = xi at A1 A3 A7
      generalize (l : Int) = li at A2 A3
      have k3 : (b != 32) = true ∨ (b != 64) = true := by simp; omega
      clear hP I S hX hXb hXs hY hYb hYs q0 q1 hn hk hkn t1 t2 hl ll hls hpn hps f1 f2 g1 g2 g3 hz hz' hu hu' hv hv' hpi hnb k3 o0 o1 b0 b1 x0 x1 y1 hb
      go_wp2_with fail
      refine (A1 _).mono ?_
      rintro e w3 ⟨rfl, B3⟩
      go_wp2_with fail
      refine (A2 _).mono ?_
      rintro e w4 ⟨rfl, B4⟩
      go_wp2_with fail
      refine (A3 _).mono ?_
      rintro e w5 ⟨rfl, B5⟩
      go_wp2_with fail
      refine (A4 _).mono ?_
      rintro e w6 ⟨rfl, B6⟩
      go_wp2_with fail
      refine (A5 _).mono ?_
      rintro e w7 ⟨rfl, B7⟩
      go_wp2_with fail
      refine (A6 _).mono ?_
      rintro e w8 ⟨rfl, B8⟩
      go_wp2_with fail
      refine (A7 _).mono ?_
      rintro e w9 ⟨rfl, B9⟩
      go_wp2_with fail
      refine (A8 _).mono ?_
      rintro e w10 ⟨rfl, B10⟩
      go_wp2_with fail
      refine (A9 _).mono ?_
      rintro e w11 ⟨rfl, B11⟩
      go_wp2_with fail
      refine (A10 _).mono ?_
      rintro e w12 ⟨rfl, B12⟩
      go_wp2_with fail
      refine (A11 _).mono ?_
      rintro e w13 ⟨rfl, B13⟩
      go_wp2
      go_ret
      exact ⟨rfl, bstep (bstep (bstep (bstep (bstep (bstep (bstep (bstep (bstep (bstep (bstep (bstep B1 B2) B3) B4) B5) B6) B7) B8) B9) B10) B11) B12) B13⟩
    · have k1 : (b != 32) = true := by simp; omega
      have k2 : (b != 64) = true := by simp; omega
      have NB := noBits b 1 x 0 hb w2
      clear I S
      go_wp2_with fail
      refine NB.mono ?_
      rintro e w3 ⟨rfl, B3⟩
      go_wp2
      go_ret
      exact ⟨rfl, (B1.trans (B2.mono B1.size)).trans (B3.mono (Nat.le_trans B1.size B2.size))⟩

end Go.Proofs.Ytlhhpoldogoddaa
