/-
  Sums and differences of halves, as the whole numbers that they are.
-/
import Derived.Test.YteniijmnpgdpcaaFAddV
import Derived.Test.YteniijmnpgdpcaaFAddW
import Derived.Test.YteniijmnpgdpcaaFExa
import Derived.Test.YteniijmnpgdpcaaFDrx
import Derived.Test.YteniijmnpgdpcaaRA1
import Derived.Test.YteniijmnpgdpcaaRA2
import Derived.Test.YteniijmnpgdpcaaIMul
namespace Go.Proofs.Yteniijmnpgdpcaa
open Go.RowKit

theorem half_parts (b T : Int) (h0 : b = 0 ∨ b = 1) (t0 : 0 ≤ T) (t1 : T < 32768) : (b * 32768 + T) / 32768 % 2 = b ∧ (b * 32768 + T) / 1024 % 32 = T / 1024 ∧ (b * 32768 + T) % 1024 = T % 1024 := by
  rcases h0 with rfl | rfl <;> omega
theorem exa_fin (b : Int) (T : Nat) (h0 : b = 0 ∨ b = 1) (t1 : T < 31744) : cl16 (b * 32768 + T) = 0 ∧ exa (b * 32768 + T) = if b = 1 then -(valN T : Int) else (valN T : Int) := by
  obtain ⟨e1, e2, e3⟩ := half_parts b T h0 (by omega) (by omega)
  have hx : (T : Int) / 1024 ≠ 31 := by omega
  refine ⟨by unfold cl16; rw [e2, if_neg hx], ?_⟩
  have hv : vm16 (b * 32768 + T) * 2 ^ (ve16 (b * 32768 + T) + 24).toNat = (valN T : Int) := by
    unfold vm16 ve16 valN
    rw [e2, e3, if_neg hx, if_neg hx]
    by_cases h : T / 1024 = 0
    · rw [if_pos (by omega), if_pos (by omega), if_pos h]
      simp
    · rw [if_neg (by omega), if_neg (by omega), if_neg h]
      rw [show (-24 + (T : Int) / 1024 - 1 + 24).toNat = T / 1024 - 1 by omega]
      simp [Int.add_comm]
  unfold exa
  rw [hv, e1]
  rcases h0 with rfl | rfl
  · rw [if_neg (by decide), if_neg (by decide)]
  · rw [if_pos (by decide), if_pos rfl]
theorem cl_top (b : Int) (h0 : b = 0 ∨ b = 1) : cl16 (b * 32768 + 31744) ≠ 0 := by
  obtain ⟨e1, e2, e3⟩ := half_parts b 31744 h0 (by omega) (by omega)
  unfold cl16
  rw [e2, e3]
  decide

/-- What a half is told as, opened again. -/
theorem hv_exa (z : Int) (s : Bool) (hb : bigZ z) : (0 ≤ hv z s ∧ hv z s ≤ 65535) ∧ (bitsN z.natAbs < 31744 → cl16 (hv z s) = 0 ∧ exa (hv z s) = R z) ∧ (31744 ≤ bitsN z.natAbs → cl16 (hv z s) ≠ 0) := by
  have hval := val_bits z.natAbs hb.out
  obtain ⟨b, hbb, hbe, hbs⟩ : ∃ b : Int, (b = 0 ∨ b = 1) ∧ (if z < 0 then (32768 : Int) else if z = 0 then (s.toNat : Int) * 32768 else 0) = b * 32768 ∧ (z ≠ 0 → (b = 1 ↔ z < 0)) := by
    by_cases h1 : z < 0
    · exact ⟨1, Or.inr rfl, by rw [if_pos h1]; rfl, fun _ => by simp [h1]⟩
    · by_cases h2 : z = 0
      · cases s
        · exact ⟨0, Or.inl rfl, by rw [if_neg h1, if_pos h2]; rfl, fun h => absurd h2 h⟩
        · exact ⟨1, Or.inr rfl, by rw [if_neg h1, if_pos h2]; rfl, fun h => absurd h2 h⟩
      · exact ⟨0, Or.inl rfl, by rw [if_neg h1, if_neg h2]; rfl, fun _ => by simp [h1]⟩
  unfold hv
  rw [hbe]
  refine ⟨by omega, fun h => ?_, fun h => ?_⟩
  · rw [Nat.min_eq_left (by omega)]
    obtain ⟨c1, c2⟩ := exa_fin b (bitsN z.natAbs) hbb h
    refine ⟨c1, ?_⟩
    rw [c2, hval]
    unfold R
    by_cases h0 : z = 0
    · subst h0
      have : rN 0 = 0 := rN_exact 0 (by unfold big; omega) inF_zero
      simp [this]
    · have := hbs h0
      by_cases h1 : z < 0
      · rw [if_pos (this.2 h1), if_pos h1]
      · rw [if_neg (fun e => h1 (this.1 e)), if_neg h1]
  · rw [Nat.min_eq_right h]
    exact cl_top b hbb

/-- A finite half as a whole number. -/
theorem exa_zz (a : Int) (hc : cl16 a = 0) : ∃ m : Nat, vm16 a = m ∧ m < 2048 ∧ -24 ≤ ve16 a ∧ ve16 a ≤ 5 ∧ exa a = zz (a / 32768 % 2 == 1) m (ve16 a) := by
  rcases half_bounds a with ⟨m0, m1, e0, e1⟩ | h
  · obtain ⟨m, hm⟩ := Int.eq_ofNat_of_zero_le m0
    refine ⟨m, hm, by omega, e0, e1, ?_⟩
    unfold exa zz
    rw [hm]
    simp
  · exact absurd hc h
theorem exa_F (a : Int) (hc : cl16 a = 0) : isF (exa a) ∧ (exa a).natAbs ≤ 1098974756864 := by
  obtain ⟨m, hm, hm2, e0, e1, he⟩ := exa_zz a hc
  have hn : (exa a).natAbs = m * 2 ^ (ve16 a + 24).toNat := by
    rw [he]; unfold zz; split
    · rw [Int.natAbs_neg]; rfl
    · rfl
  refine ⟨⟨m, _, hm2, hn⟩, ?_⟩
  rw [hn]
  have h1 : 2 ^ (ve16 a + 24).toNat ≤ 2 ^ 29 := Nat.pow_le_pow_right (by omega) (by omega)
  have h2 : m * 2 ^ (ve16 a + 24).toNat ≤ 2047 * 2 ^ 29 := Nat.mul_le_mul (by omega) h1
  have h3 : (2047 : Nat) * 2 ^ 29 = 1098974756864 := by decide
  omega

/-- Sums by their classes, and what they are. -/
theorem addAny (s1 s2 : Bool) (c1 c2 m1 m2 e1 e2 : Int) (f1 : Fv16 c1 m1 e1) (f2 : Fv16 c2 m2 e2) : ∃ r : Int,
    (∀ w, Calls Try.prog 37 #[(.agg #[.int .u64 5, .int .u64 10]), (.agg #[.bool s1, .bool (c1 == 1), .bool (c1 == 2), .int .u64 m1, .int .i64 e1]), (.agg #[.bool s2, .bool (c2 == 1), .bool (c2 == 2), .int .u64 m2, .int .i64 e2])] w fun e w' => e = .returned (.int .u32 r) ∧ Below w.heap.size w w') ∧
    (∀ w, Calls Try.prog 28 #[(.agg #[.int .i64 10, .int .i64 15, .int .u32 31]), (.agg #[.int .i64 c1, .bool s1, .int .u64 m1, .int .i64 e1]), (.agg #[.int .i64 c2, .bool s2, .int .u64 m2, .int .i64 e2])] w fun e w' => e = .returned (.int .u32 r) ∧ Below w.heap.size w w') ∧
    (c1 = 0 → c2 = 0 → r = hv (zz s1 m1.toNat e1 + zz s2 m2.toNat e2) (s1 && s2)) ∧ (c1 ≠ 0 ∨ c2 ≠ 0 → cl16 r ≠ 0 ∧ 0 ≤ r ∧ r ≤ 65535) := by
  obtain ⟨k1, a1, a2, a3, a4, a5, _⟩ := f1
  obtain ⟨k2, b1, b2, b3, b4, b5, _⟩ := f2
  have hs : s2 = s1 ∨ s2 = !s1 := by cases s1 <;> cases s2 <;> simp
  have hnan : cl16 (31744 + 512) ≠ 0 ∧ (0 : Int) ≤ 31744 + 512 ∧ (31744 + 512 : Int) ≤ 65535 := by decide
  have hinf : ∀ s : Bool, cl16 ((s.toNat : Int) * 32768 + 31744) ≠ 0 ∧ (0 : Int) ≤ (s.toNat : Int) * 32768 + 31744 ∧ (s.toNat : Int) * 32768 + 31744 ≤ 65535 := by intro s; cases s <;> decide
  rcases k1 with rfl | rfl | rfl
  · rcases k2 with rfl | rfl | rfl
    · obtain ⟨n1, rfl⟩ := Int.eq_ofNat_of_zero_le a1
      obtain ⟨n2, rfl⟩ := Int.eq_ofNat_of_zero_le b1
      simp only [Int.toNat_natCast]
      by_cases h : e2 ≤ e1
      · obtain ⟨S, I, _⟩ := finV s1 s2 n1 n2 e1 e2 (by omega) (by omega) h b3 (by omega) (fun h => by have := a5 rfl h; omega)
        exact ⟨_, S, cIF16 s1 s2 n1 n2 e1 e2 _ I, fun _ _ => rfl, fun h => by rcases h with h | h <;> exact absurd rfl h⟩
      · obtain ⟨S, _, I⟩ := finV s2 s1 n2 n1 e2 e1 (by omega) (by omega) (by omega) a3 (by omega) (fun h => by have := b5 rfl h; omega)
        exact ⟨_, cSR16 s1 s2 n1 n2 e1 e2 _ (by omega) S, cIF16 s1 s2 n1 n2 e1 e2 _ I, fun _ _ => by rw [Int.add_comm, Bool.and_comm], fun h => by rcases h with h | h <;> exact absurd rfl h⟩
    · exact ⟨_, cSE16 s1 s2 m1 m2 e1 e2, cIE16 s1 s2 m1 m2 e1 e2, fun _ h => absurd h (by decide), fun _ => hinf _⟩
    · exact ⟨_, cSB016 s1 s2 m1 m2 e1 e2, cIB016 s1 s2 m1 m2 e1 e2, fun _ h => absurd h (by decide), fun _ => hnan⟩
  · rcases k2 with rfl | rfl | rfl
    · exact ⟨_, cSD16 s1 s2 m1 m2 e1 e2, cID16 s1 s2 m1 m2 e1 e2, fun h => absurd h (by decide), fun _ => hinf _⟩
    · rcases hs with rfl | rfl
      · exact ⟨_, cSCs16 _ m1 m2 e1 e2, cICs16 _ m1 m2 e1 e2, fun h => absurd h (by decide), fun _ => hinf _⟩
      · exact ⟨_, cSCd16 _ m1 m2 e1 e2, cICd16 _ m1 m2 e1 e2, fun h => absurd h (by decide), fun _ => hnan⟩
    · exact ⟨_, cSB116 s1 s2 m1 m2 e1 e2, cIB116 s1 s2 m1 m2 e1 e2, fun h => absurd h (by decide), fun _ => hnan⟩
  · exact ⟨_, cSA16 s1 s2 _ _ _ m1 m2 e1 e2, cIA16 s1 s2 c2 m1 m2 e1 e2, fun h => absurd h (by decide), fun _ => hnan⟩

theorem zz_not (s : Bool) (m : Nat) (e : Int) : zz (!s) m e = -zz s m e := by unfold zz; cases s <;> simp

/-- FAdd of halves. -/
theorem addHalf (a b : Int) (a0 : 0 ≤ a) (a1 : a ≤ 4294967295) (b0 : 0 ≤ b) (b1 : b ≤ 4294967295) : ∃ r : Int,
    (∀ w, Calls Try.prog 12 #[.int .i64 16, .int .u32 a, .int .u32 b] w fun x w' => x = .returned (.int .u32 r) ∧ Below w.heap.size w w') ∧
    (∀ w, Calls Try.prog 8 #[.int .i64 16, .int .u32 a, .int .u32 b] w fun x w' => x = .returned (.int .u32 r) ∧ Below w.heap.size w w') ∧
    (cl16 a = 0 → cl16 b = 0 → ∃ s, r = hv (exa a + exa b) s) ∧ (cl16 a ≠ 0 ∨ cl16 b ≠ 0 → cl16 r ≠ 0 ∧ 0 ≤ r ∧ r ≤ 65535) := by
  obtain ⟨r, S, I, hf, hn⟩ := addAny (a / 32768 % 2 == 1) (b / 32768 % 2 == 1) _ _ _ _ _ _ (fv16 a) (fv16 b)
  refine ⟨r, wSFAdd16 a b r _ _ (open16 a a0 a1) (open16 b b0 b1) S, wIFAdd16 a b r _ _ (value16 a a0 a1) (value16 b b0 b1) I, fun h1 h2 => ⟨(a / 32768 % 2 == 1) && (b / 32768 % 2 == 1), ?_⟩, hn⟩
  · rw [hf h1 h2]
    obtain ⟨m, hm, _, _, _, he⟩ := exa_zz a h1
    obtain ⟨m', hm', _, _, _, he'⟩ := exa_zz b h2
    rw [he, he', hm, hm']
    simp only [Int.toNat_natCast]
/-- FSub of halves. -/
theorem subHalf (a b : Int) (a0 : 0 ≤ a) (a1 : a ≤ 4294967295) (b0 : 0 ≤ b) (b1 : b ≤ 4294967295) : ∃ r : Int,
    (∀ w, Calls Try.prog 13 #[.int .i64 16, .int .u32 a, .int .u32 b] w fun x w' => x = .returned (.int .u32 r) ∧ Below w.heap.size w w') ∧
    (∀ w, Calls Try.prog 9 #[.int .i64 16, .int .u32 a, .int .u32 b] w fun x w' => x = .returned (.int .u32 r) ∧ Below w.heap.size w w') ∧
    (cl16 a = 0 → cl16 b = 0 → ∃ s, r = hv (exa a - exa b) s) ∧ (cl16 a ≠ 0 ∨ cl16 b ≠ 0 → cl16 r ≠ 0 ∧ 0 ≤ r ∧ r ≤ 65535) := by
  obtain ⟨r, S, I, hf, hn⟩ := addAny (a / 32768 % 2 == 1) (!(b / 32768 % 2 == 1)) _ _ _ _ _ _ (fv16 a) (fv16 b)
  refine ⟨r, wSFSub16 a b r _ _ _ _ _ _ (open16 a a0 a1) (open16 b b0 b1) S, wIFSub16 a b r _ _ _ _ _ (value16 a a0 a1) (value16 b b0 b1) I, fun h1 h2 => ⟨(a / 32768 % 2 == 1) && !(b / 32768 % 2 == 1), ?_⟩, hn⟩
  · rw [hf h1 h2]
    obtain ⟨m, hm, _, _, _, he⟩ := exa_zz a h1
    obtain ⟨m', hm', _, _, _, he'⟩ := exa_zz b h2
    rw [he, he', hm, hm', zz_not]
    simp only [Int.toNat_natCast]
    congr 1

end Go.Proofs.Yteniijmnpgdpcaa

namespace Go.Proofs.Yteniijmnpgdpcaa
open Go.RowKit

/-- What laws.exact answers of any half. -/
def exV (a : Int) : Int := if cl16 a = 0 then exa a else 0
def exB (a : Int) : Bool := decide (cl16 a = 0)
theorem exactAny (a : Int) (h0 : 0 ≤ a) (h1 : a ≤ 4294967295) (w : World) :
    Calls Try.prog 16 #[.int .u32 a] w fun e w' => e = .returned (.tuple #[.int .i64 (exV a), .bool (exB a)]) ∧ Below w.heap.size w w' := by
  unfold exV exB
  by_cases hc : cl16 a = 0
  · rw [if_pos hc, decide_eq_true hc]; exact exactYes a h0 h1 hc w
  · rw [if_neg hc, decide_eq_false hc]; exact exactNo a h0 h1 hc w

theorem drawFSub (a : Option Addr) (n cap : Nat) (w : World) (hb : Bys w a n w.heap.size) :
    Calls Try.prog 19 #[.slice a n cap] w fun e w' => ∃ k x y : Int, (k = 16 ∨ k = 32 ∨ k = 64) ∧ 0 ≤ x ∧ x ≤ 4294967295 ∧ 0 ≤ y ∧ y ≤ 4294967295 ∧ e = .returned (.tuple #[.int .i64 k, .int .u32 x, .int .u32 y]) ∧ Below w.heap.size w w' := by
  go_enter Try.func19, Try.ntmps19
  go_wp2_with fail
  refine (drawFAdd a n cap w hb).mono ?_
  rintro e w1 ⟨k, x, y, hk, x0, x1, y0, y1, rfl, B1⟩
  go_wp2
  refine bodyPost_ret (three_resD Try.results19 _ _ _) rfl ⟨k, x, y, hk, x0, x1, y0, y1, rfl, B1⟩

/-- A difference of any kind: both sides. -/
theorem subAny (k a b : Int) (hk : k = 16 ∨ k = 32 ∨ k = 64) (a0 : 0 ≤ a) (a1 : a ≤ 4294967295) (b0 : 0 ≤ b) (b1 : b ≤ 4294967295) : ∃ r : Int,
    (∀ w, Calls Try.prog 13 #[.int .i64 k, .int .u32 a, .int .u32 b] w fun x w' => x = .returned (.int .u32 r) ∧ Below w.heap.size w w') ∧
    (∀ w, Calls Try.prog 9 #[.int .i64 k, .int .u32 a, .int .u32 b] w fun x w' => x = .returned (.int .u32 r) ∧ Below w.heap.size w w') := by
  rcases hk with rfl | rfl | rfl
  · exact bothFSub16 a b a0 a1 b0 b1
  · exact bothFSub32 a b a0 a1 b0 b1
  · exact ⟨0, noFSub 64 a b (by decide) (by decide)⟩
theorem addAnyK (k a b : Int) (hk : k = 16 ∨ k = 32 ∨ k = 64) (a0 : 0 ≤ a) (a1 : a ≤ 4294967295) (b0 : 0 ≤ b) (b1 : b ≤ 4294967295) : ∃ r : Int,
    (∀ w, Calls Try.prog 12 #[.int .i64 k, .int .u32 a, .int .u32 b] w fun x w' => x = .returned (.int .u32 r) ∧ Below w.heap.size w w') ∧
    (∀ w, Calls Try.prog 8 #[.int .i64 k, .int .u32 a, .int .u32 b] w fun x w' => x = .returned (.int .u32 r) ∧ Below w.heap.size w w') := by
  rcases hk with rfl | rfl | rfl
  · exact bothFAdd16 a b a0 a1 b0 b1
  · exact bothFAdd32 a b a0 a1 b0 b1
  · exact ⟨0, noFAdd 64 a b (by decide) (by decide)⟩

/-- A sum that is finite, opened again. -/
theorem hv_open (z : Int) (s : Bool) (hz : z.natAbs ≤ 4398046511104) : (0 ≤ hv z s ∧ hv z s ≤ 65535) ∧ (cl16 (hv z s) = 0 → exa (hv z s) = R z ∧ (R z).natAbs ≤ 1098974756864) := by
  have hb : bigZ z := by unfold bigZ; omega
  obtain ⟨h1, h2, h3⟩ := hv_exa z s hb
  refine ⟨h1, fun hc => ?_⟩
  rcases Nat.lt_or_ge (bitsN z.natAbs) 31744 with h | h
  · refine ⟨(h2 h).2, ?_⟩
    have := fin_bits z.natAbs hb.out h
    unfold R
    split <;> omega
  · exact absurd hc (h3 h)

theorem ster_out (X Y : Int) (s : Bool) (Fx : isF X) (Fy : isF Y) (_lx : X.natAbs ≤ 1098974756864) (ly : Y.natAbs ≤ 1098974756864) (g1 : ¬ X ≤ 0) (g2 : ¬ Y ≤ 0) (g3 : ¬ 2 * Y < X) (g4 : ¬ 2 * X < Y) :
    cl16 (hv (X - Y) s) = 0 ∧ exa (hv (X - Y) s) = X - Y ∧ 0 ≤ hv (X - Y) s ∧ hv (X - Y) s ≤ 4294967295 := by
  have hF := sterbenz X Y Fx Fy (by omega) (by omega) (by omega) (by omega)
  have hb : bigZ (X - Y) := by unfold bigZ; omega
  obtain ⟨⟨r0, r1⟩, q2, _⟩ := hv_exa (X - Y) s hb
  obtain ⟨cr, vr⟩ := q2 (bits_fin _ hb.out (by omega))
  rw [R_exact _ hb hF] at vr
  exact ⟨cr, vr, r0, by omega⟩

set_option maxHeartbeats 2000000 in
set_option maxRecDepth 2000000 in
theorem sterbenzB (a1 : Option Addr) (n1 c1 : Nat) (w : World) (h1 : Bys w a1 n1 w.heap.size) :
    Calls Try.prog 5 #[.slice a1 n1 c1] w fun e w' => e = .returned (.bool true) ∧ Below w.heap.size w w' := by
  obtain ⟨N, hN⟩ : ∃ N : Int, (n1 : Int) = N := ⟨_, rfl⟩
  by_cases hlen : 1048576 < N
  · go_enter Try.func5, Try.ntmps5
    go_wp2
    go_ret
    exact ⟨rfl, Below.refl _ _⟩
  · go_enter Try.func5, Try.ntmps5
    go_wp2_with fail
    refine (drawFSub a1 n1 c1 w h1).mono ?_
    rintro e w1 ⟨k, x, y, hk, x0, x1, y0, y1, rfl, B1⟩
    clear hlen hN h1
    by_cases h16 : k = 16
    · subst h16
      obtain ⟨r, S, I, hf, _⟩ := subHalf x y x0 x1 y0 y1
      go_wp2_with fail
      refine (I _).mono ?_
      rintro e w2 ⟨rfl, B2⟩
      go_wp2_with fail
      refine (S _).mono ?_
      rintro e w3 ⟨rfl, B3⟩
      have EX := exactAny x x0 x1
      have EY := exactAny y y0 y1
      clear S I
      go_wp2_with fail
      refine (EX _).mono ?_
      rintro e w4 ⟨rfl, B4⟩
      go_wp2_with fail
      refine (EY _).mono ?_
      rintro e w5 ⟨rfl, B5⟩
      have HB : Hid (Below w.heap.size w w5) := bel_step (bel_step (bel_step (bel_step B1 B2) B3) B4) B5
      clear B1 B2 B3 B4 B5 EX EY
      by_cases cx : cl16 x = 0
      · by_cases cy : cl16 y = 0
        · have ex : exB x = true := decide_eq_true cx
          have ey : exB y = true := decide_eq_true cy
          have vx : exV x = exa x := if_pos cx
          have vy : exV y = exa y := if_pos cy
          obtain ⟨Fx, lx⟩ := exa_F x cx
          obtain ⟨Fy, ly⟩ := exa_F y cy
          obtain ⟨s, hr⟩ := hf cx cy
          rw [ex, ey, vx, vy]
          generalize exa x = X at *
          generalize exa y = Y at *
          have wX : wrap64 (2 * X) = 2 * X := w64_ok _ (by omega) (by omega)
          have wY : wrap64 (2 * Y) = 2 * Y := w64_ok _ (by omega) (by omega)
          have wD : wrap64 (X - Y) = X - Y := w64_ok _ (by omega) (by omega)
          by_cases g1 : X ≤ 0
          · clear hr hf
            go_wp2
            go_ret
            exact ⟨rfl, HB.out⟩
          · by_cases g2 : Y ≤ 0
            · clear hr hf
              go_wp2
              go_ret
              exact ⟨rfl, HB.out⟩
            · by_cases g3 : 2 * Y < X
              · clear hr hf
                go_wp2
                go_ret
                exact ⟨rfl, HB.out⟩
              · by_cases g4 : 2 * X < Y
                · clear hr hf
                  go_wp2
                  go_ret
                  exact ⟨rfl, HB.out⟩
                · obtain ⟨cr, vr, r0, r1⟩ := ster_out X Y s Fx Fy lx ly g1 g2 g3 g4
                  rw [← hr] at cr vr r0 r1
                  have EZ := exactYes r r0 r1 cr
                  rw [vr] at EZ
                  clear hr hf Fx Fy lx ly cr vr r0 r1
                  go_wp2_with fail
                  refine (EZ _).mono ?_
                  rintro e w6 ⟨rfl, B6⟩
                  have HB6 : Hid (Below w.heap.size w w6) := bel_step HB.out B6
                  clear B6 HB EZ
                  go_wp2
                  go_ret
                  exact ⟨rfl, HB6.out⟩
        · have ex : exB x = true := decide_eq_true cx
          have ey : exB y = false := decide_eq_false cy
          rw [ex, ey]
          clear hf
          go_wp2
          go_ret
          exact ⟨rfl, HB.out⟩
      · have ex : exB x = false := decide_eq_false cx
        rw [ex]
        clear hf
        go_wp2
        go_ret
        exact ⟨rfl, HB.out⟩
    · obtain ⟨r, S, I⟩ := subAny k x y hk x0 x1 y0 y1
      go_wp2_with fail
      refine (I _).mono ?_
      rintro e w2 ⟨rfl, B2⟩
      go_wp2_with fail
      refine (S _).mono ?_
      rintro e w3 ⟨rfl, B3⟩
      have EX := exactAny x x0 x1
      have EY := exactAny y y0 y1
      clear S I
      go_wp2_with fail
      refine (EX _).mono ?_
      rintro e w4 ⟨rfl, B4⟩
      go_wp2_with fail
      refine (EY _).mono ?_
      rintro e w5 ⟨rfl, B5⟩
      have HB : Hid (Below w.heap.size w w5) := bel_step (bel_step (bel_step (bel_step B1 B2) B3) B4) B5
      clear B1 B2 B3 B4 B5 EX EY hk
      go_wp2
      go_ret
      exact ⟨rfl, HB.out⟩

end Go.Proofs.Yteniijmnpgdpcaa

namespace Go.Proofs.Yteniijmnpgdpcaa
open Go.RowKit

theorem sqAny (k a : Int) (hk : k = 16 ∨ k = 32 ∨ k = 64) (a0 : 0 ≤ a) (a1 : a ≤ 4294967295) : ∃ r : Int,
    (∀ w, Calls Try.prog 22 #[.int .i64 k, .int .u32 a] w fun x w' => x = .returned (.int .u32 r) ∧ Below w.heap.size w w') ∧
    (∀ w, Calls Try.prog 21 #[.int .i64 k, .int .u32 a] w fun x w' => x = .returned (.int .u32 r) ∧ Below w.heap.size w w') := by
  rcases hk with rfl | rfl | rfl
  · exact sqBoth16 a a0 a1
  · exact sqBoth32 a a0 a1
  · exact ⟨0, sqNo 64 a (by decide) (by decide)⟩

/-- All that the law asks of a root. -/
theorem root_out (a r : Int) (ca : cl16 a = 0) (hx : ¬ exa a ≤ 0)
    (hr : cl16 a = 0 → (a / 32768 % 2 == 1) = false → ∀ n : Nat, vm16 a = n → n ≠ 0 → ∃ U s0 : Nat, (U + Lib.bitLen n = 60 ∨ U + Lib.bitLen n = 59) ∧ (ve16 a - U) % 2 = 0 ∧ s0 * s0 ≤ n * 2 ^ U ∧ n * 2 ^ U < (s0 + 1) * (s0 + 1) ∧ r = ((min (toldOf 10 (-24) s0 ((ve16 a - U) / 2) (decide (s0 * s0 ≠ n * 2 ^ U))) 31744 : Nat) : Int)) :
    ∃ X V Up Lo : Nat, exa a = X ∧ (1 ≤ r ∧ r + 1 < 31744) ∧ (cl16 r = 0 ∧ exa r = V) ∧ (cl16 (r + 1) = 0 ∧ exa (r + 1) = Up) ∧ (cl16 (r - 1) = 0 ∧ exa (r - 1) = Lo) ∧ 0 < V ∧ V ≤ 8589934592 ∧ Up ≤ 8589934592 ∧ Lo ≤ 8589934592 ∧ X ≤ 1098974756864 ∧
      (V + Lo) * (V + Lo) ≤ X * 67108864 ∧ X * 67108864 ≤ (V + Up) * (V + Up) := by
  obtain ⟨n, hn, hn2, e0, e1, he⟩ := exa_zz a ca
  have hs : (a / 32768 % 2 == 1) = false := by
    cases hq : (a / 32768 % 2 == 1)
    · rfl
    · rw [hq] at he
      unfold zz at he
      rw [if_pos rfl] at he
      omega
  rw [hs] at he
  unfold zz at he
  rw [if_neg (by decide)] at he
  have hn0 : n ≠ 0 := by rintro rfl; rw [he] at hx; simp at hx
  obtain ⟨U, s0, hU, hp, t1, t2, hrr⟩ := hr ca hs n hn hn0
  obtain ⟨T, hT, T1, T2, v1, v2, v3, v4, m1, m2⟩ := root_math n U s0 (ve16 a) hn0 hn2 e0 e1 hU hp t1 t2
  rw [hT, Nat.min_eq_left (by omega)] at hrr
  have hF := (exa_F a ca).2
  have x0 := exa_fin 0 T (Or.inl rfl) (by omega)
  have x1 := exa_fin 0 (T + 1) (Or.inl rfl) (by omega)
  have x2 := exa_fin 0 (T - 1) (Or.inl rfl) (by omega)
  rw [if_neg (by decide), Int.zero_mul, Int.zero_add] at x0 x1 x2
  refine ⟨n * 2 ^ (ve16 a + 24).toNat, valN T, valN (T + 1), valN (T - 1), he, by omega, ?_, ?_, ?_, v1, v3, v2, v4, ?_, m1, m2⟩
  · rw [hrr]; exact x0
  · rw [hrr, show (T : Int) + 1 = ((T + 1 : Nat) : Int) by omega]; exact x1
  · rw [hrr, show (T : Int) - 1 = ((T - 1 : Nat) : Int) by omega]; exact x2
  · rw [he, Int.natAbs_natCast] at hF; exact hF

/-- A product in two words, by what it is. -/
theorem words_le (p q : Nat) : p ≤ q ↔ ((p / 18446744073709551616 : Nat) : Int) < ((q / 18446744073709551616 : Nat) : Int) ∨ (((p / 18446744073709551616 : Nat) : Int) = ((q / 18446744073709551616 : Nat) : Int) ∧ ((p % 18446744073709551616 : Nat) : Int) ≤ ((q % 18446744073709551616 : Nat) : Int)) := by
  omega

theorem u32_ok (x : Int) (h0 : 0 ≤ x) (h1 : x ≤ 4294967295) : IntKind.u32.wrap x = x := by rw [IntKind.wrap_u32]; omega
theorem pos_not {n : Nat} (h : 0 < n) : ¬ (n : Int) ≤ 0 := by omega
theorem sum_room (V U : Nat) (h1 : V ≤ 8589934592) (h2 : U ≤ 8589934592) : V + U < 18446744073709551616 ∧ (V : Int) + U = ((V + U : Nat) : Int) ∧ wrap64 ((V + U : Nat) : Int) = ((V + U : Nat) : Int) ∧ IntKind.u64.wrap ((V + U : Nat) : Int) = ((V + U : Nat) : Int) :=
  ⟨by omega, by omega, w64_ok _ (by omega) (by omega), u64_ok _ (by omega) (by omega)⟩
theorem word_ways (p q : Nat) (h : p ≤ q) : ((p / 18446744073709551616 : Nat) : Int) < ((q / 18446744073709551616 : Nat) : Int) ∨ ¬ ((p / 18446744073709551616 : Nat) : Int) < ((q / 18446744073709551616 : Nat) : Int) ∧ (((p / 18446744073709551616 : Nat) : Int) == ((q / 18446744073709551616 : Nat) : Int)) = true ∧ ((p % 18446744073709551616 : Nat) : Int) ≤ ((q % 18446744073709551616 : Nat) : Int) := by
  rcases (words_le p q).1 h with g | ⟨g, g2⟩
  · exact Or.inl g
  · exact Or.inr ⟨by omega, by simp [g], g2⟩
theorem word_ways' (p q : Nat) (h : p ≤ q) : ((p / 18446744073709551616 : Nat) : Int) < ((q / 18446744073709551616 : Nat) : Int) ∨ ¬ ((p / 18446744073709551616 : Nat) : Int) < ((q / 18446744073709551616 : Nat) : Int) ∧ (((q / 18446744073709551616 : Nat) : Int) == ((p / 18446744073709551616 : Nat) : Int)) = true ∧ ((p % 18446744073709551616 : Nat) : Int) ≤ ((q % 18446744073709551616 : Nat) : Int) := by
  rcases (words_le p q).1 h with g | ⟨g, g2⟩
  · exact Or.inl g
  · exact Or.inr ⟨by omega, by simp [g], g2⟩
theorem r_room (r : Int) (r1 : 1 ≤ r) (r2 : r + 1 < 31744) : (0 ≤ r ∧ r ≤ 4294967295) ∧ (0 ≤ r + 1 ∧ r + 1 ≤ 4294967295) ∧ (0 ≤ r - 1 ∧ r - 1 ≤ 4294967295) := by omega
theorem x_room (X : Nat) (h : X ≤ 1098974756864) : X < 18446744073709551616 ∧ IntKind.u64.wrap (X : Int) = X := ⟨by omega, u64_ok _ (by omega) (by omega)⟩

set_option maxHeartbeats 4000000 in
set_option maxRecDepth 2000000 in
theorem rootsB (a1 : Option Addr) (n1 c1 : Nat) (w : World) (h1 : Bys w a1 n1 w.heap.size) :
    Calls Try.prog 6 #[.slice a1 n1 c1] w fun e w' => e = .returned (.bool true) ∧ Below w.heap.size w w' := by
  obtain ⟨N, hN⟩ : ∃ N : Int, (n1 : Int) = N := ⟨_, rfl⟩
  by_cases hlen : 1048576 < N
  · go_enter Try.func6, Try.ntmps6
    go_wp2
    go_ret
    exact ⟨rfl, Below.refl _ _⟩
  · go_enter Try.func6, Try.ntmps6
    go_wp2_with fail
    refine (drawFSqrt a1 n1 c1 w h1).mono ?_
    rintro e w1 ⟨k, a, hk, x0, x1, rfl, B1⟩
    clear hlen hN h1
    by_cases h16 : k = 16
    · subst h16
      obtain ⟨r, S, I, hr⟩ := sqHalf a x0 x1
      have EA := exactAny a x0 x1
      go_wp2_with fail
      refine (I _).mono ?_
      rintro e w2 ⟨rfl, B2⟩
      go_wp2_with fail
      refine (S _).mono ?_
      rintro e w3 ⟨rfl, B3⟩
      clear S I
      go_wp2_with fail
      refine (EA _).mono ?_
      rintro e w4 ⟨rfl, B4⟩
      have HB4 : Hid (Below w.heap.size w w4) := bel_step (bel_step (bel_step B1 B2) B3) B4
      clear B1 B2 B3 B4 EA hk
      by_cases ca : cl16 a = 0
      · have ea : exB a = true := decide_eq_true ca
        have va : exV a = exa a := if_pos ca
        rw [ea, va]
        by_cases hx : exa a ≤ 0
        · clear hr
          go_wp2
          go_ret
          exact ⟨rfl, HB4.out⟩
        · obtain ⟨X, V, Up, Lo, hX, ⟨r1, r2⟩, ⟨cr, er⟩, ⟨cu, eu⟩, ⟨cl, el⟩, V0, V1, U1, L1, X1, m1, m2⟩ := root_out a r ca hx hr
          obtain ⟨⟨p0, p1⟩, ⟨p2, p3⟩, ⟨p4, p5⟩⟩ := r_room r r1 r2
          have ER := exactYes r p0 p1 cr
          have EU := exactYes (r + 1) p2 p3 cu
          have EL := exactYes (r - 1) p4 p5 cl
          rw [er] at ER
          rw [eu] at EU
          rw [el] at EL
          have HW1 : Hid (IntKind.u32.wrap (r + 1) = r + 1) := u32_ok (r + 1) p2 p3
          have HW2 : Hid (IntKind.u32.wrap (r - 1) = r - 1) := u32_ok (r - 1) p4 p5
          rw [hX] at hx ⊢
          have x2 := (x_room X X1).1
          have HU0 : Hid (IntKind.u64.wrap (X : Int) = X) := (x_room X X1).2
          have s1 := (sum_room V Up V1 U1).1
          have HA : Hid ((V : Int) + Up = ((V + Up : Nat) : Int) ∧ wrap64 ((V + Up : Nat) : Int) = ((V + Up : Nat) : Int) ∧ IntKind.u64.wrap ((V + Up : Nat) : Int) = ((V + Up : Nat) : Int)) := (sum_room V Up V1 U1).2
          have s2 := (sum_room V Lo V1 L1).1
          have HBB : Hid ((V : Int) + Lo = ((V + Lo : Nat) : Int) ∧ wrap64 ((V + Lo : Nat) : Int) = ((V + Lo : Nat) : Int) ∧ IntKind.u64.wrap ((V + Lo : Nat) : Int) = ((V + Lo : Nat) : Int)) := (sum_room V Lo V1 L1).2
          have M0 := fun w => specMul X 67108864 x2 (by unfold Hid; decide) w
          have M1 := fun w => specMul (V + Up) (V + Up) s1 s1 w
          have M2 := fun w => specMul (V + Lo) (V + Lo) s2 s2 w
          rw [show (((67108864 : Nat) : Int)) = 67108864 by rfl] at M0
          obtain ⟨H0, h0e⟩ : ∃ H, ((X * 67108864 / 18446744073709551616 : Nat) : Int) = H := ⟨_, rfl⟩
          obtain ⟨L0, l0e⟩ : ∃ H, ((X * 67108864 % 18446744073709551616 : Nat) : Int) = H := ⟨_, rfl⟩
          obtain ⟨H1, h1e⟩ : ∃ H, (((V + Up) * (V + Up) / 18446744073709551616 : Nat) : Int) = H := ⟨_, rfl⟩
          obtain ⟨L1', l1e⟩ : ∃ H, (((V + Up) * (V + Up) % 18446744073709551616 : Nat) : Int) = H := ⟨_, rfl⟩
          obtain ⟨H2, h2e⟩ : ∃ H, (((V + Lo) * (V + Lo) / 18446744073709551616 : Nat) : Int) = H := ⟨_, rfl⟩
          obtain ⟨L2, l2e⟩ : ∃ H, (((V + Lo) * (V + Lo) % 18446744073709551616 : Nat) : Int) = H := ⟨_, rfl⟩
          have W1' : Hid (H0 < H1 ∨ ¬ H0 < H1 ∧ (H0 == H1) = true ∧ L0 ≤ L1') := by unfold Hid; rw [← h0e, ← l0e, ← h1e, ← l1e]; exact word_ways _ _ m2
          have W2' : Hid (H2 < H0 ∨ ¬ H2 < H0 ∧ (H0 == H2) = true ∧ L2 ≤ L0) := by unfold Hid; rw [← h0e, ← l0e, ← h2e, ← l2e]; exact word_ways' _ _ m1
          have V0' := pos_not V0
          unfold mhi mlo at M0 M1 M2
          rw [h0e, l0e] at M0
          rw [h1e, l1e] at M1
          rw [h2e, l2e] at M2
          clear h0e l0e h1e l1e h2e l2e
          obtain ⟨A, hA⟩ : ∃ A : Int, ((V + Up : Nat) : Int) = A := ⟨_, rfl⟩
          obtain ⟨B, hB⟩ : ∃ B : Int, ((V + Lo : Nat) : Int) = B := ⟨_, rfl⟩
          rw [hA] at M1 HA
          rw [hB] at M2 HBB
          clear hA hB
          clear m1 m2 V0 V1 U1 L1 X1 r1 r2 cr er cu eu cl el hr s1 s2 x2 p0 p1 p2 p3 p4 p5 x0 x1
          go_wp2_with fail
          refine (ER _).mono ?_
          rintro e w5 ⟨rfl, B5⟩
          have w1' := HW1.out
          go_wp2_with fail
          refine (EU _).mono ?_
          rintro e w6 ⟨rfl, B6⟩
          clear w1' HW1
          have w2' := HW2.out
          go_wp2_with fail
          refine (EL _).mono ?_
          rintro e w7 ⟨rfl, B7⟩
          clear w2' HW2
          have HB7 : Hid (Below w.heap.size w w7) := bel_step (bel_step (bel_step HB4.out B5) B6) B7
          clear B5 B6 B7 HB4 ER EU EL
          have u0 := HU0.out
          go_wp2_with fail
          refine (M0 _).mono ?_
          rintro e w8 ⟨rfl, hw⟩
          obtain rfl := hw.symm
          clear u0 HU0 M0 hx V0'
          obtain ⟨a1', u3, u1⟩ := HA.out
          go_wp2_with fail
          refine (M1 _).mono ?_
          rintro e w9 ⟨rfl, hw⟩
          obtain rfl := hw.symm
          clear a1' u3 u1 HA M1
          obtain ⟨a2', u4, u2⟩ := HBB.out
          go_wp2_with fail
          refine (M2 _).mono ?_
          rintro e wa ⟨rfl, hw⟩
          obtain rfl := hw.symm
          clear a2' u4 u2 HBB M2
          rcases W1'.out with g | ⟨g, g2, g3⟩
          · rcases W2'.out with q | ⟨q, q2, q3⟩
            · go_wp2
              go_ret
              exact ⟨rfl, HB7.out⟩
            · go_wp2
              go_ret
              exact ⟨rfl, HB7.out⟩
          · rcases W2'.out with q | ⟨q, q2, q3⟩
            · go_wp2
              go_ret
              exact ⟨rfl, HB7.out⟩
            · go_wp2
              go_ret
              exact ⟨rfl, HB7.out⟩
      · have ea : exB a = false := decide_eq_false ca
        rw [ea]
        clear hr
        go_wp2
        go_ret
        exact ⟨rfl, HB4.out⟩
    · obtain ⟨r, S, I⟩ := sqAny k a hk x0 x1
      have EA := exactAny a x0 x1
      go_wp2_with fail
      refine (I _).mono ?_
      rintro e w2 ⟨rfl, B2⟩
      go_wp2_with fail
      refine (S _).mono ?_
      rintro e w3 ⟨rfl, B3⟩
      clear S I
      go_wp2_with fail
      refine (EA _).mono ?_
      rintro e w4 ⟨rfl, B4⟩
      have HB4 : Hid (Below w.heap.size w w4) := bel_step (bel_step (bel_step B1 B2) B3) B4
      clear B1 B2 B3 B4 EA hk
      go_wp2
      go_ret
      exact ⟨rfl, HB4.out⟩

end Go.Proofs.Yteniijmnpgdpcaa
