/-
  Sums and differences of halves, as the whole numbers that they are.
-/
import Derived.Test.YteniijmnpgdpcaaFAddV
import Derived.Test.YteniijmnpgdpcaaFAddW
import Derived.Test.YteniijmnpgdpcaaFExa
import Derived.Test.YteniijmnpgdpcaaFDrx
namespace Go.Proofs.Yteniijmnpgdpcaa
open Go.RowKit

theorem half_parts (b T : Int) (h0 : b = 0 ∨ b = 1) (t0 : 0 ≤ T) (t1 : T < 32768) : (b * 32768 + T) / 32768 % 2 = b ∧ (b * 32768 + T) / 1024 % 32 = T / 1024 ∧ (b * 32768 + T) % 1024 = T % 1024 := by
  rcases h0 with rfl | rfl <;> omega
theorem exa_fin (b : Int) (T : Nat) (h0 : b = 0 ∨ b = 1) (t1 : T < 31744) : cl16 (b * 32768 + T) = 0 ∧ exa (b * 32768 + T) = if b = 1 then -(valN T : Int) else (valN T : Int) := by
  obtain ⟨e1, e2, e3⟩ := half_parts b T h0 (by omega) (by omega)
  have hx : (T : Int) / 1024 ≠ 31 := by omega
  refine ⟨by unfold cl16; rw [e2, if_neg hx], ?_⟩
  have hv : vm16 (b * 32768 + T) * 2 ^ (ve16 (b * 32768 + T) + 24).toNat = (valN T : Int) := by
    unfold vm16 ve16 valN
    rw [e2, e3, if_neg hx, if_neg hx]
    by_cases h : T / 1024 = 0
    · rw [if_pos (by omega), if_pos (by omega), if_pos h]
      simp
    · rw [if_neg (by omega), if_neg (by omega), if_neg h]
      rw [show (-24 + (T : Int) / 1024 - 1 + 24).toNat = T / 1024 - 1 by omega]
      simp [Int.add_comm]
  unfold exa
  rw [hv, e1]
  rcases h0 with rfl | rfl
  · rw [if_neg (by decide), if_neg (by decide)]
  · rw [if_pos (by decide), if_pos rfl]
theorem cl_top (b : Int) (h0 : b = 0 ∨ b = 1) : cl16 (b * 32768 + 31744) ≠ 0 := by
  obtain ⟨e1, e2, e3⟩ := half_parts b 31744 h0 (by omega) (by omega)
  unfold cl16
  rw [e2, e3]
  decide

/-- What a half is told as, opened again. -/
theorem hv_exa (z : Int) (s : Bool) (hb : bigZ z) : (0 ≤ hv z s ∧ hv z s ≤ 65535) ∧ (bitsN z.natAbs < 31744 → cl16 (hv z s) = 0 ∧ exa (hv z s) = R z) ∧ (31744 ≤ bitsN z.natAbs → cl16 (hv z s) ≠ 0) := by
  have hval := val_bits z.natAbs hb.out
  obtain ⟨b, hbb, hbe, hbs⟩ : ∃ b : Int, (b = 0 ∨ b = 1) ∧ (if z < 0 then (32768 : Int) else if z = 0 then (s.toNat : Int) * 32768 else 0) = b * 32768 ∧ (z ≠ 0 → (b = 1 ↔ z < 0)) := by
    by_cases h1 : z < 0
    · exact ⟨1, Or.inr rfl, by rw [if_pos h1]; rfl, fun _ => by simp [h1]⟩
    · by_cases h2 : z = 0
      · cases s
        · exact ⟨0, Or.inl rfl, by rw [if_neg h1, if_pos h2]; rfl, fun h => absurd h2 h⟩
        · exact ⟨1, Or.inr rfl, by rw [if_neg h1, if_pos h2]; rfl, fun h => absurd h2 h⟩
      · exact ⟨0, Or.inl rfl, by rw [if_neg h1, if_neg h2]; rfl, fun _ => by simp [h1]⟩
  unfold hv
  rw [hbe]
  refine ⟨by omega, fun h => ?_, fun h => ?_⟩
  · rw [Nat.min_eq_left (by omega)]
    obtain ⟨c1, c2⟩ := exa_fin b (bitsN z.natAbs) hbb h
    refine ⟨c1, ?_⟩
    rw [c2, hval]
    unfold R
    by_cases h0 : z = 0
    · subst h0
      have : rN 0 = 0 := rN_exact 0 (by unfold big; omega) inF_zero
      simp [this]
    · have := hbs h0
      by_cases h1 : z < 0
      · rw [if_pos (this.2 h1), if_pos h1]
      · rw [if_neg (fun e => h1 (this.1 e)), if_neg h1]
  · rw [Nat.min_eq_right h]
    exact cl_top b hbb

/-- A finite half as a whole number. -/
theorem exa_zz (a : Int) (hc : cl16 a = 0) : ∃ m : Nat, vm16 a = m ∧ m < 2048 ∧ -24 ≤ ve16 a ∧ ve16 a ≤ 5 ∧ exa a = zz (a / 32768 % 2 == 1) m (ve16 a) := by
  rcases half_bounds a with ⟨m0, m1, e0, e1⟩ | h
  · obtain ⟨m, hm⟩ := Int.eq_ofNat_of_zero_le m0
    refine ⟨m, hm, by omega, e0, e1, ?_⟩
    unfold exa zz
    rw [hm]
    simp
  · exact absurd hc h
theorem exa_F (a : Int) (hc : cl16 a = 0) : isF (exa a) ∧ (exa a).natAbs ≤ 1098974756864 := by
  obtain ⟨m, hm, hm2, e0, e1, he⟩ := exa_zz a hc
  have hn : (exa a).natAbs = m * 2 ^ (ve16 a + 24).toNat := by
    rw [he]; unfold zz; split
    · rw [Int.natAbs_neg]; rfl
    · rfl
  refine ⟨⟨m, _, hm2, hn⟩, ?_⟩
  rw [hn]
  have h1 : 2 ^ (ve16 a + 24).toNat ≤ 2 ^ 29 := Nat.pow_le_pow_right (by omega) (by omega)
  have h2 : m * 2 ^ (ve16 a + 24).toNat ≤ 2047 * 2 ^ 29 := Nat.mul_le_mul (by omega) h1
  have h3 : (2047 : Nat) * 2 ^ 29 = 1098974756864 := by decide
  omega

/-- Sums by their classes, and what they are. -/
theorem addAny (s1 s2 : Bool) (c1 c2 m1 m2 e1 e2 : Int) (f1 : Fv16 c1 m1 e1) (f2 : Fv16 c2 m2 e2) : ∃ r : Int,
    (∀ w, Calls Try.prog 37 #[(.agg #[.int .u64 5, .int .u64 10]), (.agg #[.bool s1, .bool (c1 == 1), .bool (c1 == 2), .int .u64 m1, .int .i64 e1]), (.agg #[.bool s2, .bool (c2 == 1), .bool (c2 == 2), .int .u64 m2, .int .i64 e2])] w fun e w' => e = .returned (.int .u32 r) ∧ Below w.heap.size w w') ∧
    (∀ w, Calls Try.prog 28 #[(.agg #[.int .i64 10, .int .i64 15, .int .u32 31]), (.agg #[.int .i64 c1, .bool s1, .int .u64 m1, .int .i64 e1]), (.agg #[.int .i64 c2, .bool s2, .int .u64 m2, .int .i64 e2])] w fun e w' => e = .returned (.int .u32 r) ∧ Below w.heap.size w w') ∧
    (c1 = 0 → c2 = 0 → r = hv (zz s1 m1.toNat e1 + zz s2 m2.toNat e2) (s1 && s2)) ∧ (c1 ≠ 0 ∨ c2 ≠ 0 → cl16 r ≠ 0 ∧ 0 ≤ r ∧ r ≤ 65535) := by
  obtain ⟨k1, a1, a2, a3, a4, a5, _⟩ := f1
  obtain ⟨k2, b1, b2, b3, b4, b5, _⟩ := f2
  have hs : s2 = s1 ∨ s2 = !s1 := by cases s1 <;> cases s2 <;> simp
  have hnan : cl16 (31744 + 512) ≠ 0 ∧ (0 : Int) ≤ 31744 + 512 ∧ (31744 + 512 : Int) ≤ 65535 := by decide
  have hinf : ∀ s : Bool, cl16 ((s.toNat : Int) * 32768 + 31744) ≠ 0 ∧ (0 : Int) ≤ (s.toNat : Int) * 32768 + 31744 ∧ (s.toNat : Int) * 32768 + 31744 ≤ 65535 := by intro s; cases s <;> decide
  rcases k1 with rfl | rfl | rfl
  · rcases k2 with rfl | rfl | rfl
    · obtain ⟨n1, rfl⟩ := Int.eq_ofNat_of_zero_le a1
      obtain ⟨n2, rfl⟩ := Int.eq_ofNat_of_zero_le b1
      simp only [Int.toNat_natCast]
      by_cases h : e2 ≤ e1
      · obtain ⟨S, I, _⟩ := finV s1 s2 n1 n2 e1 e2 (by omega) (by omega) h b3 (by omega) (fun h => by have := a5 rfl h; omega)
        exact ⟨_, S, cIF16 s1 s2 n1 n2 e1 e2 _ I, fun _ _ => rfl, fun h => by rcases h with h | h <;> exact absurd rfl h⟩
      · obtain ⟨S, _, I⟩ := finV s2 s1 n2 n1 e2 e1 (by omega) (by omega) (by omega) a3 (by omega) (fun h => by have := b5 rfl h; omega)
        exact ⟨_, cSR16 s1 s2 n1 n2 e1 e2 _ (by omega) S, cIF16 s1 s2 n1 n2 e1 e2 _ I, fun _ _ => by rw [Int.add_comm, Bool.and_comm], fun h => by rcases h with h | h <;> exact absurd rfl h⟩
    · exact ⟨_, cSE16 s1 s2 m1 m2 e1 e2, cIE16 s1 s2 m1 m2 e1 e2, fun _ h => absurd h (by decide), fun _ => hinf _⟩
    · exact ⟨_, cSB016 s1 s2 m1 m2 e1 e2, cIB016 s1 s2 m1 m2 e1 e2, fun _ h => absurd h (by decide), fun _ => hnan⟩
  · rcases k2 with rfl | rfl | rfl
    · exact ⟨_, cSD16 s1 s2 m1 m2 e1 e2, cID16 s1 s2 m1 m2 e1 e2, fun h => absurd h (by decide), fun _ => hinf _⟩
    · rcases hs with rfl | rfl
      · exact ⟨_, cSCs16 _ m1 m2 e1 e2, cICs16 _ m1 m2 e1 e2, fun h => absurd h (by decide), fun _ => hinf _⟩
      · exact ⟨_, cSCd16 _ m1 m2 e1 e2, cICd16 _ m1 m2 e1 e2, fun h => absurd h (by decide), fun _ => hnan⟩
    · exact ⟨_, cSB116 s1 s2 m1 m2 e1 e2, cIB116 s1 s2 m1 m2 e1 e2, fun h => absurd h (by decide), fun _ => hnan⟩
  · exact ⟨_, cSA16 s1 s2 _ _ _ m1 m2 e1 e2, cIA16 s1 s2 c2 m1 m2 e1 e2, fun h => absurd h (by decide), fun _ => hnan⟩

theorem zz_not (s : Bool) (m : Nat) (e : Int) : zz (!s) m e = -zz s m e := by unfold zz; cases s <;> simp

/-- FAdd of halves. -/
theorem addHalf (a b : Int) (a0 : 0 ≤ a) (a1 : a ≤ 4294967295) (b0 : 0 ≤ b) (b1 : b ≤ 4294967295) : ∃ r : Int,
    (∀ w, Calls Try.prog 12 #[.int .i64 16, .int .u32 a, .int .u32 b] w fun x w' => x = .returned (.int .u32 r) ∧ Below w.heap.size w w') ∧
    (∀ w, Calls Try.prog 8 #[.int .i64 16, .int .u32 a, .int .u32 b] w fun x w' => x = .returned (.int .u32 r) ∧ Below w.heap.size w w') ∧
    (cl16 a = 0 → cl16 b = 0 → ∃ s, r = hv (exa a + exa b) s) ∧ (cl16 a ≠ 0 ∨ cl16 b ≠ 0 → cl16 r ≠ 0 ∧ 0 ≤ r ∧ r ≤ 65535) := by
  obtain ⟨r, S, I, hf, hn⟩ := addAny (a / 32768 % 2 == 1) (b / 32768 % 2 == 1) _ _ _ _ _ _ (fv16 a) (fv16 b)
  refine ⟨r, wSFAdd16 a b r _ _ (open16 a a0 a1) (open16 b b0 b1) S, wIFAdd16 a b r _ _ (value16 a a0 a1) (value16 b b0 b1) I, fun h1 h2 => ⟨(a / 32768 % 2 == 1) && (b / 32768 % 2 == 1), ?_⟩, hn⟩
  · rw [hf h1 h2]
    obtain ⟨m, hm, _, _, _, he⟩ := exa_zz a h1
    obtain ⟨m', hm', _, _, _, he'⟩ := exa_zz b h2
    rw [he, he', hm, hm']
    simp only [Int.toNat_natCast]
/-- FSub of halves. -/
theorem subHalf (a b : Int) (a0 : 0 ≤ a) (a1 : a ≤ 4294967295) (b0 : 0 ≤ b) (b1 : b ≤ 4294967295) : ∃ r : Int,
    (∀ w, Calls Try.prog 13 #[.int .i64 16, .int .u32 a, .int .u32 b] w fun x w' => x = .returned (.int .u32 r) ∧ Below w.heap.size w w') ∧
    (∀ w, Calls Try.prog 9 #[.int .i64 16, .int .u32 a, .int .u32 b] w fun x w' => x = .returned (.int .u32 r) ∧ Below w.heap.size w w') ∧
    (cl16 a = 0 → cl16 b = 0 → ∃ s, r = hv (exa a - exa b) s) ∧ (cl16 a ≠ 0 ∨ cl16 b ≠ 0 → cl16 r ≠ 0 ∧ 0 ≤ r ∧ r ≤ 65535) := by
  obtain ⟨r, S, I, hf, hn⟩ := addAny (a / 32768 % 2 == 1) (!(b / 32768 % 2 == 1)) _ _ _ _ _ _ (fv16 a) (fv16 b)
  refine ⟨r, wSFSub16 a b r _ _ _ _ _ _ (open16 a a0 a1) (open16 b b0 b1) S, wIFSub16 a b r _ _ _ _ _ (value16 a a0 a1) (value16 b b0 b1) I, fun h1 h2 => ⟨(a / 32768 % 2 == 1) && !(b / 32768 % 2 == 1), ?_⟩, hn⟩
  · rw [hf h1 h2]
    obtain ⟨m, hm, _, _, _, he⟩ := exa_zz a h1
    obtain ⟨m', hm', _, _, _, he'⟩ := exa_zz b h2
    rw [he, he', hm, hm', zz_not]
    simp only [Int.toNat_natCast]
    congr 1

end Go.Proofs.Yteniijmnpgdpcaa

namespace Go.Proofs.Yteniijmnpgdpcaa
open Go.RowKit

/-- What laws.exact answers of any half. -/
def exV (a : Int) : Int := if cl16 a = 0 then exa a else 0
def exB (a : Int) : Bool := decide (cl16 a = 0)
theorem exactAny (a : Int) (h0 : 0 ≤ a) (h1 : a ≤ 4294967295) (w : World) :
    Calls Try.prog 16 #[.int .u32 a] w fun e w' => e = .returned (.tuple #[.int .i64 (exV a), .bool (exB a)]) ∧ Below w.heap.size w w' := by
  unfold exV exB
  by_cases hc : cl16 a = 0
  · rw [if_pos hc, decide_eq_true hc]; exact exactYes a h0 h1 hc w
  · rw [if_neg hc, decide_eq_false hc]; exact exactNo a h0 h1 hc w

theorem drawFSub (a : Option Addr) (n cap : Nat) (w : World) (hb : Bys w a n w.heap.size) :
    Calls Try.prog 19 #[.slice a n cap] w fun e w' => ∃ k x y : Int, (k = 16 ∨ k = 32 ∨ k = 64) ∧ 0 ≤ x ∧ x ≤ 4294967295 ∧ 0 ≤ y ∧ y ≤ 4294967295 ∧ e = .returned (.tuple #[.int .i64 k, .int .u32 x, .int .u32 y]) ∧ Below w.heap.size w w' := by
  go_enter Try.func19, Try.ntmps19
  go_wp2_with fail
  refine (drawFAdd a n cap w hb).mono ?_
  rintro e w1 ⟨k, x, y, hk, x0, x1, y0, y1, rfl, B1⟩
  go_wp2
  refine bodyPost_ret (three_resD Try.results19 _ _ _) rfl ⟨k, x, y, hk, x0, x1, y0, y1, rfl, B1⟩

/-- A difference of any kind: both sides. -/
theorem subAny (k a b : Int) (hk : k = 16 ∨ k = 32 ∨ k = 64) (a0 : 0 ≤ a) (a1 : a ≤ 4294967295) (b0 : 0 ≤ b) (b1 : b ≤ 4294967295) : ∃ r : Int,
    (∀ w, Calls Try.prog 13 #[.int .i64 k, .int .u32 a, .int .u32 b] w fun x w' => x = .returned (.int .u32 r) ∧ Below w.heap.size w w') ∧
    (∀ w, Calls Try.prog 9 #[.int .i64 k, .int .u32 a, .int .u32 b] w fun x w' => x = .returned (.int .u32 r) ∧ Below w.heap.size w w') := by
  rcases hk with rfl | rfl | rfl
  · exact bothFSub16 a b a0 a1 b0 b1
  · exact bothFSub32 a b a0 a1 b0 b1
  · exact ⟨0, noFSub 64 a b (by decide) (by decide)⟩
theorem addAnyK (k a b : Int) (hk : k = 16 ∨ k = 32 ∨ k = 64) (a0 : 0 ≤ a) (a1 : a ≤ 4294967295) (b0 : 0 ≤ b) (b1 : b ≤ 4294967295) : ∃ r : Int,
    (∀ w, Calls Try.prog 12 #[.int .i64 k, .int .u32 a, .int .u32 b] w fun x w' => x = .returned (.int .u32 r) ∧ Below w.heap.size w w') ∧
    (∀ w, Calls Try.prog 8 #[.int .i64 k, .int .u32 a, .int .u32 b] w fun x w' => x = .returned (.int .u32 r) ∧ Below w.heap.size w w') := by
  rcases hk with rfl | rfl | rfl
  · exact bothFAdd16 a b a0 a1 b0 b1
  · exact bothFAdd32 a b a0 a1 b0 b1
  · exact ⟨0, noFAdd 64 a b (by decide) (by decide)⟩

/-- A sum that is finite, opened again. -/
theorem hv_open (z : Int) (s : Bool) (hz : z.natAbs ≤ 4398046511104) : (0 ≤ hv z s ∧ hv z s ≤ 65535) ∧ (cl16 (hv z s) = 0 → exa (hv z s) = R z ∧ (R z).natAbs ≤ 1098974756864) := by
  have hb : bigZ z := by unfold bigZ; omega
  obtain ⟨h1, h2, h3⟩ := hv_exa z s hb
  refine ⟨h1, fun hc => ?_⟩
  rcases Nat.lt_or_ge (bitsN z.natAbs) 31744 with h | h
  · refine ⟨(h2 h).2, ?_⟩
    have := fin_bits z.natAbs hb.out h
    unfold R
    split <;> omega
  · exact absurd hc (h3 h)

theorem ster_out (X Y : Int) (s : Bool) (Fx : isF X) (Fy : isF Y) (_lx : X.natAbs ≤ 1098974756864) (ly : Y.natAbs ≤ 1098974756864) (g1 : ¬ X ≤ 0) (g2 : ¬ Y ≤ 0) (g3 : ¬ 2 * Y < X) (g4 : ¬ 2 * X < Y) :
    cl16 (hv (X - Y) s) = 0 ∧ exa (hv (X - Y) s) = X - Y ∧ 0 ≤ hv (X - Y) s ∧ hv (X - Y) s ≤ 4294967295 := by
  have hF := sterbenz X Y Fx Fy (by omega) (by omega) (by omega) (by omega)
  have hb : bigZ (X - Y) := by unfold bigZ; omega
  obtain ⟨⟨r0, r1⟩, q2, _⟩ := hv_exa (X - Y) s hb
  obtain ⟨cr, vr⟩ := q2 (bits_fin _ hb.out (by omega))
  rw [R_exact _ hb hF] at vr
  exact ⟨cr, vr, r0, by omega⟩

set_option maxHeartbeats 2000000 in
set_option maxRecDepth 2000000 in
theorem sterbenzB (a1 : Option Addr) (n1 c1 : Nat) (w : World) (h1 : Bys w a1 n1 w.heap.size) :
    Calls Try.prog 5 #[.slice a1 n1 c1] w fun e w' => e = .returned (.bool true) ∧ Below w.heap.size w w' := by
  obtain ⟨N, hN⟩ : ∃ N : Int, (n1 : Int) = N := ⟨_, rfl⟩
  by_cases hlen : 1048576 < N
  · go_enter Try.func5, Try.ntmps5
    go_wp2
    go_ret
    exact ⟨rfl, Below.refl _ _⟩
  · go_enter Try.func5, Try.ntmps5
    go_wp2_with fail
    refine (drawFSub a1 n1 c1 w h1).mono ?_
    rintro e w1 ⟨k, x, y, hk, x0, x1, y0, y1, rfl, B1⟩
    clear hlen hN h1
    by_cases h16 : k = 16
    · subst h16
      obtain ⟨r, S, I, hf, _⟩ := subHalf x y x0 x1 y0 y1
      go_wp2_with fail
      refine (I _).mono ?_
      rintro e w2 ⟨rfl, B2⟩
      go_wp2_with fail
      refine (S _).mono ?_
      rintro e w3 ⟨rfl, B3⟩
      have EX := exactAny x x0 x1
      have EY := exactAny y y0 y1
      clear S I
      go_wp2_with fail
      refine (EX _).mono ?_
      rintro e w4 ⟨rfl, B4⟩
      go_wp2_with fail
      refine (EY _).mono ?_
      rintro e w5 ⟨rfl, B5⟩
      have HB : Hid (Below w.heap.size w w5) := bel_step (bel_step (bel_step (bel_step B1 B2) B3) B4) B5
      clear B1 B2 B3 B4 B5 EX EY
      by_cases cx : cl16 x = 0
      · by_cases cy : cl16 y = 0
        · have ex : exB x = true := decide_eq_true cx
          have ey : exB y = true := decide_eq_true cy
          have vx : exV x = exa x := if_pos cx
          have vy : exV y = exa y := if_pos cy
          obtain ⟨Fx, lx⟩ := exa_F x cx
          obtain ⟨Fy, ly⟩ := exa_F y cy
          obtain ⟨s, hr⟩ := hf cx cy
          rw [ex, ey, vx, vy]
          generalize exa x = X at *
          generalize exa y = Y at *
          have wX : wrap64 (2 * X) = 2 * X := w64_ok _ (by omega) (by omega)
          have wY : wrap64 (2 * Y) = 2 * Y := w64_ok _ (by omega) (by omega)
          have wD : wrap64 (X - Y) = X - Y := w64_ok _ (by omega) (by omega)
          by_cases g1 : X ≤ 0
          · clear hr hf
            go_wp2
            go_ret
            exact ⟨rfl, HB.out⟩
          · by_cases g2 : Y ≤ 0
            · clear hr hf
              go_wp2
              go_ret
              exact ⟨rfl, HB.out⟩
            · by_cases g3 : 2 * Y < X
              · clear hr hf
                go_wp2
                go_ret
                exact ⟨rfl, HB.out⟩
              · by_cases g4 : 2 * X < Y
                · clear hr hf
                  go_wp2
                  go_ret
                  exact ⟨rfl, HB.out⟩
                · obtain ⟨cr, vr, r0, r1⟩ := ster_out X Y s Fx Fy lx ly g1 g2 g3 g4
                  rw [← hr] at cr vr r0 r1
                  have EZ := exactYes r r0 r1 cr
                  rw [vr] at EZ
                  clear hr hf Fx Fy lx ly cr vr r0 r1
                  go_wp2_with fail
                  refine (EZ _).mono ?_
                  rintro e w6 ⟨rfl, B6⟩
                  have HB6 : Hid (Below w.heap.size w w6) := bel_step HB.out B6
                  clear B6 HB EZ
                  go_wp2
                  go_ret
                  exact ⟨rfl, HB6.out⟩
        · have ex : exB x = true := decide_eq_true cx
          have ey : exB y = false := decide_eq_false cy
          rw [ex, ey]
          clear hf
          go_wp2
          go_ret
          exact ⟨rfl, HB.out⟩
      · have ex : exB x = false := decide_eq_false cx
        rw [ex]
        clear hf
        go_wp2
        go_ret
        exact ⟨rfl, HB.out⟩
    · obtain ⟨r, S, I⟩ := subAny k x y hk x0 x1 y0 y1
      go_wp2_with fail
      refine (I _).mono ?_
      rintro e w2 ⟨rfl, B2⟩
      go_wp2_with fail
      refine (S _).mono ?_
      rintro e w3 ⟨rfl, B3⟩
      have EX := exactAny x x0 x1
      have EY := exactAny y y0 y1
      clear S I
      go_wp2_with fail
      refine (EX _).mono ?_
      rintro e w4 ⟨rfl, B4⟩
      go_wp2_with fail
      refine (EY _).mono ?_
      rintro e w5 ⟨rfl, B5⟩
      have HB : Hid (Below w.heap.size w w5) := bel_step (bel_step (bel_step (bel_step B1 B2) B3) B4) B5
      clear B1 B2 B3 B4 B5 EX EY hk
      go_wp2
      go_ret
      exact ⟨rfl, HB.out⟩

end Go.Proofs.Yteniijmnpgdpcaa

namespace Go.Proofs.Yteniijmnpgdpcaa
open Go.RowKit

/-- All of it over halves: what is reckoned as the error is it, where all is finite. -/
theorem two_out (a b s t p da db e : Int) (ca : cl16 a = 0) (cb : cl16 b = 0) (cs : cl16 s = 0) (ce : cl16 e = 0)
    (h1 : cl16 a = 0 → cl16 b = 0 → ∃ q, s = hv (exa a + exa b) q)
    (h2 : cl16 s = 0 → cl16 a = 0 → ∃ q, t = hv (exa s - exa a) q) (_n2 : cl16 s ≠ 0 ∨ cl16 a ≠ 0 → cl16 t ≠ 0 ∧ 0 ≤ t ∧ t ≤ 65535)
    (h3 : cl16 s = 0 → cl16 t = 0 → ∃ q, p = hv (exa s - exa t) q) (_n3 : cl16 s ≠ 0 ∨ cl16 t ≠ 0 → cl16 p ≠ 0 ∧ 0 ≤ p ∧ p ≤ 65535)
    (h4 : cl16 a = 0 → cl16 p = 0 → ∃ q, da = hv (exa a - exa p) q) (n4 : cl16 a ≠ 0 ∨ cl16 p ≠ 0 → cl16 da ≠ 0 ∧ 0 ≤ da ∧ da ≤ 65535)
    (h5 : cl16 b = 0 → cl16 t = 0 → ∃ q, db = hv (exa b - exa t) q) (n5 : cl16 b ≠ 0 ∨ cl16 t ≠ 0 → cl16 db ≠ 0 ∧ 0 ≤ db ∧ db ≤ 65535)
    (h6 : cl16 da = 0 → cl16 db = 0 → ∃ q, e = hv (exa da + exa db) q) (n6 : cl16 da ≠ 0 ∨ cl16 db ≠ 0 → cl16 e ≠ 0 ∧ 0 ≤ e ∧ e ≤ 65535) :
    exa a + exa b = exa s + exa e := by
  have cda : cl16 da = 0 := Decidable.byContradiction fun h => (n6 (Or.inl h)).1 ce
  have cdb : cl16 db = 0 := Decidable.byContradiction fun h => (n6 (Or.inr h)).1 ce
  have cp : cl16 p = 0 := Decidable.byContradiction fun h => (n4 (Or.inr h)).1 cda
  have ct : cl16 t = 0 := Decidable.byContradiction fun h => (n5 (Or.inr h)).1 cdb
  obtain ⟨Fa, la⟩ := exa_F a ca
  obtain ⟨Fb, lb⟩ := exa_F b cb
  obtain ⟨_, ls⟩ := exa_F s cs
  obtain ⟨_, lt⟩ := exa_F t ct
  obtain ⟨_, lp⟩ := exa_F p cp
  obtain ⟨_, lda⟩ := exa_F da cda
  obtain ⟨_, ldb⟩ := exa_F db cdb
  have O : ∀ (z : Int) (q : Bool) (v : Int), v = hv z q → cl16 v = 0 → z.natAbs ≤ 4398046511104 → exa v = R z := fun z q v hv0 hc hz => by
    subst hv0; exact ((hv_open z q hz).2 hc).1
  obtain ⟨q1, e1⟩ := h1 ca cb
  obtain ⟨q2, e2⟩ := h2 cs ca
  obtain ⟨q3, e3⟩ := h3 cs ct
  obtain ⟨q4, e4⟩ := h4 ca cp
  obtain ⟨q5, e5⟩ := h5 cb ct
  obtain ⟨q6, e6⟩ := h6 cda cdb
  have r1 := O _ _ _ e1 cs (by omega)
  have r2 := O _ _ _ e2 ct (by omega)
  have r3 := O _ _ _ e3 cp (by omega)
  have r4 := O _ _ _ e4 cda (by omega)
  have r5 := O _ _ _ e5 cdb (by omega)
  have r6 := O _ _ _ e6 ce (by omega)
  exact two_sum (exa a) (exa b) (exa s) (exa t) (exa p) (exa da) (exa db) (exa e) Fa Fb (by omega) (by omega) r1 (by omega) r2 (by omega) r3 (by omega) r4 (by omega) r5 (by omega) r6

theorem half_room2 (r : Int) (hr : (cl16 r ≠ 0 ∧ 0 ≤ r ∧ r ≤ 65535) ∨ ∃ z s, z.natAbs ≤ 4398046511104 ∧ r = hv z s) : 0 ≤ r ∧ r ≤ 4294967295 := by
  rcases hr with h | ⟨z, s, hz, rfl⟩
  · omega
  · have := (hv_open z s hz).1; omega
/-- The bounds of what a sum is told as. -/
theorem add_room (a b r : Int) (hf : cl16 a = 0 → cl16 b = 0 → ∃ s, r = hv (exa a + exa b) s) (hn : cl16 a ≠ 0 ∨ cl16 b ≠ 0 → cl16 r ≠ 0 ∧ 0 ≤ r ∧ r ≤ 65535) : 0 ≤ r ∧ r ≤ 4294967295 := by
  refine half_room2 r ?_
  by_cases ca : cl16 a = 0
  · by_cases cb : cl16 b = 0
    · obtain ⟨s, h⟩ := hf ca cb
      have := (exa_F a ca).2
      have := (exa_F b cb).2
      exact Or.inr ⟨_, s, by omega, h⟩
    · exact Or.inl (hn (Or.inr cb))
  · exact Or.inl (hn (Or.inl ca))
theorem sub_room (a b r : Int) (hf : cl16 a = 0 → cl16 b = 0 → ∃ s, r = hv (exa a - exa b) s) (hn : cl16 a ≠ 0 ∨ cl16 b ≠ 0 → cl16 r ≠ 0 ∧ 0 ≤ r ∧ r ≤ 65535) : 0 ≤ r ∧ r ≤ 4294967295 := by
  refine half_room2 r ?_
  by_cases ca : cl16 a = 0
  · by_cases cb : cl16 b = 0
    · obtain ⟨s, h⟩ := hf ca cb
      have := (exa_F a ca).2
      have := (exa_F b cb).2
      exact Or.inr ⟨_, s, by omega, h⟩
    · exact Or.inl (hn (Or.inr cb))
  · exact Or.inl (hn (Or.inl ca))
theorem exV_ok (a : Int) : -4611686018427387904 ≤ exV a ∧ exV a ≤ 4611686018427387904 ∧ (exV a).natAbs ≤ 1098974756864 := by
  unfold exV
  by_cases h : cl16 a = 0
  · rw [if_pos h]; have := (exa_F a h).2; omega
  · rw [if_neg h]; decide

theorem sums_ok (a b : Int) : wrap64 (exV a + exV b) = exV a + exV b := by
  have h1 := exV_ok a
  have h2 := exV_ok b
  exact w64_ok _ (by omega) (by omega)

set_option maxHeartbeats 4000000 in
set_option maxRecDepth 2000000 in
theorem twoSumB (a1 : Option Addr) (n1 c1 : Nat) (w : World) (h1 : Bys w a1 n1 w.heap.size) :
    Calls Try.prog 4 #[.slice a1 n1 c1] w fun e w' => e = .returned (.bool true) ∧ Below w.heap.size w w' := by
  obtain ⟨N, hN⟩ : ∃ N : Int, (n1 : Int) = N := ⟨_, rfl⟩
  by_cases hlen : 1048576 < N
  · go_enter Try.func4, Try.ntmps4
    go_wp2
    go_ret
    exact ⟨rfl, Below.refl _ _⟩
  · go_enter Try.func4, Try.ntmps4
    go_wp2_with fail
    refine (drawFSub a1 n1 c1 w h1).mono ?_
    rintro e w1 ⟨k, a, b, hk, x0, x1, y0, y1, rfl, B1⟩
    clear hlen hN h1
    by_cases h16 : k = 16
    · subst h16
      obtain ⟨s, S1, I1, f1, m1⟩ := addHalf a b x0 x1 y0 y1
      obtain ⟨s0, s1⟩ := add_room a b s f1 m1
      obtain ⟨t, _, I2, f2, m2⟩ := subHalf s a s0 s1 x0 x1
      obtain ⟨t0, t1⟩ := sub_room s a t f2 m2
      obtain ⟨p, _, I3, f3, m3⟩ := subHalf s t s0 s1 t0 t1
      obtain ⟨p0, p1⟩ := sub_room s t p f3 m3
      obtain ⟨da, _, I4, f4, m4⟩ := subHalf a p x0 x1 p0 p1
      obtain ⟨da0, da1⟩ := sub_room a p da f4 m4
      obtain ⟨db, _, I5, f5, m5⟩ := subHalf b t y0 y1 t0 t1
      obtain ⟨db0, db1⟩ := sub_room b t db f5 m5
      obtain ⟨er, _, I6, f6, m6⟩ := addHalf da db da0 da1 db0 db1
      obtain ⟨er0, er1⟩ := add_room da db er f6 m6
      have HM : Hid (cl16 a = 0 → cl16 b = 0 → cl16 s = 0 → cl16 er = 0 → exa a + exa b = exa s + exa er) := fun ca cb cs ce => two_out a b s t p da db er ca cb cs ce f1 f2 m2 f3 m3 f4 m4 f5 m5 f6 m6
      have EA := exactAny a x0 x1
      have EB := exactAny b y0 y1
      have ES := exactAny s s0 s1
      have EE := exactAny er er0 er1
      have q1 := sums_ok a b
      have q2 := sums_ok s er
      have HV : Hid (exB a = true → exB b = true → exB s = true → exB er = true → exV a + exV b = exV s + exV er) := fun g1 g2 g3 g4 => by
        have c1 : cl16 a = 0 := of_decide_eq_true g1
        have c2 : cl16 b = 0 := of_decide_eq_true g2
        have c3 : cl16 s = 0 := of_decide_eq_true g3
        have c4 : cl16 er = 0 := of_decide_eq_true g4
        unfold exV
        rw [if_pos c1, if_pos c2, if_pos c3, if_pos c4]
        exact HM.out c1 c2 c3 c4
      clear f1 f2 f3 f4 f5 f6 m1 m2 m3 m4 m5 m6 x0 x1 y0 y1 s0 s1 t0 t1 p0 p1 da0 da1 db0 db1 er0 er1 HM hk
      go_wp2_with fail
      refine (I1 _).mono ?_
      rintro e w2 ⟨rfl, B2⟩
      go_wp2_with fail
      refine (S1 _).mono ?_
      rintro e w3 ⟨rfl, B3⟩
      have HB3 : Hid (Below w.heap.size w w3) := bel_step (bel_step B1 B2) B3
      clear B1 B2 B3 I1 S1
      go_wp2_with fail
      refine (I2 _).mono ?_
      rintro e w4 ⟨rfl, B4⟩
      go_wp2_with fail
      refine (I3 _).mono ?_
      rintro e w5 ⟨rfl, B5⟩
      go_wp2_with fail
      refine (I4 _).mono ?_
      rintro e w6 ⟨rfl, B6⟩
      go_wp2_with fail
      refine (I5 _).mono ?_
      rintro e w7 ⟨rfl, B7⟩
      go_wp2_with fail
      refine (I6 _).mono ?_
      rintro e w8 ⟨rfl, B8⟩
      have HB8 : Hid (Below w.heap.size w w8) := bel_step (bel_step (bel_step (bel_step (bel_step HB3.out B4) B5) B6) B7) B8
      clear B4 B5 B6 B7 B8 HB3 I2 I3 I4 I5 I6
      go_wp2_with fail
      refine (EA _).mono ?_
      rintro e w9 ⟨rfl, B9⟩
      go_wp2_with fail
      refine (EB _).mono ?_
      rintro e wa ⟨rfl, Ba⟩
      go_wp2_with fail
      refine (ES _).mono ?_
      rintro e wb ⟨rfl, Bb⟩
      go_wp2_with fail
      refine (EE _).mono ?_
      rintro e wc ⟨rfl, Bc⟩
      have HBc : Hid (Below w.heap.size w wc) := bel_step (bel_step (bel_step (bel_step HB8.out B9) Ba) Bb) Bc
      clear B9 Ba Bb Bc HB8 EA EB ES EE
      generalize exB a = ba at *
      generalize exB b = bb at *
      generalize exB s = bs at *
      generalize exB er = be at *
      generalize exV a = va at *
      generalize exV b = vb at *
      generalize exV s = vs at *
      generalize exV er = ve at *
      cases ba
      · clear HV
        go_wp2
        go_ret
        exact ⟨rfl, HBc.out⟩
      · cases bb
        · clear HV
          go_wp2
          go_ret
          exact ⟨rfl, HBc.out⟩
        · cases bs
          · clear HV
            go_wp2
            go_ret
            exact ⟨rfl, HBc.out⟩
          · cases be
            · clear HV
              go_wp2
              go_ret
              exact ⟨rfl, HBc.out⟩
            · have hv := HV.out rfl rfl rfl rfl
              obtain ⟨Q, hQ⟩ : ∃ Q, va + vb = Q := ⟨_, rfl⟩
              rw [hQ] at hv q1
              rw [← hv] at q2
              clear HV
              go_wp2
              go_ret
              exact ⟨rfl, HBc.out⟩
    · obtain ⟨r, S, I⟩ := addAnyK k a b hk x0 x1 y0 y1
      go_wp2_with fail
      refine (I _).mono ?_
      rintro e w2 ⟨rfl, B2⟩
      go_wp2_with fail
      refine (S _).mono ?_
      rintro e w3 ⟨rfl, B3⟩
      have HB : Hid (Below w.heap.size w w3) := bel_step (bel_step B1 B2) B3
      clear B1 B2 B3 S I hk
      go_wp2
      go_ret
      exact ⟨rfl, HB.out⟩

end Go.Proofs.Yteniijmnpgdpcaa
