/-
  Sums and differences of halves, as the whole numbers that they are.
-/
import Derived.Test.YteniijmnpgdpcaaFAddV
import Derived.Test.YteniijmnpgdpcaaFAddW
import Derived.Test.YteniijmnpgdpcaaFExa
namespace Go.Proofs.Yteniijmnpgdpcaa
open Go.RowKit

theorem half_parts (b T : Int) (h0 : b = 0 ∨ b = 1) (t0 : 0 ≤ T) (t1 : T < 32768) : (b * 32768 + T) / 32768 % 2 = b ∧ (b * 32768 + T) / 1024 % 32 = T / 1024 ∧ (b * 32768 + T) % 1024 = T % 1024 := by
  rcases h0 with rfl | rfl <;> omega
theorem exa_fin (b : Int) (T : Nat) (h0 : b = 0 ∨ b = 1) (t1 : T < 31744) : cl16 (b * 32768 + T) = 0 ∧ exa (b * 32768 + T) = if b = 1 then -(valN T : Int) else (valN T : Int) := by
  obtain ⟨e1, e2, e3⟩ := half_parts b T h0 (by omega) (by omega)
  have hx : (T : Int) / 1024 ≠ 31 := by omega
  refine ⟨by unfold cl16; rw [e2, if_neg hx], ?_⟩
  have hv : vm16 (b * 32768 + T) * 2 ^ (ve16 (b * 32768 + T) + 24).toNat = (valN T : Int) := by
    unfold vm16 ve16 valN
    rw [e2, e3, if_neg hx, if_neg hx]
    by_cases h : T / 1024 = 0
    · rw [if_pos (by omega), if_pos (by omega), if_pos h]
      simp
    · rw [if_neg (by omega), if_neg (by omega), if_neg h]
      rw [show (-24 + (T : Int) / 1024 - 1 + 24).toNat = T / 1024 - 1 by omega]
      simp [Int.add_comm]
  unfold exa
  rw [hv, e1]
  rcases h0 with rfl | rfl
  · rw [if_neg (by decide), if_neg (by decide)]
  · rw [if_pos (by decide), if_pos rfl]
theorem cl_top (b : Int) (h0 : b = 0 ∨ b = 1) : cl16 (b * 32768 + 31744) ≠ 0 := by
  obtain ⟨e1, e2, e3⟩ := half_parts b 31744 h0 (by omega) (by omega)
  unfold cl16
  rw [e2, e3]
  decide

/-- What a half is told as, opened again. -/
theorem hv_exa (z : Int) (s : Bool) (hb : bigZ z) : (0 ≤ hv z s ∧ hv z s ≤ 65535) ∧ (bitsN z.natAbs < 31744 → cl16 (hv z s) = 0 ∧ exa (hv z s) = R z) ∧ (31744 ≤ bitsN z.natAbs → cl16 (hv z s) ≠ 0) := by
  have hval := val_bits z.natAbs hb.out
  obtain ⟨b, hbb, hbe, hbs⟩ : ∃ b : Int, (b = 0 ∨ b = 1) ∧ (if z < 0 then (32768 : Int) else if z = 0 then (s.toNat : Int) * 32768 else 0) = b * 32768 ∧ (z ≠ 0 → (b = 1 ↔ z < 0)) := by
    by_cases h1 : z < 0
    · exact ⟨1, Or.inr rfl, by rw [if_pos h1]; rfl, fun _ => by simp [h1]⟩
    · by_cases h2 : z = 0
      · cases s
        · exact ⟨0, Or.inl rfl, by rw [if_neg h1, if_pos h2]; rfl, fun h => absurd h2 h⟩
        · exact ⟨1, Or.inr rfl, by rw [if_neg h1, if_pos h2]; rfl, fun h => absurd h2 h⟩
      · exact ⟨0, Or.inl rfl, by rw [if_neg h1, if_neg h2]; rfl, fun _ => by simp [h1]⟩
  unfold hv
  rw [hbe]
  refine ⟨by omega, fun h => ?_, fun h => ?_⟩
  · rw [Nat.min_eq_left (by omega)]
    obtain ⟨c1, c2⟩ := exa_fin b (bitsN z.natAbs) hbb h
    refine ⟨c1, ?_⟩
    rw [c2, hval]
    unfold R
    by_cases h0 : z = 0
    · subst h0
      have : rN 0 = 0 := rN_exact 0 (by unfold big; omega) inF_zero
      simp [this]
    · have := hbs h0
      by_cases h1 : z < 0
      · rw [if_pos (this.2 h1), if_pos h1]
      · rw [if_neg (fun e => h1 (this.1 e)), if_neg h1]
  · rw [Nat.min_eq_right h]
    exact cl_top b hbb

/-- A finite half as a whole number. -/
theorem exa_zz (a : Int) (hc : cl16 a = 0) : ∃ m : Nat, vm16 a = m ∧ m < 2048 ∧ -24 ≤ ve16 a ∧ ve16 a ≤ 5 ∧ exa a = zz (a / 32768 % 2 == 1) m (ve16 a) := by
  rcases half_bounds a with ⟨m0, m1, e0, e1⟩ | h
  · obtain ⟨m, hm⟩ := Int.eq_ofNat_of_zero_le m0
    refine ⟨m, hm, by omega, e0, e1, ?_⟩
    unfold exa zz
    rw [hm]
    simp
  · exact absurd hc h
theorem exa_F (a : Int) (hc : cl16 a = 0) : isF (exa a) ∧ (exa a).natAbs ≤ 1098974756864 := by
  obtain ⟨m, hm, hm2, e0, e1, he⟩ := exa_zz a hc
  have hn : (exa a).natAbs = m * 2 ^ (ve16 a + 24).toNat := by
    rw [he]; unfold zz; split
    · rw [Int.natAbs_neg]; rfl
    · rfl
  refine ⟨⟨m, _, hm2, hn⟩, ?_⟩
  rw [hn]
  have h1 : 2 ^ (ve16 a + 24).toNat ≤ 2 ^ 29 := Nat.pow_le_pow_right (by omega) (by omega)
  have h2 : m * 2 ^ (ve16 a + 24).toNat ≤ 2047 * 2 ^ 29 := Nat.mul_le_mul (by omega) h1
  have h3 : (2047 : Nat) * 2 ^ 29 = 1098974756864 := by decide
  omega

/-- Sums by their classes, and what they are. -/
theorem addAny (s1 s2 : Bool) (c1 c2 m1 m2 e1 e2 : Int) (f1 : Fv16 c1 m1 e1) (f2 : Fv16 c2 m2 e2) : ∃ r : Int,
    (∀ w, Calls Try.prog 37 #[(.agg #[.int .u64 5, .int .u64 10]), (.agg #[.bool s1, .bool (c1 == 1), .bool (c1 == 2), .int .u64 m1, .int .i64 e1]), (.agg #[.bool s2, .bool (c2 == 1), .bool (c2 == 2), .int .u64 m2, .int .i64 e2])] w fun e w' => e = .returned (.int .u32 r) ∧ Below w.heap.size w w') ∧
    (∀ w, Calls Try.prog 28 #[(.agg #[.int .i64 10, .int .i64 15, .int .u32 31]), (.agg #[.int .i64 c1, .bool s1, .int .u64 m1, .int .i64 e1]), (.agg #[.int .i64 c2, .bool s2, .int .u64 m2, .int .i64 e2])] w fun e w' => e = .returned (.int .u32 r) ∧ Below w.heap.size w w') ∧
    (c1 = 0 → c2 = 0 → r = hv (zz s1 m1.toNat e1 + zz s2 m2.toNat e2) (s1 && s2)) ∧ (c1 ≠ 0 ∨ c2 ≠ 0 → cl16 r ≠ 0 ∧ 0 ≤ r ∧ r ≤ 65535) := by
  obtain ⟨k1, a1, a2, a3, a4, a5, _⟩ := f1
  obtain ⟨k2, b1, b2, b3, b4, b5, _⟩ := f2
  have hs : s2 = s1 ∨ s2 = !s1 := by cases s1 <;> cases s2 <;> simp
  have hnan : cl16 (31744 + 512) ≠ 0 ∧ (0 : Int) ≤ 31744 + 512 ∧ (31744 + 512 : Int) ≤ 65535 := by decide
  have hinf : ∀ s : Bool, cl16 ((s.toNat : Int) * 32768 + 31744) ≠ 0 ∧ (0 : Int) ≤ (s.toNat : Int) * 32768 + 31744 ∧ (s.toNat : Int) * 32768 + 31744 ≤ 65535 := by intro s; cases s <;> decide
  rcases k1 with rfl | rfl | rfl
  · rcases k2 with rfl | rfl | rfl
    · obtain ⟨n1, rfl⟩ := Int.eq_ofNat_of_zero_le a1
      obtain ⟨n2, rfl⟩ := Int.eq_ofNat_of_zero_le b1
      simp only [Int.toNat_natCast]
      by_cases h : e2 ≤ e1
      · obtain ⟨S, I, _⟩ := finV s1 s2 n1 n2 e1 e2 (by omega) (by omega) h b3 (by omega) (fun h => by have := a5 rfl h; omega)
        exact ⟨_, S, cIF16 s1 s2 n1 n2 e1 e2 _ I, fun _ _ => rfl, fun h => by rcases h with h | h <;> exact absurd rfl h⟩
      · obtain ⟨S, _, I⟩ := finV s2 s1 n2 n1 e2 e1 (by omega) (by omega) (by omega) a3 (by omega) (fun h => by have := b5 rfl h; omega)
        exact ⟨_, cSR16 s1 s2 n1 n2 e1 e2 _ (by omega) S, cIF16 s1 s2 n1 n2 e1 e2 _ I, fun _ _ => by rw [Int.add_comm, Bool.and_comm], fun h => by rcases h with h | h <;> exact absurd rfl h⟩
    · exact ⟨_, cSE16 s1 s2 m1 m2 e1 e2, cIE16 s1 s2 m1 m2 e1 e2, fun _ h => absurd h (by decide), fun _ => hinf _⟩
    · exact ⟨_, cSB016 s1 s2 m1 m2 e1 e2, cIB016 s1 s2 m1 m2 e1 e2, fun _ h => absurd h (by decide), fun _ => hnan⟩
  · rcases k2 with rfl | rfl | rfl
    · exact ⟨_, cSD16 s1 s2 m1 m2 e1 e2, cID16 s1 s2 m1 m2 e1 e2, fun h => absurd h (by decide), fun _ => hinf _⟩
    · rcases hs with rfl | rfl
      · exact ⟨_, cSCs16 _ m1 m2 e1 e2, cICs16 _ m1 m2 e1 e2, fun h => absurd h (by decide), fun _ => hinf _⟩
      · exact ⟨_, cSCd16 _ m1 m2 e1 e2, cICd16 _ m1 m2 e1 e2, fun h => absurd h (by decide), fun _ => hnan⟩
    · exact ⟨_, cSB116 s1 s2 m1 m2 e1 e2, cIB116 s1 s2 m1 m2 e1 e2, fun h => absurd h (by decide), fun _ => hnan⟩
  · exact ⟨_, cSA16 s1 s2 _ _ _ m1 m2 e1 e2, cIA16 s1 s2 c2 m1 m2 e1 e2, fun h => absurd h (by decide), fun _ => hnan⟩

theorem zz_not (s : Bool) (m : Nat) (e : Int) : zz (!s) m e = -zz s m e := by unfold zz; cases s <;> simp

/-- FAdd of halves. -/
theorem addHalf (a b : Int) (a0 : 0 ≤ a) (a1 : a ≤ 4294967295) (b0 : 0 ≤ b) (b1 : b ≤ 4294967295) : ∃ r : Int,
    (∀ w, Calls Try.prog 12 #[.int .i64 16, .int .u32 a, .int .u32 b] w fun x w' => x = .returned (.int .u32 r) ∧ Below w.heap.size w w') ∧
    (∀ w, Calls Try.prog 8 #[.int .i64 16, .int .u32 a, .int .u32 b] w fun x w' => x = .returned (.int .u32 r) ∧ Below w.heap.size w w') ∧
    (cl16 a = 0 → cl16 b = 0 → ∃ s, r = hv (exa a + exa b) s) ∧ (cl16 a ≠ 0 ∨ cl16 b ≠ 0 → cl16 r ≠ 0 ∧ 0 ≤ r ∧ r ≤ 65535) := by
  obtain ⟨r, S, I, hf, hn⟩ := addAny (a / 32768 % 2 == 1) (b / 32768 % 2 == 1) _ _ _ _ _ _ (fv16 a) (fv16 b)
  refine ⟨r, wSFAdd16 a b r _ _ (open16 a a0 a1) (open16 b b0 b1) S, wIFAdd16 a b r _ _ (value16 a a0 a1) (value16 b b0 b1) I, fun h1 h2 => ⟨(a / 32768 % 2 == 1) && (b / 32768 % 2 == 1), ?_⟩, hn⟩
  · rw [hf h1 h2]
    obtain ⟨m, hm, _, _, _, he⟩ := exa_zz a h1
    obtain ⟨m', hm', _, _, _, he'⟩ := exa_zz b h2
    rw [he, he', hm, hm']
    simp only [Int.toNat_natCast]
/-- FSub of halves. -/
theorem subHalf (a b : Int) (a0 : 0 ≤ a) (a1 : a ≤ 4294967295) (b0 : 0 ≤ b) (b1 : b ≤ 4294967295) : ∃ r : Int,
    (∀ w, Calls Try.prog 13 #[.int .i64 16, .int .u32 a, .int .u32 b] w fun x w' => x = .returned (.int .u32 r) ∧ Below w.heap.size w w') ∧
    (∀ w, Calls Try.prog 9 #[.int .i64 16, .int .u32 a, .int .u32 b] w fun x w' => x = .returned (.int .u32 r) ∧ Below w.heap.size w w') ∧
    (cl16 a = 0 → cl16 b = 0 → ∃ s, r = hv (exa a - exa b) s) ∧ (cl16 a ≠ 0 ∨ cl16 b ≠ 0 → cl16 r ≠ 0 ∧ 0 ≤ r ∧ r ≤ 65535) := by
  obtain ⟨r, S, I, hf, hn⟩ := addAny (a / 32768 % 2 == 1) (!(b / 32768 % 2 == 1)) _ _ _ _ _ _ (fv16 a) (fv16 b)
  refine ⟨r, wSFSub16 a b r _ _ _ _ _ _ (open16 a a0 a1) (open16 b b0 b1) S, wIFSub16 a b r _ _ _ _ _ (value16 a a0 a1) (value16 b b0 b1) I, fun h1 h2 => ⟨(a / 32768 % 2 == 1) && !(b / 32768 % 2 == 1), ?_⟩, hn⟩
  · rw [hf h1 h2]
    obtain ⟨m, hm, _, _, _, he⟩ := exa_zz a h1
    obtain ⟨m', hm', _, _, _, he'⟩ := exa_zz b h2
    rw [he, he', hm, hm', zz_not]
    simp only [Int.toNat_natCast]
    congr 1

end Go.Proofs.Yteniijmnpgdpcaa
