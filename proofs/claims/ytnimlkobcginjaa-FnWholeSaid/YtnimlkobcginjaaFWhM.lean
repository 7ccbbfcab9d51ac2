/-
  Halves and the whole numbers around them; small whole numbers as floats and back.
-/
import Derived.Test.YtnimlkobcginjaaFCnv
import Derived.Test.YtnimlkobcginjaaFRoundL
import Derived.Test.YtnimlkobcginjaaFTiJ
import Derived.Test.YtnimlkobcginjaaFTiB
import Derived.Test.YtnimlkobcginjaaRet
namespace Go.Proofs.Ytnimlkobcginjaa
open Go.RowKit

def okW16 (W : Nat) : Bool := decide (min (toldOf 10 (-24) W 0 false) 31744 < 31744) && decide (valN (min (toldOf 10 (-24) W 0 false) 31744) = W * 16777216)
theorem okW16_all : (List.range 2049).all okW16 = true := by decide +kernel

/-- A whole number of at most 2048 as a half. -/
theorem half_whole (s : Bool) (W : Nat) (h : W ≤ 2048) (b : Int) (hb : (s.toNat : Int) * 32768 + ((min (toldOf 10 (-24) W 0 false) 31744 : Nat) : Int) = b) : cl16 b = 0 ∧ exa b = (if s = true then -((W * 16777216 : Nat) : Int) else ((W * 16777216 : Nat) : Int)) ∧ 0 ≤ b ∧ b ≤ 65535 := by
  have h1 := List.all_eq_true.1 okW16_all W (by simp; omega)
  unfold okW16 at h1
  simp only [Bool.and_eq_true, decide_eq_true_eq] at h1
  obtain ⟨h2, h3⟩ := h1
  generalize min (toldOf 10 (-24) W 0 false) 31744 = T at *
  obtain ⟨c1, c2⟩ := exa_fin (s.toNat : Int) T (by cases s <;> simp) h2
  rw [hb] at c1 c2
  rw [h3] at c2
  refine ⟨c1, ?_, ?_, ?_⟩
  · rw [c2]; cases s <;> rfl
  · cases s <;> simp at hb <;> omega
  · cases s <;> simp at hb <;> omega

/-- What stands between the whole numbers around it. -/
structure WOk (x f c t n : Int) : Prop where
  fx : f ≤ x
  xc : x ≤ c
  cf : c - f ≤ 16777216
  fz : ∃ z, f = 16777216 * z
  cz : ∃ z, c = 16777216 * z
  tx : t.natAbs ≤ x.natAbs
  tf : t = f ∨ t = c
  nf : n = f ∨ n = c
  nx : 2 * (n - x).natAbs ≤ 16777216
  lx : x.natAbs ≤ 4398046511104

theorem wh_le (mode : Int) (s : Bool) (m T : Nat) (hT : 1 ≤ T) (hm : m < 2048) : wh mode s m T ≤ 2048 := by
  have h1 : m / 2 ^ T ≤ m / 2 := by
    have h : m / 2 ^ T ≤ m / 2 ^ 1 := Nat.div_le_div_left (Nat.pow_le_pow_right (by omega) hT) (by decide)
    simpa using h
  unfold wh
  split
  · unfold nsh; split <;> omega
  · split <;> omega

def sgW (s : Bool) (W : Nat) : Int := if s = true then -((W : Nat) : Int) else (W : Int)
theorem whole_nums (s : Bool) (m T : Nat) (hT : 1 ≤ T) (hT2 : T ≤ 24) (hm : m < 2048) : WOk (sgW s (m * 2 ^ (24 - T))) (sgW s (wh 2 s m T * 16777216)) (sgW s (wh 1 s m T * 16777216)) (sgW s (wh 3 s m T * 16777216)) (sgW s (wh 4 s m T * 16777216)) := by
  have hDU : 2 ^ T * 2 ^ (24 - T) = 16777216 := by rw [← Nat.pow_add, show T + (24 - T) = 24 by omega]
  have hD := Nat.two_pow_pos T
  have hU := Nat.two_pow_pos (24 - T)
  have hU2 : 2 ^ (24 - T) ≤ 16777216 := by
    have := Nat.pow_le_pow_right (n := 2) (by omega) (show 24 - T ≤ 24 by omega)
    exact Nat.le_trans this (by decide)
  obtain ⟨q, r, P, hP, hn, hr, hq, hr2, hk, k1, k2⟩ := nsh_parts m T false
  have w3 : wh 3 s m T = q := by unfold wh; rw [if_neg (by decide), if_neg (by rintro ⟨h | h, _⟩ <;> simp at h), ← hP, hq]
  have w4 : wh 4 s m T = nsh m T false := by unfold wh; rw [if_pos rfl]
  have w1 : wh 1 s m T = if s = false ∧ r ≠ 0 then q + 1 else q := by
    unfold wh; rw [if_neg (by decide), ← hP, hq, hr2]
    cases s <;> by_cases h : r = 0 <;> simp [h]
  have w2 : wh 2 s m T = if s = true ∧ r ≠ 0 then q + 1 else q := by
    unfold wh; rw [if_neg (by decide), ← hP, hq, hr2]
    cases s <;> by_cases h : r = 0 <;> simp [h]
  rw [w1, w2, w3, w4]
  rw [← hP] at hDU hD
  obtain ⟨U, hUe⟩ : ∃ U, 2 ^ (24 - T) = U := ⟨_, rfl⟩
  rw [hUe] at hDU hU hU2 ⊢
  obtain ⟨R, hR⟩ : ∃ R, r * U = R := ⟨_, rfl⟩
  have e1 : m * U = q * 16777216 + R := by rw [hn, Nat.add_mul, Nat.mul_assoc, hDU, hR]
  have e2 : R < 16777216 := by
    have h := Nat.mul_lt_mul_of_pos_right hr hU
    rw [hDU, hR] at h
    exact h
  have e3 : r = 0 → R = 0 := fun h => by rw [← hR, h, Nat.zero_mul]
  have e4 : r ≠ 0 → 0 < R := fun h => by rw [← hR]; exact Nat.mul_pos (by omega) hU
  have e5 : 2 * r ≤ P → 2 * R ≤ 16777216 := fun h => by
    have h2 := Nat.mul_le_mul_right U h
    rw [hDU, Nat.mul_assoc, hR] at h2
    exact h2
  have e6 : P ≤ 2 * r → 16777216 ≤ 2 * R := fun h => by
    have h2 := Nat.mul_le_mul_right U h
    rw [hDU, Nat.mul_assoc, hR] at h2
    exact h2
  have e7 : m * U ≤ 4398046511104 := by
    have h := Nat.mul_le_mul (show m ≤ 2048 by omega) hU2
    omega
  rw [e1] at e7 ⊢
  generalize nsh m T false = N at *
  have hN : (N = q ∧ 2 * R ≤ 16777216) ∨ (N = q + 1 ∧ 16777216 ≤ 2 * R) := by
    rcases hk with h | h
    · exact Or.inl ⟨h, e5 (k1 h)⟩
    · exact Or.inr ⟨h, e6 (k2 h)⟩
  have hr0 : (r = 0 ∧ R = 0) ∨ (r ≠ 0 ∧ 0 < R) := by
    by_cases h : r = 0
    · exact Or.inl ⟨h, e3 h⟩
    · exact Or.inr ⟨h, e4 h⟩
  clear k1 k2 e3 e4 e5 e6 hk hn hr hq hr2 hDU hP hUe e1 w1 w2 w3 w4 hR
  unfold sgW
  have zz : ∀ k : Nat, ∃ z : Int, ((k * 16777216 : Nat) : Int) = 16777216 * z := fun k => ⟨k, by omega⟩
  have zn : ∀ k : Nat, ∃ z : Int, -((k * 16777216 : Nat) : Int) = 16777216 * z := fun k => ⟨-k, by omega⟩
  cases s
  · rcases hr0 with ⟨h, hR0⟩ | ⟨h, hR0⟩
    · rcases hN with ⟨rfl, h2⟩ | ⟨rfl, h2⟩
      · simp only [Bool.false_eq_true, if_false, h, ne_eq, not_true_eq_false, and_false]
        exact ⟨by omega, by omega, by omega, zz _, zz _, by omega, by omega, by omega, by omega, by omega⟩
      · omega
    · simp only [Bool.false_eq_true, if_false, h, ne_eq, not_false_eq_true, and_self, if_true, false_and]
      rcases hN with ⟨rfl, h2⟩ | ⟨rfl, h2⟩
      · exact ⟨by omega, by omega, by omega, zz _, zz _, by omega, by omega, by omega, by omega, by omega⟩
      · exact ⟨by omega, by omega, by omega, zz _, zz _, by omega, by omega, by omega, by omega, by omega⟩
  · rcases hr0 with ⟨h, hR0⟩ | ⟨h, hR0⟩
    · rcases hN with ⟨rfl, h2⟩ | ⟨rfl, h2⟩
      · simp only [Bool.true_eq_false, if_false, h, ne_eq, not_true_eq_false, and_false, if_true]
        exact ⟨by omega, by omega, by omega, zn _, zn _, by omega, by omega, by omega, by omega, by omega⟩
      · omega
    · simp only [Bool.true_eq_false, if_false, h, ne_eq, not_false_eq_true, and_self, if_true, false_and]
      rcases hN with ⟨rfl, h2⟩ | ⟨rfl, h2⟩
      · exact ⟨by omega, by omega, by omega, zn _, zn _, by omega, by omega, by omega, by omega, by omega⟩
      · exact ⟨by omega, by omega, by omega, zn _, zn _, by omega, by omega, by omega, by omega, by omega⟩

/-- FRound of a finite half. -/
def RdTo (mode a g : Int) : Prop := ∃ b : Int, (∀ w, Calls Try.prog 34 #[.int .i64 16, .int .i64 mode, .int .u32 a] w fun x w' => x = .returned (.int .u32 b) ∧ Below w.heap.size w w') ∧ cl16 b = 0 ∧ exa b = g ∧ 0 ≤ b ∧ b ≤ 65535

theorem half_near (a : Int) (h0 : 0 ≤ a) (ha : a ≤ 4294967295) (hc : cl16 a = 0) : ∃ f c t n : Int, RdTo 2 a f ∧ RdTo 1 a c ∧ RdTo 3 a t ∧ RdTo 4 a n ∧ WOk (exa a) f c t n := by
  obtain ⟨m0, m1, e0, e1⟩ : 0 ≤ vm16 a ∧ vm16 a < 2048 ∧ -24 ≤ ve16 a ∧ ve16 a ≤ 5 := by
    rcases half_bounds a with h | h
    · exact h
    · exact absurd hc h
  obtain ⟨m, hm⟩ := Int.eq_ofNat_of_zero_le m0
  have V := value16 a h0 ha
  have CS := conv_same a hc m hm
  unfold cvOf16 at CS
  rw [hc, if_neg (by decide), if_neg (by decide)] at CS
  have hx : exa a = sgW (a / 32768 % 2 == 1) (m * 2 ^ (ve16 a + 24).toNat) := by
    unfold exa sgW
    rw [hm, show (m : Int) * 2 ^ (ve16 a + 24).toNat = ((m * 2 ^ (ve16 a + 24).toNat : Nat) : Int) by simp]
  rw [hc, hm] at V
  generalize hs : (a / 32768 % 2 == 1) = s at *
  generalize he : ve16 a = e at *
  by_cases he0 : 0 ≤ e
  · have all : ∀ mode : Int, 1 ≤ mode → mode ≤ 4 → RdTo mode a (exa a) := fun mode g1 g4 => by
      refine ⟨a % 65536, ?_, (exa_cut a).2.trans hc, (exa_cut a).1, by omega, by omega⟩
      rw [← CS]
      exact roundImplE16 mode a m e s g1 g4 V _ (implRound16 s m (by omega) e (by omega) (by omega) false) he0
    refine ⟨_, _, _, _, all 2 (by omega) (by omega), all 1 (by omega) (by omega), all 3 (by omega) (by omega), all 4 (by omega) (by omega), ?_⟩
    obtain ⟨k, hk⟩ : ∃ k : Nat, (e + 24).toNat = k + 24 := ⟨e.toNat, by omega⟩
    have hz : ∃ z : Int, exa a = 16777216 * z := by
      rw [hx, hk, Nat.pow_add, ← Nat.mul_assoc, show (2 : Nat) ^ 24 = 16777216 by decide]
      generalize m * 2 ^ k = Z
      unfold sgW
      split
      · exact ⟨-Z, by omega⟩
      · exact ⟨Z, by omega⟩
    have hl : (exa a).natAbs ≤ 4398046511104 := by
      rw [hx]
      have hp : 2 ^ (e + 24).toNat ≤ 2 ^ 29 := Nat.pow_le_pow_right (by omega) (by omega)
      have hb := Nat.mul_le_mul (show m ≤ 2048 by omega) hp
      rw [show (2048 : Nat) * 2 ^ 29 = 1099511627776 by decide] at hb
      generalize m * 2 ^ (e + 24).toNat = Z at *
      unfold sgW
      split <;> omega
    exact ⟨by omega, by omega, by omega, hz, hz, by omega, Or.inl rfl, Or.inl rfl, by omega, hl⟩
  · obtain ⟨T, hT⟩ : ∃ T : Nat, e = -(T : Int) := ⟨(-e).toNat, by omega⟩
    have all : ∀ mode : Int, 1 ≤ mode → mode ≤ 4 → RdTo mode a (sgW s (wh mode s m T * 16777216)) := fun mode g1 g4 => by
      have hw := wh_le mode s m T (by omega) (by omega)
      obtain ⟨b, hb⟩ : ∃ b : Int, (s.toNat : Int) * 32768 + ((min (toldOf 10 (-24) (wh mode s m T) 0 false) 31744 : Nat) : Int) = b := ⟨_, rfl⟩
      obtain ⟨c1, c2, c3, c4⟩ := half_whole s (wh mode s m T) hw b hb
      refine ⟨b, ?_, c1, c2, c3, c4⟩
      rw [← hb]
      exact roundImplN16 mode a m e s g1 g4 V _ _ (implRound16 s (wh mode s m T) (by omega) 0 (by omega) (by omega) false) (wholeBy mode 0 s m T e hT (by omega) (by omega) (by omega) g1 g4) he0
    refine ⟨_, _, _, _, all 2 (by omega) (by omega), all 1 (by omega) (by omega), all 3 (by omega) (by omega), all 4 (by omega) (by omega), ?_⟩
    rw [hx, show (e + 24).toNat = 24 - T by omega]
    exact whole_nums s m T (by omega) (by omega) (by omega)

theorem size_roomW (n L : Nat) (e : Int) (h : n < 2 ^ L) (he : 0 ≤ e) (hL : (L : Int) + e ≤ 64) : n * 2 ^ e.toNat < 18446744073709551616 := by
  have h1 := Nat.mul_lt_mul_of_pos_right h (Nat.two_pow_pos e.toNat)
  rw [← Nat.pow_add] at h1
  have h2 : 2 ^ (L + e.toNat) ≤ 2 ^ 64 := Nat.pow_le_pow_right (by omega) (by omega)
  exact Nat.lt_of_lt_of_le h1 (Nat.le_trans h2 (by decide))

def okI16 (A : Nat) (s : Int) : Bool :=
  decide (cl16 (s * 32768 + ((min (toldOf 10 (-24) A 0 false) 31744 : Nat) : Int)) = 0) && decide ((s * 32768 + ((min (toldOf 10 (-24) A 0 false) 31744 : Nat) : Int)) / 32768 % 2 = s) && decide (sizeOf (vm16 (s * 32768 + ((min (toldOf 10 (-24) A 0 false) 31744 : Nat) : Int))).toNat (ve16 (s * 32768 + ((min (toldOf 10 (-24) A 0 false) 31744 : Nat) : Int))) = A) && decide ((Lib.bitLen (vm16 (s * 32768 + ((min (toldOf 10 (-24) A 0 false) 31744 : Nat) : Int))).toNat : Int) + ve16 (s * 32768 + ((min (toldOf 10 (-24) A 0 false) 31744 : Nat) : Int)) ≤ 64)

def okI32 (A : Nat) (s : Int) : Bool :=
  decide (cl32 (s * 2147483648 + ((min (toldOf 23 (-149) A 0 false) 2139095040 : Nat) : Int)) = 0) && decide ((s * 2147483648 + ((min (toldOf 23 (-149) A 0 false) 2139095040 : Nat) : Int)) / 2147483648 % 2 = s) && decide (sizeOf (vm32 (s * 2147483648 + ((min (toldOf 23 (-149) A 0 false) 2139095040 : Nat) : Int))).toNat (ve32 (s * 2147483648 + ((min (toldOf 23 (-149) A 0 false) 2139095040 : Nat) : Int))) = A) && decide ((Lib.bitLen (vm32 (s * 2147483648 + ((min (toldOf 23 (-149) A 0 false) 2139095040 : Nat) : Int))).toNat : Int) + ve32 (s * 2147483648 + ((min (toldOf 23 (-149) A 0 false) 2139095040 : Nat) : Int)) ≤ 64)

theorem okI16_all : (List.range 2049).all (fun A => okI16 A 0 && okI16 A 1) = true := by decide +kernel

theorem okI32_all : (List.range 2049).all (fun A => okI32 A 0 && okI32 A 1) = true := by decide +kernel

/-- A small whole number as a float, and back. -/
theorem backInt16 (n : Int) (n0 : -2048 ≤ n) (n1 : n ≤ 2048) : ∃ b : Int, (∀ w, Calls Try.prog 39 #[.int .i64 16, .int .i64 n] w fun e w' => e = .returned (.int .u32 b) ∧ Below w.heap.size w w') ∧
    (∀ w, Calls Try.prog 38 #[.int .i64 16, .int .u32 b, .int .i64 32, .bool true] w fun e w' => e = .returned (.tuple #[.int .u64 (n % 4294967296), .int .i64 0]) ∧ Below w.heap.size w w') := by
  obtain ⟨A, hA⟩ : ∃ A : Nat, (A : Int) = if n < 0 then -n else n := ⟨n.natAbs, by split <;> omega⟩
  have hA2 : A ≤ 2048 := by split at hA <;> omega
  have hbl : Lib.bitLen A ≤ 12 := bl_le A 12 (by omega) (by omega)
  have OI := ofIntImpl16 n (by omega) (by omega) A 0 hA (by omega) (by omega) (by simp; omega)
  have e0 : A / 2 ^ 0 = A := by simp
  have e1 : decide (A % 2 ^ 0 ≠ 0) = false := decide_eq_false (by rw [Nat.pow_zero, Nat.mod_one]; simp)
  rw [e0, e1] at OI
  have OK := List.all_eq_true.1 okI16_all A (by simp; omega)
  simp only [Bool.and_eq_true] at OK
  obtain ⟨s, hs⟩ : ∃ s, decide (n < 0) = s := ⟨_, rfl⟩
  rw [hs] at OI
  have ok : okI16 A (s.toNat : Int) = true := by cases s; exact OK.1; exact OK.2
  unfold okI16 at ok
  simp only [Bool.and_eq_true, decide_eq_true_eq] at ok
  have OI' : ∀ w, Calls Try.prog 39 #[.int .i64 16, .int .i64 n] w fun e w' => e = .returned (.int .u32 ((s.toNat : Int) * 32768 + ((min (toldOf 10 (-24) A 0 false) 31744 : Nat) : Int))) ∧ Below w.heap.size w w' := OI
  have hB : 0 ≤ (s.toNat : Int) * 32768 + ((min (toldOf 10 (-24) A 0 false) 31744 : Nat) : Int) ∧ (s.toNat : Int) * 32768 + ((min (toldOf 10 (-24) A 0 false) 31744 : Nat) : Int) ≤ 4294967295 := by
    have h : min (toldOf 10 (-24) A 0 false) 31744 ≤ 31744 := Nat.min_le_right _ _
    generalize min (toldOf 10 (-24) A 0 false) 31744 = Z at *
    cases s <;> simp <;> omega
  generalize (s.toNat : Int) * 32768 + ((min (toldOf 10 (-24) A 0 false) 31744 : Nat) : Int) = B at *
  obtain ⟨⟨⟨o1, o2⟩, o3⟩, o4⟩ := ok
  refine ⟨B, OI', ?_⟩
  have V1 := value16 B hB.1 hB.2
  obtain ⟨_, m1, m1', g1, g1', _, _⟩ := fv16 B
  have hsg : (B / 32768 % 2 == 1) = s := by rw [o2]; cases s <;> rfl
  rw [o1, hsg] at V1
  obtain ⟨m, hm⟩ := Int.eq_ofNat_of_zero_le m1
  rw [hm] at V1 o3 o4 m1'
  rw [Int.toNat_natCast] at o3 o4
  generalize ve16 B = e at *
  have LN : Hid (∀ w, Calls Try.prog 87 #[.int .u64 (m : Int)] w fun e w' => e = .returned (.int .i64 (Lib.bitLen m : Int)) ∧ w' = w) := fun w => len64F m (by omega) w
  have hlen : m < 2 ^ Lib.bitLen m := by
    by_cases h : m = 0
    · subst h; decide
    · exact (bl_is m (by omega) h).2.2.2
  have hL25 : Lib.bitLen m ≤ 25 := bl_le m 25 (by omega) (by omega)
  have SZ := fun w => sizeYes m (Lib.bitLen m) e s LN (by omega) (by omega) (by omega) (by omega) (fun h1 h2 => size_roomW m (Lib.bitLen m) e hlen h2 h1) w
  simp only [if_pos o4, o3] at SZ
  have TY := fun w => toiYes32_16 B 0 m e (A : Int) s true V1 SZ (by omega) (by omega) w
  have ht : toi 2147483648 4294967296 s (A : Int) true = .tuple #[.int .u64 (n % 4294967296), .int .i64 0] := by
    unfold toi hol
    cases s
    · have : ¬ n < 0 := by simpa using hs
      rw [if_neg this] at hA
      rw [if_pos (by simp; omega), if_neg (by decide), hA]
    · have : n < 0 := by simpa using hs
      rw [if_pos this] at hA
      rw [if_pos (by simp; omega), if_pos rfl, hA, Int.neg_neg]
  rw [ht] at TY
  exact TY

/-- A small whole number as a float, and back. -/
theorem backInt32 (n : Int) (n0 : -2048 ≤ n) (n1 : n ≤ 2048) : ∃ b : Int, (∀ w, Calls Try.prog 39 #[.int .i64 32, .int .i64 n] w fun e w' => e = .returned (.int .u32 b) ∧ Below w.heap.size w w') ∧
    (∀ w, Calls Try.prog 38 #[.int .i64 32, .int .u32 b, .int .i64 32, .bool true] w fun e w' => e = .returned (.tuple #[.int .u64 (n % 4294967296), .int .i64 0]) ∧ Below w.heap.size w w') := by
  obtain ⟨A, hA⟩ : ∃ A : Nat, (A : Int) = if n < 0 then -n else n := ⟨n.natAbs, by split <;> omega⟩
  have hA2 : A ≤ 2048 := by split at hA <;> omega
  have hbl : Lib.bitLen A ≤ 12 := bl_le A 12 (by omega) (by omega)
  have OI := ofIntImpl32 n (by omega) (by omega) A 0 hA (by omega) (by omega) (by simp; omega)
  have e0 : A / 2 ^ 0 = A := by simp
  have e1 : decide (A % 2 ^ 0 ≠ 0) = false := decide_eq_false (by rw [Nat.pow_zero, Nat.mod_one]; simp)
  rw [e0, e1] at OI
  have OK := List.all_eq_true.1 okI32_all A (by simp; omega)
  simp only [Bool.and_eq_true] at OK
  obtain ⟨s, hs⟩ : ∃ s, decide (n < 0) = s := ⟨_, rfl⟩
  rw [hs] at OI
  have ok : okI32 A (s.toNat : Int) = true := by cases s; exact OK.1; exact OK.2
  unfold okI32 at ok
  simp only [Bool.and_eq_true, decide_eq_true_eq] at ok
  have OI' : ∀ w, Calls Try.prog 39 #[.int .i64 32, .int .i64 n] w fun e w' => e = .returned (.int .u32 ((s.toNat : Int) * 2147483648 + ((min (toldOf 23 (-149) A 0 false) 2139095040 : Nat) : Int))) ∧ Below w.heap.size w w' := OI
  have hB : 0 ≤ (s.toNat : Int) * 2147483648 + ((min (toldOf 23 (-149) A 0 false) 2139095040 : Nat) : Int) ∧ (s.toNat : Int) * 2147483648 + ((min (toldOf 23 (-149) A 0 false) 2139095040 : Nat) : Int) ≤ 4294967295 := by
    have h : min (toldOf 23 (-149) A 0 false) 2139095040 ≤ 2139095040 := Nat.min_le_right _ _
    generalize min (toldOf 23 (-149) A 0 false) 2139095040 = Z at *
    cases s <;> simp <;> omega
  generalize (s.toNat : Int) * 2147483648 + ((min (toldOf 23 (-149) A 0 false) 2139095040 : Nat) : Int) = B at *
  obtain ⟨⟨⟨o1, o2⟩, o3⟩, o4⟩ := ok
  refine ⟨B, OI', ?_⟩
  have V1 := value32 B hB.1 hB.2
  obtain ⟨_, m1, m1', g1, g1', _, _⟩ := fv32 B
  have hsg : (B / 2147483648 % 2 == 1) = s := by rw [o2]; cases s <;> rfl
  rw [o1, hsg] at V1
  obtain ⟨m, hm⟩ := Int.eq_ofNat_of_zero_le m1
  rw [hm] at V1 o3 o4 m1'
  rw [Int.toNat_natCast] at o3 o4
  generalize ve32 B = e at *
  have LN : Hid (∀ w, Calls Try.prog 87 #[.int .u64 (m : Int)] w fun e w' => e = .returned (.int .i64 (Lib.bitLen m : Int)) ∧ w' = w) := fun w => len64F m (by omega) w
  have hlen : m < 2 ^ Lib.bitLen m := by
    by_cases h : m = 0
    · subst h; decide
    · exact (bl_is m (by omega) h).2.2.2
  have hL25 : Lib.bitLen m ≤ 25 := bl_le m 25 (by omega) (by omega)
  have SZ := fun w => sizeYes m (Lib.bitLen m) e s LN (by omega) (by omega) (by omega) (by omega) (fun h1 h2 => size_roomW m (Lib.bitLen m) e hlen h2 h1) w
  simp only [if_pos o4, o3] at SZ
  have TY := fun w => toiYes32_32 B 0 m e (A : Int) s true V1 SZ (by omega) (by omega) w
  have ht : toi 2147483648 4294967296 s (A : Int) true = .tuple #[.int .u64 (n % 4294967296), .int .i64 0] := by
    unfold toi hol
    cases s
    · have : ¬ n < 0 := by simpa using hs
      rw [if_neg this] at hA
      rw [if_pos (by simp; omega), if_neg (by decide), hA]
    · have : n < 0 := by simpa using hs
      rw [if_pos this] at hA
      rw [if_pos (by simp; omega), if_pos rfl, hA, Int.neg_neg]
  rw [ht] at TY
  exact TY

theorem l3SignedW (a n : Int) (h : (a + 2147483648) % 4294967296 - 2147483648 = n) (w : World) :
    Calls Try.prog 90 #[.int .i64 32, .int .u64 a] w fun e w' => e = .returned (.int .i64 n) ∧ w' = w := by
  go_enter Try.func90, Try.ntmps90
  go_wp2
  go_ret
  refine ⟨ret_int ?_, rfl⟩
  rw [← h]
  unfold wrap64 wrap32; omega

theorem signedW (n : Int) (n0 : -2048 ≤ n) (n1 : n ≤ 2048) (w : World) :
    Calls Try.prog 40 #[.int .i64 32, .int .u64 (n % 4294967296)] w fun e w' => e = .returned (.tuple #[.int .i64 n, .bool true]) ∧ w' = w := by
  have S := l3SignedW (n % 4294967296) n (by omega)
  generalize n % 4294967296 = a at *
  go_enter Try.func40, Try.ntmps40
  go_wp2_with (first | (go_at_call 89; refine (specBitsT 32 _).mono ?_; rintro e w' ⟨rfl, rfl⟩) | (go_at_call 90; refine (S _).mono ?_; rintro e w' ⟨rfl, rfl⟩))
  go_ret2
  exact ⟨rfl, rfl⟩

end Go.Proofs.Ytnimlkobcginjaa
