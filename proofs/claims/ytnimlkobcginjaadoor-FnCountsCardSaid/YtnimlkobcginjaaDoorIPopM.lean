/-
  Ones are counted, bit by bit and by fields: plain facts.
-/
import Derived.Test.YtnimlkobcginjaaDoorPMath
import Derived.Laws.Bits64b
namespace Go.Proofs.YtnimlkobcginjaaDoor

/-- How many of the lowest f bits are ones. -/
def pc : Nat → Nat → Nat
  | 0, _ => 0
  | f + 1, x => x % 2 + pc f (x / 2)
theorem pc_zero : ∀ f, pc f 0 = 0
  | 0 => rfl
  | f + 1 => by rw [pc, Nat.zero_div, pc_zero f]
theorem pc_add : ∀ a b x, pc (a + b) x = pc a x + pc b (x / 2 ^ a)
  | 0, b, x => by simp [pc]
  | a + 1, b, x => by
    have h := pc_add a b (x / 2)
    rw [Nat.div_div_eq_div_mul, ← Nat.pow_succ'] at h
    have e1 : pc (a + 1 + b) x = x % 2 + pc (a + b) (x / 2) := by rw [show a + 1 + b = a + b + 1 by omega]; rfl
    have e2 : pc (a + 1) x = x % 2 + pc a (x / 2) := rfl
    rw [e1, e2, h, Nat.add_assoc]
theorem pc_mod : ∀ f x, pc f x = pc f (x % 2 ^ f)
  | 0, _ => rfl
  | f + 1, x => by
    have e1 : x % 2 ^ (f + 1) % 2 = x % 2 := Nat.mod_mod_of_dvd _ ⟨2 ^ f, by rw [Nat.pow_succ']⟩
    have e2 : x % 2 ^ (f + 1) / 2 = x / 2 % 2 ^ f := by rw [Nat.pow_succ', Nat.mod_mul_right_div_self]
    rw [pc, pc, e1, e2, ← pc_mod f (x / 2)]

def mk (c : Nat) : Nat → Nat
  | 0 => 0
  | n + 1 => 256 * mk c n + c
theorem and_byte (x m c : Nat) (hc : c < 256) : x &&& (256 * m + c) = 256 * (x / 256 &&& m) + (x % 256 &&& c) := by
  have h1 : (x &&& (256 * m + c)) / 256 = x / 256 &&& m := by
    have := Nat.and_div_two_pow (a := x) (b := 256 * m + c) (n := 8)
    rw [show (2 : Nat) ^ 8 = 256 by decide] at this
    rw [this, show (256 * m + c) / 256 = m by omega]
  have h2 : (x &&& (256 * m + c)) % 256 = x % 256 &&& c := by
    have := Nat.and_mod_two_pow (a := x) (b := 256 * m + c) (n := 8)
    rw [show (2 : Nat) ^ 8 = 256 by decide] at this
    rw [this, show (256 * m + c) % 256 = c by omega]
  omega

def s1 (n x : Nat) : Nat := (x / 2 &&& mk 85 n) + (x &&& mk 85 n)
def s2 (n x : Nat) : Nat := (x / 4 &&& mk 51 n) + (x &&& mk 51 n)
def s3 (n x : Nat) : Nat := x / 16 + x &&& mk 15 n
def f1 (b : Nat) : Nat := (b / 2 &&& 85) + (b &&& 85)
def f2 (b : Nat) : Nat := (b / 4 &&& 51) + (b &&& 51)
theorem k1 : ∀ y : Fin 512, (y.val / 2 &&& 85) = (y.val % 256 / 2 &&& 85) := by decide +kernel
theorem k2 : ∀ y : Fin 1024, (y.val / 4 % 256 &&& 51) = (y.val % 256 / 4 &&& 51) := by decide +kernel
theorem kf1 : ∀ y : Fin 256, f1 y.val < 256 := by decide +kernel
theorem kf2 : ∀ y : Fin 256, f2 (f1 y.val) < 256 ∧ f2 (f1 y.val) % 16 ≤ 4 ∧ f2 (f1 y.val) / 16 ≤ 4 ∧ (f2 (f1 y.val) / 16 + f2 (f1 y.val) &&& 15) = pc 8 y.val ∧ pc 8 y.val ≤ 8 := by decide +kernel

theorem s1_step (n x : Nat) : s1 (n + 1) x = 256 * s1 n (x / 256) + f1 (x % 256) := by
  unfold s1 f1
  rw [show mk 85 (n + 1) = 256 * mk 85 n + 85 from rfl, and_byte (x / 2) _ 85 (by omega), and_byte x _ 85 (by omega)]
  have e1 : x / 2 / 256 = x / 256 / 2 := by omega
  have e2 : (x / 2 % 256 &&& 85) = (x % 256 / 2 &&& 85) := by
    have := k1 ⟨x % 512, Nat.mod_lt _ (by omega)⟩
    simp only at this
    rw [show x % 512 / 2 = x / 2 % 256 by omega, show x % 512 % 256 = x % 256 by omega] at this
    exact this
  rw [e1, e2]
  omega
theorem s2_step (n x : Nat) : s2 (n + 1) x = 256 * s2 n (x / 256) + f2 (x % 256) := by
  unfold s2 f2
  rw [show mk 51 (n + 1) = 256 * mk 51 n + 51 from rfl, and_byte (x / 4) _ 51 (by omega), and_byte x _ 51 (by omega)]
  have e1 : x / 4 / 256 = x / 256 / 4 := by omega
  have e2 : (x / 4 % 256 &&& 51) = (x % 256 / 4 &&& 51) := by
    have := k2 ⟨x % 1024, Nat.mod_lt _ (by omega)⟩
    simp only at this
    rw [show x % 1024 / 4 % 256 = x / 4 % 256 by omega, show x % 1024 % 256 = x % 256 by omega] at this
    exact this
  rw [e1, e2]
  omega
theorem t2_step (n x : Nat) : s2 (n + 1) (s1 (n + 1) x) = 256 * s2 n (s1 n (x / 256)) + f2 (f1 (x % 256)) := by
  have h := kf1 ⟨x % 256, Nat.mod_lt _ (by omega)⟩
  simp only at h
  rw [s2_step, s1_step, show (256 * s1 n (x / 256) + f1 (x % 256)) / 256 = s1 n (x / 256) by omega, show (256 * s1 n (x / 256) + f1 (x % 256)) % 256 = f1 (x % 256) by omega]
/-- The ones of each byte, in its place. -/
def tb : Nat → Nat → Nat
  | 0, _ => 0
  | n + 1, x => 256 * tb n (x / 256) + pc 8 (x % 256)
theorem t2_low (n x : Nat) : s2 n (s1 n x) % 16 ≤ 4 := by
  cases n with
  | zero => unfold s2 mk; simp
  | succ n =>
    have h := kf2 ⟨x % 256, Nat.mod_lt _ (by omega)⟩
    simp only at h
    rw [t2_step]
    omega
theorem t3 : ∀ n x, s3 n (s2 n (s1 n x)) = tb n x
  | 0, x => by unfold s3 mk tb; simp
  | n + 1, x => by
    have h := kf2 ⟨x % 256, Nat.mod_lt _ (by omega)⟩
    simp only at h
    have hl := t2_low n (x / 256)
    have ih := t3 n (x / 256)
    rw [t2_step, tb, ← ih]
    obtain ⟨h1, h2, h3, h4, _⟩ := h
    rw [← h4]
    generalize f2 (f1 (x % 256)) = b at *
    generalize s2 n (s1 n (x / 256)) = y at *
    unfold s3
    rw [show mk 15 (n + 1) = 256 * mk 15 n + 15 from rfl, and_byte _ _ 15 (by omega), show ((256 * y + b) / 16 + (256 * y + b)) / 256 = y / 16 + y by omega]
    have e : (((256 * y + b) / 16 + (256 * y + b)) % 256 &&& 15) = (b / 16 + b &&& 15) := by
      have a1 : ∀ z : Nat, (z &&& 15) = z % 16 := fun z => Nat.and_two_pow_sub_one_eq_mod z 4
      rw [a1, a1]
      omega
    rw [e]
theorem tb_val (x : Nat) : ∃ c : Nat → Nat, (∀ i, c i ≤ 8) ∧ pc 64 x = c 0 + c 1 + c 2 + c 3 + c 4 + c 5 + c 6 + c 7 ∧
    tb 8 x = 256 * (256 * (256 * (256 * (256 * (256 * (256 * c 7 + c 6) + c 5) + c 4) + c 3) + c 2) + c 1) + c 0 := by
  have b : ∀ z, pc 8 (z % 256) ≤ 8 := fun z => (kf2 ⟨z % 256, Nat.mod_lt _ (by omega)⟩).2.2.2.2
  have p : ∀ m z, pc (8 + m) z = pc 8 (z % 256) + pc m (z / 256) := by
    intro m z
    rw [pc_add 8 m z, pc_mod 8 z]
  have e8 : ∀ z, pc 8 z = pc 8 (z % 256) := fun z => pc_mod 8 z
  refine ⟨fun i => pc 8 (x / 256 ^ i % 256), fun i => b _, ?_, ?_⟩
  · have q0 := p 56 x
    have q1 := p 48 (x / 256)
    have q2 := p 40 (x / 256 / 256)
    have q3 := p 32 (x / 256 / 256 / 256)
    have q4 := p 24 (x / 256 / 256 / 256 / 256)
    have q5 := p 16 (x / 256 / 256 / 256 / 256 / 256)
    have q6 := p 8 (x / 256 / 256 / 256 / 256 / 256 / 256)
    have q7 := e8 (x / 256 / 256 / 256 / 256 / 256 / 256 / 256)
    simp only [Nat.div_div_eq_div_mul, Nat.reduceMul, Nat.reduceAdd] at q0 q1 q2 q3 q4 q5 q6 q7
    simp only [Nat.reducePow, Nat.div_one]
    omega
  · simp only [tb, Nat.div_div_eq_div_mul, Nat.reduceMul, Nat.reducePow, Nat.div_one, Nat.mul_zero, Nat.zero_add]
theorem div_at (k a r : Nat) (h : r < k) : (k * a + r) / k = a := by
  rw [Nat.mul_add_div (by omega), Nat.div_eq_of_lt h]
  rfl
theorem tb_four (T1 T2 T3 c0 c1 c2 : Nat) (t1 : 256 * T2 + c1 = T1) (t2 : 256 * T3 + c2 = T2) (b0 : c0 ≤ 8) (b1 : c1 ≤ 8) (b2 : c2 ≤ 8) : (256 * T1 + c0 + T1) / 65536 = T2 + T3 := by
  have e : 256 * T1 + c0 + T1 = 65536 * (T2 + T3) + (256 * (c1 + c2) + (c0 + c1)) := by omega
  rw [e]
  exact div_at _ _ _ (by omega)
theorem tb_low (T c0 c1 c2 c3 : Nat) (b0 : c0 ≤ 8) (b1 : c1 ≤ 8) (b2 : c2 ≤ 8) (b3 : c3 ≤ 8) : ∃ l, 256 * (256 * (256 * (256 * T + c3) + c2) + c1) + c0 = 4294967296 * T + l ∧ l ≤ 134744072 := ⟨256 * (256 * (256 * c3 + c2) + c1) + c0, by omega, by omega⟩
theorem tb_eight (A B C D a b c d p q r s : Nat) (h1 : p = 4294967296 * A + a) (h2 : q = 4294967296 * B + b) (h3 : r = 4294967296 * C + c) (h4 : s = 4294967296 * D + d) (i1 : a ≤ 134744072) (i2 : b ≤ 134744072) (i3 : c ≤ 134744072) (i4 : d ≤ 134744072) :
    (p + q + r + s) / 4294967296 = A + B + C + D := by
  have e : p + q + r + s = 4294967296 * (A + B + C + D) + (a + b + c + d) := by omega
  rw [e]
  exact div_at _ _ _ (by omega)
theorem mod_sum (T1 T2 T3 T4 T5 T6 T7 c0 c1 c2 c3 c4 c5 c6 c7 : Nat) : (256 * T1 + c0 + (256 * T2 + c1) + (256 * T3 + c2) + (256 * T4 + c3) + (256 * T5 + c4) + (256 * T6 + c5) + (256 * T7 + c6) + c7) % 128 = (c0 + c1 + c2 + c3 + c4 + c5 + c6 + c7) % 128 := by
  have e : 256 * T1 + c0 + (256 * T2 + c1) + (256 * T3 + c2) + (256 * T4 + c3) + (256 * T5 + c4) + (256 * T6 + c5) + (256 * T7 + c6) + c7 = (c0 + c1 + c2 + c3 + c4 + c5 + c6 + c7) + 128 * (2 * (T1 + T2 + T3 + T4 + T5 + T6 + T7)) := by omega
  rw [e, Nat.add_mul_mod_self_left]
theorem tb_sum (x : Nat) (y4 y5 y6 : Nat) (h4 : y4 = tb 8 x + tb 8 x / 256) (h5 : y5 = y4 + y4 / 65536) (h6 : y6 = y5 + y5 / 4294967296) :
    y6 % 128 = pc 64 x ∧ tb 8 x < 1152921504606846976 ∧ y4 < 9223372036854775808 ∧ y5 < 9223372036854775808 ∧ y6 < 9223372036854775808 ∧ pc 64 x ≤ 64 := by
  obtain ⟨c, hc, hp, ht⟩ := tb_val x
  have b0 := hc 0
  have b1 := hc 1
  have b2 := hc 2
  have b3 := hc 3
  have b4 := hc 4
  have b5 := hc 5
  have b6 := hc 6
  have b7 := hc 7
  generalize c 0 = c0 at *
  generalize c 1 = c1 at *
  generalize c 2 = c2 at *
  generalize c 3 = c3 at *
  generalize c 4 = c4 at *
  generalize c 5 = c5 at *
  generalize c 6 = c6 at *
  generalize c 7 = c7 at *
  clear hc
  obtain ⟨m0, n0, o0⟩ := tb_low (256 * (256 * (256 * c7 + c6) + c5) + c4) c0 c1 c2 c3 b0 b1 b2 b3
  obtain ⟨m1, n1, o1⟩ := tb_low (256 * (256 * c7 + c6) + c5) c1 c2 c3 c4 b1 b2 b3 b4
  obtain ⟨m2, n2, o2⟩ := tb_low (256 * c7 + c6) c2 c3 c4 c5 b2 b3 b4 b5
  obtain ⟨m3, n3, o3⟩ := tb_low c7 c3 c4 c5 c6 b3 b4 b5 b6
  have f8 := tb_eight _ _ _ _ _ _ _ _ _ _ _ _ n0 n1 n2 n3 o0 o1 o2 o3
  clear n0 n1 n2 n3 o0 o1 o2 o3
  have f4 := tb_four _ _ _ c0 c1 c2 rfl (show 256 * (256 * (256 * (256 * (256 * c7 + c6) + c5) + c4) + c3) + c2 = _ from rfl) b0 b1 b2
  have f1 := div_at 256 (256 * (256 * (256 * (256 * (256 * (256 * c7 + c6) + c5) + c4) + c3) + c2) + c1) c0 (by omega)
  rw [ht, f1] at h4
  rw [h4, f4] at h5
  have e5 : y5 = 256 * (256 * (256 * (256 * (256 * (256 * (256 * c7 + c6) + c5) + c4) + c3) + c2) + c1) + c0 + (256 * (256 * (256 * (256 * (256 * (256 * c7 + c6) + c5) + c4) + c3) + c2) + c1) + (256 * (256 * (256 * (256 * (256 * c7 + c6) + c5) + c4) + c3) + c2) + (256 * (256 * (256 * (256 * c7 + c6) + c5) + c4) + c3) := by
    rw [h5]; exact (Nat.add_assoc _ _ _).symm
  rw [e5, f8] at h6
  have e6 : y6 % 128 = (c0 + c1 + c2 + c3 + c4 + c5 + c6 + c7) % 128 := by
    rw [h6, ← mod_sum (256 * (256 * (256 * (256 * (256 * (256 * c7 + c6) + c5) + c4) + c3) + c2) + c1) (256 * (256 * (256 * (256 * (256 * c7 + c6) + c5) + c4) + c3) + c2) (256 * (256 * (256 * (256 * c7 + c6) + c5) + c4) + c3) (256 * (256 * (256 * c7 + c6) + c5) + c4) (256 * (256 * c7 + c6) + c5) (256 * c7 + c6) c7 c0 c1 c2 c3 c4 c5 c6 c7]
    simp only [Nat.add_assoc]
  clear f8 f4 f1
  have g4 : y4 < 9223372036854775808 := by clear h5 e5 h6 e6 hp ht; omega
  have g5 : y5 < 9223372036854775808 := by clear h4 h5 h6 e6 hp ht; omega
  have g6 : y6 < 9223372036854775808 := by clear h4 h5 e5 e6 hp ht; omega
  have g0 : tb 8 x < 1152921504606846976 := by clear h4 h5 e5 h6 e6 hp; omega
  refine ⟨?_, g0, g4, g5, g6, by rw [hp]; clear h4 h5 e5 h6 e6 ht hp g0 g4 g5 g6; omega⟩
  rw [e6, hp]
  exact Nat.mod_eq_of_lt (by clear h4 h5 e5 h6 e6 ht hp g0 g4 g5 g6; omega)

end Go.Proofs.YtnimlkobcginjaaDoor
