/-
  Floats told as the other kind: what comes of it, and the law's walk.
-/
import Derived.Test.YtnimlkobcginjaaFExh
import Derived.Test.YtnimlkobcginjaaFDrx
import Derived.Test.YtnimlkobcginjaaFConv
namespace Go.Proofs.Ytnimlkobcginjaa
open Go.RowKit

/-- What a float is told as. -/
def cvOf16 (c : Int) (s : Bool) (m : Nat) (e : Int) : Int := if c = 2 then 31744 + 512 else if c = 1 then s.toNat * 32768 + 31744 else s.toNat * 32768 + ((min (toldOf 10 (-24) m e false) 31744 : Nat) : Int)

/-- What a float is told as. -/
def cvOf32 (c : Int) (s : Bool) (m : Nat) (e : Int) : Int := if c = 2 then 2139095040 + 4194304 else if c = 1 then s.toNat * 2147483648 + 2139095040 else s.toNat * 2147483648 + ((min (toldOf 23 (-149) m e false) 2139095040 : Nat) : Int)

theorem cvTo16 (fr p1 b1 o1 x1 q1 a c e : Int) (m : Nat) (s : Bool) (FI : Hid (∀ w, Calls Try.prog 65 #[.int .i64 fr] w fun x w' => x = .returned (.tuple #[.agg #[.int .i64 p1, .int .i64 b1, .int .u32 o1], .bool true]) ∧ Below w.heap.size w w'))
    (VI : Hid (∀ w, Calls Try.prog 66 #[.agg #[.int .i64 p1, .int .i64 b1, .int .u32 o1], .int .u32 a] w fun x w' => x = .returned (.agg #[.int .i64 c, .bool s, .int .u64 m, .int .i64 e]) ∧ Below w.heap.size w w'))
    (FS : Hid (∀ w, Calls Try.prog 71 #[.int .i64 fr] w fun x w' => x = .returned (.tuple #[.agg #[.int .u64 x1, .int .u64 q1], .bool true]) ∧ Below w.heap.size w w'))
    (VS : Hid (∀ w, Calls Try.prog 82 #[.agg #[.int .u64 x1, .int .u64 q1], .int .u32 a] w fun x w' => x = .returned (.agg #[.bool s, .bool (c == 1), .bool (c == 2), .int .u64 m, .int .i64 e]) ∧ Below w.heap.size w w'))
    (hc : c = 0 ∨ c = 1 ∨ c = 2) (m1 : m < 1152921504606846976) (e0 : -2000 ≤ e) (e1 : e ≤ 2000) :
    (∀ w, Calls Try.prog 43 #[.int .i64 fr, .int .i64 16, .int .u32 a] w fun x w' => x = .returned (.int .u32 (cvOf16 c s m e)) ∧ Below w.heap.size w w') ∧
    (∀ w, Calls Try.prog 42 #[.int .i64 fr, .int .i64 16, .int .u32 a] w fun x w' => x = .returned (.int .u32 (cvOf16 c s m e)) ∧ Below w.heap.size w w') := by
  rcases hc with rfl | rfl | rfl
  · rw [show cvOf16 0 s m e = s.toNat * 32768 + ((min (toldOf 10 (-24) m e false) 31744 : Nat) : Int) by unfold cvOf16; rw [if_neg (by decide), if_neg (by decide)]]
    exact ⟨convSpec016 fr x1 q1 a m e s FS VS _ (specRound16 s m (by omega) e e0 e1 false), convImpl016 fr p1 b1 o1 a m e s FI VI _ (implRound16 s m (by omega) e e0 e1 false)⟩
  · rw [show cvOf16 1 s m e = s.toNat * 32768 + 31744 by unfold cvOf16; rw [if_neg (by decide), if_pos rfl]]
    exact ⟨convSpec116 fr x1 q1 a m e s FS VS, convImpl116 fr p1 b1 o1 a m e s FI VI⟩
  · rw [show cvOf16 2 s m e = 31744 + 512 by unfold cvOf16; rw [if_pos rfl]]
    exact ⟨convSpec216 fr x1 q1 a m e s FS VS, convImpl216 fr p1 b1 o1 a m e s FI VI⟩

theorem cvTo32 (fr p1 b1 o1 x1 q1 a c e : Int) (m : Nat) (s : Bool) (FI : Hid (∀ w, Calls Try.prog 65 #[.int .i64 fr] w fun x w' => x = .returned (.tuple #[.agg #[.int .i64 p1, .int .i64 b1, .int .u32 o1], .bool true]) ∧ Below w.heap.size w w'))
    (VI : Hid (∀ w, Calls Try.prog 66 #[.agg #[.int .i64 p1, .int .i64 b1, .int .u32 o1], .int .u32 a] w fun x w' => x = .returned (.agg #[.int .i64 c, .bool s, .int .u64 m, .int .i64 e]) ∧ Below w.heap.size w w'))
    (FS : Hid (∀ w, Calls Try.prog 71 #[.int .i64 fr] w fun x w' => x = .returned (.tuple #[.agg #[.int .u64 x1, .int .u64 q1], .bool true]) ∧ Below w.heap.size w w'))
    (VS : Hid (∀ w, Calls Try.prog 82 #[.agg #[.int .u64 x1, .int .u64 q1], .int .u32 a] w fun x w' => x = .returned (.agg #[.bool s, .bool (c == 1), .bool (c == 2), .int .u64 m, .int .i64 e]) ∧ Below w.heap.size w w'))
    (hc : c = 0 ∨ c = 1 ∨ c = 2) (m1 : m < 1152921504606846976) (e0 : -2000 ≤ e) (e1 : e ≤ 2000) :
    (∀ w, Calls Try.prog 43 #[.int .i64 fr, .int .i64 32, .int .u32 a] w fun x w' => x = .returned (.int .u32 (cvOf32 c s m e)) ∧ Below w.heap.size w w') ∧
    (∀ w, Calls Try.prog 42 #[.int .i64 fr, .int .i64 32, .int .u32 a] w fun x w' => x = .returned (.int .u32 (cvOf32 c s m e)) ∧ Below w.heap.size w w') := by
  rcases hc with rfl | rfl | rfl
  · rw [show cvOf32 0 s m e = s.toNat * 2147483648 + ((min (toldOf 23 (-149) m e false) 2139095040 : Nat) : Int) by unfold cvOf32; rw [if_neg (by decide), if_neg (by decide)]]
    exact ⟨convSpec032 fr x1 q1 a m e s FS VS _ (specRound32 s m (by omega) e e0 e1 false), convImpl032 fr p1 b1 o1 a m e s FI VI _ (implRound32 s m (by omega) e e0 e1 false)⟩
  · rw [show cvOf32 1 s m e = s.toNat * 2147483648 + 2139095040 by unfold cvOf32; rw [if_neg (by decide), if_pos rfl]]
    exact ⟨convSpec132 fr x1 q1 a m e s FS VS, convImpl132 fr p1 b1 o1 a m e s FI VI⟩
  · rw [show cvOf32 2 s m e = 2139095040 + 4194304 by unfold cvOf32; rw [if_pos rfl]]
    exact ⟨convSpec232 fr x1 q1 a m e s FS VS, convImpl232 fr p1 b1 o1 a m e s FI VI⟩

/-- What is told of a half or of a single. -/
theorem cvFrom1616 (a : Int) (h0 : 0 ≤ a) (h1 : a ≤ 4294967295) (m : Nat) (hm : vm16 a = m) :
    (∀ w, Calls Try.prog 43 #[.int .i64 16, .int .i64 16, .int .u32 a] w fun x w' => x = .returned (.int .u32 (cvOf16 (cl16 a) (a / 32768 % 2 == 1) m (ve16 a))) ∧ Below w.heap.size w w') ∧
    (∀ w, Calls Try.prog 42 #[.int .i64 16, .int .i64 16, .int .u32 a] w fun x w' => x = .returned (.int .u32 (cvOf16 (cl16 a) (a / 32768 % 2 == 1) m (ve16 a))) ∧ Below w.heap.size w w') := by
  obtain ⟨c0, c1, c2, c3, c4, _, _⟩ := fv16 a
  have V := value16 a h0 h1
  have O := open16 a h0 h1
  rw [hm] at V O c2
  exact cvTo16 16 _ _ _ _ _ a _ _ m _ form16 V l4Kind16 O c0 (by omega) (by omega) (by omega)

/-- What is told of a half or of a single. -/
theorem cvFrom1632 (a : Int) (h0 : 0 ≤ a) (h1 : a ≤ 4294967295) (m : Nat) (hm : vm16 a = m) :
    (∀ w, Calls Try.prog 43 #[.int .i64 16, .int .i64 32, .int .u32 a] w fun x w' => x = .returned (.int .u32 (cvOf32 (cl16 a) (a / 32768 % 2 == 1) m (ve16 a))) ∧ Below w.heap.size w w') ∧
    (∀ w, Calls Try.prog 42 #[.int .i64 16, .int .i64 32, .int .u32 a] w fun x w' => x = .returned (.int .u32 (cvOf32 (cl16 a) (a / 32768 % 2 == 1) m (ve16 a))) ∧ Below w.heap.size w w') := by
  obtain ⟨c0, c1, c2, c3, c4, _, _⟩ := fv16 a
  have V := value16 a h0 h1
  have O := open16 a h0 h1
  rw [hm] at V O c2
  exact cvTo32 16 _ _ _ _ _ a _ _ m _ form16 V l4Kind16 O c0 (by omega) (by omega) (by omega)

theorem cvFrom3216 (a : Int) (h0 : 0 ≤ a) (h1 : a ≤ 4294967295) (m : Nat) (hm : vm32 a = m) :
    (∀ w, Calls Try.prog 43 #[.int .i64 32, .int .i64 16, .int .u32 a] w fun x w' => x = .returned (.int .u32 (cvOf16 (cl32 a) (a / 2147483648 % 2 == 1) m (ve32 a))) ∧ Below w.heap.size w w') ∧
    (∀ w, Calls Try.prog 42 #[.int .i64 32, .int .i64 16, .int .u32 a] w fun x w' => x = .returned (.int .u32 (cvOf16 (cl32 a) (a / 2147483648 % 2 == 1) m (ve32 a))) ∧ Below w.heap.size w w') := by
  obtain ⟨c0, c1, c2, c3, c4, _, _⟩ := fv32 a
  have V := value32 a h0 h1
  have O := open32 a h0 h1
  rw [hm] at V O c2
  exact cvTo16 32 _ _ _ _ _ a _ _ m _ form32 V l4Kind32 O c0 (by omega) (by omega) (by omega)

theorem cvFrom3232 (a : Int) (h0 : 0 ≤ a) (h1 : a ≤ 4294967295) (m : Nat) (hm : vm32 a = m) :
    (∀ w, Calls Try.prog 43 #[.int .i64 32, .int .i64 32, .int .u32 a] w fun x w' => x = .returned (.int .u32 (cvOf32 (cl32 a) (a / 2147483648 % 2 == 1) m (ve32 a))) ∧ Below w.heap.size w w') ∧
    (∀ w, Calls Try.prog 42 #[.int .i64 32, .int .i64 32, .int .u32 a] w fun x w' => x = .returned (.int .u32 (cvOf32 (cl32 a) (a / 2147483648 % 2 == 1) m (ve32 a))) ∧ Below w.heap.size w w') := by
  obtain ⟨c0, c1, c2, c3, c4, _, _⟩ := fv32 a
  have V := value32 a h0 h1
  have O := open32 a h0 h1
  rw [hm] at V O c2
  exact cvTo32 32 _ _ _ _ _ a _ _ m _ form32 V l4Kind32 O c0 (by omega) (by omega) (by omega)

/-- A single by its parts. -/
theorem single_parts (s : Bool) (D K : Nat) (hD : D ≤ 253) (k0 : 8388608 ≤ K) (k1 : K < 16777216) (A : Int) (hA : (s.toNat : Int) * 2147483648 + ((D * 8388608 + K : Nat) : Int) = A) :
    cl32 A = 0 ∧ (A / 2147483648 % 2 == 1) = s ∧ vm32 A = K ∧ ve32 A = (D : Int) - 149 ∧ 0 ≤ A ∧ A ≤ 4294967295 := by
  obtain ⟨b, b0, b1, b2⟩ : ∃ b : Int, 0 ≤ b ∧ b ≤ 1 ∧ (s.toNat : Int) = b := ⟨_, by cases s <;> decide, by cases s <;> decide, rfl⟩
  have hs : (b == 1) = s := by rw [← b2]; cases s <;> rfl
  rw [b2] at hA
  have x1 : A / 8388608 % 256 = D + 1 := by omega
  have x2 : A % 8388608 = K - 8388608 := by omega
  have x3 : A / 2147483648 % 2 = b := by omega
  refine ⟨by unfold cl32; rw [x1, if_neg (by omega)], by rw [x3]; exact hs, by unfold vm32; rw [x1, x2, if_neg (by omega), if_neg (by omega)]; omega, by unfold ve32; rw [x1, if_neg (by omega), if_neg (by omega)]; omega, by omega, by omega⟩

theorem d_room (e : Int) (b j D : Nat) (h : (e + b - 24 + 149).toNat = D) (hj : b + j = 24) (e0 : -24 ≤ e) (e1 : e ≤ 5) (l5 : b ≤ 11) : (D : Int) - 149 = e - (j : Int) ∧ (e - (e + (b : Int) - 24)).toNat = j ∧ (e + (b : Int) - 24 - -149).toNat = D ∧ ¬ e < e + (b : Int) - 24 ∧ D ≤ 253 := by omega
theorem last_room (e : Int) (b : Nat) (e0 : -24 ≤ e) : max (e + (b : Int) - (23 : Nat) - 1) (-149) = e + b - 24 := by omega
theorem min_room (D K : Nat) (hD : D ≤ 253) (g2 : K < 16777216) : min (D * 8388608 + K) 2139095040 = D * 8388608 + K := by omega

/-- A number of eleven bits told as a single, and that told as a half. -/
theorem told_back (m : Nat) (e : Int) (hm : m ≠ 0) (hb : m < 2048) (e0 : -24 ≤ e) (e1 : e ≤ 5) (s : Bool) : ∃ (K : Nat) (e' : Int),
    cl32 (cvOf32 0 s m e) = 0 ∧ (cvOf32 0 s m e / 2147483648 % 2 == 1) = s ∧ vm32 (cvOf32 0 s m e) = K ∧ ve32 (cvOf32 0 s m e) = e' ∧ toldOf 10 (-24) K e' false = toldOf 10 (-24) m e false ∧ 0 ≤ cvOf32 0 s m e ∧ cvOf32 0 s m e ≤ 4294967295 := by
  have hbb : m < 18446744073709551616 := by omega
  obtain ⟨l1, _, l3, l4⟩ := bl_is m hbb hm
  have l5 : Lib.bitLen m ≤ 11 := bl_le m 11 hbb (by omega)
  obtain ⟨b, hbl⟩ : ∃ b, Lib.bitLen m = b := ⟨_, rfl⟩
  rw [hbl] at l1 l3 l4 l5
  obtain ⟨j, hj⟩ : ∃ j : Nat, b + j = 24 := ⟨24 - b, by omega⟩
  obtain ⟨D, hD⟩ : ∃ D : Nat, (e + b - 24 + 149).toNat = D := ⟨_, rfl⟩
  obtain ⟨d1, d2, d3, d4, d5⟩ := d_room e b j D hD hj e0 e1 l5
  have e2 : lastOf 23 (-149) m e = e + b - 24 := by unfold lastOf; rw [hbl]; exact last_room e b e0
  obtain ⟨K, hK⟩ : ∃ K : Nat, m * 2 ^ j = K := ⟨_, rfl⟩
  have ht : toldOf 23 (-149) m e false = D * 8388608 + K := by
    unfold toldOf keptOf
    rw [if_neg hm, e2, if_neg d4, d2, hK, d3]
  have g1 : 2 ^ 23 ≤ K := by
    have h := Nat.mul_le_mul_right (2 ^ j) l3
    rw [← Nat.pow_add, show b - 1 + j = 23 by omega, hK] at h
    exact h
  have g2 : K < 2 ^ 24 := by
    have h := Nat.mul_lt_mul_of_pos_right l4 (Nat.two_pow_pos j)
    rw [← Nat.pow_add, hj, hK] at h
    exact h
  rw [show (2 : Nat) ^ 23 = 8388608 by decide] at g1
  rw [show (2 : Nat) ^ 24 = 16777216 by decide] at g2
  have hA : (s.toNat : Int) * 2147483648 + ((D * 8388608 + K : Nat) : Int) = cvOf32 0 s m e := by
    unfold cvOf32
    rw [if_neg (by decide), if_neg (by decide), ht, min_room D K d5 g2]
  obtain ⟨p1, p2, p3, p4, p5, p6⟩ := single_parts s D K d5 g1 g2 _ hA
  refine ⟨K, (D : Int) - 149, p1, p2, p3, p4, ?_, p5, p6⟩
  have hq : m = K / 2 ^ j := by rw [← hK, Nat.mul_div_cancel _ (Nat.two_pow_pos _)]
  have hr : K % 2 ^ j = 0 := by rw [← hK, Nat.mul_mod_left]
  have hKb : K < 18446744073709551616 := Nat.lt_trans g2 (by decide)
  rw [d1]
  exact (told_more 10 (-24) m e false K j false hq hm hKb (by rw [hr]; rfl) (Or.inl rfl)).symm

/-- A half that is opened is told as it was. -/
theorem told_self (a : Int) (hc : cl16 a = 0) (m : Nat) (hm : vm16 a = m) : ((toldOf 10 (-24) m (ve16 a) false : Nat) : Int) = a % 32768 ∧ a % 32768 < 31744 := by
  obtain ⟨T, hT, ht, he⟩ := exa_split a hc
  obtain ⟨m0, m1, e0, e1⟩ : 0 ≤ vm16 a ∧ vm16 a < 2048 ∧ -24 ≤ ve16 a ∧ ve16 a ≤ 5 := by
    rcases half_bounds a with h | h
    · exact h
    · exact absurd hc h
  obtain ⟨j, hj⟩ : ∃ j : Nat, (ve16 a + 24).toNat = j := ⟨_, rfl⟩
  have hv : valN T = m * 2 ^ j := by
    unfold exa at he
    rw [hm, hj] at he
    rw [show (m : Int) * 2 ^ j = ((m * 2 ^ j : Nat) : Int) by simp] at he
    generalize m * 2 ^ j = Z at *
    generalize valN T = Y at *
    by_cases hs : a / 32768 % 2 = 1
    · rw [if_pos (by rw [hs]; rfl), if_pos hs] at he; omega
    · rw [if_neg (by simpa using hs), if_neg hs] at he; omega
  refine ⟨?_, by omega⟩
  rw [hT]
  by_cases h0 : m = 0
  · subst h0
    have : T = 0 := by
      by_cases h : T = 0
      · exact h
      · have h2 := val_lt 0 T (by omega)
        rw [hv] at h2
        simp at h2
    rw [this]
    rfl
  · have hb : big (m * 2 ^ j) := by
      have h := (half_room m j (by omega) (by omega)).1
      rw [show (m : Int) * 2 ^ j = ((m * 2 ^ j : Nat) : Int) by simp] at h
      unfold big
      omega
    have h1 := told_more 10 (-24) m (ve16 a) false (m * 2 ^ j) j false (by rw [Nat.mul_div_cancel _ (Nat.two_pow_pos _)]) h0 hb (by rw [Nat.mul_mod_left]; rfl) (Or.inl rfl)
    rw [show ve16 a - (j : Int) = -24 by omega, told_half _ hb] at h1
    rw [h1]
    have h2 := val_bits (m * 2 ^ j) hb
    rw [rN_exact _ hb ⟨m, j, by omega, rfl⟩, ← hv] at h2
    rw [← hv]
    rcases Nat.lt_trichotomy (bitsN (valN T)) T with h | h | h
    · have := val_lt _ _ h; omega
    · rw [h]
    · have := val_lt _ _ h; omega

theorem zero_single (s : Bool) : cl32 (s.toNat * 2147483648 + 0) = 0 ∧ ((s.toNat * 2147483648 + 0 : Int) / 2147483648 % 2 == 1) = s ∧ vm32 (s.toNat * 2147483648 + 0) = 0 ∧ 0 ≤ (s.toNat * 2147483648 + 0 : Int) ∧ (s.toNat * 2147483648 + 0 : Int) ≤ 4294967295 := by cases s <;> decide
theorem inf_single (s : Bool) : cl32 (s.toNat * 2147483648 + 2139095040) = 1 ∧ ((s.toNat * 2147483648 + 2139095040 : Int) / 2147483648 % 2 == 1) = s ∧ 0 ≤ (s.toNat * 2147483648 + 2139095040 : Int) ∧ (s.toNat * 2147483648 + 2139095040 : Int) ≤ 4294967295 := by cases s <;> decide

/-- A half told as a single, and back: itself. -/
theorem conv_back (a : Int) (m : Nat) (hm : vm16 a = m) : ∃ (n : Int) (M : Nat), cvOf32 (cl16 a) (a / 32768 % 2 == 1) m (ve16 a) = n ∧ 0 ≤ n ∧ n ≤ 4294967295 ∧ vm32 n = M ∧
    cvOf16 (cl32 n) (n / 2147483648 % 2 == 1) M (ve32 n) = cvOf16 (cl16 a) (a / 32768 % 2 == 1) m (ve16 a) := by
  obtain ⟨s, hs⟩ : ∃ s, (a / 32768 % 2 == 1) = s := ⟨_, rfl⟩
  rw [hs]
  have hm32 : ∀ n : Int, ∃ M : Nat, vm32 n = M := fun n => by
    obtain ⟨_, c1, _⟩ := fv32 n
    exact Int.eq_ofNat_of_zero_le c1
  rcases cl_is16 a with hc | hc | hc
  · rw [hc]
    by_cases h0 : m = 0
    · subst h0
      have hn : cvOf32 0 s 0 (ve16 a) = s.toNat * 2147483648 + 0 := by unfold cvOf32 toldOf; rw [if_neg (by decide), if_neg (by decide), if_pos rfl]; rfl
      obtain ⟨z1, z2, z3, z4, z5⟩ := zero_single s
      refine ⟨_, 0, hn, z4, z5, z3, ?_⟩
      rw [z1, z2]
      unfold cvOf16 toldOf
      rw [if_pos rfl, if_pos rfl]
    · obtain ⟨m0, m1, e0, e1⟩ : 0 ≤ vm16 a ∧ vm16 a < 2048 ∧ -24 ≤ ve16 a ∧ ve16 a ≤ 5 := by
        rcases half_bounds a with h | h
        · exact h
        · exact absurd hc h
      obtain ⟨K, e', p1, p2, p3, p4, p5, p6, p7⟩ := told_back m (ve16 a) h0 (by omega) e0 e1 s
      refine ⟨_, K, rfl, p6, p7, p3, ?_⟩
      rw [p1, p2, p4]
      unfold cvOf16
      rw [p5]
  · rw [hc]
    have hn : cvOf32 1 s m (ve16 a) = s.toNat * 2147483648 + 2139095040 := by unfold cvOf32; rw [if_neg (by decide), if_pos rfl]
    obtain ⟨z1, z2, z3, z4⟩ := inf_single s
    obtain ⟨M, hM⟩ := hm32 (s.toNat * 2147483648 + 2139095040)
    refine ⟨_, M, hn, z3, z4, hM, ?_⟩
    rw [z1, z2]
    unfold cvOf16
    rw [if_neg (by decide), if_pos rfl, if_neg (by decide), if_pos rfl]
  · rw [hc]
    have hn : cvOf32 2 s m (ve16 a) = 2139095040 + 4194304 := by unfold cvOf32; rw [if_pos rfl]
    obtain ⟨M, hM⟩ := hm32 (2139095040 + 4194304)
    refine ⟨_, M, hn, by decide, by decide, hM, ?_⟩
    rw [show cl32 (2139095040 + 4194304) = 2 by decide]
    unfold cvOf16
    rw [if_pos rfl, if_pos rfl]

/-- A half told as a half: its own bits, where it is finite. -/
theorem conv_same (a : Int) (hc : cl16 a = 0) (m : Nat) (hm : vm16 a = m) : cvOf16 (cl16 a) (a / 32768 % 2 == 1) m (ve16 a) = a % 65536 := by
  obtain ⟨h1, h2⟩ := told_self a hc m hm
  unfold cvOf16
  rw [hc, if_neg (by decide), if_neg (by decide)]
  generalize toldOf 10 (-24) m (ve16 a) false = T at *
  rw [Nat.min_eq_left (by omega)]
  by_cases hs : a / 32768 % 2 = 1
  · rw [show (a / 32768 % 2 == 1) = true by rw [hs]; rfl]
    simp
    omega
  · rw [show (a / 32768 % 2 == 1) = false by simpa using hs]
    simp
    omega

theorem drawFConvert (a : Option Addr) (n cap : Nat) (w : World) (hb : Bys w a n w.heap.size) :
    Calls Try.prog 41 #[.slice a n cap] w fun e w' => ∃ k t x : Int, (k = 16 ∨ k = 32 ∨ k = 64) ∧ (t = 16 ∨ t = 32 ∨ t = 64) ∧ 0 ≤ x ∧ x ≤ 4294967295 ∧ e = .returned (.tuple #[.int .i64 k, .int .i64 t, .int .u32 x]) ∧ Below w.heap.size w w' := by
  have C0 := cur_new w a n cap 69 hb
  have N0 := below_new w (.cells #[.slice a n cap, .int .i64 0, .int .u64 0] 69)
  go_enter Try.func41, Try.ntmps41
  go_wp2_with fail
  refine (curKind w.heap.size a n cap w.heap.size 0 (hid_le (by omega)) _ C0).mono ?_
  rintro e w1 ⟨k, hk, rfl, C1, B1⟩
  go_wp2_with fail
  refine (curKind w.heap.size a n cap w.heap.size (0 + 4) (hid_le (by omega)) _ C1).mono ?_
  rintro e w2 ⟨t, ht, rfl, C2, B2⟩
  go_wp2_with fail
  refine (curFloat k hk w.heap.size a n cap w.heap.size (0 + 4 + 4) (hid_le (by omega)) _ C2).mono ?_
  rintro e w3 ⟨x, x0, x1, rfl, C3, B3⟩
  have HB : Hid (Below w.heap.size w w3) := ((N0.trans B1.below).trans B2.below).trans B3.below
  clear C0 C1 C2 C3 B1 B2 B3 N0 hb
  go_wp2
  refine bodyPost_ret (three_resD Try.results41 _ _ _) rfl ⟨k, t, x, hk, ht, x0, x1, rfl, HB.out⟩

set_option maxHeartbeats 2000000 in
set_option maxRecDepth 2000000 in
theorem convertedB (a1 : Option Addr) (n1 c1 : Nat) (w : World) (h1 : Bys w a1 n1 w.heap.size) :
    Calls Try.prog 7 #[.slice a1 n1 c1] w fun e w' => e = .returned (.bool true) ∧ Below w.heap.size w w' := by
  obtain ⟨N, hN⟩ : ∃ N : Int, (n1 : Int) = N := ⟨_, rfl⟩
  by_cases hlen : 1048576 < N
  · go_enter Try.func7, Try.ntmps7
    go_wp2
    go_ret
    exact ⟨rfl, Below.refl _ _⟩
  · go_enter Try.func7, Try.ntmps7
    go_wp2_with fail
    refine (drawFConvert a1 n1 c1 w h1).mono ?_
    rintro e w1 ⟨k, t, x, hk, ht, x0, x1, rfl, B1⟩
    clear hlen hN h1
    by_cases hcase : k = 16 ∧ t = 32
    · obtain ⟨rfl, rfl⟩ := hcase
      clear hk ht
      obtain ⟨m, hm⟩ : ∃ m : Nat, vm16 x = m := by
        obtain ⟨_, c1, _⟩ := fv16 x
        exact Int.eq_ofNat_of_zero_le c1
      obtain ⟨n, M, hn, n0, n2, hM, hback⟩ := conv_back x m hm
      have C1 := cvFrom1632 x x0 x1 m hm
      have C2 := (cvFrom1616 x x0 x1 m hm).2
      have C3 := (cvFrom3216 n n0 n2 M hM).2
      have PT := implParts16 x x0 x1
      rw [hn] at C1
      rw [hback] at C3
      have hsame := fun hc => conv_same x hc m hm
      have hand : bits .and .u32 x 65535 = x % 65536 := low32 16 (by omega) x x0 x1
      obtain ⟨r, hr⟩ : ∃ r, cvOf16 (cl16 x) (x / 32768 % 2 == 1) m (ve16 x) = r := ⟨_, rfl⟩
      rw [hr] at C2 C3 hsame
      clear hn hback hr hM hm n0 n2
      go_wp2_with fail
      refine (C1.2 _).mono ?_
      rintro e w2 ⟨rfl, B2⟩
      go_wp2_with fail
      refine (C1.1 _).mono ?_
      rintro e w3 ⟨rfl, B3⟩
      go_wp2_with fail
      refine (C2 _).mono ?_
      rintro e w4 ⟨rfl, B4⟩
      go_wp2_with fail
      refine (C3 _).mono ?_
      rintro e w5 ⟨rfl, B5⟩
      have HB : Hid (Below w.heap.size w w5) := bel_step (bel_step (bel_step (bel_step B1 B2) B3) B4) B5
      clear B1 B2 B3 B4 B5 C1 C2 C3
      by_cases hc : cl16 x = 0
      · have hx := hsame hc
        rw [hc] at PT
        unfold partsOf at PT
        rw [if_pos rfl] at PT
        rw [hx] at *
        clear hsame hx
        generalize (x / 32768 % 2 == 1) = s at *
        generalize vm16 x = vm at *
        generalize ve16 x = ve at *
        go_wp2_with fail
        refine (PT _).mono ?_
        rintro e w6 ⟨rfl, B6⟩
        have HB6 : Hid (Below w.heap.size w w6) := bel_step HB.out B6
        clear B6 HB PT
        go_wp2
        go_ret
        exact ⟨rfl, HB6.out⟩
      · unfold partsOf at PT
        rw [if_neg hc] at PT
        clear hsame hand
        go_wp2_with fail
        refine (PT _).mono ?_
        rintro e w6 ⟨rfl, B6⟩
        have HB6 : Hid (Below w.heap.size w w6) := bel_step HB.out B6
        clear B6 HB PT
        go_wp2
        go_ret
        exact ⟨rfl, HB6.out⟩
    · obtain ⟨r, CS, CI, hr⟩ : ∃ r : Int, (∀ w, Calls Try.prog 43 #[.int .i64 k, .int .i64 t, .int .u32 x] w fun e w' => e = .returned (.int .u32 r) ∧ Below w.heap.size w w') ∧ (∀ w, Calls Try.prog 42 #[.int .i64 k, .int .i64 t, .int .u32 x] w fun e w' => e = .returned (.int .u32 r) ∧ Below w.heap.size w w') ∧ (k = 64 → r = 0) := by
        by_cases h64 : k = 64
        · subst h64
          exact ⟨0, (convNoFrom 64 t x (by decide) (by decide)).1, (convNoFrom 64 t x (by decide) (by decide)).2, fun _ => rfl⟩
        · obtain ⟨r, h2, h3⟩ := convBoth k t x x0 x1
          exact ⟨r, h2, h3, fun h => absurd h h64⟩
      go_wp2_with fail
      refine (CI _).mono ?_
      rintro e w2 ⟨rfl, B2⟩
      go_wp2_with fail
      refine (CS _).mono ?_
      rintro e w3 ⟨rfl, B3⟩
      have HB : Hid (Below w.heap.size w w3) := bel_step (bel_step B1 B2) B3
      clear B1 B2 B3 CI CS
      rcases hk with rfl | rfl | rfl
      · have ht2 : ¬ t = 32 := fun h => hcase ⟨rfl, h⟩
        have ht3 : (t != 32) = true := by simpa using ht2
        clear hr hcase ht
        go_wp2
        go_ret
        exact ⟨rfl, HB.out⟩
      · clear hr hcase ht
        go_wp2
        go_ret
        exact ⟨rfl, HB.out⟩
      · obtain rfl := hr rfl
        clear hr hcase ht
        go_wp2
        go_ret
        exact ⟨rfl, HB.out⟩

end Go.Proofs.Ytnimlkobcginjaa
