/-
  FMin, both sides, and its law.
-/
import Derived.Test.YtnimlkobcginjaaFCmp
namespace Go.Proofs.Ytnimlkobcginjaa
open Go.RowKit

theorem cmp_is (c1 r1 c2 r2 : Int) : cmpOf c1 r1 c2 r2 = 2 ∨ cmpOf c1 r1 c2 r2 = -1 ∨ cmpOf c1 r1 c2 r2 = 1 ∨ cmpOf c1 r1 c2 r2 = 0 := by
  unfold cmpOf
  split
  · exact Or.inl rfl
  · split
    · exact Or.inr (Or.inl rfl)
    · split
      · exact Or.inr (Or.inr (Or.inl rfl))
      · exact Or.inr (Or.inr (Or.inr rfl))

theorem cut_same16 (a : Int) : cl16 (a % 65536) = cl16 a ∧ rk16 (a % 65536) = rk16 a := by
  have e1 : a % 65536 / 1024 % 32 = a / 1024 % 32 := by omega
  have e2 : a % 65536 % 1024 = a % 1024 := by omega
  have e3 : a % 65536 / 32768 % 2 = a / 32768 % 2 := by omega
  have e4 : a % 65536 % 32768 = a % 32768 := by omega
  unfold cl16 rk16
  rw [e1, e2, e3, e4]
  exact ⟨rfl, rfl⟩

theorem cut_same32 (a : Int) : cl32 (a % 4294967296) = cl32 a ∧ rk32 (a % 4294967296) = rk32 a := by
  have e1 : a % 4294967296 / 8388608 % 256 = a / 8388608 % 256 := by omega
  have e2 : a % 4294967296 % 8388608 = a % 8388608 := by omega
  have e3 : a % 4294967296 / 2147483648 % 2 = a / 2147483648 % 2 := by omega
  have e4 : a % 4294967296 % 2147483648 = a % 2147483648 := by omega
  unfold cl32 rk32
  rw [e1, e2, e3, e4]
  exact ⟨rfl, rfl⟩

theorem or_cut16 (a b : Int) (a0 : 0 ≤ a) (a1 : a ≤ 4294967295) (b0 : 0 ≤ b) (b1 : b ≤ 4294967295) : bits .and .u32 (bits .or .u32 a b) 65535 = bits .or .u32 (a % 65536) (b % 65536) := by
  obtain ⟨x, rfl⟩ := Int.eq_ofNat_of_zero_le a0
  obtain ⟨y, rfl⟩ := Int.eq_ofNat_of_zero_le b0
  have hz : x ||| y < 2 ^ 32 := Nat.or_lt_two_pow (by omega) (by omega)
  have h := low32 (15 + 1) (by omega) ((x ||| y : Nat) : Int) (by omega) (by omega)
  have hm : (x ||| y) % 2 ^ (15 + 1) = x % 2 ^ (15 + 1) ||| y % 2 ^ (15 + 1) := Nat.or_mod_two_pow
  rw [show (2 : Nat) ^ (15 + 1) = 65536 by decide] at hm
  rw [show (2 : Int) ^ (15 + 1) = 65536 by decide] at h
  rw [or32_nat x y (by omega) (by omega)]
  refine h.trans ?_
  rw [show ((x : Int) % 65536) = ((x % 65536 : Nat) : Int) by omega, show ((y : Int) % 65536) = ((y % 65536 : Nat) : Int) by omega, or32_nat _ _ (by omega) (by omega), ← hm]
  omega

theorem or_cut32 (a b : Int) (a0 : 0 ≤ a) (a1 : a ≤ 4294967295) (b0 : 0 ≤ b) (b1 : b ≤ 4294967295) : bits .and .u32 (bits .or .u32 a b) 4294967295 = bits .or .u32 (a % 4294967296) (b % 4294967296) := by
  obtain ⟨x, rfl⟩ := Int.eq_ofNat_of_zero_le a0
  obtain ⟨y, rfl⟩ := Int.eq_ofNat_of_zero_le b0
  have hz : x ||| y < 2 ^ 32 := Nat.or_lt_two_pow (by omega) (by omega)
  have h := low32 (31 + 1) (by omega) ((x ||| y : Nat) : Int) (by omega) (by omega)
  have hm : (x ||| y) % 2 ^ (31 + 1) = x % 2 ^ (31 + 1) ||| y % 2 ^ (31 + 1) := Nat.or_mod_two_pow
  rw [show (2 : Nat) ^ (31 + 1) = 4294967296 by decide] at hm
  rw [show (2 : Int) ^ (31 + 1) = 4294967296 by decide] at h
  rw [or32_nat x y (by omega) (by omega)]
  refine h.trans ?_
  rw [show ((x : Int) % 4294967296) = ((x % 4294967296 : Nat) : Int) by omega, show ((y : Int) % 4294967296) = ((y % 4294967296 : Nat) : Int) by omega, or32_nat _ _ (by omega) (by omega), ← hm]
  omega

/-- What FMin answers, by how they compare. -/
def minOf (r nn A B o : Int) : Int := if r = 2 then nn else if r = -1 then A else if r = 1 then B else o

set_option maxHeartbeats 1000000 in
theorem minSpec16 (a b r A B o : Int) (hr : Hid (r = 2 ∨ r = -1 ∨ r = 1 ∨ r = 0)) (hA : bits .and .u32 a 65535 = A) (hB : bits .and .u32 b 65535 = B) (ho : bits .and .u32 (bits .or .u32 a b) 65535 = o)
    (C : Hid (∀ w, Calls Try.prog 72 #[(.agg #[.int .u64 5, .int .u64 10]), .int .u32 a, .int .u32 b] w fun e w' => e = .returned (.int .i64 r) ∧ Below w.heap.size w w')) (w : World) :
    Calls Try.prog 31 #[.int .i64 16, .int .u32 a, .int .u32 b] w fun e w' => e = .returned (.int .u32 (minOf r (31744 + 512) A B o)) ∧ Below w.heap.size w w' := by
  have NN := l4Nan16
  have MM := l4Mask16
  rcases hr.out with rfl | rfl | rfl | rfl
  · rw [show minOf 2 (31744 + 512) A B o = 31744 + 512 from rfl]
    go_enter Try.func31, Try.ntmps31
    go_wp2_with fail
    refine (l4Kind16 _).mono ?_
    rintro e w1 ⟨rfl, B1⟩
    go_wp2_with fail
    refine (C.out _).mono ?_
    rintro e w2 ⟨rfl, B2⟩
    have f0 := B2.cell (p := ⟨w1.heap.size, 0, none⟩) (by simp)
    have f1 := B2.cell (p := ⟨w1.heap.size, 1, none⟩) (by simp)
    simp at f0 f1
    go_wp2_with fail
    refine (NN _).mono ?_
    rintro e w3 ⟨rfl, B3⟩
    go_wp2
    go_ret
    refine ⟨rfl, ?_⟩
    ((repeat (first | refine bel_alloc ?_ _ | refine bel_dN ?_ _ | refine Below.drew ?_ | refine Below.setCell ?_ (by first | (simp; done) | (simp; omega)) _)); refine bel_step ?_ B3; (repeat (first | refine bel_alloc ?_ _ | refine bel_dN ?_ _ | refine Below.drew ?_ | refine Below.setCell ?_ (by first | (simp; done) | (simp; omega)) _)); refine bel_step ?_ B2; (repeat (first | refine bel_alloc ?_ _ | refine bel_dN ?_ _ | refine Below.drew ?_ | refine Below.setCell ?_ (by first | (simp; done) | (simp; omega)) _)); refine bel_step ?_ B1; (repeat (first | refine bel_alloc ?_ _ | refine bel_dN ?_ _ | refine Below.drew ?_ | refine Below.setCell ?_ (by first | (simp; done) | (simp; omega)) _)); exact Below.refl _ _)
  · rw [show minOf (-1) (31744 + 512) A B o = A from rfl]
    go_enter Try.func31, Try.ntmps31
    go_wp2_with fail
    refine (l4Kind16 _).mono ?_
    rintro e w1 ⟨rfl, B1⟩
    go_wp2_with fail
    refine (C.out _).mono ?_
    rintro e w2 ⟨rfl, B2⟩
    have f0 := B2.cell (p := ⟨w1.heap.size, 0, none⟩) (by simp)
    have f1 := B2.cell (p := ⟨w1.heap.size, 1, none⟩) (by simp)
    simp at f0 f1
    go_wp2_with fail
    refine (MM _).mono ?_
    rintro e w3 ⟨rfl, B3⟩
    go_wp2
    go_ret
    refine ⟨rfl, ?_⟩
    ((repeat (first | refine bel_alloc ?_ _ | refine bel_dN ?_ _ | refine Below.drew ?_ | refine Below.setCell ?_ (by first | (simp; done) | (simp; omega)) _)); refine bel_step ?_ B3; (repeat (first | refine bel_alloc ?_ _ | refine bel_dN ?_ _ | refine Below.drew ?_ | refine Below.setCell ?_ (by first | (simp; done) | (simp; omega)) _)); refine bel_step ?_ B2; (repeat (first | refine bel_alloc ?_ _ | refine bel_dN ?_ _ | refine Below.drew ?_ | refine Below.setCell ?_ (by first | (simp; done) | (simp; omega)) _)); refine bel_step ?_ B1; (repeat (first | refine bel_alloc ?_ _ | refine bel_dN ?_ _ | refine Below.drew ?_ | refine Below.setCell ?_ (by first | (simp; done) | (simp; omega)) _)); exact Below.refl _ _)
  · rw [show minOf 1 (31744 + 512) A B o = B from rfl]
    go_enter Try.func31, Try.ntmps31
    go_wp2_with fail
    refine (l4Kind16 _).mono ?_
    rintro e w1 ⟨rfl, B1⟩
    go_wp2_with fail
    refine (C.out _).mono ?_
    rintro e w2 ⟨rfl, B2⟩
    have f0 := B2.cell (p := ⟨w1.heap.size, 0, none⟩) (by simp)
    have f1 := B2.cell (p := ⟨w1.heap.size, 1, none⟩) (by simp)
    simp at f0 f1
    go_wp2_with fail
    refine (MM _).mono ?_
    rintro e w3 ⟨rfl, B3⟩
    go_wp2
    go_ret
    refine ⟨rfl, ?_⟩
    ((repeat (first | refine bel_alloc ?_ _ | refine bel_dN ?_ _ | refine Below.drew ?_ | refine Below.setCell ?_ (by first | (simp; done) | (simp; omega)) _)); refine bel_step ?_ B3; (repeat (first | refine bel_alloc ?_ _ | refine bel_dN ?_ _ | refine Below.drew ?_ | refine Below.setCell ?_ (by first | (simp; done) | (simp; omega)) _)); refine bel_step ?_ B2; (repeat (first | refine bel_alloc ?_ _ | refine bel_dN ?_ _ | refine Below.drew ?_ | refine Below.setCell ?_ (by first | (simp; done) | (simp; omega)) _)); refine bel_step ?_ B1; (repeat (first | refine bel_alloc ?_ _ | refine bel_dN ?_ _ | refine Below.drew ?_ | refine Below.setCell ?_ (by first | (simp; done) | (simp; omega)) _)); exact Below.refl _ _)
  · rw [show minOf 0 (31744 + 512) A B o = o from rfl]
    go_enter Try.func31, Try.ntmps31
    go_wp2_with fail
    refine (l4Kind16 _).mono ?_
    rintro e w1 ⟨rfl, B1⟩
    go_wp2_with fail
    refine (C.out _).mono ?_
    rintro e w2 ⟨rfl, B2⟩
    have f0 := B2.cell (p := ⟨w1.heap.size, 0, none⟩) (by simp)
    have f1 := B2.cell (p := ⟨w1.heap.size, 1, none⟩) (by simp)
    simp at f0 f1
    go_wp2_with fail
    refine (MM _).mono ?_
    rintro e w3 ⟨rfl, B3⟩
    go_wp2
    go_ret
    refine ⟨rfl, ?_⟩
    ((repeat (first | refine bel_alloc ?_ _ | refine bel_dN ?_ _ | refine Below.drew ?_ | refine Below.setCell ?_ (by first | (simp; done) | (simp; omega)) _)); refine bel_step ?_ B3; (repeat (first | refine bel_alloc ?_ _ | refine bel_dN ?_ _ | refine Below.drew ?_ | refine Below.setCell ?_ (by first | (simp; done) | (simp; omega)) _)); refine bel_step ?_ B2; (repeat (first | refine bel_alloc ?_ _ | refine bel_dN ?_ _ | refine Below.drew ?_ | refine Below.setCell ?_ (by first | (simp; done) | (simp; omega)) _)); refine bel_step ?_ B1; (repeat (first | refine bel_alloc ?_ _ | refine bel_dN ?_ _ | refine Below.drew ?_ | refine Below.setCell ?_ (by first | (simp; done) | (simp; omega)) _)); exact Below.refl _ _)

set_option maxHeartbeats 1000000 in
theorem minSpec32 (a b r A B o : Int) (hr : Hid (r = 2 ∨ r = -1 ∨ r = 1 ∨ r = 0)) (hA : bits .and .u32 a 4294967295 = A) (hB : bits .and .u32 b 4294967295 = B) (ho : bits .and .u32 (bits .or .u32 a b) 4294967295 = o)
    (C : Hid (∀ w, Calls Try.prog 72 #[(.agg #[.int .u64 8, .int .u64 23]), .int .u32 a, .int .u32 b] w fun e w' => e = .returned (.int .i64 r) ∧ Below w.heap.size w w')) (w : World) :
    Calls Try.prog 31 #[.int .i64 32, .int .u32 a, .int .u32 b] w fun e w' => e = .returned (.int .u32 (minOf r (2139095040 + 4194304) A B o)) ∧ Below w.heap.size w w' := by
  have NN := l4Nan32
  have MM := l4Mask32
  rcases hr.out with rfl | rfl | rfl | rfl
  · rw [show minOf 2 (2139095040 + 4194304) A B o = 2139095040 + 4194304 from rfl]
    go_enter Try.func31, Try.ntmps31
    go_wp2_with fail
    refine (l4Kind32 _).mono ?_
    rintro e w1 ⟨rfl, B1⟩
    go_wp2_with fail
    refine (C.out _).mono ?_
    rintro e w2 ⟨rfl, B2⟩
    have f0 := B2.cell (p := ⟨w1.heap.size, 0, none⟩) (by simp)
    have f1 := B2.cell (p := ⟨w1.heap.size, 1, none⟩) (by simp)
    simp at f0 f1
    go_wp2_with fail
    refine (NN _).mono ?_
    rintro e w3 ⟨rfl, B3⟩
    go_wp2
    go_ret
    refine ⟨rfl, ?_⟩
    ((repeat (first | refine bel_alloc ?_ _ | refine bel_dN ?_ _ | refine Below.drew ?_ | refine Below.setCell ?_ (by first | (simp; done) | (simp; omega)) _)); refine bel_step ?_ B3; (repeat (first | refine bel_alloc ?_ _ | refine bel_dN ?_ _ | refine Below.drew ?_ | refine Below.setCell ?_ (by first | (simp; done) | (simp; omega)) _)); refine bel_step ?_ B2; (repeat (first | refine bel_alloc ?_ _ | refine bel_dN ?_ _ | refine Below.drew ?_ | refine Below.setCell ?_ (by first | (simp; done) | (simp; omega)) _)); refine bel_step ?_ B1; (repeat (first | refine bel_alloc ?_ _ | refine bel_dN ?_ _ | refine Below.drew ?_ | refine Below.setCell ?_ (by first | (simp; done) | (simp; omega)) _)); exact Below.refl _ _)
  · rw [show minOf (-1) (2139095040 + 4194304) A B o = A from rfl]
    go_enter Try.func31, Try.ntmps31
    go_wp2_with fail
    refine (l4Kind32 _).mono ?_
    rintro e w1 ⟨rfl, B1⟩
    go_wp2_with fail
    refine (C.out _).mono ?_
    rintro e w2 ⟨rfl, B2⟩
    have f0 := B2.cell (p := ⟨w1.heap.size, 0, none⟩) (by simp)
    have f1 := B2.cell (p := ⟨w1.heap.size, 1, none⟩) (by simp)
    simp at f0 f1
    go_wp2_with fail
    refine (MM _).mono ?_
    rintro e w3 ⟨rfl, B3⟩
    go_wp2
    go_ret
    refine ⟨rfl, ?_⟩
    ((repeat (first | refine bel_alloc ?_ _ | refine bel_dN ?_ _ | refine Below.drew ?_ | refine Below.setCell ?_ (by first | (simp; done) | (simp; omega)) _)); refine bel_step ?_ B3; (repeat (first | refine bel_alloc ?_ _ | refine bel_dN ?_ _ | refine Below.drew ?_ | refine Below.setCell ?_ (by first | (simp; done) | (simp; omega)) _)); refine bel_step ?_ B2; (repeat (first | refine bel_alloc ?_ _ | refine bel_dN ?_ _ | refine Below.drew ?_ | refine Below.setCell ?_ (by first | (simp; done) | (simp; omega)) _)); refine bel_step ?_ B1; (repeat (first | refine bel_alloc ?_ _ | refine bel_dN ?_ _ | refine Below.drew ?_ | refine Below.setCell ?_ (by first | (simp; done) | (simp; omega)) _)); exact Below.refl _ _)
  · rw [show minOf 1 (2139095040 + 4194304) A B o = B from rfl]
    go_enter Try.func31, Try.ntmps31
    go_wp2_with fail
    refine (l4Kind32 _).mono ?_
    rintro e w1 ⟨rfl, B1⟩
    go_wp2_with fail
    refine (C.out _).mono ?_
    rintro e w2 ⟨rfl, B2⟩
    have f0 := B2.cell (p := ⟨w1.heap.size, 0, none⟩) (by simp)
    have f1 := B2.cell (p := ⟨w1.heap.size, 1, none⟩) (by simp)
    simp at f0 f1
    go_wp2_with fail
    refine (MM _).mono ?_
    rintro e w3 ⟨rfl, B3⟩
    go_wp2
    go_ret
    refine ⟨rfl, ?_⟩
    ((repeat (first | refine bel_alloc ?_ _ | refine bel_dN ?_ _ | refine Below.drew ?_ | refine Below.setCell ?_ (by first | (simp; done) | (simp; omega)) _)); refine bel_step ?_ B3; (repeat (first | refine bel_alloc ?_ _ | refine bel_dN ?_ _ | refine Below.drew ?_ | refine Below.setCell ?_ (by first | (simp; done) | (simp; omega)) _)); refine bel_step ?_ B2; (repeat (first | refine bel_alloc ?_ _ | refine bel_dN ?_ _ | refine Below.drew ?_ | refine Below.setCell ?_ (by first | (simp; done) | (simp; omega)) _)); refine bel_step ?_ B1; (repeat (first | refine bel_alloc ?_ _ | refine bel_dN ?_ _ | refine Below.drew ?_ | refine Below.setCell ?_ (by first | (simp; done) | (simp; omega)) _)); exact Below.refl _ _)
  · rw [show minOf 0 (2139095040 + 4194304) A B o = o from rfl]
    go_enter Try.func31, Try.ntmps31
    go_wp2_with fail
    refine (l4Kind32 _).mono ?_
    rintro e w1 ⟨rfl, B1⟩
    go_wp2_with fail
    refine (C.out _).mono ?_
    rintro e w2 ⟨rfl, B2⟩
    have f0 := B2.cell (p := ⟨w1.heap.size, 0, none⟩) (by simp)
    have f1 := B2.cell (p := ⟨w1.heap.size, 1, none⟩) (by simp)
    simp at f0 f1
    go_wp2_with fail
    refine (MM _).mono ?_
    rintro e w3 ⟨rfl, B3⟩
    go_wp2
    go_ret
    refine ⟨rfl, ?_⟩
    ((repeat (first | refine bel_alloc ?_ _ | refine bel_dN ?_ _ | refine Below.drew ?_ | refine Below.setCell ?_ (by first | (simp; done) | (simp; omega)) _)); refine bel_step ?_ B3; (repeat (first | refine bel_alloc ?_ _ | refine bel_dN ?_ _ | refine Below.drew ?_ | refine Below.setCell ?_ (by first | (simp; done) | (simp; omega)) _)); refine bel_step ?_ B2; (repeat (first | refine bel_alloc ?_ _ | refine bel_dN ?_ _ | refine Below.drew ?_ | refine Below.setCell ?_ (by first | (simp; done) | (simp; omega)) _)); refine bel_step ?_ B1; (repeat (first | refine bel_alloc ?_ _ | refine bel_dN ?_ _ | refine Below.drew ?_ | refine Below.setCell ?_ (by first | (simp; done) | (simp; omega)) _)); exact Below.refl _ _)

set_option maxHeartbeats 1000000 in
theorem minImpl16 (a b r A B o x1 y1 z1 x2 y2 z2 : Int) (hr : Hid (r = 2 ∨ r = -1 ∨ r = 1 ∨ r = 0)) (ho : bits .or .u32 A B = o)
    (S1 : Hid (∀ w, Calls Try.prog 69 #[(.agg #[.int .i64 10, .int .i64 15, .int .u32 31]), .int .u32 a] w fun e w' => e = .returned (.agg #[.int .u32 x1, .int .u32 y1, .int .u32 z1]) ∧ Below w.heap.size w w'))
    (S2 : Hid (∀ w, Calls Try.prog 69 #[(.agg #[.int .i64 10, .int .i64 15, .int .u32 31]), .int .u32 b] w fun e w' => e = .returned (.agg #[.int .u32 x2, .int .u32 y2, .int .u32 z2]) ∧ Below w.heap.size w w'))
    (J1 : Hid (∀ w, Calls Try.prog 68 #[(.agg #[.int .i64 10, .int .i64 15, .int .u32 31]), .agg #[.int .u32 x1, .int .u32 y1, .int .u32 z1]] w fun e w' => e = .returned (.int .u32 A) ∧ Below w.heap.size w w'))
    (J2 : Hid (∀ w, Calls Try.prog 68 #[(.agg #[.int .i64 10, .int .i64 15, .int .u32 31]), .agg #[.int .u32 x2, .int .u32 y2, .int .u32 z2]] w fun e w' => e = .returned (.int .u32 B) ∧ Below w.heap.size w w'))
    (C : Hid (∀ w, Calls Try.prog 28 #[.int .i64 16, .int .u32 A, .int .u32 B] w fun e w' => e = .returned (.int .i64 r) ∧ Below w.heap.size w w')) (w : World) :
    Calls Try.prog 29 #[.int .i64 16, .int .u32 a, .int .u32 b] w fun e w' => e = .returned (.int .u32 (minOf r (31744 + 512) A B o)) ∧ Below w.heap.size w w' := by
  have NN := noNumber16
  obtain ⟨R, hR⟩ : ∃ R, minOf r (31744 + 512) A B o = R := ⟨_, rfl⟩
  rw [hR]
  have HR : Hid (minOf r (31744 + 512) A B o = R) := hR
  clear hR
  go_enter Try.func29, Try.ntmps29
  go_wp2_with fail
  refine (form16 _).mono ?_
  rintro e w1 ⟨rfl, B1⟩
  go_wp2_with fail
  obtain ⟨W, hW⟩ : ∃ W, w1.alloc (.cells #[.int .i64 10, .int .i64 15, .int .u32 31] 84) = W := ⟨_, rfl⟩
  obtain ⟨g, hg⟩ : ∃ g, w1.heap.size = g := ⟨_, rfl⟩
  have hs : W.heap.size = g + 1 := by rw [← hW, ← hg]; simp
  have H : Hid (Below w.heap.size w W) := by unfold Hid; rw [← hW]; ((repeat (first | refine bel_alloc ?_ _ | refine bel_dN ?_ _ | refine Below.drew ?_ | refine Below.setCell ?_ (by first | (simp; done) | (simp; omega)) _)); refine bel_step ?_ B1; (repeat (first | refine bel_alloc ?_ _ | refine bel_dN ?_ _ | refine Below.drew ?_ | refine Below.setCell ?_ (by first | (simp; done) | (simp; omega)) _)); exact Below.refl _ _)
  have k0 : ∀ w, Keeps W w → w.cell? ⟨g, 0, none⟩ = some (.int .i64 10) := fun w h => h.cell (by omega) (by rw [← hW, ← hg]; simp)
  have k1 : ∀ w, Keeps W w → w.cell? ⟨g, 1, none⟩ = some (.int .i64 15) := fun w h => h.cell (by omega) (by rw [← hW, ← hg]; simp)
  have k2 : ∀ w, Keeps W w → w.cell? ⟨g, 2, none⟩ = some (.int .u32 31) := fun w h => h.cell (by omega) (by rw [← hW, ← hg]; simp)
  rw [hW, hg]
  clear hW B1 hg
  refine region_q (C := Keeps W) (by kernel_rfl) (by kernel_rfl) (Keeps.drew W) ?_
  (iterate 12
    (apply wpQuiet_go _ (by rfl)
     · intro wq hq
       go_simp
       first
         | (go_at_call_of 69 a; exact qcall hq (S1.out _))
         | (go_at_call_of 69 b; exact qcall hq (S2.out _))
         | (go_at_call_of 68 y1; exact qcall hq (J1.out _))
         | (go_at_call_of 68 y2; exact qcall hq (J2.out _))
         | exact rfl
     simp only [Act.put, List.setIfInBounds_toArray, List.set_cons_succ, List.set_cons_zero]))
  refine wpQuiet_nil ?_
  intro w2 hk
  have H2 : Hid (Below w.heap.size w w2) := bel_step H.out hk.below
  clear S1 S2 J1 J2 H
  go_wp2_with fail
  refine (C.out _).mono ?_
  rintro e w3 ⟨rfl, B3⟩
  have hk3 := hk.step B3
  have q0 := k0 _ hk3
  have q1 := k1 _ hk3
  have q2 := k2 _ hk3
  have H3 : Hid (Below w.heap.size w w3) := bel_step H2.out B3
  clear k0 k1 k2 hk hk3 H2 B3 C
  have hv := HR.out
  clear HR
  rcases hr.out with rfl | rfl | rfl | rfl
  · obtain rfl : 31744 + 512 = R := hv
    go_wp2_with fail
    refine (NN _).mono ?_
    rintro e w4 ⟨rfl, B4⟩
    go_wp2
    go_ret
    exact ⟨rfl, bel_step H3.out B4⟩
  · obtain rfl : A = R := hv
    go_wp2
    go_ret
    exact ⟨rfl, H3.out⟩
  · obtain rfl : B = R := hv
    go_wp2
    go_ret
    exact ⟨rfl, H3.out⟩
  · obtain rfl : o = R := hv
    go_wp2
    go_ret
    exact ⟨rfl, H3.out⟩

set_option maxHeartbeats 1000000 in
theorem minImpl32 (a b r A B o x1 y1 z1 x2 y2 z2 : Int) (hr : Hid (r = 2 ∨ r = -1 ∨ r = 1 ∨ r = 0)) (ho : bits .or .u32 A B = o)
    (S1 : Hid (∀ w, Calls Try.prog 69 #[(.agg #[.int .i64 23, .int .i64 127, .int .u32 255]), .int .u32 a] w fun e w' => e = .returned (.agg #[.int .u32 x1, .int .u32 y1, .int .u32 z1]) ∧ Below w.heap.size w w'))
    (S2 : Hid (∀ w, Calls Try.prog 69 #[(.agg #[.int .i64 23, .int .i64 127, .int .u32 255]), .int .u32 b] w fun e w' => e = .returned (.agg #[.int .u32 x2, .int .u32 y2, .int .u32 z2]) ∧ Below w.heap.size w w'))
    (J1 : Hid (∀ w, Calls Try.prog 68 #[(.agg #[.int .i64 23, .int .i64 127, .int .u32 255]), .agg #[.int .u32 x1, .int .u32 y1, .int .u32 z1]] w fun e w' => e = .returned (.int .u32 A) ∧ Below w.heap.size w w'))
    (J2 : Hid (∀ w, Calls Try.prog 68 #[(.agg #[.int .i64 23, .int .i64 127, .int .u32 255]), .agg #[.int .u32 x2, .int .u32 y2, .int .u32 z2]] w fun e w' => e = .returned (.int .u32 B) ∧ Below w.heap.size w w'))
    (C : Hid (∀ w, Calls Try.prog 28 #[.int .i64 32, .int .u32 A, .int .u32 B] w fun e w' => e = .returned (.int .i64 r) ∧ Below w.heap.size w w')) (w : World) :
    Calls Try.prog 29 #[.int .i64 32, .int .u32 a, .int .u32 b] w fun e w' => e = .returned (.int .u32 (minOf r (2139095040 + 4194304) A B o)) ∧ Below w.heap.size w w' := by
  have NN := noNumber32
  obtain ⟨R, hR⟩ : ∃ R, minOf r (2139095040 + 4194304) A B o = R := ⟨_, rfl⟩
  rw [hR]
  have HR : Hid (minOf r (2139095040 + 4194304) A B o = R) := hR
  clear hR
  go_enter Try.func29, Try.ntmps29
  go_wp2_with fail
  refine (form32 _).mono ?_
  rintro e w1 ⟨rfl, B1⟩
  go_wp2_with fail
  obtain ⟨W, hW⟩ : ∃ W, w1.alloc (.cells #[.int .i64 23, .int .i64 127, .int .u32 255] 84) = W := ⟨_, rfl⟩
  obtain ⟨g, hg⟩ : ∃ g, w1.heap.size = g := ⟨_, rfl⟩
  have hs : W.heap.size = g + 1 := by rw [← hW, ← hg]; simp
  have H : Hid (Below w.heap.size w W) := by unfold Hid; rw [← hW]; ((repeat (first | refine bel_alloc ?_ _ | refine bel_dN ?_ _ | refine Below.drew ?_ | refine Below.setCell ?_ (by first | (simp; done) | (simp; omega)) _)); refine bel_step ?_ B1; (repeat (first | refine bel_alloc ?_ _ | refine bel_dN ?_ _ | refine Below.drew ?_ | refine Below.setCell ?_ (by first | (simp; done) | (simp; omega)) _)); exact Below.refl _ _)
  have k0 : ∀ w, Keeps W w → w.cell? ⟨g, 0, none⟩ = some (.int .i64 23) := fun w h => h.cell (by omega) (by rw [← hW, ← hg]; simp)
  have k1 : ∀ w, Keeps W w → w.cell? ⟨g, 1, none⟩ = some (.int .i64 127) := fun w h => h.cell (by omega) (by rw [← hW, ← hg]; simp)
  have k2 : ∀ w, Keeps W w → w.cell? ⟨g, 2, none⟩ = some (.int .u32 255) := fun w h => h.cell (by omega) (by rw [← hW, ← hg]; simp)
  rw [hW, hg]
  clear hW B1 hg
  refine region_q (C := Keeps W) (by kernel_rfl) (by kernel_rfl) (Keeps.drew W) ?_
  (iterate 12
    (apply wpQuiet_go _ (by rfl)
     · intro wq hq
       go_simp
       first
         | (go_at_call_of 69 a; exact qcall hq (S1.out _))
         | (go_at_call_of 69 b; exact qcall hq (S2.out _))
         | (go_at_call_of 68 y1; exact qcall hq (J1.out _))
         | (go_at_call_of 68 y2; exact qcall hq (J2.out _))
         | exact rfl
     simp only [Act.put, List.setIfInBounds_toArray, List.set_cons_succ, List.set_cons_zero]))
  refine wpQuiet_nil ?_
  intro w2 hk
  have H2 : Hid (Below w.heap.size w w2) := bel_step H.out hk.below
  clear S1 S2 J1 J2 H
  go_wp2_with fail
  refine (C.out _).mono ?_
  rintro e w3 ⟨rfl, B3⟩
  have hk3 := hk.step B3
  have q0 := k0 _ hk3
  have q1 := k1 _ hk3
  have q2 := k2 _ hk3
  have H3 : Hid (Below w.heap.size w w3) := bel_step H2.out B3
  clear k0 k1 k2 hk hk3 H2 B3 C
  have hv := HR.out
  clear HR
  rcases hr.out with rfl | rfl | rfl | rfl
  · obtain rfl : 2139095040 + 4194304 = R := hv
    go_wp2_with fail
    refine (NN _).mono ?_
    rintro e w4 ⟨rfl, B4⟩
    go_wp2
    go_ret
    exact ⟨rfl, bel_step H3.out B4⟩
  · obtain rfl : A = R := hv
    go_wp2
    go_ret
    exact ⟨rfl, H3.out⟩
  · obtain rfl : B = R := hv
    go_wp2
    go_ret
    exact ⟨rfl, H3.out⟩
  · obtain rfl : o = R := hv
    go_wp2
    go_ret
    exact ⟨rfl, H3.out⟩

theorem minBoth16 (a b : Int) (a0 : 0 ≤ a) (a1 : a ≤ 4294967295) (b0 : 0 ≤ b) (b1 : b ≤ 4294967295) : ∃ r : Int,
    (∀ w, Calls Try.prog 31 #[.int .i64 16, .int .u32 a, .int .u32 b] w fun e w' => e = .returned (.int .u32 r) ∧ Below w.heap.size w w') ∧
    (∀ w, Calls Try.prog 29 #[.int .i64 16, .int .u32 a, .int .u32 b] w fun e w' => e = .returned (.int .u32 r) ∧ Below w.heap.size w w') := by
  have hA : bits .and .u32 a 65535 = a % 65536 := low32 (15 + 1) (by omega) a a0 a1
  have hB : bits .and .u32 b 65535 = b % 65536 := low32 (15 + 1) (by omega) b b0 b1
  have J1 := join16 (a / 32768 % 2) (a / 1024 % 32) (a % 1024) (by omega) (by omega) (by omega) (by omega) (by omega) (by omega)
  have J2 := join16 (b / 32768 % 2) (b / 1024 % 32) (b % 1024) (by omega) (by omega) (by omega) (by omega) (by omega) (by omega)
  rw [show a / 32768 % 2 * 32768 + a / 1024 % 32 * 1024 + a % 1024 = a % 65536 by omega] at J1
  rw [show b / 32768 % 2 * 32768 + b / 1024 % 32 * 1024 + b % 1024 = b % 65536 by omega] at J2
  have C := implCmp16 (a % 65536) (b % 65536) (by omega) (by omega) (by omega) (by omega)
  rw [(cut_same16 a).1, (cut_same16 a).2, (cut_same16 b).1, (cut_same16 b).2] at C
  exact ⟨_, minSpec16 a b _ _ _ _ (cmp_is _ _ _ _) hA hB (or_cut16 a b a0 a1 b0 b1) (compare16 a b a0 a1 b0 b1), minImpl16 a b _ _ _ _ _ _ _ _ _ _ (cmp_is _ _ _ _) rfl (split16 a a0 a1) (split16 b b0 b1) J1 J2 C⟩

theorem minBoth32 (a b : Int) (a0 : 0 ≤ a) (a1 : a ≤ 4294967295) (b0 : 0 ≤ b) (b1 : b ≤ 4294967295) : ∃ r : Int,
    (∀ w, Calls Try.prog 31 #[.int .i64 32, .int .u32 a, .int .u32 b] w fun e w' => e = .returned (.int .u32 r) ∧ Below w.heap.size w w') ∧
    (∀ w, Calls Try.prog 29 #[.int .i64 32, .int .u32 a, .int .u32 b] w fun e w' => e = .returned (.int .u32 r) ∧ Below w.heap.size w w') := by
  have hA : bits .and .u32 a 4294967295 = a % 4294967296 := low32 (31 + 1) (by omega) a a0 a1
  have hB : bits .and .u32 b 4294967295 = b % 4294967296 := low32 (31 + 1) (by omega) b b0 b1
  have J1 := join32 (a / 2147483648 % 2) (a / 8388608 % 256) (a % 8388608) (by omega) (by omega) (by omega) (by omega) (by omega) (by omega)
  have J2 := join32 (b / 2147483648 % 2) (b / 8388608 % 256) (b % 8388608) (by omega) (by omega) (by omega) (by omega) (by omega) (by omega)
  rw [show a / 2147483648 % 2 * 2147483648 + a / 8388608 % 256 * 8388608 + a % 8388608 = a % 4294967296 by omega] at J1
  rw [show b / 2147483648 % 2 * 2147483648 + b / 8388608 % 256 * 8388608 + b % 8388608 = b % 4294967296 by omega] at J2
  have C := implCmp32 (a % 4294967296) (b % 4294967296) (by omega) (by omega) (by omega) (by omega)
  rw [(cut_same32 a).1, (cut_same32 a).2, (cut_same32 b).1, (cut_same32 b).2] at C
  exact ⟨_, minSpec32 a b _ _ _ _ (cmp_is _ _ _ _) hA hB (or_cut32 a b a0 a1 b0 b1) (compare32 a b a0 a1 b0 b1), minImpl32 a b _ _ _ _ _ _ _ _ _ _ (cmp_is _ _ _ _) rfl (split32 a a0 a1) (split32 b b0 b1) J1 J2 C⟩

theorem minNo (kind a b : Int) (h1 : kind ≠ 16) (h2 : kind ≠ 32) :
    (∀ w, Calls Try.prog 31 #[.int .i64 kind, .int .u32 a, .int .u32 b] w fun e w' => e = .returned (.int .u32 0) ∧ Below w.heap.size w w') ∧
    (∀ w, Calls Try.prog 29 #[.int .i64 kind, .int .u32 a, .int .u32 b] w fun e w' => e = .returned (.int .u32 0) ∧ Below w.heap.size w w') := by
  refine ⟨fun w => ?_, fun w => ?_⟩
  · go_enter Try.func31, Try.ntmps31
    go_wp2_with fail
    refine (l4KindNo kind h1 h2 _).mono ?_
    rintro e w1 ⟨rfl, B1⟩
    go_wp2
    go_ret
    refine ⟨rfl, ?_⟩
    ((repeat (first | refine bel_alloc ?_ _ | refine bel_dN ?_ _ | refine Below.drew ?_ | refine Below.setCell ?_ (by first | (simp; done) | (simp; omega)) _)); refine bel_step ?_ B1; (repeat (first | refine bel_alloc ?_ _ | refine bel_dN ?_ _ | refine Below.drew ?_ | refine Below.setCell ?_ (by first | (simp; done) | (simp; omega)) _)); exact Below.refl _ _)
  · go_enter Try.func29, Try.ntmps29
    go_wp2_with fail
    refine (formNo kind h1 h2 _).mono ?_
    rintro e w1 ⟨rfl, B1⟩
    go_wp2
    go_ret
    refine ⟨rfl, ?_⟩
    ((repeat (first | refine bel_alloc ?_ _ | refine bel_dN ?_ _ | refine Below.drew ?_ | refine Below.setCell ?_ (by first | (simp; done) | (simp; omega)) _)); refine bel_step ?_ B1; (repeat (first | refine bel_alloc ?_ _ | refine bel_dN ?_ _ | refine Below.drew ?_ | refine Below.setCell ?_ (by first | (simp; done) | (simp; omega)) _)); exact Below.refl _ _)

end Go.Proofs.Ytnimlkobcginjaa
