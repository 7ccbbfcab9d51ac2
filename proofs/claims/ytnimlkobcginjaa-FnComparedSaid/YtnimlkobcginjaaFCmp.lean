/-
  FCompare, both sides, and its law.
-/
import Derived.Test.YtnimlkobcginjaaFFv
import Derived.OpenShut
import Derived.Deep.RegionWith
namespace Go.Proofs.Ytnimlkobcginjaa
open Go.RowKit

/-- A float's place among others. -/
def rk16 (a : Int) : Int := if a / 32768 % 2 = 1 then -(a % 32768) else a % 32768

/-- A float's place among others. -/
def rk32 (a : Int) : Int := if a / 2147483648 % 2 = 1 then -(a % 2147483648) else a % 2147483648

def cmpOf (c1 r1 c2 r2 : Int) : Int := if c1 = 2 ∨ c2 = 2 then 2 else if r1 < r2 then -1 else if r2 < r1 then 1 else 0

set_option maxHeartbeats 1000000 in
theorem rankAt16 (a s x f n : Int) (s0 : 0 ≤ s) (s1 : s ≤ 1) (x0 : 0 ≤ x) (x1 : x ≤ 31) (f0 : 0 ≤ f) (f1 : f < 1024) (hn : 0 * 32768 + x * 1024 + f = n)
    (HS : Hid (∀ w, Calls Try.prog 69 #[(.agg #[.int .i64 10, .int .i64 15, .int .u32 31]), .int .u32 a] w fun e w' => e = .returned (.agg #[.int .u32 s, .int .u32 x, .int .u32 f]) ∧ Below w.heap.size w w')) (w : World) :
    Calls Try.prog 67 #[(.agg #[.int .i64 10, .int .i64 15, .int .u32 31]), .int .u32 a] w fun e w' => e = .returned (.int .i64 (if s = 1 then -n else n)) ∧ Below w.heap.size w w' := by
  have J := join16 0 x f (by omega) (by omega) x0 x1 f0 f1
  rw [hn] at J
  have v1 : wrap64 n = n := by unfold wrap64; omega
  have v2 : wrap64 (-n) = -n := by unfold wrap64; omega
  have v3 : IntKind.i64.wrap n = n := by rw [IntKind.wrap_i64]; omega
  clear x0 x1 f0 f1 hn
  by_cases hs1 : s = 1
  · subst hs1
    rw [if_pos rfl]
    clear s0 s1
    go_enter Try.func67, Try.ntmps67
    go_wp2_with fail
    refine (HS.out _).mono ?_
    rintro e w1 ⟨rfl, B1⟩
    have f0 := B1.cell (p := ⟨w.heap.size, 0, none⟩) (by simp)
    have f1 := B1.cell (p := ⟨w.heap.size, 1, none⟩) (by simp)
    have f2 := B1.cell (p := ⟨w.heap.size, 2, none⟩) (by simp)
    simp at f0 f1 f2
    have l1 : w.heap.size < w1.heap.size := Nat.lt_of_lt_of_le (by simp) B1.size
    go_wp2_with fail
    refine (J _).mono ?_
    rintro e w2 ⟨rfl, B2⟩
    go_wp2
    go_ret
    refine ⟨congrArg (fun z => Ending.returned (.int .i64 z)) (by first | exact v1 | exact v2 | rfl), ?_⟩
    ((repeat (first | refine bel_alloc ?_ _ | refine bel_dN ?_ _ | refine Below.drew ?_ | refine Below.setCell ?_ (by first | (simp; done) | (simp; omega)) _)); refine bel_step ?_ B2; (repeat (first | refine bel_alloc ?_ _ | refine bel_dN ?_ _ | refine Below.drew ?_ | refine Below.setCell ?_ (by first | (simp; done) | (simp; omega)) _)); refine bel_step ?_ B1; (repeat (first | refine bel_alloc ?_ _ | refine bel_dN ?_ _ | refine Below.drew ?_ | refine Below.setCell ?_ (by first | (simp; done) | (simp; omega)) _)); exact Below.refl _ _)
  · have k1 : (s == 1) = false := by simp [hs1]
    rw [if_neg hs1]
    clear s0 s1 hs1
    go_enter Try.func67, Try.ntmps67
    go_wp2_with fail
    refine (HS.out _).mono ?_
    rintro e w1 ⟨rfl, B1⟩
    have f0 := B1.cell (p := ⟨w.heap.size, 0, none⟩) (by simp)
    have f1 := B1.cell (p := ⟨w.heap.size, 1, none⟩) (by simp)
    have f2 := B1.cell (p := ⟨w.heap.size, 2, none⟩) (by simp)
    simp at f0 f1 f2
    have l1 : w.heap.size < w1.heap.size := Nat.lt_of_lt_of_le (by simp) B1.size
    go_wp2_with fail
    refine (J _).mono ?_
    rintro e w2 ⟨rfl, B2⟩
    go_wp2
    go_ret
    refine ⟨congrArg (fun z => Ending.returned (.int .i64 z)) (by first | exact v1 | exact v2 | rfl), ?_⟩
    ((repeat (first | refine bel_alloc ?_ _ | refine bel_dN ?_ _ | refine Below.drew ?_ | refine Below.setCell ?_ (by first | (simp; done) | (simp; omega)) _)); refine bel_step ?_ B2; (repeat (first | refine bel_alloc ?_ _ | refine bel_dN ?_ _ | refine Below.drew ?_ | refine Below.setCell ?_ (by first | (simp; done) | (simp; omega)) _)); refine bel_step ?_ B1; (repeat (first | refine bel_alloc ?_ _ | refine bel_dN ?_ _ | refine Below.drew ?_ | refine Below.setCell ?_ (by first | (simp; done) | (simp; omega)) _)); exact Below.refl _ _)

set_option maxHeartbeats 1000000 in
theorem rankAt32 (a s x f n : Int) (s0 : 0 ≤ s) (s1 : s ≤ 1) (x0 : 0 ≤ x) (x1 : x ≤ 255) (f0 : 0 ≤ f) (f1 : f < 8388608) (hn : 0 * 2147483648 + x * 8388608 + f = n)
    (HS : Hid (∀ w, Calls Try.prog 69 #[(.agg #[.int .i64 23, .int .i64 127, .int .u32 255]), .int .u32 a] w fun e w' => e = .returned (.agg #[.int .u32 s, .int .u32 x, .int .u32 f]) ∧ Below w.heap.size w w')) (w : World) :
    Calls Try.prog 67 #[(.agg #[.int .i64 23, .int .i64 127, .int .u32 255]), .int .u32 a] w fun e w' => e = .returned (.int .i64 (if s = 1 then -n else n)) ∧ Below w.heap.size w w' := by
  have J := join32 0 x f (by omega) (by omega) x0 x1 f0 f1
  rw [hn] at J
  have v1 : wrap64 n = n := by unfold wrap64; omega
  have v2 : wrap64 (-n) = -n := by unfold wrap64; omega
  have v3 : IntKind.i64.wrap n = n := by rw [IntKind.wrap_i64]; omega
  clear x0 x1 f0 f1 hn
  by_cases hs1 : s = 1
  · subst hs1
    rw [if_pos rfl]
    clear s0 s1
    go_enter Try.func67, Try.ntmps67
    go_wp2_with fail
    refine (HS.out _).mono ?_
    rintro e w1 ⟨rfl, B1⟩
    have f0 := B1.cell (p := ⟨w.heap.size, 0, none⟩) (by simp)
    have f1 := B1.cell (p := ⟨w.heap.size, 1, none⟩) (by simp)
    have f2 := B1.cell (p := ⟨w.heap.size, 2, none⟩) (by simp)
    simp at f0 f1 f2
    have l1 : w.heap.size < w1.heap.size := Nat.lt_of_lt_of_le (by simp) B1.size
    go_wp2_with fail
    refine (J _).mono ?_
    rintro e w2 ⟨rfl, B2⟩
    go_wp2
    go_ret
    refine ⟨congrArg (fun z => Ending.returned (.int .i64 z)) (by first | exact v1 | exact v2 | rfl), ?_⟩
    ((repeat (first | refine bel_alloc ?_ _ | refine bel_dN ?_ _ | refine Below.drew ?_ | refine Below.setCell ?_ (by first | (simp; done) | (simp; omega)) _)); refine bel_step ?_ B2; (repeat (first | refine bel_alloc ?_ _ | refine bel_dN ?_ _ | refine Below.drew ?_ | refine Below.setCell ?_ (by first | (simp; done) | (simp; omega)) _)); refine bel_step ?_ B1; (repeat (first | refine bel_alloc ?_ _ | refine bel_dN ?_ _ | refine Below.drew ?_ | refine Below.setCell ?_ (by first | (simp; done) | (simp; omega)) _)); exact Below.refl _ _)
  · have k1 : (s == 1) = false := by simp [hs1]
    rw [if_neg hs1]
    clear s0 s1 hs1
    go_enter Try.func67, Try.ntmps67
    go_wp2_with fail
    refine (HS.out _).mono ?_
    rintro e w1 ⟨rfl, B1⟩
    have f0 := B1.cell (p := ⟨w.heap.size, 0, none⟩) (by simp)
    have f1 := B1.cell (p := ⟨w.heap.size, 1, none⟩) (by simp)
    have f2 := B1.cell (p := ⟨w.heap.size, 2, none⟩) (by simp)
    simp at f0 f1 f2
    have l1 : w.heap.size < w1.heap.size := Nat.lt_of_lt_of_le (by simp) B1.size
    go_wp2_with fail
    refine (J _).mono ?_
    rintro e w2 ⟨rfl, B2⟩
    go_wp2
    go_ret
    refine ⟨congrArg (fun z => Ending.returned (.int .i64 z)) (by first | exact v1 | exact v2 | rfl), ?_⟩
    ((repeat (first | refine bel_alloc ?_ _ | refine bel_dN ?_ _ | refine Below.drew ?_ | refine Below.setCell ?_ (by first | (simp; done) | (simp; omega)) _)); refine bel_step ?_ B2; (repeat (first | refine bel_alloc ?_ _ | refine bel_dN ?_ _ | refine Below.drew ?_ | refine Below.setCell ?_ (by first | (simp; done) | (simp; omega)) _)); refine bel_step ?_ B1; (repeat (first | refine bel_alloc ?_ _ | refine bel_dN ?_ _ | refine Below.drew ?_ | refine Below.setCell ?_ (by first | (simp; done) | (simp; omega)) _)); exact Below.refl _ _)

theorem rank16 (a : Int) (h0 : 0 ≤ a) (h1 : a ≤ 4294967295) (w : World) :
    Calls Try.prog 67 #[(.agg #[.int .i64 10, .int .i64 15, .int .u32 31]), .int .u32 a] w fun e w' => e = .returned (.int .i64 (rk16 a)) ∧ Below w.heap.size w w' :=
  rankAt16 a (a / 32768 % 2) (a / 1024 % 32) (a % 1024) (a % 32768) (by omega) (by omega) (by omega) (by omega) (by omega) (by omega) (by omega) (split16 a h0 h1) w

theorem rank32 (a : Int) (h0 : 0 ≤ a) (h1 : a ≤ 4294967295) (w : World) :
    Calls Try.prog 67 #[(.agg #[.int .i64 23, .int .i64 127, .int .u32 255]), .int .u32 a] w fun e w' => e = .returned (.int .i64 (rk32 a)) ∧ Below w.heap.size w w' :=
  rankAt32 a (a / 2147483648 % 2) (a / 8388608 % 256) (a % 8388608) (a % 2147483648) (by omega) (by omega) (by omega) (by omega) (by omega) (by omega) (by omega) (split32 a h0 h1) w

theorem order16 (a : Int) (h0 : 0 ≤ a) (h1 : a ≤ 4294967295) (w : World) :
    Calls Try.prog 99 #[(.agg #[.int .u64 5, .int .u64 10]), .int .u32 a] w fun e w' => e = .returned (.int .i64 (rk16 a)) ∧ Below w.heap.size w w' := by
  have m1 : bits .and .u32 a 65535 = a % 65536 := low32 (15 + 1) (by omega) a h0 h1
  have m2 : bits .and .u32 (a % 65536) (32768 - 1) = a % 32768 := by rw [show a % 32768 = a % 65536 % 32768 by omega]; exact low32 15 (by omega) (a % 65536) (by omega) (by omega)
  have m4 : a % 65536 / 32768 = a / 32768 % 2 := by omega
  have n0 : 0 ≤ a % 32768 := by omega
  have n1 : a % 32768 < 32768 := by omega
  unfold rk16
  generalize a % 65536 = a1 at *
  generalize a / 32768 % 2 = s at *
  generalize a % 32768 = n at *
  have m2' : bits .and .u32 a1 32767 = n := m2
  have v1 : wrap64 n = n := by unfold wrap64; omega
  have v2 : wrap64 (-n) = -n := by unfold wrap64; omega
  clear h0 h1 n0 n1 m2
  by_cases hs : s = 1
  · subst hs
    rw [if_pos rfl]
    go_enter Try.func99, Try.ntmps99
    go_wp2
    go_ret
    refine ⟨congrArg (fun z => Ending.returned (.int .i64 z)) (by first | exact v1 | exact v2 | rfl), ?_⟩
    (repeat (first | refine Below.alloc ?_ (by first | (simp; done) | (simp; omega)) _ | refine Below.setCell ?_ (by first | (simp; done) | (simp; omega)) _ | refine bel_dN ?_ _ | refine Below.drew ?_ | exact Below.refl _ _))
  · have k1 : (s == 1) = false := by simp [hs]
    rw [if_neg hs]
    clear hs
    go_enter Try.func99, Try.ntmps99
    go_wp2
    go_ret
    refine ⟨congrArg (fun z => Ending.returned (.int .i64 z)) (by first | exact v1 | exact v2 | rfl), ?_⟩
    (repeat (first | refine Below.alloc ?_ (by first | (simp; done) | (simp; omega)) _ | refine Below.setCell ?_ (by first | (simp; done) | (simp; omega)) _ | refine bel_dN ?_ _ | refine Below.drew ?_ | exact Below.refl _ _))

theorem order32 (a : Int) (h0 : 0 ≤ a) (h1 : a ≤ 4294967295) (w : World) :
    Calls Try.prog 99 #[(.agg #[.int .u64 8, .int .u64 23]), .int .u32 a] w fun e w' => e = .returned (.int .i64 (rk32 a)) ∧ Below w.heap.size w w' := by
  have m1 : bits .and .u32 a 4294967295 = a % 4294967296 := low32 (31 + 1) (by omega) a h0 h1
  have m2 : bits .and .u32 (a % 4294967296) (2147483648 - 1) = a % 2147483648 := by rw [show a % 2147483648 = a % 4294967296 % 2147483648 by omega]; exact low32 31 (by omega) (a % 4294967296) (by omega) (by omega)
  have m4 : a % 4294967296 / 2147483648 = a / 2147483648 % 2 := by omega
  have n0 : 0 ≤ a % 2147483648 := by omega
  have n1 : a % 2147483648 < 2147483648 := by omega
  unfold rk32
  generalize a % 4294967296 = a1 at *
  generalize a / 2147483648 % 2 = s at *
  generalize a % 2147483648 = n at *
  have m2' : bits .and .u32 a1 2147483647 = n := m2
  have v1 : wrap64 n = n := by unfold wrap64; omega
  have v2 : wrap64 (-n) = -n := by unfold wrap64; omega
  clear h0 h1 n0 n1 m2
  by_cases hs : s = 1
  · subst hs
    rw [if_pos rfl]
    go_enter Try.func99, Try.ntmps99
    go_wp2
    go_ret
    refine ⟨congrArg (fun z => Ending.returned (.int .i64 z)) (by first | exact v1 | exact v2 | rfl), ?_⟩
    (repeat (first | refine Below.alloc ?_ (by first | (simp; done) | (simp; omega)) _ | refine Below.setCell ?_ (by first | (simp; done) | (simp; omega)) _ | refine bel_dN ?_ _ | refine Below.drew ?_ | exact Below.refl _ _))
  · have k1 : (s == 1) = false := by simp [hs]
    rw [if_neg hs]
    clear hs
    go_enter Try.func99, Try.ntmps99
    go_wp2
    go_ret
    refine ⟨congrArg (fun z => Ending.returned (.int .i64 z)) (by first | exact v1 | exact v2 | rfl), ?_⟩
    (repeat (first | refine Below.alloc ?_ (by first | (simp; done) | (simp; omega)) _ | refine Below.setCell ?_ (by first | (simp; done) | (simp; omega)) _ | refine bel_dN ?_ _ | refine Below.drew ?_ | exact Below.refl _ _))

theorem fldO (x0 x1 x2 x3 x4 : Value) (w : World) : (Instr.field 107 (.agg #[x0, x1, x2, x3, x4]) 2).run Try.prog w = .ok x2 w := by kernel_rfl
theorem fldV (x0 x1 x2 x3 : Value) (w : World) : (Instr.field 88 (.agg #[x0, x1, x2, x3]) 0).run Try.prog w = .ok x0 w := by kernel_rfl

set_option maxHeartbeats 1000000 in
theorem cmpSpec16 (a b c1 m1 e1 r1 c2 m2 e2 r2 : Int) (s1 s2 : Bool)
    (V1 : Hid (∀ w, Calls Try.prog 82 #[(.agg #[.int .u64 5, .int .u64 10]), .int .u32 a] w fun e w' => e = .returned (.agg #[.bool s1, .bool (c1 == 1), .bool (c1 == 2), .int .u64 m1, .int .i64 e1]) ∧ Below w.heap.size w w'))
    (V2 : Hid (∀ w, Calls Try.prog 82 #[(.agg #[.int .u64 5, .int .u64 10]), .int .u32 b] w fun e w' => e = .returned (.agg #[.bool s2, .bool (c2 == 1), .bool (c2 == 2), .int .u64 m2, .int .i64 e2]) ∧ Below w.heap.size w w'))
    (R1 : Hid (∀ w, Calls Try.prog 99 #[(.agg #[.int .u64 5, .int .u64 10]), .int .u32 a] w fun e w' => e = .returned (.int .i64 r1) ∧ Below w.heap.size w w'))
    (R2 : Hid (∀ w, Calls Try.prog 99 #[(.agg #[.int .u64 5, .int .u64 10]), .int .u32 b] w fun e w' => e = .returned (.int .i64 r2) ∧ Below w.heap.size w w')) (w : World) :
    Calls Try.prog 72 #[(.agg #[.int .u64 5, .int .u64 10]), .int .u32 a, .int .u32 b] w fun e w' => e = .returned (.int .i64 (cmpOf c1 r1 c2 r2)) ∧ Below w.heap.size w w' := by
  have FL := fldO
  by_cases h1 : c1 = 2
  · have k1 : (c1 == 2) = true := by simp [h1]
    have hc : cmpOf c1 r1 c2 r2 = 2 := by unfold cmpOf; rw [if_pos (Or.inl h1)]
    rw [hc]
    rw [k1] at V1
    clear hc h1 k1
    go_enter Try.func72, Try.ntmps72
    go_wp2_with fail
    refine (V1.out _).mono ?_
    rintro e w1 ⟨rfl, B1⟩
    go_wp2
    go_ret
    refine ⟨rfl, ?_⟩
    ((repeat (first | refine bel_alloc ?_ _ | refine bel_dN ?_ _ | refine Below.drew ?_ | refine Below.setCell ?_ (by first | (simp; done) | (simp; omega)) _)); refine bel_step ?_ B1; (repeat (first | refine bel_alloc ?_ _ | refine bel_dN ?_ _ | refine Below.drew ?_ | refine Below.setCell ?_ (by first | (simp; done) | (simp; omega)) _)); exact Below.refl _ _)
  · have k1 : (c1 == 2) = false := by simp [h1]
    rw [k1] at V1
    by_cases h2 : c2 = 2
    · have k2 : (c2 == 2) = true := by simp [h2]
      have hc : cmpOf c1 r1 c2 r2 = 2 := by unfold cmpOf; rw [if_pos (Or.inr h2)]
      rw [hc]
      rw [k2] at V2
      clear hc h1 h2 k1 k2
      go_enter Try.func72, Try.ntmps72
      go_wp2_with fail
      refine (V1.out _).mono ?_
      rintro e w1 ⟨rfl, B1⟩
      have f0 := B1.cell (p := ⟨w.heap.size, 0, none⟩) (by simp)
      have f1 := B1.cell (p := ⟨w.heap.size, 1, none⟩) (by simp)
      simp at f0 f1
      go_wp2_with fail
      refine (V2.out _).mono ?_
      rintro e w2 ⟨rfl, B2⟩
      go_wp2
      go_ret
      refine ⟨rfl, ?_⟩
      ((repeat (first | refine bel_alloc ?_ _ | refine bel_dN ?_ _ | refine Below.drew ?_ | refine Below.setCell ?_ (by first | (simp; done) | (simp; omega)) _)); refine bel_step ?_ B2; (repeat (first | refine bel_alloc ?_ _ | refine bel_dN ?_ _ | refine Below.drew ?_ | refine Below.setCell ?_ (by first | (simp; done) | (simp; omega)) _)); refine bel_step ?_ B1; (repeat (first | refine bel_alloc ?_ _ | refine bel_dN ?_ _ | refine Below.drew ?_ | refine Below.setCell ?_ (by first | (simp; done) | (simp; omega)) _)); exact Below.refl _ _)
    · have k2 : (c2 == 2) = false := by simp [h2]
      rw [k2] at V2
      have hc : cmpOf c1 r1 c2 r2 = if r1 < r2 then -1 else if r2 < r1 then 1 else 0 := by unfold cmpOf; rw [if_neg (by omega)]
      rw [hc]
      clear hc h1 h2 k1 k2
      obtain ⟨R, hR⟩ : ∃ R : Int, (if r1 < r2 then -1 else if r2 < r1 then 1 else 0) = R := ⟨_, rfl⟩
      rw [hR]
      have HR : Hid ((if r1 < r2 then -1 else if r2 < r1 then 1 else 0) = R) := hR
      clear hR
      go_enter Try.func72, Try.ntmps72
      go_wp2_with fail
      refine (V1.out _).mono ?_
      rintro e w1 ⟨rfl, B1⟩
      have f0 := B1.cell (p := ⟨w.heap.size, 0, none⟩) (by simp)
      have f1 := B1.cell (p := ⟨w.heap.size, 1, none⟩) (by simp)
      simp at f0 f1
      have l1 : w.heap.size < w1.heap.size := Nat.lt_of_lt_of_le (by simp) B1.size
      go_wp2_with fail
      refine (V2.out _).mono ?_
      rintro e w2 ⟨rfl, B2⟩
      have g0 := (B2.cell (p := ⟨w.heap.size, 0, none⟩) (by simpa using l1)).trans f0
      have g1 := (B2.cell (p := ⟨w.heap.size, 1, none⟩) (by simpa using l1)).trans f1
      have l2 : w.heap.size < w2.heap.size := Nat.lt_of_lt_of_le l1 B2.size
      clear f0 f1 l1
      go_wp2_with fail
      refine (R1.out _).mono ?_
      rintro e w3 ⟨rfl, B3⟩
      have f0 := (B3.cell (p := ⟨w.heap.size, 0, none⟩) (by simpa using l2)).trans g0
      have f1 := (B3.cell (p := ⟨w.heap.size, 1, none⟩) (by simpa using l2)).trans g1
      clear g0 g1 l2
      go_wp2_with fail
      refine (R2.out _).mono ?_
      rintro e w4 ⟨rfl, B4⟩
      clear f0 f1 R1 R2 V1 V2
      by_cases hlt : r1 < r2
      · have hv := HR.out
        rw [if_pos hlt] at hv
        subst hv
        clear HR
        go_wp2
        go_ret
        refine ⟨rfl, ?_⟩
        ((repeat (first | refine bel_alloc ?_ _ | refine bel_dN ?_ _ | refine Below.drew ?_ | refine Below.setCell ?_ (by first | (simp; done) | (simp; omega)) _)); refine bel_step ?_ B4; (repeat (first | refine bel_alloc ?_ _ | refine bel_dN ?_ _ | refine Below.drew ?_ | refine Below.setCell ?_ (by first | (simp; done) | (simp; omega)) _)); refine bel_step ?_ B3; (repeat (first | refine bel_alloc ?_ _ | refine bel_dN ?_ _ | refine Below.drew ?_ | refine Below.setCell ?_ (by first | (simp; done) | (simp; omega)) _)); refine bel_step ?_ B2; (repeat (first | refine bel_alloc ?_ _ | refine bel_dN ?_ _ | refine Below.drew ?_ | refine Below.setCell ?_ (by first | (simp; done) | (simp; omega)) _)); refine bel_step ?_ B1; (repeat (first | refine bel_alloc ?_ _ | refine bel_dN ?_ _ | refine Below.drew ?_ | refine Below.setCell ?_ (by first | (simp; done) | (simp; omega)) _)); exact Below.refl _ _)
      · by_cases hgt : r2 < r1
        · have hv := HR.out
          rw [if_neg hlt, if_pos hgt] at hv
          subst hv
          clear HR
          go_wp2
          go_ret
          refine ⟨rfl, ?_⟩
          ((repeat (first | refine bel_alloc ?_ _ | refine bel_dN ?_ _ | refine Below.drew ?_ | refine Below.setCell ?_ (by first | (simp; done) | (simp; omega)) _)); refine bel_step ?_ B4; (repeat (first | refine bel_alloc ?_ _ | refine bel_dN ?_ _ | refine Below.drew ?_ | refine Below.setCell ?_ (by first | (simp; done) | (simp; omega)) _)); refine bel_step ?_ B3; (repeat (first | refine bel_alloc ?_ _ | refine bel_dN ?_ _ | refine Below.drew ?_ | refine Below.setCell ?_ (by first | (simp; done) | (simp; omega)) _)); refine bel_step ?_ B2; (repeat (first | refine bel_alloc ?_ _ | refine bel_dN ?_ _ | refine Below.drew ?_ | refine Below.setCell ?_ (by first | (simp; done) | (simp; omega)) _)); refine bel_step ?_ B1; (repeat (first | refine bel_alloc ?_ _ | refine bel_dN ?_ _ | refine Below.drew ?_ | refine Below.setCell ?_ (by first | (simp; done) | (simp; omega)) _)); exact Below.refl _ _)
        · have hv := HR.out
          rw [if_neg hlt, if_neg hgt] at hv
          subst hv
          clear HR
          go_wp2
          go_ret
          refine ⟨rfl, ?_⟩
          ((repeat (first | refine bel_alloc ?_ _ | refine bel_dN ?_ _ | refine Below.drew ?_ | refine Below.setCell ?_ (by first | (simp; done) | (simp; omega)) _)); refine bel_step ?_ B4; (repeat (first | refine bel_alloc ?_ _ | refine bel_dN ?_ _ | refine Below.drew ?_ | refine Below.setCell ?_ (by first | (simp; done) | (simp; omega)) _)); refine bel_step ?_ B3; (repeat (first | refine bel_alloc ?_ _ | refine bel_dN ?_ _ | refine Below.drew ?_ | refine Below.setCell ?_ (by first | (simp; done) | (simp; omega)) _)); refine bel_step ?_ B2; (repeat (first | refine bel_alloc ?_ _ | refine bel_dN ?_ _ | refine Below.drew ?_ | refine Below.setCell ?_ (by first | (simp; done) | (simp; omega)) _)); refine bel_step ?_ B1; (repeat (first | refine bel_alloc ?_ _ | refine bel_dN ?_ _ | refine Below.drew ?_ | refine Below.setCell ?_ (by first | (simp; done) | (simp; omega)) _)); exact Below.refl _ _)

set_option maxHeartbeats 1000000 in
theorem cmpSpec32 (a b c1 m1 e1 r1 c2 m2 e2 r2 : Int) (s1 s2 : Bool)
    (V1 : Hid (∀ w, Calls Try.prog 82 #[(.agg #[.int .u64 8, .int .u64 23]), .int .u32 a] w fun e w' => e = .returned (.agg #[.bool s1, .bool (c1 == 1), .bool (c1 == 2), .int .u64 m1, .int .i64 e1]) ∧ Below w.heap.size w w'))
    (V2 : Hid (∀ w, Calls Try.prog 82 #[(.agg #[.int .u64 8, .int .u64 23]), .int .u32 b] w fun e w' => e = .returned (.agg #[.bool s2, .bool (c2 == 1), .bool (c2 == 2), .int .u64 m2, .int .i64 e2]) ∧ Below w.heap.size w w'))
    (R1 : Hid (∀ w, Calls Try.prog 99 #[(.agg #[.int .u64 8, .int .u64 23]), .int .u32 a] w fun e w' => e = .returned (.int .i64 r1) ∧ Below w.heap.size w w'))
    (R2 : Hid (∀ w, Calls Try.prog 99 #[(.agg #[.int .u64 8, .int .u64 23]), .int .u32 b] w fun e w' => e = .returned (.int .i64 r2) ∧ Below w.heap.size w w')) (w : World) :
    Calls Try.prog 72 #[(.agg #[.int .u64 8, .int .u64 23]), .int .u32 a, .int .u32 b] w fun e w' => e = .returned (.int .i64 (cmpOf c1 r1 c2 r2)) ∧ Below w.heap.size w w' := by
  have FL := fldO
  by_cases h1 : c1 = 2
  · have k1 : (c1 == 2) = true := by simp [h1]
    have hc : cmpOf c1 r1 c2 r2 = 2 := by unfold cmpOf; rw [if_pos (Or.inl h1)]
    rw [hc]
    rw [k1] at V1
    clear hc h1 k1
    go_enter Try.func72, Try.ntmps72
    go_wp2_with fail
    refine (V1.out _).mono ?_
    rintro e w1 ⟨rfl, B1⟩
    go_wp2
    go_ret
    refine ⟨rfl, ?_⟩
    ((repeat (first | refine bel_alloc ?_ _ | refine bel_dN ?_ _ | refine Below.drew ?_ | refine Below.setCell ?_ (by first | (simp; done) | (simp; omega)) _)); refine bel_step ?_ B1; (repeat (first | refine bel_alloc ?_ _ | refine bel_dN ?_ _ | refine Below.drew ?_ | refine Below.setCell ?_ (by first | (simp; done) | (simp; omega)) _)); exact Below.refl _ _)
  · have k1 : (c1 == 2) = false := by simp [h1]
    rw [k1] at V1
    by_cases h2 : c2 = 2
    · have k2 : (c2 == 2) = true := by simp [h2]
      have hc : cmpOf c1 r1 c2 r2 = 2 := by unfold cmpOf; rw [if_pos (Or.inr h2)]
      rw [hc]
      rw [k2] at V2
      clear hc h1 h2 k1 k2
      go_enter Try.func72, Try.ntmps72
      go_wp2_with fail
      refine (V1.out _).mono ?_
      rintro e w1 ⟨rfl, B1⟩
      have f0 := B1.cell (p := ⟨w.heap.size, 0, none⟩) (by simp)
      have f1 := B1.cell (p := ⟨w.heap.size, 1, none⟩) (by simp)
      simp at f0 f1
      go_wp2_with fail
      refine (V2.out _).mono ?_
      rintro e w2 ⟨rfl, B2⟩
      go_wp2
      go_ret
      refine ⟨rfl, ?_⟩
      ((repeat (first | refine bel_alloc ?_ _ | refine bel_dN ?_ _ | refine Below.drew ?_ | refine Below.setCell ?_ (by first | (simp; done) | (simp; omega)) _)); refine bel_step ?_ B2; (repeat (first | refine bel_alloc ?_ _ | refine bel_dN ?_ _ | refine Below.drew ?_ | refine Below.setCell ?_ (by first | (simp; done) | (simp; omega)) _)); refine bel_step ?_ B1; (repeat (first | refine bel_alloc ?_ _ | refine bel_dN ?_ _ | refine Below.drew ?_ | refine Below.setCell ?_ (by first | (simp; done) | (simp; omega)) _)); exact Below.refl _ _)
    · have k2 : (c2 == 2) = false := by simp [h2]
      rw [k2] at V2
      have hc : cmpOf c1 r1 c2 r2 = if r1 < r2 then -1 else if r2 < r1 then 1 else 0 := by unfold cmpOf; rw [if_neg (by omega)]
      rw [hc]
      clear hc h1 h2 k1 k2
      obtain ⟨R, hR⟩ : ∃ R : Int, (if r1 < r2 then -1 else if r2 < r1 then 1 else 0) = R := ⟨_, rfl⟩
      rw [hR]
      have HR : Hid ((if r1 < r2 then -1 else if r2 < r1 then 1 else 0) = R) := hR
      clear hR
      go_enter Try.func72, Try.ntmps72
      go_wp2_with fail
      refine (V1.out _).mono ?_
      rintro e w1 ⟨rfl, B1⟩
      have f0 := B1.cell (p := ⟨w.heap.size, 0, none⟩) (by simp)
      have f1 := B1.cell (p := ⟨w.heap.size, 1, none⟩) (by simp)
      simp at f0 f1
      have l1 : w.heap.size < w1.heap.size := Nat.lt_of_lt_of_le (by simp) B1.size
      go_wp2_with fail
      refine (V2.out _).mono ?_
      rintro e w2 ⟨rfl, B2⟩
      have g0 := (B2.cell (p := ⟨w.heap.size, 0, none⟩) (by simpa using l1)).trans f0
      have g1 := (B2.cell (p := ⟨w.heap.size, 1, none⟩) (by simpa using l1)).trans f1
      have l2 : w.heap.size < w2.heap.size := Nat.lt_of_lt_of_le l1 B2.size
      clear f0 f1 l1
      go_wp2_with fail
      refine (R1.out _).mono ?_
      rintro e w3 ⟨rfl, B3⟩
      have f0 := (B3.cell (p := ⟨w.heap.size, 0, none⟩) (by simpa using l2)).trans g0
      have f1 := (B3.cell (p := ⟨w.heap.size, 1, none⟩) (by simpa using l2)).trans g1
      clear g0 g1 l2
      go_wp2_with fail
      refine (R2.out _).mono ?_
      rintro e w4 ⟨rfl, B4⟩
      clear f0 f1 R1 R2 V1 V2
      by_cases hlt : r1 < r2
      · have hv := HR.out
        rw [if_pos hlt] at hv
        subst hv
        clear HR
        go_wp2
        go_ret
        refine ⟨rfl, ?_⟩
        ((repeat (first | refine bel_alloc ?_ _ | refine bel_dN ?_ _ | refine Below.drew ?_ | refine Below.setCell ?_ (by first | (simp; done) | (simp; omega)) _)); refine bel_step ?_ B4; (repeat (first | refine bel_alloc ?_ _ | refine bel_dN ?_ _ | refine Below.drew ?_ | refine Below.setCell ?_ (by first | (simp; done) | (simp; omega)) _)); refine bel_step ?_ B3; (repeat (first | refine bel_alloc ?_ _ | refine bel_dN ?_ _ | refine Below.drew ?_ | refine Below.setCell ?_ (by first | (simp; done) | (simp; omega)) _)); refine bel_step ?_ B2; (repeat (first | refine bel_alloc ?_ _ | refine bel_dN ?_ _ | refine Below.drew ?_ | refine Below.setCell ?_ (by first | (simp; done) | (simp; omega)) _)); refine bel_step ?_ B1; (repeat (first | refine bel_alloc ?_ _ | refine bel_dN ?_ _ | refine Below.drew ?_ | refine Below.setCell ?_ (by first | (simp; done) | (simp; omega)) _)); exact Below.refl _ _)
      · by_cases hgt : r2 < r1
        · have hv := HR.out
          rw [if_neg hlt, if_pos hgt] at hv
          subst hv
          clear HR
          go_wp2
          go_ret
          refine ⟨rfl, ?_⟩
          ((repeat (first | refine bel_alloc ?_ _ | refine bel_dN ?_ _ | refine Below.drew ?_ | refine Below.setCell ?_ (by first | (simp; done) | (simp; omega)) _)); refine bel_step ?_ B4; (repeat (first | refine bel_alloc ?_ _ | refine bel_dN ?_ _ | refine Below.drew ?_ | refine Below.setCell ?_ (by first | (simp; done) | (simp; omega)) _)); refine bel_step ?_ B3; (repeat (first | refine bel_alloc ?_ _ | refine bel_dN ?_ _ | refine Below.drew ?_ | refine Below.setCell ?_ (by first | (simp; done) | (simp; omega)) _)); refine bel_step ?_ B2; (repeat (first | refine bel_alloc ?_ _ | refine bel_dN ?_ _ | refine Below.drew ?_ | refine Below.setCell ?_ (by first | (simp; done) | (simp; omega)) _)); refine bel_step ?_ B1; (repeat (first | refine bel_alloc ?_ _ | refine bel_dN ?_ _ | refine Below.drew ?_ | refine Below.setCell ?_ (by first | (simp; done) | (simp; omega)) _)); exact Below.refl _ _)
        · have hv := HR.out
          rw [if_neg hlt, if_neg hgt] at hv
          subst hv
          clear HR
          go_wp2
          go_ret
          refine ⟨rfl, ?_⟩
          ((repeat (first | refine bel_alloc ?_ _ | refine bel_dN ?_ _ | refine Below.drew ?_ | refine Below.setCell ?_ (by first | (simp; done) | (simp; omega)) _)); refine bel_step ?_ B4; (repeat (first | refine bel_alloc ?_ _ | refine bel_dN ?_ _ | refine Below.drew ?_ | refine Below.setCell ?_ (by first | (simp; done) | (simp; omega)) _)); refine bel_step ?_ B3; (repeat (first | refine bel_alloc ?_ _ | refine bel_dN ?_ _ | refine Below.drew ?_ | refine Below.setCell ?_ (by first | (simp; done) | (simp; omega)) _)); refine bel_step ?_ B2; (repeat (first | refine bel_alloc ?_ _ | refine bel_dN ?_ _ | refine Below.drew ?_ | refine Below.setCell ?_ (by first | (simp; done) | (simp; omega)) _)); refine bel_step ?_ B1; (repeat (first | refine bel_alloc ?_ _ | refine bel_dN ?_ _ | refine Below.drew ?_ | refine Below.setCell ?_ (by first | (simp; done) | (simp; omega)) _)); exact Below.refl _ _)

set_option maxHeartbeats 1000000 in
theorem cmpImpl16 (a b c1 m1 e1 r1 c2 m2 e2 r2 : Int) (s1 s2 : Bool)
    (V1 : Hid (∀ w, Calls Try.prog 66 #[(.agg #[.int .i64 10, .int .i64 15, .int .u32 31]), .int .u32 a] w fun e w' => e = .returned (.agg #[.int .i64 c1, .bool s1, .int .u64 m1, .int .i64 e1]) ∧ Below w.heap.size w w'))
    (V2 : Hid (∀ w, Calls Try.prog 66 #[(.agg #[.int .i64 10, .int .i64 15, .int .u32 31]), .int .u32 b] w fun e w' => e = .returned (.agg #[.int .i64 c2, .bool s2, .int .u64 m2, .int .i64 e2]) ∧ Below w.heap.size w w'))
    (R1 : Hid (∀ w, Calls Try.prog 67 #[(.agg #[.int .i64 10, .int .i64 15, .int .u32 31]), .int .u32 a] w fun e w' => e = .returned (.int .i64 r1) ∧ Below w.heap.size w w'))
    (R2 : Hid (∀ w, Calls Try.prog 67 #[(.agg #[.int .i64 10, .int .i64 15, .int .u32 31]), .int .u32 b] w fun e w' => e = .returned (.int .i64 r2) ∧ Below w.heap.size w w')) (w : World) :
    Calls Try.prog 28 #[.int .i64 16, .int .u32 a, .int .u32 b] w fun e w' => e = .returned (.int .i64 (cmpOf c1 r1 c2 r2)) ∧ Below w.heap.size w w' := by
  have FL := fldV
  by_cases h1 : c1 = 2
  · have hc : cmpOf c1 r1 c2 r2 = 2 := by unfold cmpOf; rw [if_pos (Or.inl h1)]
    rw [hc]
    subst h1
    clear hc
    go_enter Try.func28, Try.ntmps28
    go_wp2_with fail
    refine (form16 _).mono ?_
    rintro e w1 ⟨rfl, B1⟩
    go_wp2_with fail
    refine (V1.out _).mono ?_
    rintro e w2 ⟨rfl, B2⟩
    go_wp2
    go_ret
    refine ⟨rfl, ?_⟩
    ((repeat (first | refine bel_alloc ?_ _ | refine bel_dN ?_ _ | refine Below.drew ?_ | refine Below.setCell ?_ (by first | (simp; done) | (simp; omega)) _)); refine bel_step ?_ B2; (repeat (first | refine bel_alloc ?_ _ | refine bel_dN ?_ _ | refine Below.drew ?_ | refine Below.setCell ?_ (by first | (simp; done) | (simp; omega)) _)); refine bel_step ?_ B1; (repeat (first | refine bel_alloc ?_ _ | refine bel_dN ?_ _ | refine Below.drew ?_ | refine Below.setCell ?_ (by first | (simp; done) | (simp; omega)) _)); exact Below.refl _ _)
  · have k1 : (c1 == 2) = false := by simp [h1]
    by_cases h2 : c2 = 2
    · have hc : cmpOf c1 r1 c2 r2 = 2 := by unfold cmpOf; rw [if_pos (Or.inr h2)]
      rw [hc]
      subst h2
      clear hc h1
      go_enter Try.func28, Try.ntmps28
      go_wp2_with fail
      refine (form16 _).mono ?_
      rintro e w1 ⟨rfl, B1⟩
      go_wp2_with fail
      refine (V1.out _).mono ?_
      rintro e w2 ⟨rfl, B2⟩
      have f0 := B2.cell (p := ⟨w1.heap.size, 0, none⟩) (by simp)
      have f1 := B2.cell (p := ⟨w1.heap.size, 1, none⟩) (by simp)
      have f2 := B2.cell (p := ⟨w1.heap.size, 2, none⟩) (by simp)
      simp at f0 f1 f2
      go_wp2_with fail
      refine (V2.out _).mono ?_
      rintro e w3 ⟨rfl, B3⟩
      go_wp2
      go_ret
      refine ⟨rfl, ?_⟩
      ((repeat (first | refine bel_alloc ?_ _ | refine bel_dN ?_ _ | refine Below.drew ?_ | refine Below.setCell ?_ (by first | (simp; done) | (simp; omega)) _)); refine bel_step ?_ B3; (repeat (first | refine bel_alloc ?_ _ | refine bel_dN ?_ _ | refine Below.drew ?_ | refine Below.setCell ?_ (by first | (simp; done) | (simp; omega)) _)); refine bel_step ?_ B2; (repeat (first | refine bel_alloc ?_ _ | refine bel_dN ?_ _ | refine Below.drew ?_ | refine Below.setCell ?_ (by first | (simp; done) | (simp; omega)) _)); refine bel_step ?_ B1; (repeat (first | refine bel_alloc ?_ _ | refine bel_dN ?_ _ | refine Below.drew ?_ | refine Below.setCell ?_ (by first | (simp; done) | (simp; omega)) _)); exact Below.refl _ _)
    · have k2 : (c2 == 2) = false := by simp [h2]
      have hc : cmpOf c1 r1 c2 r2 = if r1 < r2 then -1 else if r2 < r1 then 1 else 0 := by unfold cmpOf; rw [if_neg (by omega)]
      rw [hc]
      clear hc h1 h2
      obtain ⟨R, hR⟩ : ∃ R : Int, (if r1 < r2 then -1 else if r2 < r1 then 1 else 0) = R := ⟨_, rfl⟩
      rw [hR]
      have HR : Hid ((if r1 < r2 then -1 else if r2 < r1 then 1 else 0) = R) := hR
      clear hR
      go_enter Try.func28, Try.ntmps28
      go_wp2_with fail
      refine (form16 _).mono ?_
      rintro e w1 ⟨rfl, B1⟩
      go_wp2_with fail
      refine (V1.out _).mono ?_
      rintro e w2 ⟨rfl, B2⟩
      have f0 := B2.cell (p := ⟨w1.heap.size, 0, none⟩) (by simp)
      have f1 := B2.cell (p := ⟨w1.heap.size, 1, none⟩) (by simp)
      have f2 := B2.cell (p := ⟨w1.heap.size, 2, none⟩) (by simp)
      simp at f0 f1 f2
      have l1 : w1.heap.size < w2.heap.size := Nat.lt_of_lt_of_le (by simp) B2.size
      go_wp2_with fail
      refine (V2.out _).mono ?_
      rintro e w3 ⟨rfl, B3⟩
      have l3 : w1.heap.size < w3.heap.size := Nat.lt_of_lt_of_le l1 B3.size
      have g0 := (B3.cell (p := ⟨w1.heap.size, 0, none⟩) (by simpa using l1)).trans f0
      have g1 := (B3.cell (p := ⟨w1.heap.size, 1, none⟩) (by simpa using l1)).trans f1
      have g2 := (B3.cell (p := ⟨w1.heap.size, 2, none⟩) (by simpa using l1)).trans f2
      obtain ⟨g, hg⟩ : ∃ g, w1.heap.size = g := ⟨_, rfl⟩
      rw [hg] at g0 g1 g2 l3
      clear f0 f1 f2 l1
      go_wp2_with fail
      try rw [hg]
      clear FL
      have k0 : ∀ w, Keeps w3 w → w.cell? ⟨g, 0, none⟩ = some (.int .i64 10) := fun w h => h.cell l3 g0
      have k3 : ∀ w, Keeps w3 w → w.cell? ⟨g, 1, none⟩ = some (.int .i64 15) := fun w h => h.cell l3 g1
      have k4 : ∀ w, Keeps w3 w → w.cell? ⟨g, 2, none⟩ = some (.int .u32 31) := fun w h => h.cell l3 g2
      clear g0 g1 g2 hg
      refine region_q (C := Keeps w3) (by kernel_rfl) (by kernel_rfl) (Keeps.drew _) ?_
      (iterate 8
        (apply wpQuiet_go _ (by rfl)
         · intro wq hq
           go_simp
           first
             | (go_at_call_of 67 a; exact qcall hq (R1.out _))
             | (go_at_call_of 67 b; exact qcall hq (R2.out _))
             | exact rfl
         simp only [Act.put, List.setIfInBounds_toArray, List.set_cons_succ, List.set_cons_zero]))
      refine wpQuiet_nil ?_
      intro w4 hk
      have hb := hk.below
      clear k0 k3 k4 hk R1 R2 V1 V2
      by_cases hlt : r1 < r2
      · have hv := HR.out
        rw [if_pos hlt] at hv
        subst hv
        clear HR
        go_wp2
        go_ret
        refine ⟨rfl, ?_⟩
        ((repeat (first | refine bel_alloc ?_ _ | refine bel_dN ?_ _ | refine Below.drew ?_ | refine Below.setCell ?_ (by first | (simp; done) | (simp; omega)) _)); refine bel_step ?_ hb; (repeat (first | refine bel_alloc ?_ _ | refine bel_dN ?_ _ | refine Below.drew ?_ | refine Below.setCell ?_ (by first | (simp; done) | (simp; omega)) _)); refine bel_step ?_ B3; (repeat (first | refine bel_alloc ?_ _ | refine bel_dN ?_ _ | refine Below.drew ?_ | refine Below.setCell ?_ (by first | (simp; done) | (simp; omega)) _)); refine bel_step ?_ B2; (repeat (first | refine bel_alloc ?_ _ | refine bel_dN ?_ _ | refine Below.drew ?_ | refine Below.setCell ?_ (by first | (simp; done) | (simp; omega)) _)); refine bel_step ?_ B1; (repeat (first | refine bel_alloc ?_ _ | refine bel_dN ?_ _ | refine Below.drew ?_ | refine Below.setCell ?_ (by first | (simp; done) | (simp; omega)) _)); exact Below.refl _ _)
      · by_cases hgt : r2 < r1
        · have hv := HR.out
          rw [if_neg hlt, if_pos hgt] at hv
          subst hv
          clear HR
          go_wp2
          go_ret
          refine ⟨rfl, ?_⟩
          ((repeat (first | refine bel_alloc ?_ _ | refine bel_dN ?_ _ | refine Below.drew ?_ | refine Below.setCell ?_ (by first | (simp; done) | (simp; omega)) _)); refine bel_step ?_ hb; (repeat (first | refine bel_alloc ?_ _ | refine bel_dN ?_ _ | refine Below.drew ?_ | refine Below.setCell ?_ (by first | (simp; done) | (simp; omega)) _)); refine bel_step ?_ B3; (repeat (first | refine bel_alloc ?_ _ | refine bel_dN ?_ _ | refine Below.drew ?_ | refine Below.setCell ?_ (by first | (simp; done) | (simp; omega)) _)); refine bel_step ?_ B2; (repeat (first | refine bel_alloc ?_ _ | refine bel_dN ?_ _ | refine Below.drew ?_ | refine Below.setCell ?_ (by first | (simp; done) | (simp; omega)) _)); refine bel_step ?_ B1; (repeat (first | refine bel_alloc ?_ _ | refine bel_dN ?_ _ | refine Below.drew ?_ | refine Below.setCell ?_ (by first | (simp; done) | (simp; omega)) _)); exact Below.refl _ _)
        · have hv := HR.out
          rw [if_neg hlt, if_neg hgt] at hv
          subst hv
          clear HR
          go_wp2
          go_ret
          refine ⟨rfl, ?_⟩
          ((repeat (first | refine bel_alloc ?_ _ | refine bel_dN ?_ _ | refine Below.drew ?_ | refine Below.setCell ?_ (by first | (simp; done) | (simp; omega)) _)); refine bel_step ?_ hb; (repeat (first | refine bel_alloc ?_ _ | refine bel_dN ?_ _ | refine Below.drew ?_ | refine Below.setCell ?_ (by first | (simp; done) | (simp; omega)) _)); refine bel_step ?_ B3; (repeat (first | refine bel_alloc ?_ _ | refine bel_dN ?_ _ | refine Below.drew ?_ | refine Below.setCell ?_ (by first | (simp; done) | (simp; omega)) _)); refine bel_step ?_ B2; (repeat (first | refine bel_alloc ?_ _ | refine bel_dN ?_ _ | refine Below.drew ?_ | refine Below.setCell ?_ (by first | (simp; done) | (simp; omega)) _)); refine bel_step ?_ B1; (repeat (first | refine bel_alloc ?_ _ | refine bel_dN ?_ _ | refine Below.drew ?_ | refine Below.setCell ?_ (by first | (simp; done) | (simp; omega)) _)); exact Below.refl _ _)

set_option maxHeartbeats 1000000 in
theorem cmpImpl32 (a b c1 m1 e1 r1 c2 m2 e2 r2 : Int) (s1 s2 : Bool)
    (V1 : Hid (∀ w, Calls Try.prog 66 #[(.agg #[.int .i64 23, .int .i64 127, .int .u32 255]), .int .u32 a] w fun e w' => e = .returned (.agg #[.int .i64 c1, .bool s1, .int .u64 m1, .int .i64 e1]) ∧ Below w.heap.size w w'))
    (V2 : Hid (∀ w, Calls Try.prog 66 #[(.agg #[.int .i64 23, .int .i64 127, .int .u32 255]), .int .u32 b] w fun e w' => e = .returned (.agg #[.int .i64 c2, .bool s2, .int .u64 m2, .int .i64 e2]) ∧ Below w.heap.size w w'))
    (R1 : Hid (∀ w, Calls Try.prog 67 #[(.agg #[.int .i64 23, .int .i64 127, .int .u32 255]), .int .u32 a] w fun e w' => e = .returned (.int .i64 r1) ∧ Below w.heap.size w w'))
    (R2 : Hid (∀ w, Calls Try.prog 67 #[(.agg #[.int .i64 23, .int .i64 127, .int .u32 255]), .int .u32 b] w fun e w' => e = .returned (.int .i64 r2) ∧ Below w.heap.size w w')) (w : World) :
    Calls Try.prog 28 #[.int .i64 32, .int .u32 a, .int .u32 b] w fun e w' => e = .returned (.int .i64 (cmpOf c1 r1 c2 r2)) ∧ Below w.heap.size w w' := by
  have FL := fldV
  by_cases h1 : c1 = 2
  · have hc : cmpOf c1 r1 c2 r2 = 2 := by unfold cmpOf; rw [if_pos (Or.inl h1)]
    rw [hc]
    subst h1
    clear hc
    go_enter Try.func28, Try.ntmps28
    go_wp2_with fail
    refine (form32 _).mono ?_
    rintro e w1 ⟨rfl, B1⟩
    go_wp2_with fail
    refine (V1.out _).mono ?_
    rintro e w2 ⟨rfl, B2⟩
    go_wp2
    go_ret
    refine ⟨rfl, ?_⟩
    ((repeat (first | refine bel_alloc ?_ _ | refine bel_dN ?_ _ | refine Below.drew ?_ | refine Below.setCell ?_ (by first | (simp; done) | (simp; omega)) _)); refine bel_step ?_ B2; (repeat (first | refine bel_alloc ?_ _ | refine bel_dN ?_ _ | refine Below.drew ?_ | refine Below.setCell ?_ (by first | (simp; done) | (simp; omega)) _)); refine bel_step ?_ B1; (repeat (first | refine bel_alloc ?_ _ | refine bel_dN ?_ _ | refine Below.drew ?_ | refine Below.setCell ?_ (by first | (simp; done) | (simp; omega)) _)); exact Below.refl _ _)
  · have k1 : (c1 == 2) = false := by simp [h1]
    by_cases h2 : c2 = 2
    · have hc : cmpOf c1 r1 c2 r2 = 2 := by unfold cmpOf; rw [if_pos (Or.inr h2)]
      rw [hc]
      subst h2
      clear hc h1
      go_enter Try.func28, Try.ntmps28
      go_wp2_with fail
      refine (form32 _).mono ?_
      rintro e w1 ⟨rfl, B1⟩
      go_wp2_with fail
      refine (V1.out _).mono ?_
      rintro e w2 ⟨rfl, B2⟩
      have f0 := B2.cell (p := ⟨w1.heap.size, 0, none⟩) (by simp)
      have f1 := B2.cell (p := ⟨w1.heap.size, 1, none⟩) (by simp)
      have f2 := B2.cell (p := ⟨w1.heap.size, 2, none⟩) (by simp)
      simp at f0 f1 f2
      go_wp2_with fail
      refine (V2.out _).mono ?_
      rintro e w3 ⟨rfl, B3⟩
      go_wp2
      go_ret
      refine ⟨rfl, ?_⟩
      ((repeat (first | refine bel_alloc ?_ _ | refine bel_dN ?_ _ | refine Below.drew ?_ | refine Below.setCell ?_ (by first | (simp; done) | (simp; omega)) _)); refine bel_step ?_ B3; (repeat (first | refine bel_alloc ?_ _ | refine bel_dN ?_ _ | refine Below.drew ?_ | refine Below.setCell ?_ (by first | (simp; done) | (simp; omega)) _)); refine bel_step ?_ B2; (repeat (first | refine bel_alloc ?_ _ | refine bel_dN ?_ _ | refine Below.drew ?_ | refine Below.setCell ?_ (by first | (simp; done) | (simp; omega)) _)); refine bel_step ?_ B1; (repeat (first | refine bel_alloc ?_ _ | refine bel_dN ?_ _ | refine Below.drew ?_ | refine Below.setCell ?_ (by first | (simp; done) | (simp; omega)) _)); exact Below.refl _ _)
    · have k2 : (c2 == 2) = false := by simp [h2]
      have hc : cmpOf c1 r1 c2 r2 = if r1 < r2 then -1 else if r2 < r1 then 1 else 0 := by unfold cmpOf; rw [if_neg (by omega)]
      rw [hc]
      clear hc h1 h2
      obtain ⟨R, hR⟩ : ∃ R : Int, (if r1 < r2 then -1 else if r2 < r1 then 1 else 0) = R := ⟨_, rfl⟩
      rw [hR]
      have HR : Hid ((if r1 < r2 then -1 else if r2 < r1 then 1 else 0) = R) := hR
      clear hR
      go_enter Try.func28, Try.ntmps28
      go_wp2_with fail
      refine (form32 _).mono ?_
      rintro e w1 ⟨rfl, B1⟩
      go_wp2_with fail
      refine (V1.out _).mono ?_
      rintro e w2 ⟨rfl, B2⟩
      have f0 := B2.cell (p := ⟨w1.heap.size, 0, none⟩) (by simp)
      have f1 := B2.cell (p := ⟨w1.heap.size, 1, none⟩) (by simp)
      have f2 := B2.cell (p := ⟨w1.heap.size, 2, none⟩) (by simp)
      simp at f0 f1 f2
      have l1 : w1.heap.size < w2.heap.size := Nat.lt_of_lt_of_le (by simp) B2.size
      go_wp2_with fail
      refine (V2.out _).mono ?_
      rintro e w3 ⟨rfl, B3⟩
      have l3 : w1.heap.size < w3.heap.size := Nat.lt_of_lt_of_le l1 B3.size
      have g0 := (B3.cell (p := ⟨w1.heap.size, 0, none⟩) (by simpa using l1)).trans f0
      have g1 := (B3.cell (p := ⟨w1.heap.size, 1, none⟩) (by simpa using l1)).trans f1
      have g2 := (B3.cell (p := ⟨w1.heap.size, 2, none⟩) (by simpa using l1)).trans f2
      obtain ⟨g, hg⟩ : ∃ g, w1.heap.size = g := ⟨_, rfl⟩
      rw [hg] at g0 g1 g2 l3
      clear f0 f1 f2 l1
      go_wp2_with fail
      try rw [hg]
      clear FL
      have k0 : ∀ w, Keeps w3 w → w.cell? ⟨g, 0, none⟩ = some (.int .i64 23) := fun w h => h.cell l3 g0
      have k3 : ∀ w, Keeps w3 w → w.cell? ⟨g, 1, none⟩ = some (.int .i64 127) := fun w h => h.cell l3 g1
      have k4 : ∀ w, Keeps w3 w → w.cell? ⟨g, 2, none⟩ = some (.int .u32 255) := fun w h => h.cell l3 g2
      clear g0 g1 g2 hg
      refine region_q (C := Keeps w3) (by kernel_rfl) (by kernel_rfl) (Keeps.drew _) ?_
      (iterate 8
        (apply wpQuiet_go _ (by rfl)
         · intro wq hq
           go_simp
           first
             | (go_at_call_of 67 a; exact qcall hq (R1.out _))
             | (go_at_call_of 67 b; exact qcall hq (R2.out _))
             | exact rfl
         simp only [Act.put, List.setIfInBounds_toArray, List.set_cons_succ, List.set_cons_zero]))
      refine wpQuiet_nil ?_
      intro w4 hk
      have hb := hk.below
      clear k0 k3 k4 hk R1 R2 V1 V2
      by_cases hlt : r1 < r2
      · have hv := HR.out
        rw [if_pos hlt] at hv
        subst hv
        clear HR
        go_wp2
        go_ret
        refine ⟨rfl, ?_⟩
        ((repeat (first | refine bel_alloc ?_ _ | refine bel_dN ?_ _ | refine Below.drew ?_ | refine Below.setCell ?_ (by first | (simp; done) | (simp; omega)) _)); refine bel_step ?_ hb; (repeat (first | refine bel_alloc ?_ _ | refine bel_dN ?_ _ | refine Below.drew ?_ | refine Below.setCell ?_ (by first | (simp; done) | (simp; omega)) _)); refine bel_step ?_ B3; (repeat (first | refine bel_alloc ?_ _ | refine bel_dN ?_ _ | refine Below.drew ?_ | refine Below.setCell ?_ (by first | (simp; done) | (simp; omega)) _)); refine bel_step ?_ B2; (repeat (first | refine bel_alloc ?_ _ | refine bel_dN ?_ _ | refine Below.drew ?_ | refine Below.setCell ?_ (by first | (simp; done) | (simp; omega)) _)); refine bel_step ?_ B1; (repeat (first | refine bel_alloc ?_ _ | refine bel_dN ?_ _ | refine Below.drew ?_ | refine Below.setCell ?_ (by first | (simp; done) | (simp; omega)) _)); exact Below.refl _ _)
      · by_cases hgt : r2 < r1
        · have hv := HR.out
          rw [if_neg hlt, if_pos hgt] at hv
          subst hv
          clear HR
          go_wp2
          go_ret
          refine ⟨rfl, ?_⟩
          ((repeat (first | refine bel_alloc ?_ _ | refine bel_dN ?_ _ | refine Below.drew ?_ | refine Below.setCell ?_ (by first | (simp; done) | (simp; omega)) _)); refine bel_step ?_ hb; (repeat (first | refine bel_alloc ?_ _ | refine bel_dN ?_ _ | refine Below.drew ?_ | refine Below.setCell ?_ (by first | (simp; done) | (simp; omega)) _)); refine bel_step ?_ B3; (repeat (first | refine bel_alloc ?_ _ | refine bel_dN ?_ _ | refine Below.drew ?_ | refine Below.setCell ?_ (by first | (simp; done) | (simp; omega)) _)); refine bel_step ?_ B2; (repeat (first | refine bel_alloc ?_ _ | refine bel_dN ?_ _ | refine Below.drew ?_ | refine Below.setCell ?_ (by first | (simp; done) | (simp; omega)) _)); refine bel_step ?_ B1; (repeat (first | refine bel_alloc ?_ _ | refine bel_dN ?_ _ | refine Below.drew ?_ | refine Below.setCell ?_ (by first | (simp; done) | (simp; omega)) _)); exact Below.refl _ _)
        · have hv := HR.out
          rw [if_neg hlt, if_neg hgt] at hv
          subst hv
          clear HR
          go_wp2
          go_ret
          refine ⟨rfl, ?_⟩
          ((repeat (first | refine bel_alloc ?_ _ | refine bel_dN ?_ _ | refine Below.drew ?_ | refine Below.setCell ?_ (by first | (simp; done) | (simp; omega)) _)); refine bel_step ?_ hb; (repeat (first | refine bel_alloc ?_ _ | refine bel_dN ?_ _ | refine Below.drew ?_ | refine Below.setCell ?_ (by first | (simp; done) | (simp; omega)) _)); refine bel_step ?_ B3; (repeat (first | refine bel_alloc ?_ _ | refine bel_dN ?_ _ | refine Below.drew ?_ | refine Below.setCell ?_ (by first | (simp; done) | (simp; omega)) _)); refine bel_step ?_ B2; (repeat (first | refine bel_alloc ?_ _ | refine bel_dN ?_ _ | refine Below.drew ?_ | refine Below.setCell ?_ (by first | (simp; done) | (simp; omega)) _)); refine bel_step ?_ B1; (repeat (first | refine bel_alloc ?_ _ | refine bel_dN ?_ _ | refine Below.drew ?_ | refine Below.setCell ?_ (by first | (simp; done) | (simp; omega)) _)); exact Below.refl _ _)

theorem compare16 (a b : Int) (a0 : 0 ≤ a) (a1 : a ≤ 4294967295) (b0 : 0 ≤ b) (b1 : b ≤ 4294967295) (w : World) :
    Calls Try.prog 72 #[(.agg #[.int .u64 5, .int .u64 10]), .int .u32 a, .int .u32 b] w fun e w' => e = .returned (.int .i64 (cmpOf (cl16 a) (rk16 a) (cl16 b) (rk16 b))) ∧ Below w.heap.size w w' :=
  cmpSpec16 a b _ _ _ _ _ _ _ _ _ _ (open16 a a0 a1) (open16 b b0 b1) (order16 a a0 a1) (order16 b b0 b1) w

theorem compare32 (a b : Int) (a0 : 0 ≤ a) (a1 : a ≤ 4294967295) (b0 : 0 ≤ b) (b1 : b ≤ 4294967295) (w : World) :
    Calls Try.prog 72 #[(.agg #[.int .u64 8, .int .u64 23]), .int .u32 a, .int .u32 b] w fun e w' => e = .returned (.int .i64 (cmpOf (cl32 a) (rk32 a) (cl32 b) (rk32 b))) ∧ Below w.heap.size w w' :=
  cmpSpec32 a b _ _ _ _ _ _ _ _ _ _ (open32 a a0 a1) (open32 b b0 b1) (order32 a a0 a1) (order32 b b0 b1) w

theorem implCmp16 (a b : Int) (a0 : 0 ≤ a) (a1 : a ≤ 4294967295) (b0 : 0 ≤ b) (b1 : b ≤ 4294967295) (w : World) :
    Calls Try.prog 28 #[.int .i64 16, .int .u32 a, .int .u32 b] w fun e w' => e = .returned (.int .i64 (cmpOf (cl16 a) (rk16 a) (cl16 b) (rk16 b))) ∧ Below w.heap.size w w' :=
  cmpImpl16 a b _ _ _ _ _ _ _ _ _ _ (value16 a a0 a1) (value16 b b0 b1) (rank16 a a0 a1) (rank16 b b0 b1) w

theorem implCmp32 (a b : Int) (a0 : 0 ≤ a) (a1 : a ≤ 4294967295) (b0 : 0 ≤ b) (b1 : b ≤ 4294967295) (w : World) :
    Calls Try.prog 28 #[.int .i64 32, .int .u32 a, .int .u32 b] w fun e w' => e = .returned (.int .i64 (cmpOf (cl32 a) (rk32 a) (cl32 b) (rk32 b))) ∧ Below w.heap.size w w' :=
  cmpImpl32 a b _ _ _ _ _ _ _ _ _ _ (value32 a a0 a1) (value32 b b0 b1) (rank32 a a0 a1) (rank32 b b0 b1) w

theorem specCmp16 (a b : Int) (a0 : 0 ≤ a) (a1 : a ≤ 4294967295) (b0 : 0 ≤ b) (b1 : b ≤ 4294967295) (w : World) :
    Calls Try.prog 30 #[.int .i64 16, .int .u32 a, .int .u32 b] w fun e w' => e = .returned (.int .i64 (cmpOf (cl16 a) (rk16 a) (cl16 b) (rk16 b))) ∧ Below w.heap.size w w' := by
  have C := compare16 a b a0 a1 b0 b1
  generalize cmpOf (cl16 a) (rk16 a) (cl16 b) (rk16 b) = r at *
  clear a0 a1 b0 b1
  go_enter Try.func30, Try.ntmps30
  go_wp2_with fail
  refine (l4Kind16 _).mono ?_
  rintro e w1 ⟨rfl, B1⟩
  go_wp2_with fail
  refine (C _).mono ?_
  rintro e w2 ⟨rfl, B2⟩
  go_wp2
  go_ret
  refine ⟨rfl, ?_⟩
  ((repeat (first | refine bel_alloc ?_ _ | refine bel_dN ?_ _ | refine Below.drew ?_ | refine Below.setCell ?_ (by first | (simp; done) | (simp; omega)) _)); refine bel_step ?_ B2; (repeat (first | refine bel_alloc ?_ _ | refine bel_dN ?_ _ | refine Below.drew ?_ | refine Below.setCell ?_ (by first | (simp; done) | (simp; omega)) _)); refine bel_step ?_ B1; (repeat (first | refine bel_alloc ?_ _ | refine bel_dN ?_ _ | refine Below.drew ?_ | refine Below.setCell ?_ (by first | (simp; done) | (simp; omega)) _)); exact Below.refl _ _)

theorem specCmp32 (a b : Int) (a0 : 0 ≤ a) (a1 : a ≤ 4294967295) (b0 : 0 ≤ b) (b1 : b ≤ 4294967295) (w : World) :
    Calls Try.prog 30 #[.int .i64 32, .int .u32 a, .int .u32 b] w fun e w' => e = .returned (.int .i64 (cmpOf (cl32 a) (rk32 a) (cl32 b) (rk32 b))) ∧ Below w.heap.size w w' := by
  have C := compare32 a b a0 a1 b0 b1
  generalize cmpOf (cl32 a) (rk32 a) (cl32 b) (rk32 b) = r at *
  clear a0 a1 b0 b1
  go_enter Try.func30, Try.ntmps30
  go_wp2_with fail
  refine (l4Kind32 _).mono ?_
  rintro e w1 ⟨rfl, B1⟩
  go_wp2_with fail
  refine (C _).mono ?_
  rintro e w2 ⟨rfl, B2⟩
  go_wp2
  go_ret
  refine ⟨rfl, ?_⟩
  ((repeat (first | refine bel_alloc ?_ _ | refine bel_dN ?_ _ | refine Below.drew ?_ | refine Below.setCell ?_ (by first | (simp; done) | (simp; omega)) _)); refine bel_step ?_ B2; (repeat (first | refine bel_alloc ?_ _ | refine bel_dN ?_ _ | refine Below.drew ?_ | refine Below.setCell ?_ (by first | (simp; done) | (simp; omega)) _)); refine bel_step ?_ B1; (repeat (first | refine bel_alloc ?_ _ | refine bel_dN ?_ _ | refine Below.drew ?_ | refine Below.setCell ?_ (by first | (simp; done) | (simp; omega)) _)); exact Below.refl _ _)

theorem cmpNo (kind a b : Int) (h1 : kind ≠ 16) (h2 : kind ≠ 32) :
    (∀ w, Calls Try.prog 30 #[.int .i64 kind, .int .u32 a, .int .u32 b] w fun e w' => e = .returned (.int .i64 0) ∧ Below w.heap.size w w') ∧
    (∀ w, Calls Try.prog 28 #[.int .i64 kind, .int .u32 a, .int .u32 b] w fun e w' => e = .returned (.int .i64 0) ∧ Below w.heap.size w w') := by
  refine ⟨fun w => ?_, fun w => ?_⟩
  · go_enter Try.func30, Try.ntmps30
    go_wp2_with fail
    refine (l4KindNo kind h1 h2 _).mono ?_
    rintro e w1 ⟨rfl, B1⟩
    go_wp2
    go_ret
    refine ⟨rfl, ?_⟩
    ((repeat (first | refine bel_alloc ?_ _ | refine bel_dN ?_ _ | refine Below.drew ?_ | refine Below.setCell ?_ (by first | (simp; done) | (simp; omega)) _)); refine bel_step ?_ B1; (repeat (first | refine bel_alloc ?_ _ | refine bel_dN ?_ _ | refine Below.drew ?_ | refine Below.setCell ?_ (by first | (simp; done) | (simp; omega)) _)); exact Below.refl _ _)
  · go_enter Try.func28, Try.ntmps28
    go_wp2_with fail
    refine (formNo kind h1 h2 _).mono ?_
    rintro e w1 ⟨rfl, B1⟩
    go_wp2
    go_ret
    refine ⟨rfl, ?_⟩
    ((repeat (first | refine bel_alloc ?_ _ | refine bel_dN ?_ _ | refine Below.drew ?_ | refine Below.setCell ?_ (by first | (simp; done) | (simp; omega)) _)); refine bel_step ?_ B1; (repeat (first | refine bel_alloc ?_ _ | refine bel_dN ?_ _ | refine Below.drew ?_ | refine Below.setCell ?_ (by first | (simp; done) | (simp; omega)) _)); exact Below.refl _ _)

end Go.Proofs.Ytnimlkobcginjaa
