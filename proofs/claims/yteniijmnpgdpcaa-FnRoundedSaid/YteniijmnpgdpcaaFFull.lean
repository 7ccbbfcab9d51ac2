/-
  Spec's full: the highest bit is brought to its place.
-/
import Derived.Test.YteniijmnpgdpcaaFFv
namespace Go.Proofs.Yteniijmnpgdpcaa
open Go.RowKit

/-- What is left to go, read off a cell. -/
def leftTo (N : Int) (w : World) (a : Addr) : Nat := match w.cell? a with | some (.int _ z) => (N - z).toNat | _ => 0
theorem leftTo_is {N : Int} {w : World} {a : Addr} {k : IntKind} {z : Int} (h : w.cell? a = some (.int k z)) : leftTo N w a = (N - z).toNat := by unfold leftTo; rw [h]

/-- The world within the loop: f lies in block g + 1. -/
structure FullAt (x p : Int) (s i1 n1 : Bool) (w0 : World) (g : Nat) (M E : Int) (w : World) : Prop where
  a0 : w.cell? ⟨g, 0, none⟩ = some (.int .u64 x)
  a1 : w.cell? ⟨g, 1, none⟩ = some (.int .u64 p)
  f0 : w.cell? ⟨g + 1, 0, none⟩ = some (.bool s)
  f1 : w.cell? ⟨g + 1, 1, none⟩ = some (.bool i1)
  f2 : w.cell? ⟨g + 1, 2, none⟩ = some (.bool n1)
  f3 : w.cell? ⟨g + 1, 3, none⟩ = some (.int .u64 M)
  f4 : w.cell? ⟨g + 1, 4, none⟩ = some (.int .i64 E)
  r0 : w.cell? ⟨g + 2, 0, none⟩ = some (.bool false)
  r1 : w.cell? ⟨g + 2, 1, none⟩ = some (.bool false)
  r2 : w.cell? ⟨g + 2, 2, none⟩ = some (.bool false)
  r3 : w.cell? ⟨g + 2, 3, none⟩ = some (.int .u64 0)
  r4 : w.cell? ⟨g + 2, 4, none⟩ = some (.int .i64 0)
  z1 : ∀ j, w.frozen? ⟨g + 1, j, none⟩ = false
  z2 : ∀ j, w.frozen? ⟨g + 2, j, none⟩ = false
  hg : w0.heap.size = g
  bel : Below w0.heap.size w0 w

theorem FullAt.next {x p : Int} {s i1 n1 : Bool} {w0 w : World} {g : Nat} {M E : Int} (h : FullAt x p s i1 n1 w0 g M E w) (M' E' : Int) :
    FullAt x p s i1 n1 w0 g M' E' ((w.setCell ⟨g + 1, 3, none⟩ (.int .u64 M')).setCell ⟨g + 1, 4, none⟩ (.int .i64 E')) := by
  obtain ⟨a0, a1, f0, f1, f2, f3, f4, r0, r1, r2, r3, r4, z1, z2, hg, bel⟩ := h
  refine ⟨?_, ?_, ?_, ?_, ?_, ?_, ?_, ?_, ?_, ?_, ?_, ?_, fun j => ?_, fun j => ?_, hg, ?_⟩
  case refine_15 => exact (bel.setCell (p := ⟨g + 1, 3, none⟩) (by simp [hg]) _).setCell (p := ⟨g + 1, 4, none⟩) (by simp [hg]) _
  all_goals simp [go_sem, *]

theorem fullStart (x p : Int) (s i1 n1 : Bool) (M E : Int) (t t2 : TypeId) (w : World) :
    FullAt x p s i1 n1 w w.heap.size M E (((w.alloc (.cells #[.int .u64 x, .int .u64 p] t)).alloc (.cells #[.bool s, .bool i1, .bool n1, .int .u64 M, .int .i64 E] t2)).alloc (.cells #[.bool false, .bool false, .bool false, .int .u64 0, .int .i64 0] t2)) := by
  refine ⟨?_, ?_, ?_, ?_, ?_, ?_, ?_, ?_, ?_, ?_, ?_, ?_, fun j => ?_, fun j => ?_, rfl, ?_⟩
  case refine_15 => (repeat (first | refine Below.alloc ?_ (by first | (simp; done) | (simp; omega)) _ | refine Below.setCell ?_ (by first | (simp; done) | (simp; omega)) _ | refine bel_dN ?_ _ | refine Below.drew ?_ | exact Below.refl _ _))
  all_goals simp [go_sem]

set_option maxHeartbeats 1000000 in
theorem full16 (m : Nat) (e : Int) (s i1 n1 : Bool) (hm : m ≠ 0) (hm2 : m < 2 * 1024) (e0 : -2000 ≤ e) (e1 : e ≤ 2000) (w : World) :
    Calls Try.prog 62 #[(.agg #[.int .u64 5, .int .u64 10]), .agg #[.bool s, .bool i1, .bool n1, .int .u64 (m : Int), .int .i64 e]] w fun x w' => (∃ j : Nat, 1024 ≤ m * 2 ^ j ∧ m * 2 ^ j < 2 * 1024 ∧ x = .returned (.agg #[.bool s, .bool i1, .bool n1, .int .u64 ((m * 2 ^ j : Nat) : Int), .int .i64 (e - j)])) ∧ Below w.heap.size w w' := by
  have F0 := fullStart 5 10 s i1 n1 (m : Int) e 58 63 w
  obtain ⟨g, hg⟩ : ∃ g, w.heap.size = g := ⟨_, rfl⟩
  rw [hg] at F0
  have HF : Hid (FullAt 5 10 s i1 n1 w g (m : Int) e (((w.alloc (.cells #[.int .u64 5, .int .u64 10] 58)).alloc (.cells #[.bool s, .bool i1, .bool n1, .int .u64 (m : Int), .int .i64 e] 63)).alloc (.cells #[.bool false, .bool false, .bool false, .int .u64 0, .int .i64 0] 63))) := F0
  clear F0
  go_enter Try.func62, Try.ntmps62
  go_wp2
  go_loopw [] (fun wr => ∃ j : Nat, Hid (FullAt 5 10 s i1 n1 w g ((m * 2 ^ j : Nat) : Int) (e - j) wr ∧ m * 2 ^ j < 2 * 1024 ∧ j ≤ 40)) (fun wr => leftTo (2 * 1024) wr ⟨g + 1, 3, none⟩)
  case atStart => exact ⟨0, by simpa using HF.out, by simpa using hm2, by omega⟩
  case round =>
    obtain ⟨j, hj⟩ := hrel
    obtain ⟨F, hlt, hj40⟩ := hj.out
    obtain ⟨a0, a1, f0, f1, f2, f3, f4, r0, r1, r2, r3, r4, z1, z2, hg', bel⟩ := F
    have hX0 : m * 2 ^ j ≠ 0 := Nat.mul_ne_zero hm (by have := Nat.two_pow_pos j; omega)
    have hjp : 2 ^ j ≤ m * 2 ^ j := Nat.le_mul_of_pos_left _ (by omega)
    have h2j : 2 ^ j < 2 ^ 25 := Nat.lt_of_le_of_lt (Nat.le_trans hjp (Nat.le_of_lt hlt)) (by decide)
    have hj25 : j < 25 := (Nat.pow_lt_pow_iff_right (by omega)).1 h2j
    obtain ⟨X, hX⟩ : ∃ X : Nat, m * 2 ^ j = X := ⟨_, rfl⟩
    rw [hX] at f3 hX0 hlt
    have km : ((X : Int) != 0) = true := by simp; omega
    obtain ⟨E, hE⟩ : ∃ E, e - (j : Int) = E := ⟨_, rfl⟩
    rw [hE] at f4
    by_cases hx : (X : Int) < 1024
    · have v1 : IntKind.u64.wrap ((X : Int) * 2) = (X : Int) * 2 := by rw [IntKind.wrap_u64]; omega
      have v2 : wrap64 (E - 1) = E - 1 := by unfold wrap64; omega
      have y3 := z1 3
      have y4 := z1 4
      have HN : Hid (FullAt 5 10 s i1 n1 w g ((m * 2 ^ (j + 1) : Nat) : Int) (e - ((j + 1 : Nat) : Int)) ((wr.setCell ⟨g + 1, 3, none⟩ (.int .u64 ((X : Int) * 2))).setCell ⟨g + 1, 4, none⟩ (.int .i64 (E - 1))) ∧ m * 2 ^ (j + 1) < 2 * 1024 ∧ j + 1 ≤ 40) := by
        have q1 : m * 2 ^ (j + 1) = X * 2 := by rw [Nat.pow_succ, ← Nat.mul_assoc, hX]
        have q2 : ((X * 2 : Nat) : Int) = (X : Int) * 2 := by simp
        refine ⟨?_, by rw [q1]; omega, by omega⟩
        rw [q1, q2, show e - ((j + 1 : Nat) : Int) = E - 1 by omega]
        exact hj.out.1.next _ _
      have HL : Hid (leftTo (2 * 1024) ((wr.setCell ⟨g + 1, 3, none⟩ (.int .u64 ((X : Int) * 2))).setCell ⟨g + 1, 4, none⟩ (.int .i64 (E - 1))) ⟨g + 1, 3, none⟩ < leftTo (2 * 1024) wr ⟨g + 1, 3, none⟩) := by
        have t1 := (hj.out.1.next ((X : Int) * 2) (E - 1)).f3
        unfold Hid
        rw [leftTo_is t1, leftTo_is f3]
        omega
      clear hj hX hjp h2j hj25 hlt hX0 z1 z2 bel r0 r1 r2 r3 r4 hE
      go_wp2
      go_roundw
      case rel => exact ⟨j + 1, HN⟩
      case measure => exact HL.out
    · have hx' : ¬ (X : Int) < 1024 := hx
      have y0 := z2 0
      have y1 := z2 1
      have y2 := z2 2
      have y3 := z2 3
      have y4 := z2 4
      have HB : Hid (1024 ≤ m * 2 ^ j ∧ m * 2 ^ j < 2 * 1024 ∧ m * 2 ^ j = X ∧ e - (j : Int) = E ∧ Below w.heap.size w wr) := ⟨by rw [hX]; omega, by rw [hX]; exact hlt, hX, hE, bel⟩
      clear hj hX hjp h2j hj25 hlt hX0 z1 z2 bel hE hx
      go_wp2
      obtain ⟨b1, b2, b3, b4, b5⟩ := HB.out
      refine bodyPost_ret (v := .agg #[.bool s, .bool i1, .bool n1, .int .u64 (X : Int), .int .i64 E]) (by simp [results, Try.results62, go_sem, r0, r1, r2, r3, r4]) rfl ⟨⟨j, b1, b2, by first | rw [b3, b4] | rw [show (m : Int) * 2 ^ j = (X : Int) by rw [← b3]; simp, b4]⟩, ?_⟩
      rw [hg] at b5
      exact ((((b5.setCell (p := ⟨g + 2, 0, none⟩) (by show g ≤ g + 2; omega) _).setCell (p := ⟨g + 2, 1, none⟩) (by show g ≤ g + 2; omega) _).setCell (p := ⟨g + 2, 2, none⟩) (by show g ≤ g + 2; omega) _).setCell (p := ⟨g + 2, 3, none⟩) (by show g ≤ g + 2; omega) _).setCell (p := ⟨g + 2, 4, none⟩) (by show g ≤ g + 2; omega) _

set_option maxHeartbeats 1000000 in
theorem full32 (m : Nat) (e : Int) (s i1 n1 : Bool) (hm : m ≠ 0) (hm2 : m < 2 * 8388608) (e0 : -2000 ≤ e) (e1 : e ≤ 2000) (w : World) :
    Calls Try.prog 62 #[(.agg #[.int .u64 8, .int .u64 23]), .agg #[.bool s, .bool i1, .bool n1, .int .u64 (m : Int), .int .i64 e]] w fun x w' => (∃ j : Nat, 8388608 ≤ m * 2 ^ j ∧ m * 2 ^ j < 2 * 8388608 ∧ x = .returned (.agg #[.bool s, .bool i1, .bool n1, .int .u64 ((m * 2 ^ j : Nat) : Int), .int .i64 (e - j)])) ∧ Below w.heap.size w w' := by
  have F0 := fullStart 8 23 s i1 n1 (m : Int) e 58 63 w
  obtain ⟨g, hg⟩ : ∃ g, w.heap.size = g := ⟨_, rfl⟩
  rw [hg] at F0
  have HF : Hid (FullAt 8 23 s i1 n1 w g (m : Int) e (((w.alloc (.cells #[.int .u64 8, .int .u64 23] 58)).alloc (.cells #[.bool s, .bool i1, .bool n1, .int .u64 (m : Int), .int .i64 e] 63)).alloc (.cells #[.bool false, .bool false, .bool false, .int .u64 0, .int .i64 0] 63))) := F0
  clear F0
  go_enter Try.func62, Try.ntmps62
  go_wp2
  go_loopw [] (fun wr => ∃ j : Nat, Hid (FullAt 8 23 s i1 n1 w g ((m * 2 ^ j : Nat) : Int) (e - j) wr ∧ m * 2 ^ j < 2 * 8388608 ∧ j ≤ 40)) (fun wr => leftTo (2 * 8388608) wr ⟨g + 1, 3, none⟩)
  case atStart => exact ⟨0, by simpa using HF.out, by simpa using hm2, by omega⟩
  case round =>
    obtain ⟨j, hj⟩ := hrel
    obtain ⟨F, hlt, hj40⟩ := hj.out
    obtain ⟨a0, a1, f0, f1, f2, f3, f4, r0, r1, r2, r3, r4, z1, z2, hg', bel⟩ := F
    have hX0 : m * 2 ^ j ≠ 0 := Nat.mul_ne_zero hm (by have := Nat.two_pow_pos j; omega)
    have hjp : 2 ^ j ≤ m * 2 ^ j := Nat.le_mul_of_pos_left _ (by omega)
    have h2j : 2 ^ j < 2 ^ 25 := Nat.lt_of_le_of_lt (Nat.le_trans hjp (Nat.le_of_lt hlt)) (by decide)
    have hj25 : j < 25 := (Nat.pow_lt_pow_iff_right (by omega)).1 h2j
    obtain ⟨X, hX⟩ : ∃ X : Nat, m * 2 ^ j = X := ⟨_, rfl⟩
    rw [hX] at f3 hX0 hlt
    have km : ((X : Int) != 0) = true := by simp; omega
    obtain ⟨E, hE⟩ : ∃ E, e - (j : Int) = E := ⟨_, rfl⟩
    rw [hE] at f4
    by_cases hx : (X : Int) < 8388608
    · have v1 : IntKind.u64.wrap ((X : Int) * 2) = (X : Int) * 2 := by rw [IntKind.wrap_u64]; omega
      have v2 : wrap64 (E - 1) = E - 1 := by unfold wrap64; omega
      have y3 := z1 3
      have y4 := z1 4
      have HN : Hid (FullAt 8 23 s i1 n1 w g ((m * 2 ^ (j + 1) : Nat) : Int) (e - ((j + 1 : Nat) : Int)) ((wr.setCell ⟨g + 1, 3, none⟩ (.int .u64 ((X : Int) * 2))).setCell ⟨g + 1, 4, none⟩ (.int .i64 (E - 1))) ∧ m * 2 ^ (j + 1) < 2 * 8388608 ∧ j + 1 ≤ 40) := by
        have q1 : m * 2 ^ (j + 1) = X * 2 := by rw [Nat.pow_succ, ← Nat.mul_assoc, hX]
        have q2 : ((X * 2 : Nat) : Int) = (X : Int) * 2 := by simp
        refine ⟨?_, by rw [q1]; omega, by omega⟩
        rw [q1, q2, show e - ((j + 1 : Nat) : Int) = E - 1 by omega]
        exact hj.out.1.next _ _
      have HL : Hid (leftTo (2 * 8388608) ((wr.setCell ⟨g + 1, 3, none⟩ (.int .u64 ((X : Int) * 2))).setCell ⟨g + 1, 4, none⟩ (.int .i64 (E - 1))) ⟨g + 1, 3, none⟩ < leftTo (2 * 8388608) wr ⟨g + 1, 3, none⟩) := by
        have t1 := (hj.out.1.next ((X : Int) * 2) (E - 1)).f3
        unfold Hid
        rw [leftTo_is t1, leftTo_is f3]
        omega
      clear hj hX hjp h2j hj25 hlt hX0 z1 z2 bel r0 r1 r2 r3 r4 hE
      go_wp2
      go_roundw
      case rel => exact ⟨j + 1, HN⟩
      case measure => exact HL.out
    · have hx' : ¬ (X : Int) < 8388608 := hx
      have y0 := z2 0
      have y1 := z2 1
      have y2 := z2 2
      have y3 := z2 3
      have y4 := z2 4
      have HB : Hid (8388608 ≤ m * 2 ^ j ∧ m * 2 ^ j < 2 * 8388608 ∧ m * 2 ^ j = X ∧ e - (j : Int) = E ∧ Below w.heap.size w wr) := ⟨by rw [hX]; omega, by rw [hX]; exact hlt, hX, hE, bel⟩
      clear hj hX hjp h2j hj25 hlt hX0 z1 z2 bel hE hx
      go_wp2
      obtain ⟨b1, b2, b3, b4, b5⟩ := HB.out
      refine bodyPost_ret (v := .agg #[.bool s, .bool i1, .bool n1, .int .u64 (X : Int), .int .i64 E]) (by simp [results, Try.results62, go_sem, r0, r1, r2, r3, r4]) rfl ⟨⟨j, b1, b2, by first | rw [b3, b4] | rw [show (m : Int) * 2 ^ j = (X : Int) by rw [← b3]; simp, b4]⟩, ?_⟩
      rw [hg] at b5
      exact ((((b5.setCell (p := ⟨g + 2, 0, none⟩) (by show g ≤ g + 2; omega) _).setCell (p := ⟨g + 2, 1, none⟩) (by show g ≤ g + 2; omega) _).setCell (p := ⟨g + 2, 2, none⟩) (by show g ≤ g + 2; omega) _).setCell (p := ⟨g + 2, 3, none⟩) (by show g ≤ g + 2; omega) _).setCell (p := ⟨g + 2, 4, none⟩) (by show g ≤ g + 2; omega) _

end Go.Proofs.Yteniijmnpgdpcaa
