/-
  FSqrt: the program's side.
-/
import Derived.Test.YteniijmnpgdpcaaFSqG
import Derived.Test.YteniijmnpgdpcaaFRndS
import Derived.Test.YteniijmnpgdpcaaFFv
namespace Go.Proofs.Yteniijmnpgdpcaa
open Go.RowKit

set_option maxHeartbeats 1000000 in
theorem sqImpl_nan16 (a e1 m1 : Int) (s1 : Bool) (V1 : Hid (∀ w, Calls Try.prog 29 #[(.agg #[.int .i64 10, .int .i64 15, .int .u32 31]), .int .u32 a] w fun e w' => e = .returned (.agg #[.int .i64 2, .bool s1, .int .u64 m1, .int .i64 e1]) ∧ Below w.heap.size w w')) (w : World) :
    Calls Try.prog 21 #[.int .i64 16, .int .u32 a] w fun e w' => e = .returned (.int .u32 (31744 + 512)) ∧ Below w.heap.size w w' := by
  go_enter Try.func21, Try.ntmps21
  go_wp2_with fail
  refine (form16 _).mono ?_
  rintro e' w1 ⟨rfl, B1⟩
  go_wp2_with fail
  refine (V1.out _).mono ?_
  rintro e' w2 ⟨rfl, B2⟩
  have t0 : w2.cell? ⟨w1.heap.size, 0, none⟩ = some (.int .i64 10) := (B2.cell (p := ⟨w1.heap.size, 0, none⟩) (by simp)).trans (by simp)
  have t1 : w2.cell? ⟨w1.heap.size, 1, none⟩ = some (.int .i64 15) := (B2.cell (p := ⟨w1.heap.size, 1, none⟩) (by simp)).trans (by simp)
  have t2 : w2.cell? ⟨w1.heap.size, 2, none⟩ = some (.int .u32 31) := (B2.cell (p := ⟨w1.heap.size, 2, none⟩) (by simp)).trans (by simp)
  have l0 : w1.heap.size < w2.heap.size := by have := B2.size; simp at this; omega
  have l0b : w1.heap.size < w2.heap.size + 1 := by omega
  have l0c : w1.heap.size < w2.heap.size + 1 + 1 := by omega
  go_wp2_with (first | (go_at_call 30; refine (noNumber16 _).mono ?_; rintro e' w3 ⟨rfl, B3⟩) | (go_at_call 32; refine (infinite16 false _).mono ?_; rintro e' w3 ⟨rfl, B3⟩) | (go_at_call 34; refine (zero16 _ _).mono ?_; rintro e' w3 ⟨rfl, B3⟩) | (go_at_call 31; go_in))
  go_ret
  refine ⟨rfl, ?_⟩
  ((repeat (first | refine bel_alloc ?_ _ | refine bel_dN ?_ _ | refine Below.drew ?_ | refine Below.setCell ?_ (by first | (simp; done) | (simp; omega)) _)); refine bel_step ?_ B3; (repeat (first | refine bel_alloc ?_ _ | refine bel_dN ?_ _ | refine Below.drew ?_ | refine Below.setCell ?_ (by first | (simp; done) | (simp; omega)) _)); refine bel_step ?_ B2; (repeat (first | refine bel_alloc ?_ _ | refine bel_dN ?_ _ | refine Below.drew ?_ | refine Below.setCell ?_ (by first | (simp; done) | (simp; omega)) _)); refine bel_step ?_ B1; (repeat (first | refine bel_alloc ?_ _ | refine bel_dN ?_ _ | refine Below.drew ?_ | refine Below.setCell ?_ (by first | (simp; done) | (simp; omega)) _)); exact Below.refl _ _)

set_option maxHeartbeats 1000000 in
theorem sqImpl_nan32 (a e1 m1 : Int) (s1 : Bool) (V1 : Hid (∀ w, Calls Try.prog 29 #[(.agg #[.int .i64 23, .int .i64 127, .int .u32 255]), .int .u32 a] w fun e w' => e = .returned (.agg #[.int .i64 2, .bool s1, .int .u64 m1, .int .i64 e1]) ∧ Below w.heap.size w w')) (w : World) :
    Calls Try.prog 21 #[.int .i64 32, .int .u32 a] w fun e w' => e = .returned (.int .u32 (2139095040 + 4194304)) ∧ Below w.heap.size w w' := by
  go_enter Try.func21, Try.ntmps21
  go_wp2_with fail
  refine (form32 _).mono ?_
  rintro e' w1 ⟨rfl, B1⟩
  go_wp2_with fail
  refine (V1.out _).mono ?_
  rintro e' w2 ⟨rfl, B2⟩
  have t0 : w2.cell? ⟨w1.heap.size, 0, none⟩ = some (.int .i64 23) := (B2.cell (p := ⟨w1.heap.size, 0, none⟩) (by simp)).trans (by simp)
  have t1 : w2.cell? ⟨w1.heap.size, 1, none⟩ = some (.int .i64 127) := (B2.cell (p := ⟨w1.heap.size, 1, none⟩) (by simp)).trans (by simp)
  have t2 : w2.cell? ⟨w1.heap.size, 2, none⟩ = some (.int .u32 255) := (B2.cell (p := ⟨w1.heap.size, 2, none⟩) (by simp)).trans (by simp)
  have l0 : w1.heap.size < w2.heap.size := by have := B2.size; simp at this; omega
  have l0b : w1.heap.size < w2.heap.size + 1 := by omega
  have l0c : w1.heap.size < w2.heap.size + 1 + 1 := by omega
  go_wp2_with (first | (go_at_call 30; refine (noNumber32 _).mono ?_; rintro e' w3 ⟨rfl, B3⟩) | (go_at_call 32; refine (infinite32 false _).mono ?_; rintro e' w3 ⟨rfl, B3⟩) | (go_at_call 34; refine (zero32 _ _).mono ?_; rintro e' w3 ⟨rfl, B3⟩) | (go_at_call 31; go_in))
  go_ret
  refine ⟨rfl, ?_⟩
  ((repeat (first | refine bel_alloc ?_ _ | refine bel_dN ?_ _ | refine Below.drew ?_ | refine Below.setCell ?_ (by first | (simp; done) | (simp; omega)) _)); refine bel_step ?_ B3; (repeat (first | refine bel_alloc ?_ _ | refine bel_dN ?_ _ | refine Below.drew ?_ | refine Below.setCell ?_ (by first | (simp; done) | (simp; omega)) _)); refine bel_step ?_ B2; (repeat (first | refine bel_alloc ?_ _ | refine bel_dN ?_ _ | refine Below.drew ?_ | refine Below.setCell ?_ (by first | (simp; done) | (simp; omega)) _)); refine bel_step ?_ B1; (repeat (first | refine bel_alloc ?_ _ | refine bel_dN ?_ _ | refine Below.drew ?_ | refine Below.setCell ?_ (by first | (simp; done) | (simp; omega)) _)); exact Below.refl _ _)

set_option maxHeartbeats 1000000 in
theorem sqImpl_zero16 (a e1 m1 : Int) (s1 : Bool) (V1 : Hid (∀ w, Calls Try.prog 29 #[(.agg #[.int .i64 10, .int .i64 15, .int .u32 31]), .int .u32 a] w fun e w' => e = .returned (.agg #[.int .i64 0, .bool s1, .int .u64 m1, .int .i64 e1]) ∧ Below w.heap.size w w')) (hm : (m1 == 0) = true) (w : World) :
    Calls Try.prog 21 #[.int .i64 16, .int .u32 a] w fun e w' => e = .returned (.int .u32 (s1.toNat * 32768)) ∧ Below w.heap.size w w' := by
  go_enter Try.func21, Try.ntmps21
  go_wp2_with fail
  refine (form16 _).mono ?_
  rintro e' w1 ⟨rfl, B1⟩
  go_wp2_with fail
  refine (V1.out _).mono ?_
  rintro e' w2 ⟨rfl, B2⟩
  have t0 : w2.cell? ⟨w1.heap.size, 0, none⟩ = some (.int .i64 10) := (B2.cell (p := ⟨w1.heap.size, 0, none⟩) (by simp)).trans (by simp)
  have t1 : w2.cell? ⟨w1.heap.size, 1, none⟩ = some (.int .i64 15) := (B2.cell (p := ⟨w1.heap.size, 1, none⟩) (by simp)).trans (by simp)
  have t2 : w2.cell? ⟨w1.heap.size, 2, none⟩ = some (.int .u32 31) := (B2.cell (p := ⟨w1.heap.size, 2, none⟩) (by simp)).trans (by simp)
  have l0 : w1.heap.size < w2.heap.size := by have := B2.size; simp at this; omega
  have l0b : w1.heap.size < w2.heap.size + 1 := by omega
  have l0c : w1.heap.size < w2.heap.size + 1 + 1 := by omega
  go_wp2_with (first | (go_at_call 30; refine (noNumber16 _).mono ?_; rintro e' w3 ⟨rfl, B3⟩) | (go_at_call 32; refine (infinite16 false _).mono ?_; rintro e' w3 ⟨rfl, B3⟩) | (go_at_call 34; refine (zero16 _ _).mono ?_; rintro e' w3 ⟨rfl, B3⟩) | (go_at_call 31; go_in))
  go_ret
  refine ⟨rfl, ?_⟩
  ((repeat (first | refine bel_alloc ?_ _ | refine bel_dN ?_ _ | refine Below.drew ?_ | refine Below.setCell ?_ (by first | (simp; done) | (simp; omega)) _)); refine bel_step ?_ B3; (repeat (first | refine bel_alloc ?_ _ | refine bel_dN ?_ _ | refine Below.drew ?_ | refine Below.setCell ?_ (by first | (simp; done) | (simp; omega)) _)); refine bel_step ?_ B2; (repeat (first | refine bel_alloc ?_ _ | refine bel_dN ?_ _ | refine Below.drew ?_ | refine Below.setCell ?_ (by first | (simp; done) | (simp; omega)) _)); refine bel_step ?_ B1; (repeat (first | refine bel_alloc ?_ _ | refine bel_dN ?_ _ | refine Below.drew ?_ | refine Below.setCell ?_ (by first | (simp; done) | (simp; omega)) _)); exact Below.refl _ _)

set_option maxHeartbeats 1000000 in
theorem sqImpl_zero32 (a e1 m1 : Int) (s1 : Bool) (V1 : Hid (∀ w, Calls Try.prog 29 #[(.agg #[.int .i64 23, .int .i64 127, .int .u32 255]), .int .u32 a] w fun e w' => e = .returned (.agg #[.int .i64 0, .bool s1, .int .u64 m1, .int .i64 e1]) ∧ Below w.heap.size w w')) (hm : (m1 == 0) = true) (w : World) :
    Calls Try.prog 21 #[.int .i64 32, .int .u32 a] w fun e w' => e = .returned (.int .u32 (s1.toNat * 2147483648)) ∧ Below w.heap.size w w' := by
  go_enter Try.func21, Try.ntmps21
  go_wp2_with fail
  refine (form32 _).mono ?_
  rintro e' w1 ⟨rfl, B1⟩
  go_wp2_with fail
  refine (V1.out _).mono ?_
  rintro e' w2 ⟨rfl, B2⟩
  have t0 : w2.cell? ⟨w1.heap.size, 0, none⟩ = some (.int .i64 23) := (B2.cell (p := ⟨w1.heap.size, 0, none⟩) (by simp)).trans (by simp)
  have t1 : w2.cell? ⟨w1.heap.size, 1, none⟩ = some (.int .i64 127) := (B2.cell (p := ⟨w1.heap.size, 1, none⟩) (by simp)).trans (by simp)
  have t2 : w2.cell? ⟨w1.heap.size, 2, none⟩ = some (.int .u32 255) := (B2.cell (p := ⟨w1.heap.size, 2, none⟩) (by simp)).trans (by simp)
  have l0 : w1.heap.size < w2.heap.size := by have := B2.size; simp at this; omega
  have l0b : w1.heap.size < w2.heap.size + 1 := by omega
  have l0c : w1.heap.size < w2.heap.size + 1 + 1 := by omega
  go_wp2_with (first | (go_at_call 30; refine (noNumber32 _).mono ?_; rintro e' w3 ⟨rfl, B3⟩) | (go_at_call 32; refine (infinite32 false _).mono ?_; rintro e' w3 ⟨rfl, B3⟩) | (go_at_call 34; refine (zero32 _ _).mono ?_; rintro e' w3 ⟨rfl, B3⟩) | (go_at_call 31; go_in))
  go_ret
  refine ⟨rfl, ?_⟩
  ((repeat (first | refine bel_alloc ?_ _ | refine bel_dN ?_ _ | refine Below.drew ?_ | refine Below.setCell ?_ (by first | (simp; done) | (simp; omega)) _)); refine bel_step ?_ B3; (repeat (first | refine bel_alloc ?_ _ | refine bel_dN ?_ _ | refine Below.drew ?_ | refine Below.setCell ?_ (by first | (simp; done) | (simp; omega)) _)); refine bel_step ?_ B2; (repeat (first | refine bel_alloc ?_ _ | refine bel_dN ?_ _ | refine Below.drew ?_ | refine Below.setCell ?_ (by first | (simp; done) | (simp; omega)) _)); refine bel_step ?_ B1; (repeat (first | refine bel_alloc ?_ _ | refine bel_dN ?_ _ | refine Below.drew ?_ | refine Below.setCell ?_ (by first | (simp; done) | (simp; omega)) _)); exact Below.refl _ _)

set_option maxHeartbeats 1000000 in
theorem sqImpl_neginf16 (a e1 m1 : Int) (V1 : Hid (∀ w, Calls Try.prog 29 #[(.agg #[.int .i64 10, .int .i64 15, .int .u32 31]), .int .u32 a] w fun e w' => e = .returned (.agg #[.int .i64 1, .bool true, .int .u64 m1, .int .i64 e1]) ∧ Below w.heap.size w w')) (w : World) :
    Calls Try.prog 21 #[.int .i64 16, .int .u32 a] w fun e w' => e = .returned (.int .u32 (31744 + 512)) ∧ Below w.heap.size w w' := by
  go_enter Try.func21, Try.ntmps21
  go_wp2_with fail
  refine (form16 _).mono ?_
  rintro e' w1 ⟨rfl, B1⟩
  go_wp2_with fail
  refine (V1.out _).mono ?_
  rintro e' w2 ⟨rfl, B2⟩
  have t0 : w2.cell? ⟨w1.heap.size, 0, none⟩ = some (.int .i64 10) := (B2.cell (p := ⟨w1.heap.size, 0, none⟩) (by simp)).trans (by simp)
  have t1 : w2.cell? ⟨w1.heap.size, 1, none⟩ = some (.int .i64 15) := (B2.cell (p := ⟨w1.heap.size, 1, none⟩) (by simp)).trans (by simp)
  have t2 : w2.cell? ⟨w1.heap.size, 2, none⟩ = some (.int .u32 31) := (B2.cell (p := ⟨w1.heap.size, 2, none⟩) (by simp)).trans (by simp)
  have l0 : w1.heap.size < w2.heap.size := by have := B2.size; simp at this; omega
  have l0b : w1.heap.size < w2.heap.size + 1 := by omega
  have l0c : w1.heap.size < w2.heap.size + 1 + 1 := by omega
  go_wp2_with (first | (go_at_call 30; refine (noNumber16 _).mono ?_; rintro e' w3 ⟨rfl, B3⟩) | (go_at_call 32; refine (infinite16 false _).mono ?_; rintro e' w3 ⟨rfl, B3⟩) | (go_at_call 34; refine (zero16 _ _).mono ?_; rintro e' w3 ⟨rfl, B3⟩) | (go_at_call 31; go_in))
  go_ret
  refine ⟨rfl, ?_⟩
  ((repeat (first | refine bel_alloc ?_ _ | refine bel_dN ?_ _ | refine Below.drew ?_ | refine Below.setCell ?_ (by first | (simp; done) | (simp; omega)) _)); refine bel_step ?_ B3; (repeat (first | refine bel_alloc ?_ _ | refine bel_dN ?_ _ | refine Below.drew ?_ | refine Below.setCell ?_ (by first | (simp; done) | (simp; omega)) _)); refine bel_step ?_ B2; (repeat (first | refine bel_alloc ?_ _ | refine bel_dN ?_ _ | refine Below.drew ?_ | refine Below.setCell ?_ (by first | (simp; done) | (simp; omega)) _)); refine bel_step ?_ B1; (repeat (first | refine bel_alloc ?_ _ | refine bel_dN ?_ _ | refine Below.drew ?_ | refine Below.setCell ?_ (by first | (simp; done) | (simp; omega)) _)); exact Below.refl _ _)

set_option maxHeartbeats 1000000 in
theorem sqImpl_neginf32 (a e1 m1 : Int) (V1 : Hid (∀ w, Calls Try.prog 29 #[(.agg #[.int .i64 23, .int .i64 127, .int .u32 255]), .int .u32 a] w fun e w' => e = .returned (.agg #[.int .i64 1, .bool true, .int .u64 m1, .int .i64 e1]) ∧ Below w.heap.size w w')) (w : World) :
    Calls Try.prog 21 #[.int .i64 32, .int .u32 a] w fun e w' => e = .returned (.int .u32 (2139095040 + 4194304)) ∧ Below w.heap.size w w' := by
  go_enter Try.func21, Try.ntmps21
  go_wp2_with fail
  refine (form32 _).mono ?_
  rintro e' w1 ⟨rfl, B1⟩
  go_wp2_with fail
  refine (V1.out _).mono ?_
  rintro e' w2 ⟨rfl, B2⟩
  have t0 : w2.cell? ⟨w1.heap.size, 0, none⟩ = some (.int .i64 23) := (B2.cell (p := ⟨w1.heap.size, 0, none⟩) (by simp)).trans (by simp)
  have t1 : w2.cell? ⟨w1.heap.size, 1, none⟩ = some (.int .i64 127) := (B2.cell (p := ⟨w1.heap.size, 1, none⟩) (by simp)).trans (by simp)
  have t2 : w2.cell? ⟨w1.heap.size, 2, none⟩ = some (.int .u32 255) := (B2.cell (p := ⟨w1.heap.size, 2, none⟩) (by simp)).trans (by simp)
  have l0 : w1.heap.size < w2.heap.size := by have := B2.size; simp at this; omega
  have l0b : w1.heap.size < w2.heap.size + 1 := by omega
  have l0c : w1.heap.size < w2.heap.size + 1 + 1 := by omega
  go_wp2_with (first | (go_at_call 30; refine (noNumber32 _).mono ?_; rintro e' w3 ⟨rfl, B3⟩) | (go_at_call 32; refine (infinite32 false _).mono ?_; rintro e' w3 ⟨rfl, B3⟩) | (go_at_call 34; refine (zero32 _ _).mono ?_; rintro e' w3 ⟨rfl, B3⟩) | (go_at_call 31; go_in))
  go_ret
  refine ⟨rfl, ?_⟩
  ((repeat (first | refine bel_alloc ?_ _ | refine bel_dN ?_ _ | refine Below.drew ?_ | refine Below.setCell ?_ (by first | (simp; done) | (simp; omega)) _)); refine bel_step ?_ B3; (repeat (first | refine bel_alloc ?_ _ | refine bel_dN ?_ _ | refine Below.drew ?_ | refine Below.setCell ?_ (by first | (simp; done) | (simp; omega)) _)); refine bel_step ?_ B2; (repeat (first | refine bel_alloc ?_ _ | refine bel_dN ?_ _ | refine Below.drew ?_ | refine Below.setCell ?_ (by first | (simp; done) | (simp; omega)) _)); refine bel_step ?_ B1; (repeat (first | refine bel_alloc ?_ _ | refine bel_dN ?_ _ | refine Below.drew ?_ | refine Below.setCell ?_ (by first | (simp; done) | (simp; omega)) _)); exact Below.refl _ _)

set_option maxHeartbeats 1000000 in
theorem sqImpl_neg16 (a e1 m1 : Int) (V1 : Hid (∀ w, Calls Try.prog 29 #[(.agg #[.int .i64 10, .int .i64 15, .int .u32 31]), .int .u32 a] w fun e w' => e = .returned (.agg #[.int .i64 0, .bool true, .int .u64 m1, .int .i64 e1]) ∧ Below w.heap.size w w')) (hm : (m1 == 0) = false) (w : World) :
    Calls Try.prog 21 #[.int .i64 16, .int .u32 a] w fun e w' => e = .returned (.int .u32 (31744 + 512)) ∧ Below w.heap.size w w' := by
  go_enter Try.func21, Try.ntmps21
  go_wp2_with fail
  refine (form16 _).mono ?_
  rintro e' w1 ⟨rfl, B1⟩
  go_wp2_with fail
  refine (V1.out _).mono ?_
  rintro e' w2 ⟨rfl, B2⟩
  have t0 : w2.cell? ⟨w1.heap.size, 0, none⟩ = some (.int .i64 10) := (B2.cell (p := ⟨w1.heap.size, 0, none⟩) (by simp)).trans (by simp)
  have t1 : w2.cell? ⟨w1.heap.size, 1, none⟩ = some (.int .i64 15) := (B2.cell (p := ⟨w1.heap.size, 1, none⟩) (by simp)).trans (by simp)
  have t2 : w2.cell? ⟨w1.heap.size, 2, none⟩ = some (.int .u32 31) := (B2.cell (p := ⟨w1.heap.size, 2, none⟩) (by simp)).trans (by simp)
  have l0 : w1.heap.size < w2.heap.size := by have := B2.size; simp at this; omega
  have l0b : w1.heap.size < w2.heap.size + 1 := by omega
  have l0c : w1.heap.size < w2.heap.size + 1 + 1 := by omega
  go_wp2_with (first | (go_at_call 30; refine (noNumber16 _).mono ?_; rintro e' w3 ⟨rfl, B3⟩) | (go_at_call 32; refine (infinite16 false _).mono ?_; rintro e' w3 ⟨rfl, B3⟩) | (go_at_call 34; refine (zero16 _ _).mono ?_; rintro e' w3 ⟨rfl, B3⟩) | (go_at_call 31; go_in))
  go_ret
  refine ⟨rfl, ?_⟩
  ((repeat (first | refine bel_alloc ?_ _ | refine bel_dN ?_ _ | refine Below.drew ?_ | refine Below.setCell ?_ (by first | (simp; done) | (simp; omega)) _)); refine bel_step ?_ B3; (repeat (first | refine bel_alloc ?_ _ | refine bel_dN ?_ _ | refine Below.drew ?_ | refine Below.setCell ?_ (by first | (simp; done) | (simp; omega)) _)); refine bel_step ?_ B2; (repeat (first | refine bel_alloc ?_ _ | refine bel_dN ?_ _ | refine Below.drew ?_ | refine Below.setCell ?_ (by first | (simp; done) | (simp; omega)) _)); refine bel_step ?_ B1; (repeat (first | refine bel_alloc ?_ _ | refine bel_dN ?_ _ | refine Below.drew ?_ | refine Below.setCell ?_ (by first | (simp; done) | (simp; omega)) _)); exact Below.refl _ _)

set_option maxHeartbeats 1000000 in
theorem sqImpl_neg32 (a e1 m1 : Int) (V1 : Hid (∀ w, Calls Try.prog 29 #[(.agg #[.int .i64 23, .int .i64 127, .int .u32 255]), .int .u32 a] w fun e w' => e = .returned (.agg #[.int .i64 0, .bool true, .int .u64 m1, .int .i64 e1]) ∧ Below w.heap.size w w')) (hm : (m1 == 0) = false) (w : World) :
    Calls Try.prog 21 #[.int .i64 32, .int .u32 a] w fun e w' => e = .returned (.int .u32 (2139095040 + 4194304)) ∧ Below w.heap.size w w' := by
  go_enter Try.func21, Try.ntmps21
  go_wp2_with fail
  refine (form32 _).mono ?_
  rintro e' w1 ⟨rfl, B1⟩
  go_wp2_with fail
  refine (V1.out _).mono ?_
  rintro e' w2 ⟨rfl, B2⟩
  have t0 : w2.cell? ⟨w1.heap.size, 0, none⟩ = some (.int .i64 23) := (B2.cell (p := ⟨w1.heap.size, 0, none⟩) (by simp)).trans (by simp)
  have t1 : w2.cell? ⟨w1.heap.size, 1, none⟩ = some (.int .i64 127) := (B2.cell (p := ⟨w1.heap.size, 1, none⟩) (by simp)).trans (by simp)
  have t2 : w2.cell? ⟨w1.heap.size, 2, none⟩ = some (.int .u32 255) := (B2.cell (p := ⟨w1.heap.size, 2, none⟩) (by simp)).trans (by simp)
  have l0 : w1.heap.size < w2.heap.size := by have := B2.size; simp at this; omega
  have l0b : w1.heap.size < w2.heap.size + 1 := by omega
  have l0c : w1.heap.size < w2.heap.size + 1 + 1 := by omega
  go_wp2_with (first | (go_at_call 30; refine (noNumber32 _).mono ?_; rintro e' w3 ⟨rfl, B3⟩) | (go_at_call 32; refine (infinite32 false _).mono ?_; rintro e' w3 ⟨rfl, B3⟩) | (go_at_call 34; refine (zero32 _ _).mono ?_; rintro e' w3 ⟨rfl, B3⟩) | (go_at_call 31; go_in))
  go_ret
  refine ⟨rfl, ?_⟩
  ((repeat (first | refine bel_alloc ?_ _ | refine bel_dN ?_ _ | refine Below.drew ?_ | refine Below.setCell ?_ (by first | (simp; done) | (simp; omega)) _)); refine bel_step ?_ B3; (repeat (first | refine bel_alloc ?_ _ | refine bel_dN ?_ _ | refine Below.drew ?_ | refine Below.setCell ?_ (by first | (simp; done) | (simp; omega)) _)); refine bel_step ?_ B2; (repeat (first | refine bel_alloc ?_ _ | refine bel_dN ?_ _ | refine Below.drew ?_ | refine Below.setCell ?_ (by first | (simp; done) | (simp; omega)) _)); refine bel_step ?_ B1; (repeat (first | refine bel_alloc ?_ _ | refine bel_dN ?_ _ | refine Below.drew ?_ | refine Below.setCell ?_ (by first | (simp; done) | (simp; omega)) _)); exact Below.refl _ _)

set_option maxHeartbeats 1000000 in
theorem sqImpl_inf16 (a e1 m1 : Int) (V1 : Hid (∀ w, Calls Try.prog 29 #[(.agg #[.int .i64 10, .int .i64 15, .int .u32 31]), .int .u32 a] w fun e w' => e = .returned (.agg #[.int .i64 1, .bool false, .int .u64 m1, .int .i64 e1]) ∧ Below w.heap.size w w')) (w : World) :
    Calls Try.prog 21 #[.int .i64 16, .int .u32 a] w fun e w' => e = .returned (.int .u32 (false.toNat * 32768 + 31744)) ∧ Below w.heap.size w w' := by
  go_enter Try.func21, Try.ntmps21
  go_wp2_with fail
  refine (form16 _).mono ?_
  rintro e' w1 ⟨rfl, B1⟩
  go_wp2_with fail
  refine (V1.out _).mono ?_
  rintro e' w2 ⟨rfl, B2⟩
  have t0 : w2.cell? ⟨w1.heap.size, 0, none⟩ = some (.int .i64 10) := (B2.cell (p := ⟨w1.heap.size, 0, none⟩) (by simp)).trans (by simp)
  have t1 : w2.cell? ⟨w1.heap.size, 1, none⟩ = some (.int .i64 15) := (B2.cell (p := ⟨w1.heap.size, 1, none⟩) (by simp)).trans (by simp)
  have t2 : w2.cell? ⟨w1.heap.size, 2, none⟩ = some (.int .u32 31) := (B2.cell (p := ⟨w1.heap.size, 2, none⟩) (by simp)).trans (by simp)
  have l0 : w1.heap.size < w2.heap.size := by have := B2.size; simp at this; omega
  have l0b : w1.heap.size < w2.heap.size + 1 := by omega
  have l0c : w1.heap.size < w2.heap.size + 1 + 1 := by omega
  go_wp2_with (first | (go_at_call 30; refine (noNumber16 _).mono ?_; rintro e' w3 ⟨rfl, B3⟩) | (go_at_call 32; refine (infinite16 false _).mono ?_; rintro e' w3 ⟨rfl, B3⟩) | (go_at_call 34; refine (zero16 _ _).mono ?_; rintro e' w3 ⟨rfl, B3⟩) | (go_at_call 31; go_in))
  go_ret
  refine ⟨rfl, ?_⟩
  ((repeat (first | refine bel_alloc ?_ _ | refine bel_dN ?_ _ | refine Below.drew ?_ | refine Below.setCell ?_ (by first | (simp; done) | (simp; omega)) _)); refine bel_step ?_ B3; (repeat (first | refine bel_alloc ?_ _ | refine bel_dN ?_ _ | refine Below.drew ?_ | refine Below.setCell ?_ (by first | (simp; done) | (simp; omega)) _)); refine bel_step ?_ B2; (repeat (first | refine bel_alloc ?_ _ | refine bel_dN ?_ _ | refine Below.drew ?_ | refine Below.setCell ?_ (by first | (simp; done) | (simp; omega)) _)); refine bel_step ?_ B1; (repeat (first | refine bel_alloc ?_ _ | refine bel_dN ?_ _ | refine Below.drew ?_ | refine Below.setCell ?_ (by first | (simp; done) | (simp; omega)) _)); exact Below.refl _ _)

set_option maxHeartbeats 1000000 in
theorem sqImpl_inf32 (a e1 m1 : Int) (V1 : Hid (∀ w, Calls Try.prog 29 #[(.agg #[.int .i64 23, .int .i64 127, .int .u32 255]), .int .u32 a] w fun e w' => e = .returned (.agg #[.int .i64 1, .bool false, .int .u64 m1, .int .i64 e1]) ∧ Below w.heap.size w w')) (w : World) :
    Calls Try.prog 21 #[.int .i64 32, .int .u32 a] w fun e w' => e = .returned (.int .u32 (false.toNat * 2147483648 + 2139095040)) ∧ Below w.heap.size w w' := by
  go_enter Try.func21, Try.ntmps21
  go_wp2_with fail
  refine (form32 _).mono ?_
  rintro e' w1 ⟨rfl, B1⟩
  go_wp2_with fail
  refine (V1.out _).mono ?_
  rintro e' w2 ⟨rfl, B2⟩
  have t0 : w2.cell? ⟨w1.heap.size, 0, none⟩ = some (.int .i64 23) := (B2.cell (p := ⟨w1.heap.size, 0, none⟩) (by simp)).trans (by simp)
  have t1 : w2.cell? ⟨w1.heap.size, 1, none⟩ = some (.int .i64 127) := (B2.cell (p := ⟨w1.heap.size, 1, none⟩) (by simp)).trans (by simp)
  have t2 : w2.cell? ⟨w1.heap.size, 2, none⟩ = some (.int .u32 255) := (B2.cell (p := ⟨w1.heap.size, 2, none⟩) (by simp)).trans (by simp)
  have l0 : w1.heap.size < w2.heap.size := by have := B2.size; simp at this; omega
  have l0b : w1.heap.size < w2.heap.size + 1 := by omega
  have l0c : w1.heap.size < w2.heap.size + 1 + 1 := by omega
  go_wp2_with (first | (go_at_call 30; refine (noNumber32 _).mono ?_; rintro e' w3 ⟨rfl, B3⟩) | (go_at_call 32; refine (infinite32 false _).mono ?_; rintro e' w3 ⟨rfl, B3⟩) | (go_at_call 34; refine (zero32 _ _).mono ?_; rintro e' w3 ⟨rfl, B3⟩) | (go_at_call 31; go_in))
  go_ret
  refine ⟨rfl, ?_⟩
  ((repeat (first | refine bel_alloc ?_ _ | refine bel_dN ?_ _ | refine Below.drew ?_ | refine Below.setCell ?_ (by first | (simp; done) | (simp; omega)) _)); refine bel_step ?_ B3; (repeat (first | refine bel_alloc ?_ _ | refine bel_dN ?_ _ | refine Below.drew ?_ | refine Below.setCell ?_ (by first | (simp; done) | (simp; omega)) _)); refine bel_step ?_ B2; (repeat (first | refine bel_alloc ?_ _ | refine bel_dN ?_ _ | refine Below.drew ?_ | refine Below.setCell ?_ (by first | (simp; done) | (simp; omega)) _)); refine bel_step ?_ B1; (repeat (first | refine bel_alloc ?_ _ | refine bel_dN ?_ _ | refine Below.drew ?_ | refine Below.setCell ?_ (by first | (simp; done) | (simp; omega)) _)); exact Below.refl _ _)

end Go.Proofs.Yteniijmnpgdpcaa
