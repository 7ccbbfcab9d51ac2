/-
  FConvert, both sides, and its law.
-/
import Derived.Test.YtnimlkobcginjaaFRndS
import Derived.Test.YtnimlkobcginjaaFFv
import Derived.OpenShut
namespace Go.Proofs.Ytnimlkobcginjaa
open Go.RowKit

set_option maxHeartbeats 1000000 in
theorem convImpl216 (fr p1 b1 o1 a m e : Int) (s : Bool) (FF : Hid (∀ w, Calls Try.prog 65 #[.int .i64 fr] w fun x w' => x = .returned (.tuple #[.agg #[.int .i64 p1, .int .i64 b1, .int .u32 o1], .bool true]) ∧ Below w.heap.size w w'))
    (V : Hid (∀ w, Calls Try.prog 66 #[.agg #[.int .i64 p1, .int .i64 b1, .int .u32 o1], .int .u32 a] w fun x w' => x = .returned (.agg #[.int .i64 2, .bool s, .int .u64 m, .int .i64 e]) ∧ Below w.heap.size w w')) (w : World) :
    Calls Try.prog 42 #[.int .i64 fr, .int .i64 16, .int .u32 a] w fun x w' => x = .returned (.int .u32 (31744 + 512)) ∧ Below w.heap.size w w' := by
  go_enter Try.func42, Try.ntmps42
  go_wp2_with fail
  refine (FF.out _).mono ?_
  rintro x w1 ⟨rfl, B1⟩
  go_wp2_with fail
  refine (form16 _).mono ?_
  rintro x w2 ⟨rfl, B2⟩
  have f0 := B2.cell (p := ⟨w1.heap.size, 0, none⟩) (by simp)
  have f1 := B2.cell (p := ⟨w1.heap.size, 1, none⟩) (by simp)
  have f2 := B2.cell (p := ⟨w1.heap.size, 2, none⟩) (by simp)
  simp at f0 f1 f2
  have l1 : w1.heap.size < w2.heap.size := Nat.lt_of_lt_of_le (by simp) B2.size
  go_wp2_with fail
  refine (V.out _).mono ?_
  rintro x w3 ⟨rfl, B3⟩
  have g0 := B3.cell (p := ⟨w2.heap.size, 0, none⟩) (by simp)
  have g1 := B3.cell (p := ⟨w2.heap.size, 1, none⟩) (by simp)
  have g2 := B3.cell (p := ⟨w2.heap.size, 2, none⟩) (by simp)
  simp at g0 g1 g2
  have l2 : w2.heap.size < w3.heap.size := Nat.lt_of_lt_of_le (by simp) B3.size
  clear f0 f1 f2 l1 V FF
  go_wp2_with fail
  refine (noNumber16 _).mono ?_
  rintro x w4 ⟨rfl, B4⟩
  go_wp2
  go_ret
  refine ⟨rfl, ?_⟩
  ((repeat (first | refine bel_alloc ?_ _ | refine bel_dN ?_ _ | refine Below.drew ?_ | refine Below.setCell ?_ (by first | (simp; done) | (simp; omega)) _)); refine bel_step ?_ B4; (repeat (first | refine bel_alloc ?_ _ | refine bel_dN ?_ _ | refine Below.drew ?_ | refine Below.setCell ?_ (by first | (simp; done) | (simp; omega)) _)); refine bel_step ?_ B3; (repeat (first | refine bel_alloc ?_ _ | refine bel_dN ?_ _ | refine Below.drew ?_ | refine Below.setCell ?_ (by first | (simp; done) | (simp; omega)) _)); refine bel_step ?_ B2; (repeat (first | refine bel_alloc ?_ _ | refine bel_dN ?_ _ | refine Below.drew ?_ | refine Below.setCell ?_ (by first | (simp; done) | (simp; omega)) _)); refine bel_step ?_ B1; (repeat (first | refine bel_alloc ?_ _ | refine bel_dN ?_ _ | refine Below.drew ?_ | refine Below.setCell ?_ (by first | (simp; done) | (simp; omega)) _)); exact Below.refl _ _)

set_option maxHeartbeats 1000000 in
theorem convImpl232 (fr p1 b1 o1 a m e : Int) (s : Bool) (FF : Hid (∀ w, Calls Try.prog 65 #[.int .i64 fr] w fun x w' => x = .returned (.tuple #[.agg #[.int .i64 p1, .int .i64 b1, .int .u32 o1], .bool true]) ∧ Below w.heap.size w w'))
    (V : Hid (∀ w, Calls Try.prog 66 #[.agg #[.int .i64 p1, .int .i64 b1, .int .u32 o1], .int .u32 a] w fun x w' => x = .returned (.agg #[.int .i64 2, .bool s, .int .u64 m, .int .i64 e]) ∧ Below w.heap.size w w')) (w : World) :
    Calls Try.prog 42 #[.int .i64 fr, .int .i64 32, .int .u32 a] w fun x w' => x = .returned (.int .u32 (2139095040 + 4194304)) ∧ Below w.heap.size w w' := by
  go_enter Try.func42, Try.ntmps42
  go_wp2_with fail
  refine (FF.out _).mono ?_
  rintro x w1 ⟨rfl, B1⟩
  go_wp2_with fail
  refine (form32 _).mono ?_
  rintro x w2 ⟨rfl, B2⟩
  have f0 := B2.cell (p := ⟨w1.heap.size, 0, none⟩) (by simp)
  have f1 := B2.cell (p := ⟨w1.heap.size, 1, none⟩) (by simp)
  have f2 := B2.cell (p := ⟨w1.heap.size, 2, none⟩) (by simp)
  simp at f0 f1 f2
  have l1 : w1.heap.size < w2.heap.size := Nat.lt_of_lt_of_le (by simp) B2.size
  go_wp2_with fail
  refine (V.out _).mono ?_
  rintro x w3 ⟨rfl, B3⟩
  have g0 := B3.cell (p := ⟨w2.heap.size, 0, none⟩) (by simp)
  have g1 := B3.cell (p := ⟨w2.heap.size, 1, none⟩) (by simp)
  have g2 := B3.cell (p := ⟨w2.heap.size, 2, none⟩) (by simp)
  simp at g0 g1 g2
  have l2 : w2.heap.size < w3.heap.size := Nat.lt_of_lt_of_le (by simp) B3.size
  clear f0 f1 f2 l1 V FF
  go_wp2_with fail
  refine (noNumber32 _).mono ?_
  rintro x w4 ⟨rfl, B4⟩
  go_wp2
  go_ret
  refine ⟨rfl, ?_⟩
  ((repeat (first | refine bel_alloc ?_ _ | refine bel_dN ?_ _ | refine Below.drew ?_ | refine Below.setCell ?_ (by first | (simp; done) | (simp; omega)) _)); refine bel_step ?_ B4; (repeat (first | refine bel_alloc ?_ _ | refine bel_dN ?_ _ | refine Below.drew ?_ | refine Below.setCell ?_ (by first | (simp; done) | (simp; omega)) _)); refine bel_step ?_ B3; (repeat (first | refine bel_alloc ?_ _ | refine bel_dN ?_ _ | refine Below.drew ?_ | refine Below.setCell ?_ (by first | (simp; done) | (simp; omega)) _)); refine bel_step ?_ B2; (repeat (first | refine bel_alloc ?_ _ | refine bel_dN ?_ _ | refine Below.drew ?_ | refine Below.setCell ?_ (by first | (simp; done) | (simp; omega)) _)); refine bel_step ?_ B1; (repeat (first | refine bel_alloc ?_ _ | refine bel_dN ?_ _ | refine Below.drew ?_ | refine Below.setCell ?_ (by first | (simp; done) | (simp; omega)) _)); exact Below.refl _ _)

set_option maxHeartbeats 1000000 in
theorem convSpec216 (fr x1 p1 a m e : Int) (s : Bool) (FF : Hid (∀ w, Calls Try.prog 71 #[.int .i64 fr] w fun x w' => x = .returned (.tuple #[.agg #[.int .u64 x1, .int .u64 p1], .bool true]) ∧ Below w.heap.size w w'))
    (V : Hid (∀ w, Calls Try.prog 82 #[.agg #[.int .u64 x1, .int .u64 p1], .int .u32 a] w fun x w' => x = .returned (.agg #[.bool s, .bool false, .bool true, .int .u64 m, .int .i64 e]) ∧ Below w.heap.size w w')) (w : World) :
    Calls Try.prog 43 #[.int .i64 fr, .int .i64 16, .int .u32 a] w fun x w' => x = .returned (.int .u32 (31744 + 512)) ∧ Below w.heap.size w w' := by
  go_enter Try.func43, Try.ntmps43
  go_wp2_with fail
  refine (FF.out _).mono ?_
  rintro x w1 ⟨rfl, B1⟩
  go_wp2_with fail
  refine (l4Kind16 _).mono ?_
  rintro x w2 ⟨rfl, B2⟩
  have f0 := B2.cell (p := ⟨w1.heap.size, 0, none⟩) (by simp)
  have f1 := B2.cell (p := ⟨w1.heap.size, 1, none⟩) (by simp)
  simp at f0 f1
  have l1 : w1.heap.size < w2.heap.size := Nat.lt_of_lt_of_le (by simp) B2.size
  go_wp2_with fail
  refine (V.out _).mono ?_
  rintro x w3 ⟨rfl, B3⟩
  have g0 := B3.cell (p := ⟨w2.heap.size, 0, none⟩) (by simp)
  have g1 := B3.cell (p := ⟨w2.heap.size, 1, none⟩) (by simp)
  simp at g0 g1
  have l2 : w2.heap.size < w3.heap.size := Nat.lt_of_lt_of_le (by simp) B3.size
  clear f0 f1 l1 V FF
  go_wp2_with fail
  refine (l4Nan16 _).mono ?_
  rintro x w4 ⟨rfl, B4⟩
  go_wp2
  go_ret
  refine ⟨rfl, ?_⟩
  ((repeat (first | refine bel_alloc ?_ _ | refine bel_dN ?_ _ | refine Below.drew ?_ | refine Below.setCell ?_ (by first | (simp; done) | (simp; omega)) _)); refine bel_step ?_ B4; (repeat (first | refine bel_alloc ?_ _ | refine bel_dN ?_ _ | refine Below.drew ?_ | refine Below.setCell ?_ (by first | (simp; done) | (simp; omega)) _)); refine bel_step ?_ B3; (repeat (first | refine bel_alloc ?_ _ | refine bel_dN ?_ _ | refine Below.drew ?_ | refine Below.setCell ?_ (by first | (simp; done) | (simp; omega)) _)); refine bel_step ?_ B2; (repeat (first | refine bel_alloc ?_ _ | refine bel_dN ?_ _ | refine Below.drew ?_ | refine Below.setCell ?_ (by first | (simp; done) | (simp; omega)) _)); refine bel_step ?_ B1; (repeat (first | refine bel_alloc ?_ _ | refine bel_dN ?_ _ | refine Below.drew ?_ | refine Below.setCell ?_ (by first | (simp; done) | (simp; omega)) _)); exact Below.refl _ _)

set_option maxHeartbeats 1000000 in
theorem convSpec232 (fr x1 p1 a m e : Int) (s : Bool) (FF : Hid (∀ w, Calls Try.prog 71 #[.int .i64 fr] w fun x w' => x = .returned (.tuple #[.agg #[.int .u64 x1, .int .u64 p1], .bool true]) ∧ Below w.heap.size w w'))
    (V : Hid (∀ w, Calls Try.prog 82 #[.agg #[.int .u64 x1, .int .u64 p1], .int .u32 a] w fun x w' => x = .returned (.agg #[.bool s, .bool false, .bool true, .int .u64 m, .int .i64 e]) ∧ Below w.heap.size w w')) (w : World) :
    Calls Try.prog 43 #[.int .i64 fr, .int .i64 32, .int .u32 a] w fun x w' => x = .returned (.int .u32 (2139095040 + 4194304)) ∧ Below w.heap.size w w' := by
  go_enter Try.func43, Try.ntmps43
  go_wp2_with fail
  refine (FF.out _).mono ?_
  rintro x w1 ⟨rfl, B1⟩
  go_wp2_with fail
  refine (l4Kind32 _).mono ?_
  rintro x w2 ⟨rfl, B2⟩
  have f0 := B2.cell (p := ⟨w1.heap.size, 0, none⟩) (by simp)
  have f1 := B2.cell (p := ⟨w1.heap.size, 1, none⟩) (by simp)
  simp at f0 f1
  have l1 : w1.heap.size < w2.heap.size := Nat.lt_of_lt_of_le (by simp) B2.size
  go_wp2_with fail
  refine (V.out _).mono ?_
  rintro x w3 ⟨rfl, B3⟩
  have g0 := B3.cell (p := ⟨w2.heap.size, 0, none⟩) (by simp)
  have g1 := B3.cell (p := ⟨w2.heap.size, 1, none⟩) (by simp)
  simp at g0 g1
  have l2 : w2.heap.size < w3.heap.size := Nat.lt_of_lt_of_le (by simp) B3.size
  clear f0 f1 l1 V FF
  go_wp2_with fail
  refine (l4Nan32 _).mono ?_
  rintro x w4 ⟨rfl, B4⟩
  go_wp2
  go_ret
  refine ⟨rfl, ?_⟩
  ((repeat (first | refine bel_alloc ?_ _ | refine bel_dN ?_ _ | refine Below.drew ?_ | refine Below.setCell ?_ (by first | (simp; done) | (simp; omega)) _)); refine bel_step ?_ B4; (repeat (first | refine bel_alloc ?_ _ | refine bel_dN ?_ _ | refine Below.drew ?_ | refine Below.setCell ?_ (by first | (simp; done) | (simp; omega)) _)); refine bel_step ?_ B3; (repeat (first | refine bel_alloc ?_ _ | refine bel_dN ?_ _ | refine Below.drew ?_ | refine Below.setCell ?_ (by first | (simp; done) | (simp; omega)) _)); refine bel_step ?_ B2; (repeat (first | refine bel_alloc ?_ _ | refine bel_dN ?_ _ | refine Below.drew ?_ | refine Below.setCell ?_ (by first | (simp; done) | (simp; omega)) _)); refine bel_step ?_ B1; (repeat (first | refine bel_alloc ?_ _ | refine bel_dN ?_ _ | refine Below.drew ?_ | refine Below.setCell ?_ (by first | (simp; done) | (simp; omega)) _)); exact Below.refl _ _)

set_option maxHeartbeats 1000000 in
theorem convImpl116 (fr p1 b1 o1 a m e : Int) (s : Bool) (FF : Hid (∀ w, Calls Try.prog 65 #[.int .i64 fr] w fun x w' => x = .returned (.tuple #[.agg #[.int .i64 p1, .int .i64 b1, .int .u32 o1], .bool true]) ∧ Below w.heap.size w w'))
    (V : Hid (∀ w, Calls Try.prog 66 #[.agg #[.int .i64 p1, .int .i64 b1, .int .u32 o1], .int .u32 a] w fun x w' => x = .returned (.agg #[.int .i64 1, .bool s, .int .u64 m, .int .i64 e]) ∧ Below w.heap.size w w')) (w : World) :
    Calls Try.prog 42 #[.int .i64 fr, .int .i64 16, .int .u32 a] w fun x w' => x = .returned (.int .u32 (s.toNat * 32768 + 31744)) ∧ Below w.heap.size w w' := by
  go_enter Try.func42, Try.ntmps42
  go_wp2_with fail
  refine (FF.out _).mono ?_
  rintro x w1 ⟨rfl, B1⟩
  go_wp2_with fail
  refine (form16 _).mono ?_
  rintro x w2 ⟨rfl, B2⟩
  have f0 := B2.cell (p := ⟨w1.heap.size, 0, none⟩) (by simp)
  have f1 := B2.cell (p := ⟨w1.heap.size, 1, none⟩) (by simp)
  have f2 := B2.cell (p := ⟨w1.heap.size, 2, none⟩) (by simp)
  simp at f0 f1 f2
  have l1 : w1.heap.size < w2.heap.size := Nat.lt_of_lt_of_le (by simp) B2.size
  go_wp2_with fail
  refine (V.out _).mono ?_
  rintro x w3 ⟨rfl, B3⟩
  have g0 := B3.cell (p := ⟨w2.heap.size, 0, none⟩) (by simp)
  have g1 := B3.cell (p := ⟨w2.heap.size, 1, none⟩) (by simp)
  have g2 := B3.cell (p := ⟨w2.heap.size, 2, none⟩) (by simp)
  simp at g0 g1 g2
  have l2 : w2.heap.size < w3.heap.size := Nat.lt_of_lt_of_le (by simp) B3.size
  clear f0 f1 f2 l1 V FF
  go_wp2_with fail
  refine (infinite16 s _).mono ?_
  rintro x w4 ⟨rfl, B4⟩
  go_wp2
  go_ret
  refine ⟨rfl, ?_⟩
  ((repeat (first | refine bel_alloc ?_ _ | refine bel_dN ?_ _ | refine Below.drew ?_ | refine Below.setCell ?_ (by first | (simp; done) | (simp; omega)) _)); refine bel_step ?_ B4; (repeat (first | refine bel_alloc ?_ _ | refine bel_dN ?_ _ | refine Below.drew ?_ | refine Below.setCell ?_ (by first | (simp; done) | (simp; omega)) _)); refine bel_step ?_ B3; (repeat (first | refine bel_alloc ?_ _ | refine bel_dN ?_ _ | refine Below.drew ?_ | refine Below.setCell ?_ (by first | (simp; done) | (simp; omega)) _)); refine bel_step ?_ B2; (repeat (first | refine bel_alloc ?_ _ | refine bel_dN ?_ _ | refine Below.drew ?_ | refine Below.setCell ?_ (by first | (simp; done) | (simp; omega)) _)); refine bel_step ?_ B1; (repeat (first | refine bel_alloc ?_ _ | refine bel_dN ?_ _ | refine Below.drew ?_ | refine Below.setCell ?_ (by first | (simp; done) | (simp; omega)) _)); exact Below.refl _ _)

set_option maxHeartbeats 1000000 in
theorem convImpl132 (fr p1 b1 o1 a m e : Int) (s : Bool) (FF : Hid (∀ w, Calls Try.prog 65 #[.int .i64 fr] w fun x w' => x = .returned (.tuple #[.agg #[.int .i64 p1, .int .i64 b1, .int .u32 o1], .bool true]) ∧ Below w.heap.size w w'))
    (V : Hid (∀ w, Calls Try.prog 66 #[.agg #[.int .i64 p1, .int .i64 b1, .int .u32 o1], .int .u32 a] w fun x w' => x = .returned (.agg #[.int .i64 1, .bool s, .int .u64 m, .int .i64 e]) ∧ Below w.heap.size w w')) (w : World) :
    Calls Try.prog 42 #[.int .i64 fr, .int .i64 32, .int .u32 a] w fun x w' => x = .returned (.int .u32 (s.toNat * 2147483648 + 2139095040)) ∧ Below w.heap.size w w' := by
  go_enter Try.func42, Try.ntmps42
  go_wp2_with fail
  refine (FF.out _).mono ?_
  rintro x w1 ⟨rfl, B1⟩
  go_wp2_with fail
  refine (form32 _).mono ?_
  rintro x w2 ⟨rfl, B2⟩
  have f0 := B2.cell (p := ⟨w1.heap.size, 0, none⟩) (by simp)
  have f1 := B2.cell (p := ⟨w1.heap.size, 1, none⟩) (by simp)
  have f2 := B2.cell (p := ⟨w1.heap.size, 2, none⟩) (by simp)
  simp at f0 f1 f2
  have l1 : w1.heap.size < w2.heap.size := Nat.lt_of_lt_of_le (by simp) B2.size
  go_wp2_with fail
  refine (V.out _).mono ?_
  rintro x w3 ⟨rfl, B3⟩
  have g0 := B3.cell (p := ⟨w2.heap.size, 0, none⟩) (by simp)
  have g1 := B3.cell (p := ⟨w2.heap.size, 1, none⟩) (by simp)
  have g2 := B3.cell (p := ⟨w2.heap.size, 2, none⟩) (by simp)
  simp at g0 g1 g2
  have l2 : w2.heap.size < w3.heap.size := Nat.lt_of_lt_of_le (by simp) B3.size
  clear f0 f1 f2 l1 V FF
  go_wp2_with fail
  refine (infinite32 s _).mono ?_
  rintro x w4 ⟨rfl, B4⟩
  go_wp2
  go_ret
  refine ⟨rfl, ?_⟩
  ((repeat (first | refine bel_alloc ?_ _ | refine bel_dN ?_ _ | refine Below.drew ?_ | refine Below.setCell ?_ (by first | (simp; done) | (simp; omega)) _)); refine bel_step ?_ B4; (repeat (first | refine bel_alloc ?_ _ | refine bel_dN ?_ _ | refine Below.drew ?_ | refine Below.setCell ?_ (by first | (simp; done) | (simp; omega)) _)); refine bel_step ?_ B3; (repeat (first | refine bel_alloc ?_ _ | refine bel_dN ?_ _ | refine Below.drew ?_ | refine Below.setCell ?_ (by first | (simp; done) | (simp; omega)) _)); refine bel_step ?_ B2; (repeat (first | refine bel_alloc ?_ _ | refine bel_dN ?_ _ | refine Below.drew ?_ | refine Below.setCell ?_ (by first | (simp; done) | (simp; omega)) _)); refine bel_step ?_ B1; (repeat (first | refine bel_alloc ?_ _ | refine bel_dN ?_ _ | refine Below.drew ?_ | refine Below.setCell ?_ (by first | (simp; done) | (simp; omega)) _)); exact Below.refl _ _)

set_option maxHeartbeats 1000000 in
theorem convSpec116 (fr x1 p1 a m e : Int) (s : Bool) (FF : Hid (∀ w, Calls Try.prog 71 #[.int .i64 fr] w fun x w' => x = .returned (.tuple #[.agg #[.int .u64 x1, .int .u64 p1], .bool true]) ∧ Below w.heap.size w w'))
    (V : Hid (∀ w, Calls Try.prog 82 #[.agg #[.int .u64 x1, .int .u64 p1], .int .u32 a] w fun x w' => x = .returned (.agg #[.bool s, .bool true, .bool false, .int .u64 m, .int .i64 e]) ∧ Below w.heap.size w w')) (w : World) :
    Calls Try.prog 43 #[.int .i64 fr, .int .i64 16, .int .u32 a] w fun x w' => x = .returned (.int .u32 (s.toNat * 32768 + 31744)) ∧ Below w.heap.size w w' := by
  go_enter Try.func43, Try.ntmps43
  go_wp2_with fail
  refine (FF.out _).mono ?_
  rintro x w1 ⟨rfl, B1⟩
  go_wp2_with fail
  refine (l4Kind16 _).mono ?_
  rintro x w2 ⟨rfl, B2⟩
  have f0 := B2.cell (p := ⟨w1.heap.size, 0, none⟩) (by simp)
  have f1 := B2.cell (p := ⟨w1.heap.size, 1, none⟩) (by simp)
  simp at f0 f1
  have l1 : w1.heap.size < w2.heap.size := Nat.lt_of_lt_of_le (by simp) B2.size
  go_wp2_with fail
  refine (V.out _).mono ?_
  rintro x w3 ⟨rfl, B3⟩
  have g0 := B3.cell (p := ⟨w2.heap.size, 0, none⟩) (by simp)
  have g1 := B3.cell (p := ⟨w2.heap.size, 1, none⟩) (by simp)
  simp at g0 g1
  have l2 : w2.heap.size < w3.heap.size := Nat.lt_of_lt_of_le (by simp) B3.size
  clear f0 f1 l1 V FF
  go_wp2_with fail
  refine (l4Inf16 s _).mono ?_
  rintro x w4 ⟨rfl, B4⟩
  go_wp2
  go_ret
  refine ⟨rfl, ?_⟩
  ((repeat (first | refine bel_alloc ?_ _ | refine bel_dN ?_ _ | refine Below.drew ?_ | refine Below.setCell ?_ (by first | (simp; done) | (simp; omega)) _)); refine bel_step ?_ B4; (repeat (first | refine bel_alloc ?_ _ | refine bel_dN ?_ _ | refine Below.drew ?_ | refine Below.setCell ?_ (by first | (simp; done) | (simp; omega)) _)); refine bel_step ?_ B3; (repeat (first | refine bel_alloc ?_ _ | refine bel_dN ?_ _ | refine Below.drew ?_ | refine Below.setCell ?_ (by first | (simp; done) | (simp; omega)) _)); refine bel_step ?_ B2; (repeat (first | refine bel_alloc ?_ _ | refine bel_dN ?_ _ | refine Below.drew ?_ | refine Below.setCell ?_ (by first | (simp; done) | (simp; omega)) _)); refine bel_step ?_ B1; (repeat (first | refine bel_alloc ?_ _ | refine bel_dN ?_ _ | refine Below.drew ?_ | refine Below.setCell ?_ (by first | (simp; done) | (simp; omega)) _)); exact Below.refl _ _)

set_option maxHeartbeats 1000000 in
theorem convSpec132 (fr x1 p1 a m e : Int) (s : Bool) (FF : Hid (∀ w, Calls Try.prog 71 #[.int .i64 fr] w fun x w' => x = .returned (.tuple #[.agg #[.int .u64 x1, .int .u64 p1], .bool true]) ∧ Below w.heap.size w w'))
    (V : Hid (∀ w, Calls Try.prog 82 #[.agg #[.int .u64 x1, .int .u64 p1], .int .u32 a] w fun x w' => x = .returned (.agg #[.bool s, .bool true, .bool false, .int .u64 m, .int .i64 e]) ∧ Below w.heap.size w w')) (w : World) :
    Calls Try.prog 43 #[.int .i64 fr, .int .i64 32, .int .u32 a] w fun x w' => x = .returned (.int .u32 (s.toNat * 2147483648 + 2139095040)) ∧ Below w.heap.size w w' := by
  go_enter Try.func43, Try.ntmps43
  go_wp2_with fail
  refine (FF.out _).mono ?_
  rintro x w1 ⟨rfl, B1⟩
  go_wp2_with fail
  refine (l4Kind32 _).mono ?_
  rintro x w2 ⟨rfl, B2⟩
  have f0 := B2.cell (p := ⟨w1.heap.size, 0, none⟩) (by simp)
  have f1 := B2.cell (p := ⟨w1.heap.size, 1, none⟩) (by simp)
  simp at f0 f1
  have l1 : w1.heap.size < w2.heap.size := Nat.lt_of_lt_of_le (by simp) B2.size
  go_wp2_with fail
  refine (V.out _).mono ?_
  rintro x w3 ⟨rfl, B3⟩
  have g0 := B3.cell (p := ⟨w2.heap.size, 0, none⟩) (by simp)
  have g1 := B3.cell (p := ⟨w2.heap.size, 1, none⟩) (by simp)
  simp at g0 g1
  have l2 : w2.heap.size < w3.heap.size := Nat.lt_of_lt_of_le (by simp) B3.size
  clear f0 f1 l1 V FF
  go_wp2_with fail
  refine (l4Inf32 s _).mono ?_
  rintro x w4 ⟨rfl, B4⟩
  go_wp2
  go_ret
  refine ⟨rfl, ?_⟩
  ((repeat (first | refine bel_alloc ?_ _ | refine bel_dN ?_ _ | refine Below.drew ?_ | refine Below.setCell ?_ (by first | (simp; done) | (simp; omega)) _)); refine bel_step ?_ B4; (repeat (first | refine bel_alloc ?_ _ | refine bel_dN ?_ _ | refine Below.drew ?_ | refine Below.setCell ?_ (by first | (simp; done) | (simp; omega)) _)); refine bel_step ?_ B3; (repeat (first | refine bel_alloc ?_ _ | refine bel_dN ?_ _ | refine Below.drew ?_ | refine Below.setCell ?_ (by first | (simp; done) | (simp; omega)) _)); refine bel_step ?_ B2; (repeat (first | refine bel_alloc ?_ _ | refine bel_dN ?_ _ | refine Below.drew ?_ | refine Below.setCell ?_ (by first | (simp; done) | (simp; omega)) _)); refine bel_step ?_ B1; (repeat (first | refine bel_alloc ?_ _ | refine bel_dN ?_ _ | refine Below.drew ?_ | refine Below.setCell ?_ (by first | (simp; done) | (simp; omega)) _)); exact Below.refl _ _)

set_option maxHeartbeats 1000000 in
theorem convImpl016 (fr p1 b1 o1 a m e : Int) (s : Bool) (FF : Hid (∀ w, Calls Try.prog 65 #[.int .i64 fr] w fun x w' => x = .returned (.tuple #[.agg #[.int .i64 p1, .int .i64 b1, .int .u32 o1], .bool true]) ∧ Below w.heap.size w w'))
    (V : Hid (∀ w, Calls Try.prog 66 #[.agg #[.int .i64 p1, .int .i64 b1, .int .u32 o1], .int .u32 a] w fun x w' => x = .returned (.agg #[.int .i64 0, .bool s, .int .u64 m, .int .i64 e]) ∧ Below w.heap.size w w')) (r : Int) (RR : Hid (∀ w, Calls Try.prog 79 #[(.agg #[.int .i64 10, .int .i64 15, .int .u32 31]), .bool s, .int .u64 m, .int .i64 e, .bool false] w fun x w' => x = .returned (.int .u32 r) ∧ Below w.heap.size w w')) (w : World) :
    Calls Try.prog 42 #[.int .i64 fr, .int .i64 16, .int .u32 a] w fun x w' => x = .returned (.int .u32 (r)) ∧ Below w.heap.size w w' := by
  go_enter Try.func42, Try.ntmps42
  go_wp2_with fail
  refine (FF.out _).mono ?_
  rintro x w1 ⟨rfl, B1⟩
  go_wp2_with fail
  refine (form16 _).mono ?_
  rintro x w2 ⟨rfl, B2⟩
  have f0 := B2.cell (p := ⟨w1.heap.size, 0, none⟩) (by simp)
  have f1 := B2.cell (p := ⟨w1.heap.size, 1, none⟩) (by simp)
  have f2 := B2.cell (p := ⟨w1.heap.size, 2, none⟩) (by simp)
  simp at f0 f1 f2
  have l1 : w1.heap.size < w2.heap.size := Nat.lt_of_lt_of_le (by simp) B2.size
  go_wp2_with fail
  refine (V.out _).mono ?_
  rintro x w3 ⟨rfl, B3⟩
  have g0 := B3.cell (p := ⟨w2.heap.size, 0, none⟩) (by simp)
  have g1 := B3.cell (p := ⟨w2.heap.size, 1, none⟩) (by simp)
  have g2 := B3.cell (p := ⟨w2.heap.size, 2, none⟩) (by simp)
  simp at g0 g1 g2
  have l2 : w2.heap.size < w3.heap.size := Nat.lt_of_lt_of_le (by simp) B3.size
  clear f0 f1 f2 l1 V FF
  go_wp2_with fail
  refine (RR.out _).mono ?_
  rintro x w4 ⟨rfl, B4⟩
  go_wp2
  go_ret
  refine ⟨rfl, ?_⟩
  ((repeat (first | refine bel_alloc ?_ _ | refine bel_dN ?_ _ | refine Below.drew ?_ | refine Below.setCell ?_ (by first | (simp; done) | (simp; omega)) _)); refine bel_step ?_ B4; (repeat (first | refine bel_alloc ?_ _ | refine bel_dN ?_ _ | refine Below.drew ?_ | refine Below.setCell ?_ (by first | (simp; done) | (simp; omega)) _)); refine bel_step ?_ B3; (repeat (first | refine bel_alloc ?_ _ | refine bel_dN ?_ _ | refine Below.drew ?_ | refine Below.setCell ?_ (by first | (simp; done) | (simp; omega)) _)); refine bel_step ?_ B2; (repeat (first | refine bel_alloc ?_ _ | refine bel_dN ?_ _ | refine Below.drew ?_ | refine Below.setCell ?_ (by first | (simp; done) | (simp; omega)) _)); refine bel_step ?_ B1; (repeat (first | refine bel_alloc ?_ _ | refine bel_dN ?_ _ | refine Below.drew ?_ | refine Below.setCell ?_ (by first | (simp; done) | (simp; omega)) _)); exact Below.refl _ _)

set_option maxHeartbeats 1000000 in
theorem convImpl032 (fr p1 b1 o1 a m e : Int) (s : Bool) (FF : Hid (∀ w, Calls Try.prog 65 #[.int .i64 fr] w fun x w' => x = .returned (.tuple #[.agg #[.int .i64 p1, .int .i64 b1, .int .u32 o1], .bool true]) ∧ Below w.heap.size w w'))
    (V : Hid (∀ w, Calls Try.prog 66 #[.agg #[.int .i64 p1, .int .i64 b1, .int .u32 o1], .int .u32 a] w fun x w' => x = .returned (.agg #[.int .i64 0, .bool s, .int .u64 m, .int .i64 e]) ∧ Below w.heap.size w w')) (r : Int) (RR : Hid (∀ w, Calls Try.prog 79 #[(.agg #[.int .i64 23, .int .i64 127, .int .u32 255]), .bool s, .int .u64 m, .int .i64 e, .bool false] w fun x w' => x = .returned (.int .u32 r) ∧ Below w.heap.size w w')) (w : World) :
    Calls Try.prog 42 #[.int .i64 fr, .int .i64 32, .int .u32 a] w fun x w' => x = .returned (.int .u32 (r)) ∧ Below w.heap.size w w' := by
  go_enter Try.func42, Try.ntmps42
  go_wp2_with fail
  refine (FF.out _).mono ?_
  rintro x w1 ⟨rfl, B1⟩
  go_wp2_with fail
  refine (form32 _).mono ?_
  rintro x w2 ⟨rfl, B2⟩
  have f0 := B2.cell (p := ⟨w1.heap.size, 0, none⟩) (by simp)
  have f1 := B2.cell (p := ⟨w1.heap.size, 1, none⟩) (by simp)
  have f2 := B2.cell (p := ⟨w1.heap.size, 2, none⟩) (by simp)
  simp at f0 f1 f2
  have l1 : w1.heap.size < w2.heap.size := Nat.lt_of_lt_of_le (by simp) B2.size
  go_wp2_with fail
  refine (V.out _).mono ?_
  rintro x w3 ⟨rfl, B3⟩
  have g0 := B3.cell (p := ⟨w2.heap.size, 0, none⟩) (by simp)
  have g1 := B3.cell (p := ⟨w2.heap.size, 1, none⟩) (by simp)
  have g2 := B3.cell (p := ⟨w2.heap.size, 2, none⟩) (by simp)
  simp at g0 g1 g2
  have l2 : w2.heap.size < w3.heap.size := Nat.lt_of_lt_of_le (by simp) B3.size
  clear f0 f1 f2 l1 V FF
  go_wp2_with fail
  refine (RR.out _).mono ?_
  rintro x w4 ⟨rfl, B4⟩
  go_wp2
  go_ret
  refine ⟨rfl, ?_⟩
  ((repeat (first | refine bel_alloc ?_ _ | refine bel_dN ?_ _ | refine Below.drew ?_ | refine Below.setCell ?_ (by first | (simp; done) | (simp; omega)) _)); refine bel_step ?_ B4; (repeat (first | refine bel_alloc ?_ _ | refine bel_dN ?_ _ | refine Below.drew ?_ | refine Below.setCell ?_ (by first | (simp; done) | (simp; omega)) _)); refine bel_step ?_ B3; (repeat (first | refine bel_alloc ?_ _ | refine bel_dN ?_ _ | refine Below.drew ?_ | refine Below.setCell ?_ (by first | (simp; done) | (simp; omega)) _)); refine bel_step ?_ B2; (repeat (first | refine bel_alloc ?_ _ | refine bel_dN ?_ _ | refine Below.drew ?_ | refine Below.setCell ?_ (by first | (simp; done) | (simp; omega)) _)); refine bel_step ?_ B1; (repeat (first | refine bel_alloc ?_ _ | refine bel_dN ?_ _ | refine Below.drew ?_ | refine Below.setCell ?_ (by first | (simp; done) | (simp; omega)) _)); exact Below.refl _ _)

set_option maxHeartbeats 1000000 in
theorem convSpec016 (fr x1 p1 a m e : Int) (s : Bool) (FF : Hid (∀ w, Calls Try.prog 71 #[.int .i64 fr] w fun x w' => x = .returned (.tuple #[.agg #[.int .u64 x1, .int .u64 p1], .bool true]) ∧ Below w.heap.size w w'))
    (V : Hid (∀ w, Calls Try.prog 82 #[.agg #[.int .u64 x1, .int .u64 p1], .int .u32 a] w fun x w' => x = .returned (.agg #[.bool s, .bool false, .bool false, .int .u64 m, .int .i64 e]) ∧ Below w.heap.size w w')) (r : Int) (RR : Hid (∀ w, Calls Try.prog 92 #[(.agg #[.int .u64 5, .int .u64 10]), .bool s, .int .u64 m, .int .i64 e, .bool false] w fun x w' => x = .returned (.int .u32 r) ∧ Below w.heap.size w w')) (w : World) :
    Calls Try.prog 43 #[.int .i64 fr, .int .i64 16, .int .u32 a] w fun x w' => x = .returned (.int .u32 (r)) ∧ Below w.heap.size w w' := by
  go_enter Try.func43, Try.ntmps43
  go_wp2_with fail
  refine (FF.out _).mono ?_
  rintro x w1 ⟨rfl, B1⟩
  go_wp2_with fail
  refine (l4Kind16 _).mono ?_
  rintro x w2 ⟨rfl, B2⟩
  have f0 := B2.cell (p := ⟨w1.heap.size, 0, none⟩) (by simp)
  have f1 := B2.cell (p := ⟨w1.heap.size, 1, none⟩) (by simp)
  simp at f0 f1
  have l1 : w1.heap.size < w2.heap.size := Nat.lt_of_lt_of_le (by simp) B2.size
  go_wp2_with fail
  refine (V.out _).mono ?_
  rintro x w3 ⟨rfl, B3⟩
  have g0 := B3.cell (p := ⟨w2.heap.size, 0, none⟩) (by simp)
  have g1 := B3.cell (p := ⟨w2.heap.size, 1, none⟩) (by simp)
  simp at g0 g1
  have l2 : w2.heap.size < w3.heap.size := Nat.lt_of_lt_of_le (by simp) B3.size
  clear f0 f1 l1 V FF
  go_wp2_with fail
  refine (RR.out _).mono ?_
  rintro x w4 ⟨rfl, B4⟩
  go_wp2
  go_ret
  refine ⟨rfl, ?_⟩
  ((repeat (first | refine bel_alloc ?_ _ | refine bel_dN ?_ _ | refine Below.drew ?_ | refine Below.setCell ?_ (by first | (simp; done) | (simp; omega)) _)); refine bel_step ?_ B4; (repeat (first | refine bel_alloc ?_ _ | refine bel_dN ?_ _ | refine Below.drew ?_ | refine Below.setCell ?_ (by first | (simp; done) | (simp; omega)) _)); refine bel_step ?_ B3; (repeat (first | refine bel_alloc ?_ _ | refine bel_dN ?_ _ | refine Below.drew ?_ | refine Below.setCell ?_ (by first | (simp; done) | (simp; omega)) _)); refine bel_step ?_ B2; (repeat (first | refine bel_alloc ?_ _ | refine bel_dN ?_ _ | refine Below.drew ?_ | refine Below.setCell ?_ (by first | (simp; done) | (simp; omega)) _)); refine bel_step ?_ B1; (repeat (first | refine bel_alloc ?_ _ | refine bel_dN ?_ _ | refine Below.drew ?_ | refine Below.setCell ?_ (by first | (simp; done) | (simp; omega)) _)); exact Below.refl _ _)

set_option maxHeartbeats 1000000 in
theorem convSpec032 (fr x1 p1 a m e : Int) (s : Bool) (FF : Hid (∀ w, Calls Try.prog 71 #[.int .i64 fr] w fun x w' => x = .returned (.tuple #[.agg #[.int .u64 x1, .int .u64 p1], .bool true]) ∧ Below w.heap.size w w'))
    (V : Hid (∀ w, Calls Try.prog 82 #[.agg #[.int .u64 x1, .int .u64 p1], .int .u32 a] w fun x w' => x = .returned (.agg #[.bool s, .bool false, .bool false, .int .u64 m, .int .i64 e]) ∧ Below w.heap.size w w')) (r : Int) (RR : Hid (∀ w, Calls Try.prog 92 #[(.agg #[.int .u64 8, .int .u64 23]), .bool s, .int .u64 m, .int .i64 e, .bool false] w fun x w' => x = .returned (.int .u32 r) ∧ Below w.heap.size w w')) (w : World) :
    Calls Try.prog 43 #[.int .i64 fr, .int .i64 32, .int .u32 a] w fun x w' => x = .returned (.int .u32 (r)) ∧ Below w.heap.size w w' := by
  go_enter Try.func43, Try.ntmps43
  go_wp2_with fail
  refine (FF.out _).mono ?_
  rintro x w1 ⟨rfl, B1⟩
  go_wp2_with fail
  refine (l4Kind32 _).mono ?_
  rintro x w2 ⟨rfl, B2⟩
  have f0 := B2.cell (p := ⟨w1.heap.size, 0, none⟩) (by simp)
  have f1 := B2.cell (p := ⟨w1.heap.size, 1, none⟩) (by simp)
  simp at f0 f1
  have l1 : w1.heap.size < w2.heap.size := Nat.lt_of_lt_of_le (by simp) B2.size
  go_wp2_with fail
  refine (V.out _).mono ?_
  rintro x w3 ⟨rfl, B3⟩
  have g0 := B3.cell (p := ⟨w2.heap.size, 0, none⟩) (by simp)
  have g1 := B3.cell (p := ⟨w2.heap.size, 1, none⟩) (by simp)
  simp at g0 g1
  have l2 : w2.heap.size < w3.heap.size := Nat.lt_of_lt_of_le (by simp) B3.size
  clear f0 f1 l1 V FF
  go_wp2_with fail
  refine (RR.out _).mono ?_
  rintro x w4 ⟨rfl, B4⟩
  go_wp2
  go_ret
  refine ⟨rfl, ?_⟩
  ((repeat (first | refine bel_alloc ?_ _ | refine bel_dN ?_ _ | refine Below.drew ?_ | refine Below.setCell ?_ (by first | (simp; done) | (simp; omega)) _)); refine bel_step ?_ B4; (repeat (first | refine bel_alloc ?_ _ | refine bel_dN ?_ _ | refine Below.drew ?_ | refine Below.setCell ?_ (by first | (simp; done) | (simp; omega)) _)); refine bel_step ?_ B3; (repeat (first | refine bel_alloc ?_ _ | refine bel_dN ?_ _ | refine Below.drew ?_ | refine Below.setCell ?_ (by first | (simp; done) | (simp; omega)) _)); refine bel_step ?_ B2; (repeat (first | refine bel_alloc ?_ _ | refine bel_dN ?_ _ | refine Below.drew ?_ | refine Below.setCell ?_ (by first | (simp; done) | (simp; omega)) _)); refine bel_step ?_ B1; (repeat (first | refine bel_alloc ?_ _ | refine bel_dN ?_ _ | refine Below.drew ?_ | refine Below.setCell ?_ (by first | (simp; done) | (simp; omega)) _)); exact Below.refl _ _)

theorem convTo16 (fr p1 b1 o1 x1 q1 a c m e : Int) (s : Bool) (FI : Hid (∀ w, Calls Try.prog 65 #[.int .i64 fr] w fun x w' => x = .returned (.tuple #[.agg #[.int .i64 p1, .int .i64 b1, .int .u32 o1], .bool true]) ∧ Below w.heap.size w w'))
    (VI : Hid (∀ w, Calls Try.prog 66 #[.agg #[.int .i64 p1, .int .i64 b1, .int .u32 o1], .int .u32 a] w fun x w' => x = .returned (.agg #[.int .i64 c, .bool s, .int .u64 m, .int .i64 e]) ∧ Below w.heap.size w w'))
    (FS : Hid (∀ w, Calls Try.prog 71 #[.int .i64 fr] w fun x w' => x = .returned (.tuple #[.agg #[.int .u64 x1, .int .u64 q1], .bool true]) ∧ Below w.heap.size w w'))
    (VS : Hid (∀ w, Calls Try.prog 82 #[.agg #[.int .u64 x1, .int .u64 q1], .int .u32 a] w fun x w' => x = .returned (.agg #[.bool s, .bool (c == 1), .bool (c == 2), .int .u64 m, .int .i64 e]) ∧ Below w.heap.size w w'))
    (hc : c = 0 ∨ c = 1 ∨ c = 2) (m0 : 0 ≤ m) (m1 : m < 1152921504606846976) (e0 : -2000 ≤ e) (e1 : e ≤ 2000) : ∃ r : Int,
    (∀ w, Calls Try.prog 43 #[.int .i64 fr, .int .i64 16, .int .u32 a] w fun x w' => x = .returned (.int .u32 r) ∧ Below w.heap.size w w') ∧
    (∀ w, Calls Try.prog 42 #[.int .i64 fr, .int .i64 16, .int .u32 a] w fun x w' => x = .returned (.int .u32 r) ∧ Below w.heap.size w w') := by
  obtain ⟨n, rfl⟩ := Int.eq_ofNat_of_zero_le m0
  rcases hc with rfl | rfl | rfl
  · exact ⟨_, convSpec016 fr x1 q1 a n e s FS VS _ (specRound16 s n (by omega) e e0 e1 false), convImpl016 fr p1 b1 o1 a n e s FI VI _ (implRound16 s n (by omega) e e0 e1 false)⟩
  · exact ⟨_, convSpec116 fr x1 q1 a n e s FS VS, convImpl116 fr p1 b1 o1 a n e s FI VI⟩
  · exact ⟨_, convSpec216 fr x1 q1 a n e s FS VS, convImpl216 fr p1 b1 o1 a n e s FI VI⟩

theorem convTo32 (fr p1 b1 o1 x1 q1 a c m e : Int) (s : Bool) (FI : Hid (∀ w, Calls Try.prog 65 #[.int .i64 fr] w fun x w' => x = .returned (.tuple #[.agg #[.int .i64 p1, .int .i64 b1, .int .u32 o1], .bool true]) ∧ Below w.heap.size w w'))
    (VI : Hid (∀ w, Calls Try.prog 66 #[.agg #[.int .i64 p1, .int .i64 b1, .int .u32 o1], .int .u32 a] w fun x w' => x = .returned (.agg #[.int .i64 c, .bool s, .int .u64 m, .int .i64 e]) ∧ Below w.heap.size w w'))
    (FS : Hid (∀ w, Calls Try.prog 71 #[.int .i64 fr] w fun x w' => x = .returned (.tuple #[.agg #[.int .u64 x1, .int .u64 q1], .bool true]) ∧ Below w.heap.size w w'))
    (VS : Hid (∀ w, Calls Try.prog 82 #[.agg #[.int .u64 x1, .int .u64 q1], .int .u32 a] w fun x w' => x = .returned (.agg #[.bool s, .bool (c == 1), .bool (c == 2), .int .u64 m, .int .i64 e]) ∧ Below w.heap.size w w'))
    (hc : c = 0 ∨ c = 1 ∨ c = 2) (m0 : 0 ≤ m) (m1 : m < 1152921504606846976) (e0 : -2000 ≤ e) (e1 : e ≤ 2000) : ∃ r : Int,
    (∀ w, Calls Try.prog 43 #[.int .i64 fr, .int .i64 32, .int .u32 a] w fun x w' => x = .returned (.int .u32 r) ∧ Below w.heap.size w w') ∧
    (∀ w, Calls Try.prog 42 #[.int .i64 fr, .int .i64 32, .int .u32 a] w fun x w' => x = .returned (.int .u32 r) ∧ Below w.heap.size w w') := by
  obtain ⟨n, rfl⟩ := Int.eq_ofNat_of_zero_le m0
  rcases hc with rfl | rfl | rfl
  · exact ⟨_, convSpec032 fr x1 q1 a n e s FS VS _ (specRound32 s n (by omega) e e0 e1 false), convImpl032 fr p1 b1 o1 a n e s FI VI _ (implRound32 s n (by omega) e e0 e1 false)⟩
  · exact ⟨_, convSpec132 fr x1 q1 a n e s FS VS, convImpl132 fr p1 b1 o1 a n e s FI VI⟩
  · exact ⟨_, convSpec232 fr x1 q1 a n e s FS VS, convImpl232 fr p1 b1 o1 a n e s FI VI⟩

theorem convNoTo16 (tk a : Int) (h1 : tk ≠ 16) (h2 : tk ≠ 32) :
    (∀ w, Calls Try.prog 43 #[.int .i64 16, .int .i64 tk, .int .u32 a] w fun x w' => x = .returned (.int .u32 0) ∧ Below w.heap.size w w') ∧
    (∀ w, Calls Try.prog 42 #[.int .i64 16, .int .i64 tk, .int .u32 a] w fun x w' => x = .returned (.int .u32 0) ∧ Below w.heap.size w w') := by
  refine ⟨fun w => ?_, fun w => ?_⟩
  · go_enter Try.func43, Try.ntmps43
    go_wp2_with fail
    refine (l4Kind16 _).mono ?_
    rintro x w1 ⟨rfl, B1⟩
    go_wp2_with fail
    refine (l4KindNo tk h1 h2 _).mono ?_
    rintro x w2 ⟨rfl, B2⟩
    go_wp2
    go_ret
    refine ⟨rfl, ?_⟩
    ((repeat (first | refine bel_alloc ?_ _ | refine bel_dN ?_ _ | refine Below.drew ?_ | refine Below.setCell ?_ (by first | (simp; done) | (simp; omega)) _)); refine bel_step ?_ B2; (repeat (first | refine bel_alloc ?_ _ | refine bel_dN ?_ _ | refine Below.drew ?_ | refine Below.setCell ?_ (by first | (simp; done) | (simp; omega)) _)); refine bel_step ?_ B1; (repeat (first | refine bel_alloc ?_ _ | refine bel_dN ?_ _ | refine Below.drew ?_ | refine Below.setCell ?_ (by first | (simp; done) | (simp; omega)) _)); exact Below.refl _ _)
  · go_enter Try.func42, Try.ntmps42
    go_wp2_with fail
    refine (form16 _).mono ?_
    rintro x w1 ⟨rfl, B1⟩
    go_wp2_with fail
    refine (formNo tk h1 h2 _).mono ?_
    rintro x w2 ⟨rfl, B2⟩
    go_wp2
    go_ret
    refine ⟨rfl, ?_⟩
    ((repeat (first | refine bel_alloc ?_ _ | refine bel_dN ?_ _ | refine Below.drew ?_ | refine Below.setCell ?_ (by first | (simp; done) | (simp; omega)) _)); refine bel_step ?_ B2; (repeat (first | refine bel_alloc ?_ _ | refine bel_dN ?_ _ | refine Below.drew ?_ | refine Below.setCell ?_ (by first | (simp; done) | (simp; omega)) _)); refine bel_step ?_ B1; (repeat (first | refine bel_alloc ?_ _ | refine bel_dN ?_ _ | refine Below.drew ?_ | refine Below.setCell ?_ (by first | (simp; done) | (simp; omega)) _)); exact Below.refl _ _)

theorem convNoTo32 (tk a : Int) (h1 : tk ≠ 16) (h2 : tk ≠ 32) :
    (∀ w, Calls Try.prog 43 #[.int .i64 32, .int .i64 tk, .int .u32 a] w fun x w' => x = .returned (.int .u32 0) ∧ Below w.heap.size w w') ∧
    (∀ w, Calls Try.prog 42 #[.int .i64 32, .int .i64 tk, .int .u32 a] w fun x w' => x = .returned (.int .u32 0) ∧ Below w.heap.size w w') := by
  refine ⟨fun w => ?_, fun w => ?_⟩
  · go_enter Try.func43, Try.ntmps43
    go_wp2_with fail
    refine (l4Kind32 _).mono ?_
    rintro x w1 ⟨rfl, B1⟩
    go_wp2_with fail
    refine (l4KindNo tk h1 h2 _).mono ?_
    rintro x w2 ⟨rfl, B2⟩
    go_wp2
    go_ret
    refine ⟨rfl, ?_⟩
    ((repeat (first | refine bel_alloc ?_ _ | refine bel_dN ?_ _ | refine Below.drew ?_ | refine Below.setCell ?_ (by first | (simp; done) | (simp; omega)) _)); refine bel_step ?_ B2; (repeat (first | refine bel_alloc ?_ _ | refine bel_dN ?_ _ | refine Below.drew ?_ | refine Below.setCell ?_ (by first | (simp; done) | (simp; omega)) _)); refine bel_step ?_ B1; (repeat (first | refine bel_alloc ?_ _ | refine bel_dN ?_ _ | refine Below.drew ?_ | refine Below.setCell ?_ (by first | (simp; done) | (simp; omega)) _)); exact Below.refl _ _)
  · go_enter Try.func42, Try.ntmps42
    go_wp2_with fail
    refine (form32 _).mono ?_
    rintro x w1 ⟨rfl, B1⟩
    go_wp2_with fail
    refine (formNo tk h1 h2 _).mono ?_
    rintro x w2 ⟨rfl, B2⟩
    go_wp2
    go_ret
    refine ⟨rfl, ?_⟩
    ((repeat (first | refine bel_alloc ?_ _ | refine bel_dN ?_ _ | refine Below.drew ?_ | refine Below.setCell ?_ (by first | (simp; done) | (simp; omega)) _)); refine bel_step ?_ B2; (repeat (first | refine bel_alloc ?_ _ | refine bel_dN ?_ _ | refine Below.drew ?_ | refine Below.setCell ?_ (by first | (simp; done) | (simp; omega)) _)); refine bel_step ?_ B1; (repeat (first | refine bel_alloc ?_ _ | refine bel_dN ?_ _ | refine Below.drew ?_ | refine Below.setCell ?_ (by first | (simp; done) | (simp; omega)) _)); exact Below.refl _ _)

theorem l4KindAny (kind : Int) : ∃ (x p : Int) (ok : Bool), ∀ w, Calls Try.prog 71 #[.int .i64 kind] w fun e w' => e = .returned (.tuple #[.agg #[.int .u64 x, .int .u64 p], .bool ok]) ∧ Below w.heap.size w w' := by
  by_cases h : kind = 16
  · subst h; exact ⟨_, _, _, l4Kind16⟩
  · by_cases h2 : kind = 32
    · subst h2; exact ⟨_, _, _, l4Kind32⟩
    · exact ⟨_, _, _, l4KindNo kind h h2⟩

theorem convNoFrom (fr tk a : Int) (h1 : fr ≠ 16) (h2 : fr ≠ 32) :
    (∀ w, Calls Try.prog 43 #[.int .i64 fr, .int .i64 tk, .int .u32 a] w fun x w' => x = .returned (.int .u32 0) ∧ Below w.heap.size w w') ∧
    (∀ w, Calls Try.prog 42 #[.int .i64 fr, .int .i64 tk, .int .u32 a] w fun x w' => x = .returned (.int .u32 0) ∧ Below w.heap.size w w') := by
  obtain ⟨x, p, ok, KA⟩ := l4KindAny tk
  refine ⟨fun w => ?_, fun w => ?_⟩
  · go_enter Try.func43, Try.ntmps43
    go_wp2_with fail
    refine (l4KindNo fr h1 h2 _).mono ?_
    rintro x w1 ⟨rfl, B1⟩
    go_wp2_with fail
    refine (KA _).mono ?_
    rintro x w2 ⟨rfl, B2⟩
    go_wp2
    go_ret
    refine ⟨rfl, ?_⟩
    ((repeat (first | refine bel_alloc ?_ _ | refine bel_dN ?_ _ | refine Below.drew ?_ | refine Below.setCell ?_ (by first | (simp; done) | (simp; omega)) _)); refine bel_step ?_ B2; (repeat (first | refine bel_alloc ?_ _ | refine bel_dN ?_ _ | refine Below.drew ?_ | refine Below.setCell ?_ (by first | (simp; done) | (simp; omega)) _)); refine bel_step ?_ B1; (repeat (first | refine bel_alloc ?_ _ | refine bel_dN ?_ _ | refine Below.drew ?_ | refine Below.setCell ?_ (by first | (simp; done) | (simp; omega)) _)); exact Below.refl _ _)
  · go_enter Try.func42, Try.ntmps42
    go_wp2_with fail
    refine (formNo fr h1 h2 _).mono ?_
    rintro x w1 ⟨rfl, B1⟩
    go_wp2
    go_ret
    refine ⟨rfl, ?_⟩
    ((repeat (first | refine bel_alloc ?_ _ | refine bel_dN ?_ _ | refine Below.drew ?_ | refine Below.setCell ?_ (by first | (simp; done) | (simp; omega)) _)); refine bel_step ?_ B1; (repeat (first | refine bel_alloc ?_ _ | refine bel_dN ?_ _ | refine Below.drew ?_ | refine Below.setCell ?_ (by first | (simp; done) | (simp; omega)) _)); exact Below.refl _ _)

theorem convBoth (fr tk a : Int) (h0 : 0 ≤ a) (h1 : a ≤ 4294967295) : ∃ r : Int,
    (∀ w, Calls Try.prog 43 #[.int .i64 fr, .int .i64 tk, .int .u32 a] w fun x w' => x = .returned (.int .u32 r) ∧ Below w.heap.size w w') ∧
    (∀ w, Calls Try.prog 42 #[.int .i64 fr, .int .i64 tk, .int .u32 a] w fun x w' => x = .returned (.int .u32 r) ∧ Below w.heap.size w w') := by
  by_cases hf : fr = 16
  · subst hf
    obtain ⟨c0, c1, c2, c3, c4, _, _⟩ := fv16 a
    by_cases ht : tk = 16
    · subst ht
      exact convTo16 16 _ _ _ _ _ a _ _ _ _ form16 (value16 a h0 h1) l4Kind16 (open16 a h0 h1) c0 c1 (by omega) (by omega) (by omega)
    · by_cases ht2 : tk = 32
      · subst ht2
        exact convTo32 16 _ _ _ _ _ a _ _ _ _ form16 (value16 a h0 h1) l4Kind16 (open16 a h0 h1) c0 c1 (by omega) (by omega) (by omega)
      · exact ⟨0, convNoTo16 tk a ht ht2⟩
  · by_cases hf2 : fr = 32
    · subst hf2
      obtain ⟨c0, c1, c2, c3, c4, _, _⟩ := fv32 a
      by_cases ht : tk = 16
      · subst ht
        exact convTo16 32 _ _ _ _ _ a _ _ _ _ form32 (value32 a h0 h1) l4Kind32 (open32 a h0 h1) c0 c1 (by omega) (by omega) (by omega)
      · by_cases ht2 : tk = 32
        · subst ht2
          exact convTo32 32 _ _ _ _ _ a _ _ _ _ form32 (value32 a h0 h1) l4Kind32 (open32 a h0 h1) c0 c1 (by omega) (by omega) (by omega)
        · exact ⟨0, convNoTo32 tk a ht ht2⟩
    · exact ⟨0, convNoFrom fr tk a hf hf2⟩

end Go.Proofs.Ytnimlkobcginjaa
