/-
  Sums of floats by their classes, FAdd and FSub: both sides. (Made by a generator.)
-/
import Derived.Test.YteniijmnpgdpcaaFAddE
import Derived.Deep.RegionWith
import Derived.OpenShut
namespace Go.Proofs.Yteniijmnpgdpcaa
open Go.RowKit

set_option maxRecDepth 100000 in
set_option maxHeartbeats 1000000 in
theorem cSA16 (s1 s2 i1 i2 n2 : Bool) (m1 m2 e1 e2 : Int)  (w : World) :
    Calls Try.prog 37 #[(.agg #[.int .u64 5, .int .u64 10]), (.agg #[.bool s1, .bool i1, .bool true, .int .u64 m1, .int .i64 e1]), (.agg #[.bool s2, .bool i2, .bool n2, .int .u64 m2, .int .i64 e2])] w fun e w' => e = .returned (.int .u32 (31744 + 512)) ∧ Below w.heap.size w w' := by
  go_enter Try.func37, Try.ntmps37
  go_wp2_with fail
  refine (l4Nan16 _).mono ?_
  rintro e w1 ⟨rfl, B1⟩
  go_wp2
  go_ret
  refine ⟨rfl, ?_⟩
  ((repeat (first | refine bel_alloc ?_ _ | refine bel_dN ?_ _ | refine Below.drew ?_ | refine Below.setCell ?_ (by first | (simp; done) | (simp; omega)) _)); refine bel_step ?_ B1; (repeat (first | refine bel_alloc ?_ _ | refine bel_dN ?_ _ | refine Below.drew ?_ | refine Below.setCell ?_ (by first | (simp; done) | (simp; omega)) _)); exact Below.refl _ _)

set_option maxRecDepth 100000 in
set_option maxHeartbeats 1000000 in
theorem cSA32 (s1 s2 i1 i2 n2 : Bool) (m1 m2 e1 e2 : Int)  (w : World) :
    Calls Try.prog 37 #[(.agg #[.int .u64 8, .int .u64 23]), (.agg #[.bool s1, .bool i1, .bool true, .int .u64 m1, .int .i64 e1]), (.agg #[.bool s2, .bool i2, .bool n2, .int .u64 m2, .int .i64 e2])] w fun e w' => e = .returned (.int .u32 (2139095040 + 4194304)) ∧ Below w.heap.size w w' := by
  go_enter Try.func37, Try.ntmps37
  go_wp2_with fail
  refine (l4Nan32 _).mono ?_
  rintro e w1 ⟨rfl, B1⟩
  go_wp2
  go_ret
  refine ⟨rfl, ?_⟩
  ((repeat (first | refine bel_alloc ?_ _ | refine bel_dN ?_ _ | refine Below.drew ?_ | refine Below.setCell ?_ (by first | (simp; done) | (simp; omega)) _)); refine bel_step ?_ B1; (repeat (first | refine bel_alloc ?_ _ | refine bel_dN ?_ _ | refine Below.drew ?_ | refine Below.setCell ?_ (by first | (simp; done) | (simp; omega)) _)); exact Below.refl _ _)

set_option maxRecDepth 100000 in
set_option maxHeartbeats 1000000 in
theorem cIA16 (s1 s2 : Bool) (c2 m1 m2 e1 e2 : Int)  (w : World) :
    Calls Try.prog 28 #[(.agg #[.int .i64 10, .int .i64 15, .int .u32 31]), (.agg #[.int .i64 2, .bool s1, .int .u64 m1, .int .i64 e1]), (.agg #[.int .i64 c2, .bool s2, .int .u64 m2, .int .i64 e2])] w fun e w' => e = .returned (.int .u32 (31744 + 512)) ∧ Below w.heap.size w w' := by
  go_enter Try.func28, Try.ntmps28
  go_wp2_with fail
  refine (noNumber16 _).mono ?_
  rintro e w1 ⟨rfl, B1⟩
  go_wp2
  go_ret
  refine ⟨rfl, ?_⟩
  ((repeat (first | refine bel_alloc ?_ _ | refine bel_dN ?_ _ | refine Below.drew ?_ | refine Below.setCell ?_ (by first | (simp; done) | (simp; omega)) _)); refine bel_step ?_ B1; (repeat (first | refine bel_alloc ?_ _ | refine bel_dN ?_ _ | refine Below.drew ?_ | refine Below.setCell ?_ (by first | (simp; done) | (simp; omega)) _)); exact Below.refl _ _)

set_option maxRecDepth 100000 in
set_option maxHeartbeats 1000000 in
theorem cIA32 (s1 s2 : Bool) (c2 m1 m2 e1 e2 : Int)  (w : World) :
    Calls Try.prog 28 #[(.agg #[.int .i64 23, .int .i64 127, .int .u32 255]), (.agg #[.int .i64 2, .bool s1, .int .u64 m1, .int .i64 e1]), (.agg #[.int .i64 c2, .bool s2, .int .u64 m2, .int .i64 e2])] w fun e w' => e = .returned (.int .u32 (2139095040 + 4194304)) ∧ Below w.heap.size w w' := by
  go_enter Try.func28, Try.ntmps28
  go_wp2_with fail
  refine (noNumber32 _).mono ?_
  rintro e w1 ⟨rfl, B1⟩
  go_wp2
  go_ret
  refine ⟨rfl, ?_⟩
  ((repeat (first | refine bel_alloc ?_ _ | refine bel_dN ?_ _ | refine Below.drew ?_ | refine Below.setCell ?_ (by first | (simp; done) | (simp; omega)) _)); refine bel_step ?_ B1; (repeat (first | refine bel_alloc ?_ _ | refine bel_dN ?_ _ | refine Below.drew ?_ | refine Below.setCell ?_ (by first | (simp; done) | (simp; omega)) _)); exact Below.refl _ _)

set_option maxRecDepth 100000 in
set_option maxHeartbeats 1000000 in
theorem cSB016 (s1 s2 : Bool) (m1 m2 e1 e2 : Int)  (w : World) :
    Calls Try.prog 37 #[(.agg #[.int .u64 5, .int .u64 10]), (.agg #[.bool s1, .bool false, .bool false, .int .u64 m1, .int .i64 e1]), (.agg #[.bool s2, .bool false, .bool true, .int .u64 m2, .int .i64 e2])] w fun e w' => e = .returned (.int .u32 (31744 + 512)) ∧ Below w.heap.size w w' := by
  go_enter Try.func37, Try.ntmps37
  go_wp2_with fail
  refine (l4Nan16 _).mono ?_
  rintro e w1 ⟨rfl, B1⟩
  go_wp2
  go_ret
  refine ⟨rfl, ?_⟩
  ((repeat (first | refine bel_alloc ?_ _ | refine bel_dN ?_ _ | refine Below.drew ?_ | refine Below.setCell ?_ (by first | (simp; done) | (simp; omega)) _)); refine bel_step ?_ B1; (repeat (first | refine bel_alloc ?_ _ | refine bel_dN ?_ _ | refine Below.drew ?_ | refine Below.setCell ?_ (by first | (simp; done) | (simp; omega)) _)); exact Below.refl _ _)

set_option maxRecDepth 100000 in
set_option maxHeartbeats 1000000 in
theorem cSB032 (s1 s2 : Bool) (m1 m2 e1 e2 : Int)  (w : World) :
    Calls Try.prog 37 #[(.agg #[.int .u64 8, .int .u64 23]), (.agg #[.bool s1, .bool false, .bool false, .int .u64 m1, .int .i64 e1]), (.agg #[.bool s2, .bool false, .bool true, .int .u64 m2, .int .i64 e2])] w fun e w' => e = .returned (.int .u32 (2139095040 + 4194304)) ∧ Below w.heap.size w w' := by
  go_enter Try.func37, Try.ntmps37
  go_wp2_with fail
  refine (l4Nan32 _).mono ?_
  rintro e w1 ⟨rfl, B1⟩
  go_wp2
  go_ret
  refine ⟨rfl, ?_⟩
  ((repeat (first | refine bel_alloc ?_ _ | refine bel_dN ?_ _ | refine Below.drew ?_ | refine Below.setCell ?_ (by first | (simp; done) | (simp; omega)) _)); refine bel_step ?_ B1; (repeat (first | refine bel_alloc ?_ _ | refine bel_dN ?_ _ | refine Below.drew ?_ | refine Below.setCell ?_ (by first | (simp; done) | (simp; omega)) _)); exact Below.refl _ _)

set_option maxRecDepth 100000 in
set_option maxHeartbeats 1000000 in
theorem cIB016 (s1 s2 : Bool) (m1 m2 e1 e2 : Int)  (w : World) :
    Calls Try.prog 28 #[(.agg #[.int .i64 10, .int .i64 15, .int .u32 31]), (.agg #[.int .i64 0, .bool s1, .int .u64 m1, .int .i64 e1]), (.agg #[.int .i64 2, .bool s2, .int .u64 m2, .int .i64 e2])] w fun e w' => e = .returned (.int .u32 (31744 + 512)) ∧ Below w.heap.size w w' := by
  go_enter Try.func28, Try.ntmps28
  go_wp2_with fail
  refine (noNumber16 _).mono ?_
  rintro e w1 ⟨rfl, B1⟩
  go_wp2
  go_ret
  refine ⟨rfl, ?_⟩
  ((repeat (first | refine bel_alloc ?_ _ | refine bel_dN ?_ _ | refine Below.drew ?_ | refine Below.setCell ?_ (by first | (simp; done) | (simp; omega)) _)); refine bel_step ?_ B1; (repeat (first | refine bel_alloc ?_ _ | refine bel_dN ?_ _ | refine Below.drew ?_ | refine Below.setCell ?_ (by first | (simp; done) | (simp; omega)) _)); exact Below.refl _ _)

set_option maxRecDepth 100000 in
set_option maxHeartbeats 1000000 in
theorem cIB032 (s1 s2 : Bool) (m1 m2 e1 e2 : Int)  (w : World) :
    Calls Try.prog 28 #[(.agg #[.int .i64 23, .int .i64 127, .int .u32 255]), (.agg #[.int .i64 0, .bool s1, .int .u64 m1, .int .i64 e1]), (.agg #[.int .i64 2, .bool s2, .int .u64 m2, .int .i64 e2])] w fun e w' => e = .returned (.int .u32 (2139095040 + 4194304)) ∧ Below w.heap.size w w' := by
  go_enter Try.func28, Try.ntmps28
  go_wp2_with fail
  refine (noNumber32 _).mono ?_
  rintro e w1 ⟨rfl, B1⟩
  go_wp2
  go_ret
  refine ⟨rfl, ?_⟩
  ((repeat (first | refine bel_alloc ?_ _ | refine bel_dN ?_ _ | refine Below.drew ?_ | refine Below.setCell ?_ (by first | (simp; done) | (simp; omega)) _)); refine bel_step ?_ B1; (repeat (first | refine bel_alloc ?_ _ | refine bel_dN ?_ _ | refine Below.drew ?_ | refine Below.setCell ?_ (by first | (simp; done) | (simp; omega)) _)); exact Below.refl _ _)

set_option maxRecDepth 100000 in
set_option maxHeartbeats 1000000 in
theorem cSB116 (s1 s2 : Bool) (m1 m2 e1 e2 : Int)  (w : World) :
    Calls Try.prog 37 #[(.agg #[.int .u64 5, .int .u64 10]), (.agg #[.bool s1, .bool true, .bool false, .int .u64 m1, .int .i64 e1]), (.agg #[.bool s2, .bool false, .bool true, .int .u64 m2, .int .i64 e2])] w fun e w' => e = .returned (.int .u32 (31744 + 512)) ∧ Below w.heap.size w w' := by
  go_enter Try.func37, Try.ntmps37
  go_wp2_with fail
  refine (l4Nan16 _).mono ?_
  rintro e w1 ⟨rfl, B1⟩
  go_wp2
  go_ret
  refine ⟨rfl, ?_⟩
  ((repeat (first | refine bel_alloc ?_ _ | refine bel_dN ?_ _ | refine Below.drew ?_ | refine Below.setCell ?_ (by first | (simp; done) | (simp; omega)) _)); refine bel_step ?_ B1; (repeat (first | refine bel_alloc ?_ _ | refine bel_dN ?_ _ | refine Below.drew ?_ | refine Below.setCell ?_ (by first | (simp; done) | (simp; omega)) _)); exact Below.refl _ _)

set_option maxRecDepth 100000 in
set_option maxHeartbeats 1000000 in
theorem cSB132 (s1 s2 : Bool) (m1 m2 e1 e2 : Int)  (w : World) :
    Calls Try.prog 37 #[(.agg #[.int .u64 8, .int .u64 23]), (.agg #[.bool s1, .bool true, .bool false, .int .u64 m1, .int .i64 e1]), (.agg #[.bool s2, .bool false, .bool true, .int .u64 m2, .int .i64 e2])] w fun e w' => e = .returned (.int .u32 (2139095040 + 4194304)) ∧ Below w.heap.size w w' := by
  go_enter Try.func37, Try.ntmps37
  go_wp2_with fail
  refine (l4Nan32 _).mono ?_
  rintro e w1 ⟨rfl, B1⟩
  go_wp2
  go_ret
  refine ⟨rfl, ?_⟩
  ((repeat (first | refine bel_alloc ?_ _ | refine bel_dN ?_ _ | refine Below.drew ?_ | refine Below.setCell ?_ (by first | (simp; done) | (simp; omega)) _)); refine bel_step ?_ B1; (repeat (first | refine bel_alloc ?_ _ | refine bel_dN ?_ _ | refine Below.drew ?_ | refine Below.setCell ?_ (by first | (simp; done) | (simp; omega)) _)); exact Below.refl _ _)

set_option maxRecDepth 100000 in
set_option maxHeartbeats 1000000 in
theorem cIB116 (s1 s2 : Bool) (m1 m2 e1 e2 : Int)  (w : World) :
    Calls Try.prog 28 #[(.agg #[.int .i64 10, .int .i64 15, .int .u32 31]), (.agg #[.int .i64 1, .bool s1, .int .u64 m1, .int .i64 e1]), (.agg #[.int .i64 2, .bool s2, .int .u64 m2, .int .i64 e2])] w fun e w' => e = .returned (.int .u32 (31744 + 512)) ∧ Below w.heap.size w w' := by
  go_enter Try.func28, Try.ntmps28
  go_wp2_with fail
  refine (noNumber16 _).mono ?_
  rintro e w1 ⟨rfl, B1⟩
  go_wp2
  go_ret
  refine ⟨rfl, ?_⟩
  ((repeat (first | refine bel_alloc ?_ _ | refine bel_dN ?_ _ | refine Below.drew ?_ | refine Below.setCell ?_ (by first | (simp; done) | (simp; omega)) _)); refine bel_step ?_ B1; (repeat (first | refine bel_alloc ?_ _ | refine bel_dN ?_ _ | refine Below.drew ?_ | refine Below.setCell ?_ (by first | (simp; done) | (simp; omega)) _)); exact Below.refl _ _)

set_option maxRecDepth 100000 in
set_option maxHeartbeats 1000000 in
theorem cIB132 (s1 s2 : Bool) (m1 m2 e1 e2 : Int)  (w : World) :
    Calls Try.prog 28 #[(.agg #[.int .i64 23, .int .i64 127, .int .u32 255]), (.agg #[.int .i64 1, .bool s1, .int .u64 m1, .int .i64 e1]), (.agg #[.int .i64 2, .bool s2, .int .u64 m2, .int .i64 e2])] w fun e w' => e = .returned (.int .u32 (2139095040 + 4194304)) ∧ Below w.heap.size w w' := by
  go_enter Try.func28, Try.ntmps28
  go_wp2_with fail
  refine (noNumber32 _).mono ?_
  rintro e w1 ⟨rfl, B1⟩
  go_wp2
  go_ret
  refine ⟨rfl, ?_⟩
  ((repeat (first | refine bel_alloc ?_ _ | refine bel_dN ?_ _ | refine Below.drew ?_ | refine Below.setCell ?_ (by first | (simp; done) | (simp; omega)) _)); refine bel_step ?_ B1; (repeat (first | refine bel_alloc ?_ _ | refine bel_dN ?_ _ | refine Below.drew ?_ | refine Below.setCell ?_ (by first | (simp; done) | (simp; omega)) _)); exact Below.refl _ _)

set_option maxRecDepth 100000 in
set_option maxHeartbeats 1000000 in
theorem cSCd16 (s1 : Bool) (m1 m2 e1 e2 : Int)  (w : World) :
    Calls Try.prog 37 #[(.agg #[.int .u64 5, .int .u64 10]), (.agg #[.bool s1, .bool true, .bool false, .int .u64 m1, .int .i64 e1]), (.agg #[.bool (!s1), .bool true, .bool false, .int .u64 m2, .int .i64 e2])] w fun e w' => e = .returned (.int .u32 (31744 + 512)) ∧ Below w.heap.size w w' := by
  have hn : (s1 == !s1) = false := by cases s1 <;> rfl
  go_enter Try.func37, Try.ntmps37
  go_wp2_with fail
  refine (l4Nan16 _).mono ?_
  rintro e w1 ⟨rfl, B1⟩
  go_wp2
  go_ret
  refine ⟨rfl, ?_⟩
  ((repeat (first | refine bel_alloc ?_ _ | refine bel_dN ?_ _ | refine Below.drew ?_ | refine Below.setCell ?_ (by first | (simp; done) | (simp; omega)) _)); refine bel_step ?_ B1; (repeat (first | refine bel_alloc ?_ _ | refine bel_dN ?_ _ | refine Below.drew ?_ | refine Below.setCell ?_ (by first | (simp; done) | (simp; omega)) _)); exact Below.refl _ _)

set_option maxRecDepth 100000 in
set_option maxHeartbeats 1000000 in
theorem cSCd32 (s1 : Bool) (m1 m2 e1 e2 : Int)  (w : World) :
    Calls Try.prog 37 #[(.agg #[.int .u64 8, .int .u64 23]), (.agg #[.bool s1, .bool true, .bool false, .int .u64 m1, .int .i64 e1]), (.agg #[.bool (!s1), .bool true, .bool false, .int .u64 m2, .int .i64 e2])] w fun e w' => e = .returned (.int .u32 (2139095040 + 4194304)) ∧ Below w.heap.size w w' := by
  have hn : (s1 == !s1) = false := by cases s1 <;> rfl
  go_enter Try.func37, Try.ntmps37
  go_wp2_with fail
  refine (l4Nan32 _).mono ?_
  rintro e w1 ⟨rfl, B1⟩
  go_wp2
  go_ret
  refine ⟨rfl, ?_⟩
  ((repeat (first | refine bel_alloc ?_ _ | refine bel_dN ?_ _ | refine Below.drew ?_ | refine Below.setCell ?_ (by first | (simp; done) | (simp; omega)) _)); refine bel_step ?_ B1; (repeat (first | refine bel_alloc ?_ _ | refine bel_dN ?_ _ | refine Below.drew ?_ | refine Below.setCell ?_ (by first | (simp; done) | (simp; omega)) _)); exact Below.refl _ _)

set_option maxRecDepth 100000 in
set_option maxHeartbeats 1000000 in
theorem cICd16 (s1 : Bool) (m1 m2 e1 e2 : Int)  (w : World) :
    Calls Try.prog 28 #[(.agg #[.int .i64 10, .int .i64 15, .int .u32 31]), (.agg #[.int .i64 1, .bool s1, .int .u64 m1, .int .i64 e1]), (.agg #[.int .i64 1, .bool (!s1), .int .u64 m2, .int .i64 e2])] w fun e w' => e = .returned (.int .u32 (31744 + 512)) ∧ Below w.heap.size w w' := by
  have hn : (s1 == !s1) = false := by cases s1 <;> rfl
  go_enter Try.func28, Try.ntmps28
  go_wp2_with fail
  refine (noNumber16 _).mono ?_
  rintro e w1 ⟨rfl, B1⟩
  go_wp2
  go_ret
  refine ⟨rfl, ?_⟩
  ((repeat (first | refine bel_alloc ?_ _ | refine bel_dN ?_ _ | refine Below.drew ?_ | refine Below.setCell ?_ (by first | (simp; done) | (simp; omega)) _)); refine bel_step ?_ B1; (repeat (first | refine bel_alloc ?_ _ | refine bel_dN ?_ _ | refine Below.drew ?_ | refine Below.setCell ?_ (by first | (simp; done) | (simp; omega)) _)); exact Below.refl _ _)

set_option maxRecDepth 100000 in
set_option maxHeartbeats 1000000 in
theorem cICd32 (s1 : Bool) (m1 m2 e1 e2 : Int)  (w : World) :
    Calls Try.prog 28 #[(.agg #[.int .i64 23, .int .i64 127, .int .u32 255]), (.agg #[.int .i64 1, .bool s1, .int .u64 m1, .int .i64 e1]), (.agg #[.int .i64 1, .bool (!s1), .int .u64 m2, .int .i64 e2])] w fun e w' => e = .returned (.int .u32 (2139095040 + 4194304)) ∧ Below w.heap.size w w' := by
  have hn : (s1 == !s1) = false := by cases s1 <;> rfl
  go_enter Try.func28, Try.ntmps28
  go_wp2_with fail
  refine (noNumber32 _).mono ?_
  rintro e w1 ⟨rfl, B1⟩
  go_wp2
  go_ret
  refine ⟨rfl, ?_⟩
  ((repeat (first | refine bel_alloc ?_ _ | refine bel_dN ?_ _ | refine Below.drew ?_ | refine Below.setCell ?_ (by first | (simp; done) | (simp; omega)) _)); refine bel_step ?_ B1; (repeat (first | refine bel_alloc ?_ _ | refine bel_dN ?_ _ | refine Below.drew ?_ | refine Below.setCell ?_ (by first | (simp; done) | (simp; omega)) _)); exact Below.refl _ _)

set_option maxRecDepth 100000 in
set_option maxHeartbeats 1000000 in
theorem cSCs16 (s1 : Bool) (m1 m2 e1 e2 : Int)  (w : World) :
    Calls Try.prog 37 #[(.agg #[.int .u64 5, .int .u64 10]), (.agg #[.bool s1, .bool true, .bool false, .int .u64 m1, .int .i64 e1]), (.agg #[.bool s1, .bool true, .bool false, .int .u64 m2, .int .i64 e2])] w fun e w' => e = .returned (.int .u32 ((s1.toNat : Int) * 32768 + 31744)) ∧ Below w.heap.size w w' := by
  go_enter Try.func37, Try.ntmps37
  go_wp2_with fail
  refine (l4Inf16 s1 _).mono ?_
  rintro e w1 ⟨rfl, B1⟩
  go_wp2
  go_ret
  refine ⟨rfl, ?_⟩
  ((repeat (first | refine bel_alloc ?_ _ | refine bel_dN ?_ _ | refine Below.drew ?_ | refine Below.setCell ?_ (by first | (simp; done) | (simp; omega)) _)); refine bel_step ?_ B1; (repeat (first | refine bel_alloc ?_ _ | refine bel_dN ?_ _ | refine Below.drew ?_ | refine Below.setCell ?_ (by first | (simp; done) | (simp; omega)) _)); exact Below.refl _ _)

set_option maxRecDepth 100000 in
set_option maxHeartbeats 1000000 in
theorem cSCs32 (s1 : Bool) (m1 m2 e1 e2 : Int)  (w : World) :
    Calls Try.prog 37 #[(.agg #[.int .u64 8, .int .u64 23]), (.agg #[.bool s1, .bool true, .bool false, .int .u64 m1, .int .i64 e1]), (.agg #[.bool s1, .bool true, .bool false, .int .u64 m2, .int .i64 e2])] w fun e w' => e = .returned (.int .u32 ((s1.toNat : Int) * 2147483648 + 2139095040)) ∧ Below w.heap.size w w' := by
  go_enter Try.func37, Try.ntmps37
  go_wp2_with fail
  refine (l4Inf32 s1 _).mono ?_
  rintro e w1 ⟨rfl, B1⟩
  go_wp2
  go_ret
  refine ⟨rfl, ?_⟩
  ((repeat (first | refine bel_alloc ?_ _ | refine bel_dN ?_ _ | refine Below.drew ?_ | refine Below.setCell ?_ (by first | (simp; done) | (simp; omega)) _)); refine bel_step ?_ B1; (repeat (first | refine bel_alloc ?_ _ | refine bel_dN ?_ _ | refine Below.drew ?_ | refine Below.setCell ?_ (by first | (simp; done) | (simp; omega)) _)); exact Below.refl _ _)

set_option maxRecDepth 100000 in
set_option maxHeartbeats 1000000 in
theorem cICs16 (s1 : Bool) (m1 m2 e1 e2 : Int)  (w : World) :
    Calls Try.prog 28 #[(.agg #[.int .i64 10, .int .i64 15, .int .u32 31]), (.agg #[.int .i64 1, .bool s1, .int .u64 m1, .int .i64 e1]), (.agg #[.int .i64 1, .bool s1, .int .u64 m2, .int .i64 e2])] w fun e w' => e = .returned (.int .u32 ((s1.toNat : Int) * 32768 + 31744)) ∧ Below w.heap.size w w' := by
  go_enter Try.func28, Try.ntmps28
  go_wp2_with fail
  refine (infinite16 s1 _).mono ?_
  rintro e w1 ⟨rfl, B1⟩
  go_wp2
  go_ret
  refine ⟨rfl, ?_⟩
  ((repeat (first | refine bel_alloc ?_ _ | refine bel_dN ?_ _ | refine Below.drew ?_ | refine Below.setCell ?_ (by first | (simp; done) | (simp; omega)) _)); refine bel_step ?_ B1; (repeat (first | refine bel_alloc ?_ _ | refine bel_dN ?_ _ | refine Below.drew ?_ | refine Below.setCell ?_ (by first | (simp; done) | (simp; omega)) _)); exact Below.refl _ _)

set_option maxRecDepth 100000 in
set_option maxHeartbeats 1000000 in
theorem cICs32 (s1 : Bool) (m1 m2 e1 e2 : Int)  (w : World) :
    Calls Try.prog 28 #[(.agg #[.int .i64 23, .int .i64 127, .int .u32 255]), (.agg #[.int .i64 1, .bool s1, .int .u64 m1, .int .i64 e1]), (.agg #[.int .i64 1, .bool s1, .int .u64 m2, .int .i64 e2])] w fun e w' => e = .returned (.int .u32 ((s1.toNat : Int) * 2147483648 + 2139095040)) ∧ Below w.heap.size w w' := by
  go_enter Try.func28, Try.ntmps28
  go_wp2_with fail
  refine (infinite32 s1 _).mono ?_
  rintro e w1 ⟨rfl, B1⟩
  go_wp2
  go_ret
  refine ⟨rfl, ?_⟩
  ((repeat (first | refine bel_alloc ?_ _ | refine bel_dN ?_ _ | refine Below.drew ?_ | refine Below.setCell ?_ (by first | (simp; done) | (simp; omega)) _)); refine bel_step ?_ B1; (repeat (first | refine bel_alloc ?_ _ | refine bel_dN ?_ _ | refine Below.drew ?_ | refine Below.setCell ?_ (by first | (simp; done) | (simp; omega)) _)); exact Below.refl _ _)

set_option maxRecDepth 100000 in
set_option maxHeartbeats 1000000 in
theorem cSD16 (s1 s2 : Bool) (m1 m2 e1 e2 : Int)  (w : World) :
    Calls Try.prog 37 #[(.agg #[.int .u64 5, .int .u64 10]), (.agg #[.bool s1, .bool true, .bool false, .int .u64 m1, .int .i64 e1]), (.agg #[.bool s2, .bool false, .bool false, .int .u64 m2, .int .i64 e2])] w fun e w' => e = .returned (.int .u32 ((s1.toNat : Int) * 32768 + 31744)) ∧ Below w.heap.size w w' := by
  go_enter Try.func37, Try.ntmps37
  go_wp2_with fail
  refine (l4Inf16 s1 _).mono ?_
  rintro e w1 ⟨rfl, B1⟩
  go_wp2
  go_ret
  refine ⟨rfl, ?_⟩
  ((repeat (first | refine bel_alloc ?_ _ | refine bel_dN ?_ _ | refine Below.drew ?_ | refine Below.setCell ?_ (by first | (simp; done) | (simp; omega)) _)); refine bel_step ?_ B1; (repeat (first | refine bel_alloc ?_ _ | refine bel_dN ?_ _ | refine Below.drew ?_ | refine Below.setCell ?_ (by first | (simp; done) | (simp; omega)) _)); exact Below.refl _ _)

set_option maxRecDepth 100000 in
set_option maxHeartbeats 1000000 in
theorem cSD32 (s1 s2 : Bool) (m1 m2 e1 e2 : Int)  (w : World) :
    Calls Try.prog 37 #[(.agg #[.int .u64 8, .int .u64 23]), (.agg #[.bool s1, .bool true, .bool false, .int .u64 m1, .int .i64 e1]), (.agg #[.bool s2, .bool false, .bool false, .int .u64 m2, .int .i64 e2])] w fun e w' => e = .returned (.int .u32 ((s1.toNat : Int) * 2147483648 + 2139095040)) ∧ Below w.heap.size w w' := by
  go_enter Try.func37, Try.ntmps37
  go_wp2_with fail
  refine (l4Inf32 s1 _).mono ?_
  rintro e w1 ⟨rfl, B1⟩
  go_wp2
  go_ret
  refine ⟨rfl, ?_⟩
  ((repeat (first | refine bel_alloc ?_ _ | refine bel_dN ?_ _ | refine Below.drew ?_ | refine Below.setCell ?_ (by first | (simp; done) | (simp; omega)) _)); refine bel_step ?_ B1; (repeat (first | refine bel_alloc ?_ _ | refine bel_dN ?_ _ | refine Below.drew ?_ | refine Below.setCell ?_ (by first | (simp; done) | (simp; omega)) _)); exact Below.refl _ _)

set_option maxRecDepth 100000 in
set_option maxHeartbeats 1000000 in
theorem cID16 (s1 s2 : Bool) (m1 m2 e1 e2 : Int)  (w : World) :
    Calls Try.prog 28 #[(.agg #[.int .i64 10, .int .i64 15, .int .u32 31]), (.agg #[.int .i64 1, .bool s1, .int .u64 m1, .int .i64 e1]), (.agg #[.int .i64 0, .bool s2, .int .u64 m2, .int .i64 e2])] w fun e w' => e = .returned (.int .u32 ((s1.toNat : Int) * 32768 + 31744)) ∧ Below w.heap.size w w' := by
  go_enter Try.func28, Try.ntmps28
  go_wp2_with fail
  refine (infinite16 s1 _).mono ?_
  rintro e w1 ⟨rfl, B1⟩
  go_wp2
  go_ret
  refine ⟨rfl, ?_⟩
  ((repeat (first | refine bel_alloc ?_ _ | refine bel_dN ?_ _ | refine Below.drew ?_ | refine Below.setCell ?_ (by first | (simp; done) | (simp; omega)) _)); refine bel_step ?_ B1; (repeat (first | refine bel_alloc ?_ _ | refine bel_dN ?_ _ | refine Below.drew ?_ | refine Below.setCell ?_ (by first | (simp; done) | (simp; omega)) _)); exact Below.refl _ _)

set_option maxRecDepth 100000 in
set_option maxHeartbeats 1000000 in
theorem cID32 (s1 s2 : Bool) (m1 m2 e1 e2 : Int)  (w : World) :
    Calls Try.prog 28 #[(.agg #[.int .i64 23, .int .i64 127, .int .u32 255]), (.agg #[.int .i64 1, .bool s1, .int .u64 m1, .int .i64 e1]), (.agg #[.int .i64 0, .bool s2, .int .u64 m2, .int .i64 e2])] w fun e w' => e = .returned (.int .u32 ((s1.toNat : Int) * 2147483648 + 2139095040)) ∧ Below w.heap.size w w' := by
  go_enter Try.func28, Try.ntmps28
  go_wp2_with fail
  refine (infinite32 s1 _).mono ?_
  rintro e w1 ⟨rfl, B1⟩
  go_wp2
  go_ret
  refine ⟨rfl, ?_⟩
  ((repeat (first | refine bel_alloc ?_ _ | refine bel_dN ?_ _ | refine Below.drew ?_ | refine Below.setCell ?_ (by first | (simp; done) | (simp; omega)) _)); refine bel_step ?_ B1; (repeat (first | refine bel_alloc ?_ _ | refine bel_dN ?_ _ | refine Below.drew ?_ | refine Below.setCell ?_ (by first | (simp; done) | (simp; omega)) _)); exact Below.refl _ _)

set_option maxRecDepth 100000 in
set_option maxHeartbeats 1000000 in
theorem cSE16 (s1 s2 : Bool) (m1 m2 e1 e2 : Int)  (w : World) :
    Calls Try.prog 37 #[(.agg #[.int .u64 5, .int .u64 10]), (.agg #[.bool s1, .bool false, .bool false, .int .u64 m1, .int .i64 e1]), (.agg #[.bool s2, .bool true, .bool false, .int .u64 m2, .int .i64 e2])] w fun e w' => e = .returned (.int .u32 ((s2.toNat : Int) * 32768 + 31744)) ∧ Below w.heap.size w w' := by
  go_enter Try.func37, Try.ntmps37
  go_wp2_with fail
  refine (l4Inf16 s2 _).mono ?_
  rintro e w1 ⟨rfl, B1⟩
  go_wp2
  go_ret
  refine ⟨rfl, ?_⟩
  ((repeat (first | refine bel_alloc ?_ _ | refine bel_dN ?_ _ | refine Below.drew ?_ | refine Below.setCell ?_ (by first | (simp; done) | (simp; omega)) _)); refine bel_step ?_ B1; (repeat (first | refine bel_alloc ?_ _ | refine bel_dN ?_ _ | refine Below.drew ?_ | refine Below.setCell ?_ (by first | (simp; done) | (simp; omega)) _)); exact Below.refl _ _)

set_option maxRecDepth 100000 in
set_option maxHeartbeats 1000000 in
theorem cSE32 (s1 s2 : Bool) (m1 m2 e1 e2 : Int)  (w : World) :
    Calls Try.prog 37 #[(.agg #[.int .u64 8, .int .u64 23]), (.agg #[.bool s1, .bool false, .bool false, .int .u64 m1, .int .i64 e1]), (.agg #[.bool s2, .bool true, .bool false, .int .u64 m2, .int .i64 e2])] w fun e w' => e = .returned (.int .u32 ((s2.toNat : Int) * 2147483648 + 2139095040)) ∧ Below w.heap.size w w' := by
  go_enter Try.func37, Try.ntmps37
  go_wp2_with fail
  refine (l4Inf32 s2 _).mono ?_
  rintro e w1 ⟨rfl, B1⟩
  go_wp2
  go_ret
  refine ⟨rfl, ?_⟩
  ((repeat (first | refine bel_alloc ?_ _ | refine bel_dN ?_ _ | refine Below.drew ?_ | refine Below.setCell ?_ (by first | (simp; done) | (simp; omega)) _)); refine bel_step ?_ B1; (repeat (first | refine bel_alloc ?_ _ | refine bel_dN ?_ _ | refine Below.drew ?_ | refine Below.setCell ?_ (by first | (simp; done) | (simp; omega)) _)); exact Below.refl _ _)

set_option maxRecDepth 100000 in
set_option maxHeartbeats 1000000 in
theorem cIE16 (s1 s2 : Bool) (m1 m2 e1 e2 : Int)  (w : World) :
    Calls Try.prog 28 #[(.agg #[.int .i64 10, .int .i64 15, .int .u32 31]), (.agg #[.int .i64 0, .bool s1, .int .u64 m1, .int .i64 e1]), (.agg #[.int .i64 1, .bool s2, .int .u64 m2, .int .i64 e2])] w fun e w' => e = .returned (.int .u32 ((s2.toNat : Int) * 32768 + 31744)) ∧ Below w.heap.size w w' := by
  go_enter Try.func28, Try.ntmps28
  go_wp2_with fail
  refine (infinite16 s2 _).mono ?_
  rintro e w1 ⟨rfl, B1⟩
  go_wp2
  go_ret
  refine ⟨rfl, ?_⟩
  ((repeat (first | refine bel_alloc ?_ _ | refine bel_dN ?_ _ | refine Below.drew ?_ | refine Below.setCell ?_ (by first | (simp; done) | (simp; omega)) _)); refine bel_step ?_ B1; (repeat (first | refine bel_alloc ?_ _ | refine bel_dN ?_ _ | refine Below.drew ?_ | refine Below.setCell ?_ (by first | (simp; done) | (simp; omega)) _)); exact Below.refl _ _)

set_option maxRecDepth 100000 in
set_option maxHeartbeats 1000000 in
theorem cIE32 (s1 s2 : Bool) (m1 m2 e1 e2 : Int)  (w : World) :
    Calls Try.prog 28 #[(.agg #[.int .i64 23, .int .i64 127, .int .u32 255]), (.agg #[.int .i64 0, .bool s1, .int .u64 m1, .int .i64 e1]), (.agg #[.int .i64 1, .bool s2, .int .u64 m2, .int .i64 e2])] w fun e w' => e = .returned (.int .u32 ((s2.toNat : Int) * 2147483648 + 2139095040)) ∧ Below w.heap.size w w' := by
  go_enter Try.func28, Try.ntmps28
  go_wp2_with fail
  refine (infinite32 s2 _).mono ?_
  rintro e w1 ⟨rfl, B1⟩
  go_wp2
  go_ret
  refine ⟨rfl, ?_⟩
  ((repeat (first | refine bel_alloc ?_ _ | refine bel_dN ?_ _ | refine Below.drew ?_ | refine Below.setCell ?_ (by first | (simp; done) | (simp; omega)) _)); refine bel_step ?_ B1; (repeat (first | refine bel_alloc ?_ _ | refine bel_dN ?_ _ | refine Below.drew ?_ | refine Below.setCell ?_ (by first | (simp; done) | (simp; omega)) _)); exact Below.refl _ _)

set_option maxRecDepth 100000 in
set_option maxHeartbeats 1000000 in
theorem cIF16 (s1 s2 : Bool) (m1 m2 e1 e2 r : Int) (H : ∀ w, Calls Try.prog 50 #[(.agg #[.int .i64 10, .int .i64 15, .int .u32 31]), (.agg #[.int .i64 0, .bool s1, .int .u64 m1, .int .i64 e1]), (.agg #[.int .i64 0, .bool s2, .int .u64 m2, .int .i64 e2])] w fun e w' => e = .returned (.int .u32 r) ∧ Below w.heap.size w w') (w : World) :
    Calls Try.prog 28 #[(.agg #[.int .i64 10, .int .i64 15, .int .u32 31]), (.agg #[.int .i64 0, .bool s1, .int .u64 m1, .int .i64 e1]), (.agg #[.int .i64 0, .bool s2, .int .u64 m2, .int .i64 e2])] w fun e w' => e = .returned (.int .u32 (r)) ∧ Below w.heap.size w w' := by
  go_enter Try.func28, Try.ntmps28
  go_wp2_with fail
  refine (H _).mono ?_
  rintro e w1 ⟨rfl, B1⟩
  go_wp2
  go_ret
  refine ⟨rfl, ?_⟩
  ((repeat (first | refine bel_alloc ?_ _ | refine bel_dN ?_ _ | refine Below.drew ?_ | refine Below.setCell ?_ (by first | (simp; done) | (simp; omega)) _)); refine bel_step ?_ B1; (repeat (first | refine bel_alloc ?_ _ | refine bel_dN ?_ _ | refine Below.drew ?_ | refine Below.setCell ?_ (by first | (simp; done) | (simp; omega)) _)); exact Below.refl _ _)

set_option maxRecDepth 100000 in
set_option maxHeartbeats 1000000 in
theorem cIF32 (s1 s2 : Bool) (m1 m2 e1 e2 r : Int) (H : ∀ w, Calls Try.prog 50 #[(.agg #[.int .i64 23, .int .i64 127, .int .u32 255]), (.agg #[.int .i64 0, .bool s1, .int .u64 m1, .int .i64 e1]), (.agg #[.int .i64 0, .bool s2, .int .u64 m2, .int .i64 e2])] w fun e w' => e = .returned (.int .u32 r) ∧ Below w.heap.size w w') (w : World) :
    Calls Try.prog 28 #[(.agg #[.int .i64 23, .int .i64 127, .int .u32 255]), (.agg #[.int .i64 0, .bool s1, .int .u64 m1, .int .i64 e1]), (.agg #[.int .i64 0, .bool s2, .int .u64 m2, .int .i64 e2])] w fun e w' => e = .returned (.int .u32 (r)) ∧ Below w.heap.size w w' := by
  go_enter Try.func28, Try.ntmps28
  go_wp2_with fail
  refine (H _).mono ?_
  rintro e w1 ⟨rfl, B1⟩
  go_wp2
  go_ret
  refine ⟨rfl, ?_⟩
  ((repeat (first | refine bel_alloc ?_ _ | refine bel_dN ?_ _ | refine Below.drew ?_ | refine Below.setCell ?_ (by first | (simp; done) | (simp; omega)) _)); refine bel_step ?_ B1; (repeat (first | refine bel_alloc ?_ _ | refine bel_dN ?_ _ | refine Below.drew ?_ | refine Below.setCell ?_ (by first | (simp; done) | (simp; omega)) _)); exact Below.refl _ _)

set_option maxRecDepth 100000 in
set_option maxHeartbeats 1000000 in
theorem cSR16 (s1 s2 : Bool) (m1 m2 e1 e2 r : Int) (h : e1 < e2) (H : ∀ w, Calls Try.prog 37 #[(.agg #[.int .u64 5, .int .u64 10]), (.agg #[.bool s2, .bool false, .bool false, .int .u64 m2, .int .i64 e2]), (.agg #[.bool s1, .bool false, .bool false, .int .u64 m1, .int .i64 e1])] w fun e w' => e = .returned (.int .u32 r) ∧ Below w.heap.size w w') (w : World) :
    Calls Try.prog 37 #[(.agg #[.int .u64 5, .int .u64 10]), (.agg #[.bool s1, .bool false, .bool false, .int .u64 m1, .int .i64 e1]), (.agg #[.bool s2, .bool false, .bool false, .int .u64 m2, .int .i64 e2])] w fun e w' => e = .returned (.int .u32 (r)) ∧ Below w.heap.size w w' := by
  go_enter Try.func37, Try.ntmps37
  go_wp2_with fail
  refine (H _).mono ?_
  rintro e w1 ⟨rfl, B1⟩
  go_wp2
  go_ret
  refine ⟨rfl, ?_⟩
  ((repeat (first | refine bel_alloc ?_ _ | refine bel_dN ?_ _ | refine Below.drew ?_ | refine Below.setCell ?_ (by first | (simp; done) | (simp; omega)) _)); refine bel_step ?_ B1; (repeat (first | refine bel_alloc ?_ _ | refine bel_dN ?_ _ | refine Below.drew ?_ | refine Below.setCell ?_ (by first | (simp; done) | (simp; omega)) _)); exact Below.refl _ _)

set_option maxRecDepth 100000 in
set_option maxHeartbeats 1000000 in
theorem cSR32 (s1 s2 : Bool) (m1 m2 e1 e2 r : Int) (h : e1 < e2) (H : ∀ w, Calls Try.prog 37 #[(.agg #[.int .u64 8, .int .u64 23]), (.agg #[.bool s2, .bool false, .bool false, .int .u64 m2, .int .i64 e2]), (.agg #[.bool s1, .bool false, .bool false, .int .u64 m1, .int .i64 e1])] w fun e w' => e = .returned (.int .u32 r) ∧ Below w.heap.size w w') (w : World) :
    Calls Try.prog 37 #[(.agg #[.int .u64 8, .int .u64 23]), (.agg #[.bool s1, .bool false, .bool false, .int .u64 m1, .int .i64 e1]), (.agg #[.bool s2, .bool false, .bool false, .int .u64 m2, .int .i64 e2])] w fun e w' => e = .returned (.int .u32 (r)) ∧ Below w.heap.size w w' := by
  go_enter Try.func37, Try.ntmps37
  go_wp2_with fail
  refine (H _).mono ?_
  rintro e w1 ⟨rfl, B1⟩
  go_wp2
  go_ret
  refine ⟨rfl, ?_⟩
  ((repeat (first | refine bel_alloc ?_ _ | refine bel_dN ?_ _ | refine Below.drew ?_ | refine Below.setCell ?_ (by first | (simp; done) | (simp; omega)) _)); refine bel_step ?_ B1; (repeat (first | refine bel_alloc ?_ _ | refine bel_dN ?_ _ | refine Below.drew ?_ | refine Below.setCell ?_ (by first | (simp; done) | (simp; omega)) _)); exact Below.refl _ _)

theorem addBoth16 (s1 s2 : Bool) (c1 c2 m1 m2 e1 e2 : Int) (f1 : Fv16 c1 m1 e1) (f2 : Fv16 c2 m2 e2) : ∃ r : Int,
    (∀ w, Calls Try.prog 37 #[(.agg #[.int .u64 5, .int .u64 10]), (.agg #[.bool s1, .bool (c1 == 1), .bool (c1 == 2), .int .u64 m1, .int .i64 e1]), (.agg #[.bool s2, .bool (c2 == 1), .bool (c2 == 2), .int .u64 m2, .int .i64 e2])] w fun e w' => e = .returned (.int .u32 r) ∧ Below w.heap.size w w') ∧
    (∀ w, Calls Try.prog 28 #[(.agg #[.int .i64 10, .int .i64 15, .int .u32 31]), (.agg #[.int .i64 c1, .bool s1, .int .u64 m1, .int .i64 e1]), (.agg #[.int .i64 c2, .bool s2, .int .u64 m2, .int .i64 e2])] w fun e w' => e = .returned (.int .u32 r) ∧ Below w.heap.size w w') := by
  obtain ⟨k1, a1, a2, a3, a4, a5, _⟩ := f1
  obtain ⟨k2, b1, b2, b3, b4, b5, _⟩ := f2
  have hs : s2 = s1 ∨ s2 = !s1 := by cases s1 <;> cases s2 <;> simp
  rcases k1 with rfl | rfl | rfl
  · rcases k2 with rfl | rfl | rfl
    · obtain ⟨n1, rfl⟩ := Int.eq_ofNat_of_zero_le a1
      obtain ⟨n2, rfl⟩ := Int.eq_ofNat_of_zero_le b1
      by_cases h : e2 ≤ e1
      · obtain ⟨r, S, I, _⟩ := finOrd16 s1 s2 n1 n2 e1 e2 (by omega) (by omega) h b3 (by omega) (fun h => by have := a5 rfl h; omega)
        exact ⟨r, S, cIF16 s1 s2 n1 n2 e1 e2 r I⟩
      · obtain ⟨r, S, _, I⟩ := finOrd16 s2 s1 n2 n1 e2 e1 (by omega) (by omega) (by omega) a3 (by omega) (fun h => by have := b5 rfl h; omega)
        exact ⟨r, cSR16 s1 s2 n1 n2 e1 e2 r (by omega) S, cIF16 s1 s2 n1 n2 e1 e2 r I⟩
    · exact ⟨_, cSE16 s1 s2 m1 m2 e1 e2, cIE16 s1 s2 m1 m2 e1 e2⟩
    · exact ⟨_, cSB016 s1 s2 m1 m2 e1 e2, cIB016 s1 s2 m1 m2 e1 e2⟩
  · rcases k2 with rfl | rfl | rfl
    · exact ⟨_, cSD16 s1 s2 m1 m2 e1 e2, cID16 s1 s2 m1 m2 e1 e2⟩
    · rcases hs with rfl | rfl
      · exact ⟨_, cSCs16 _ m1 m2 e1 e2, cICs16 _ m1 m2 e1 e2⟩
      · exact ⟨_, cSCd16 _ m1 m2 e1 e2, cICd16 _ m1 m2 e1 e2⟩
    · exact ⟨_, cSB116 s1 s2 m1 m2 e1 e2, cIB116 s1 s2 m1 m2 e1 e2⟩
  · exact ⟨_, cSA16 s1 s2 _ _ _ m1 m2 e1 e2, cIA16 s1 s2 c2 m1 m2 e1 e2⟩

theorem addBoth32 (s1 s2 : Bool) (c1 c2 m1 m2 e1 e2 : Int) (f1 : Fv32 c1 m1 e1) (f2 : Fv32 c2 m2 e2) : ∃ r : Int,
    (∀ w, Calls Try.prog 37 #[(.agg #[.int .u64 8, .int .u64 23]), (.agg #[.bool s1, .bool (c1 == 1), .bool (c1 == 2), .int .u64 m1, .int .i64 e1]), (.agg #[.bool s2, .bool (c2 == 1), .bool (c2 == 2), .int .u64 m2, .int .i64 e2])] w fun e w' => e = .returned (.int .u32 r) ∧ Below w.heap.size w w') ∧
    (∀ w, Calls Try.prog 28 #[(.agg #[.int .i64 23, .int .i64 127, .int .u32 255]), (.agg #[.int .i64 c1, .bool s1, .int .u64 m1, .int .i64 e1]), (.agg #[.int .i64 c2, .bool s2, .int .u64 m2, .int .i64 e2])] w fun e w' => e = .returned (.int .u32 r) ∧ Below w.heap.size w w') := by
  obtain ⟨k1, a1, a2, a3, a4, a5, _⟩ := f1
  obtain ⟨k2, b1, b2, b3, b4, b5, _⟩ := f2
  have hs : s2 = s1 ∨ s2 = !s1 := by cases s1 <;> cases s2 <;> simp
  rcases k1 with rfl | rfl | rfl
  · rcases k2 with rfl | rfl | rfl
    · obtain ⟨n1, rfl⟩ := Int.eq_ofNat_of_zero_le a1
      obtain ⟨n2, rfl⟩ := Int.eq_ofNat_of_zero_le b1
      by_cases h : e2 ≤ e1
      · obtain ⟨r, S, I, _⟩ := finOrd32 s1 s2 n1 n2 e1 e2 (by omega) (by omega) h b3 (by omega) (fun h => by have := a5 rfl h; omega)
        exact ⟨r, S, cIF32 s1 s2 n1 n2 e1 e2 r I⟩
      · obtain ⟨r, S, _, I⟩ := finOrd32 s2 s1 n2 n1 e2 e1 (by omega) (by omega) (by omega) a3 (by omega) (fun h => by have := b5 rfl h; omega)
        exact ⟨r, cSR32 s1 s2 n1 n2 e1 e2 r (by omega) S, cIF32 s1 s2 n1 n2 e1 e2 r I⟩
    · exact ⟨_, cSE32 s1 s2 m1 m2 e1 e2, cIE32 s1 s2 m1 m2 e1 e2⟩
    · exact ⟨_, cSB032 s1 s2 m1 m2 e1 e2, cIB032 s1 s2 m1 m2 e1 e2⟩
  · rcases k2 with rfl | rfl | rfl
    · exact ⟨_, cSD32 s1 s2 m1 m2 e1 e2, cID32 s1 s2 m1 m2 e1 e2⟩
    · rcases hs with rfl | rfl
      · exact ⟨_, cSCs32 _ m1 m2 e1 e2, cICs32 _ m1 m2 e1 e2⟩
      · exact ⟨_, cSCd32 _ m1 m2 e1 e2, cICd32 _ m1 m2 e1 e2⟩
    · exact ⟨_, cSB132 s1 s2 m1 m2 e1 e2, cIB132 s1 s2 m1 m2 e1 e2⟩
  · exact ⟨_, cSA32 s1 s2 _ _ _ m1 m2 e1 e2, cIA32 s1 s2 c2 m1 m2 e1 e2⟩

end Go.Proofs.Yteniijmnpgdpcaa
