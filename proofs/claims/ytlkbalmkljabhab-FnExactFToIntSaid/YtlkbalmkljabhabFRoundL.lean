/-
  FRound: both sides, and its law.
-/
import Derived.Test.YtlkbalmkljabhabFRoundS
namespace Go.Proofs.Ytlkbalmkljabhab
open Go.RowKit

theorem wholeNan16 (mode e m : Int) (s : Bool) (w : World) :
    Calls Try.prog 47 #[(.agg #[.int .u64 5, .int .u64 10]), .int .i64 mode, .agg #[.bool s, .bool false, .bool true, .int .u64 m, .int .i64 e]] w fun x w' => x = .returned (.int .u32 (31744 + 512)) ∧ Below w.heap.size w w' := by
  have NN := l4Nan16
  go_enter Try.func47, Try.ntmps47
  go_wp2_with fail
  refine (NN _).mono ?_
  rintro x w1 ⟨rfl, B1⟩
  go_wp2
  go_ret
  refine ⟨rfl, ?_⟩
  ((repeat (first | refine bel_alloc ?_ _ | refine bel_dN ?_ _ | refine Below.drew ?_ | refine Below.setCell ?_ (by first | (simp; done) | (simp; omega)) _)); refine bel_step ?_ B1; (repeat (first | refine bel_alloc ?_ _ | refine bel_dN ?_ _ | refine Below.drew ?_ | refine Below.setCell ?_ (by first | (simp; done) | (simp; omega)) _)); exact Below.refl _ _)

theorem wholeNan32 (mode e m : Int) (s : Bool) (w : World) :
    Calls Try.prog 47 #[(.agg #[.int .u64 8, .int .u64 23]), .int .i64 mode, .agg #[.bool s, .bool false, .bool true, .int .u64 m, .int .i64 e]] w fun x w' => x = .returned (.int .u32 (2139095040 + 4194304)) ∧ Below w.heap.size w w' := by
  have NN := l4Nan32
  go_enter Try.func47, Try.ntmps47
  go_wp2_with fail
  refine (NN _).mono ?_
  rintro x w1 ⟨rfl, B1⟩
  go_wp2
  go_ret
  refine ⟨rfl, ?_⟩
  ((repeat (first | refine bel_alloc ?_ _ | refine bel_dN ?_ _ | refine Below.drew ?_ | refine Below.setCell ?_ (by first | (simp; done) | (simp; omega)) _)); refine bel_step ?_ B1; (repeat (first | refine bel_alloc ?_ _ | refine bel_dN ?_ _ | refine Below.drew ?_ | refine Below.setCell ?_ (by first | (simp; done) | (simp; omega)) _)); exact Below.refl _ _)

theorem wholeInf16 (mode e m : Int) (s : Bool) (w : World) :
    Calls Try.prog 47 #[(.agg #[.int .u64 5, .int .u64 10]), .int .i64 mode, .agg #[.bool s, .bool true, .bool false, .int .u64 m, .int .i64 e]] w fun x w' => x = .returned (.int .u32 (s.toNat * 32768 + 31744)) ∧ Below w.heap.size w w' := by
  have NN := l4Inf16 s
  go_enter Try.func47, Try.ntmps47
  go_wp2_with fail
  refine (NN _).mono ?_
  rintro x w1 ⟨rfl, B1⟩
  go_wp2
  go_ret
  refine ⟨rfl, ?_⟩
  ((repeat (first | refine bel_alloc ?_ _ | refine bel_dN ?_ _ | refine Below.drew ?_ | refine Below.setCell ?_ (by first | (simp; done) | (simp; omega)) _)); refine bel_step ?_ B1; (repeat (first | refine bel_alloc ?_ _ | refine bel_dN ?_ _ | refine Below.drew ?_ | refine Below.setCell ?_ (by first | (simp; done) | (simp; omega)) _)); exact Below.refl _ _)

theorem wholeInf32 (mode e m : Int) (s : Bool) (w : World) :
    Calls Try.prog 47 #[(.agg #[.int .u64 8, .int .u64 23]), .int .i64 mode, .agg #[.bool s, .bool true, .bool false, .int .u64 m, .int .i64 e]] w fun x w' => x = .returned (.int .u32 (s.toNat * 2147483648 + 2139095040)) ∧ Below w.heap.size w w' := by
  have NN := l4Inf32 s
  go_enter Try.func47, Try.ntmps47
  go_wp2_with fail
  refine (NN _).mono ?_
  rintro x w1 ⟨rfl, B1⟩
  go_wp2
  go_ret
  refine ⟨rfl, ?_⟩
  ((repeat (first | refine bel_alloc ?_ _ | refine bel_dN ?_ _ | refine Below.drew ?_ | refine Below.setCell ?_ (by first | (simp; done) | (simp; omega)) _)); refine bel_step ?_ B1; (repeat (first | refine bel_alloc ?_ _ | refine bel_dN ?_ _ | refine Below.drew ?_ | refine Below.setCell ?_ (by first | (simp; done) | (simp; omega)) _)); exact Below.refl _ _)

theorem wholeRnd16 (mode e m r : Int) (s : Bool) (h : 0 ≤ e ∨ m = 0) (RR : Hid (∀ w, Calls Try.prog 35 #[(.agg #[.int .u64 5, .int .u64 10]), .bool s, .int .u64 m, .int .i64 e, .bool false] w fun x w' => x = .returned (.int .u32 r) ∧ Below w.heap.size w w')) (w : World) :
    Calls Try.prog 47 #[(.agg #[.int .u64 5, .int .u64 10]), .int .i64 mode, .agg #[.bool s, .bool false, .bool false, .int .u64 m, .int .i64 e]] w fun x w' => x = .returned (.int .u32 r) ∧ Below w.heap.size w w' := by
  by_cases he : 0 ≤ e
  · clear h
    go_enter Try.func47, Try.ntmps47
    go_wp2_with fail
    refine (RR.out _).mono ?_
    rintro x w1 ⟨rfl, B1⟩
    go_wp2
    go_ret
    refine ⟨rfl, ?_⟩
    ((repeat (first | refine bel_alloc ?_ _ | refine bel_dN ?_ _ | refine Below.drew ?_ | refine Below.setCell ?_ (by first | (simp; done) | (simp; omega)) _)); refine bel_step ?_ B1; (repeat (first | refine bel_alloc ?_ _ | refine bel_dN ?_ _ | refine Below.drew ?_ | refine Below.setCell ?_ (by first | (simp; done) | (simp; omega)) _)); exact Below.refl _ _)
  · obtain rfl : m = 0 := by omega
    clear h
    go_enter Try.func47, Try.ntmps47
    go_wp2_with fail
    refine (RR.out _).mono ?_
    rintro x w1 ⟨rfl, B1⟩
    go_wp2
    go_ret
    refine ⟨rfl, ?_⟩
    ((repeat (first | refine bel_alloc ?_ _ | refine bel_dN ?_ _ | refine Below.drew ?_ | refine Below.setCell ?_ (by first | (simp; done) | (simp; omega)) _)); refine bel_step ?_ B1; (repeat (first | refine bel_alloc ?_ _ | refine bel_dN ?_ _ | refine Below.drew ?_ | refine Below.setCell ?_ (by first | (simp; done) | (simp; omega)) _)); exact Below.refl _ _)

theorem wholeRnd32 (mode e m r : Int) (s : Bool) (h : 0 ≤ e ∨ m = 0) (RR : Hid (∀ w, Calls Try.prog 35 #[(.agg #[.int .u64 8, .int .u64 23]), .bool s, .int .u64 m, .int .i64 e, .bool false] w fun x w' => x = .returned (.int .u32 r) ∧ Below w.heap.size w w')) (w : World) :
    Calls Try.prog 47 #[(.agg #[.int .u64 8, .int .u64 23]), .int .i64 mode, .agg #[.bool s, .bool false, .bool false, .int .u64 m, .int .i64 e]] w fun x w' => x = .returned (.int .u32 r) ∧ Below w.heap.size w w' := by
  by_cases he : 0 ≤ e
  · clear h
    go_enter Try.func47, Try.ntmps47
    go_wp2_with fail
    refine (RR.out _).mono ?_
    rintro x w1 ⟨rfl, B1⟩
    go_wp2
    go_ret
    refine ⟨rfl, ?_⟩
    ((repeat (first | refine bel_alloc ?_ _ | refine bel_dN ?_ _ | refine Below.drew ?_ | refine Below.setCell ?_ (by first | (simp; done) | (simp; omega)) _)); refine bel_step ?_ B1; (repeat (first | refine bel_alloc ?_ _ | refine bel_dN ?_ _ | refine Below.drew ?_ | refine Below.setCell ?_ (by first | (simp; done) | (simp; omega)) _)); exact Below.refl _ _)
  · obtain rfl : m = 0 := by omega
    clear h
    go_enter Try.func47, Try.ntmps47
    go_wp2_with fail
    refine (RR.out _).mono ?_
    rintro x w1 ⟨rfl, B1⟩
    go_wp2
    go_ret
    refine ⟨rfl, ?_⟩
    ((repeat (first | refine bel_alloc ?_ _ | refine bel_dN ?_ _ | refine Below.drew ?_ | refine Below.setCell ?_ (by first | (simp; done) | (simp; omega)) _)); refine bel_step ?_ B1; (repeat (first | refine bel_alloc ?_ _ | refine bel_dN ?_ _ | refine Below.drew ?_ | refine Below.setCell ?_ (by first | (simp; done) | (simp; omega)) _)); exact Below.refl _ _)

end Go.Proofs.Ytlkbalmkljabhab
