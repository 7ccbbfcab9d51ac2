/-
  Sums of floats: spec's side, finite ones. (Made by a generator.)
-/
import Derived.Test.YteniijmnpgdpcaaFRndS
import Derived.Test.YteniijmnpgdpcaaFFv
import Derived.Test.YteniijmnpgdpcaaFAddM
namespace Go.Proofs.Yteniijmnpgdpcaa
open Go.RowKit

set_option maxRecDepth 100000 in
set_option maxHeartbeats 1000000 in
theorem sumFs16 (s more : Bool) (m1 m2 e1 e2 A D E M r Y L : Int) (u : Nat) (h1 : ¬ e1 < e2) (v0 : IntKind.u64.wrap (wrap64 (e1 - e2)) = D) (h2 : ¬ D ≤ 30) (v3 : IntKind.u64.wrap (D - 30) = (u : Int)) (v1 : IntKind.u64.wrap (m1 * 1073741824) = A) (v6 : wrap64 (e1 - 30) = E) (h3 : ¬ (60 : Int) < (u : Int)) (h7 : min u 64 = u) (v8 : IntKind.u64.wrap (IntKind.u64.wrap (2 ^ u) - 1) = Y) (hm : (bits .and .u64 m2 Y != 0) = more) (v4 : m2 / 2 ^ u = L) (v2 : IntKind.u64.wrap (A + L) = M) (RR : ∀ w, Calls Try.prog 58 #[(.agg #[.int .u64 5, .int .u64 10]), .bool s, .int .u64 M, .int .i64 E, .bool more] w fun e w' => e = .returned (.int .u32 r) ∧ Below w.heap.size w w') (w : World) :
    Calls Try.prog 37 #[(.agg #[.int .u64 5, .int .u64 10]), (.agg #[.bool s, .bool false, .bool false, .int .u64 m1, .int .i64 e1]), (.agg #[.bool s, .bool false, .bool false, .int .u64 m2, .int .i64 e2])] w fun e w' => e = .returned (.int .u32 r) ∧ Below w.heap.size w w' := by
  go_enter Try.func37, Try.ntmps37
  go_wp2_with fail
  refine (RR _).mono ?_
  rintro e w1 ⟨rfl, B1⟩
  go_wp2
  go_ret
  refine ⟨rfl, ?_⟩
  ((repeat (first | refine bel_alloc ?_ _ | refine bel_dN ?_ _ | refine Below.drew ?_ | refine Below.setCell ?_ (by first | (simp; done) | (simp; omega)) _)); refine bel_step ?_ B1; (repeat (first | refine bel_alloc ?_ _ | refine bel_dN ?_ _ | refine Below.drew ?_ | refine Below.setCell ?_ (by first | (simp; done) | (simp; omega)) _)); exact Below.refl _ _)

set_option maxRecDepth 100000 in
set_option maxHeartbeats 1000000 in
theorem sumFs32 (s more : Bool) (m1 m2 e1 e2 A D E M r Y L : Int) (u : Nat) (h1 : ¬ e1 < e2) (v0 : IntKind.u64.wrap (wrap64 (e1 - e2)) = D) (h2 : ¬ D ≤ 30) (v3 : IntKind.u64.wrap (D - 30) = (u : Int)) (v1 : IntKind.u64.wrap (m1 * 1073741824) = A) (v6 : wrap64 (e1 - 30) = E) (h3 : ¬ (60 : Int) < (u : Int)) (h7 : min u 64 = u) (v8 : IntKind.u64.wrap (IntKind.u64.wrap (2 ^ u) - 1) = Y) (hm : (bits .and .u64 m2 Y != 0) = more) (v4 : m2 / 2 ^ u = L) (v2 : IntKind.u64.wrap (A + L) = M) (RR : ∀ w, Calls Try.prog 58 #[(.agg #[.int .u64 8, .int .u64 23]), .bool s, .int .u64 M, .int .i64 E, .bool more] w fun e w' => e = .returned (.int .u32 r) ∧ Below w.heap.size w w') (w : World) :
    Calls Try.prog 37 #[(.agg #[.int .u64 8, .int .u64 23]), (.agg #[.bool s, .bool false, .bool false, .int .u64 m1, .int .i64 e1]), (.agg #[.bool s, .bool false, .bool false, .int .u64 m2, .int .i64 e2])] w fun e w' => e = .returned (.int .u32 r) ∧ Below w.heap.size w w' := by
  go_enter Try.func37, Try.ntmps37
  go_wp2_with fail
  refine (RR _).mono ?_
  rintro e w1 ⟨rfl, B1⟩
  go_wp2
  go_ret
  refine ⟨rfl, ?_⟩
  ((repeat (first | refine bel_alloc ?_ _ | refine bel_dN ?_ _ | refine Below.drew ?_ | refine Below.setCell ?_ (by first | (simp; done) | (simp; omega)) _)); refine bel_step ?_ B1; (repeat (first | refine bel_alloc ?_ _ | refine bel_dN ?_ _ | refine Below.drew ?_ | refine Below.setCell ?_ (by first | (simp; done) | (simp; omega)) _)); exact Below.refl _ _)


set_option maxRecDepth 100000 in
set_option maxHeartbeats 1000000 in
theorem sumFd16 (s more : Bool) (m1 m2 e1 e2 A D E X M r Y L : Int) (u : Nat) (h1 : ¬ e1 < e2) (v0 : IntKind.u64.wrap (wrap64 (e1 - e2)) = D) (h2 : ¬ D ≤ 30) (v3 : IntKind.u64.wrap (D - 30) = (u : Int)) (v1 : IntKind.u64.wrap (m1 * 1073741824) = A) (v6 : wrap64 (e1 - 30) = E) (h3 : ¬ (60 : Int) < (u : Int)) (h7 : min u 64 = u) (v8 : IntKind.u64.wrap (IntKind.u64.wrap (2 ^ u) - 1) = Y) (hm : (bits .and .u64 m2 Y != 0) = more) (v4 : m2 / 2 ^ u = L) (h4 : ¬ A < L) (v2 : IntKind.u64.wrap (A - L) = X) (hM : (if more = true then IntKind.u64.wrap (X - 1) else X) = M) (h5 : (M == 0) = false) (RR : ∀ w, Calls Try.prog 58 #[(.agg #[.int .u64 5, .int .u64 10]), .bool s, .int .u64 M, .int .i64 E, .bool more] w fun e w' => e = .returned (.int .u32 r) ∧ Below w.heap.size w w') (w : World) :
    Calls Try.prog 37 #[(.agg #[.int .u64 5, .int .u64 10]), (.agg #[.bool s, .bool false, .bool false, .int .u64 m1, .int .i64 e1]), (.agg #[.bool (!s), .bool false, .bool false, .int .u64 m2, .int .i64 e2])] w fun e w' => e = .returned (.int .u32 r) ∧ Below w.heap.size w w' := by
  have hn : (s == !s) = false := by cases s <;> rfl
  cases more
  · simp only [Bool.false_eq_true, if_false] at hM
    subst hM
    go_enter Try.func37, Try.ntmps37
    go_wp2_with fail
    refine (RR _).mono ?_
    rintro e w1 ⟨rfl, B1⟩
    go_wp2
    go_ret
    refine ⟨rfl, ?_⟩
    ((repeat (first | refine bel_alloc ?_ _ | refine bel_dN ?_ _ | refine Below.drew ?_ | refine Below.setCell ?_ (by first | (simp; done) | (simp; omega)) _)); refine bel_step ?_ B1; (repeat (first | refine bel_alloc ?_ _ | refine bel_dN ?_ _ | refine Below.drew ?_ | refine Below.setCell ?_ (by first | (simp; done) | (simp; omega)) _)); exact Below.refl _ _)
  · simp only [if_true] at hM
    go_enter Try.func37, Try.ntmps37
    go_wp2_with fail
    refine (RR _).mono ?_
    rintro e w1 ⟨rfl, B1⟩
    go_wp2
    go_ret
    refine ⟨rfl, ?_⟩
    ((repeat (first | refine bel_alloc ?_ _ | refine bel_dN ?_ _ | refine Below.drew ?_ | refine Below.setCell ?_ (by first | (simp; done) | (simp; omega)) _)); refine bel_step ?_ B1; (repeat (first | refine bel_alloc ?_ _ | refine bel_dN ?_ _ | refine Below.drew ?_ | refine Below.setCell ?_ (by first | (simp; done) | (simp; omega)) _)); exact Below.refl _ _)


set_option maxRecDepth 100000 in
set_option maxHeartbeats 1000000 in
theorem sumFd32 (s more : Bool) (m1 m2 e1 e2 A D E X M r Y L : Int) (u : Nat) (h1 : ¬ e1 < e2) (v0 : IntKind.u64.wrap (wrap64 (e1 - e2)) = D) (h2 : ¬ D ≤ 30) (v3 : IntKind.u64.wrap (D - 30) = (u : Int)) (v1 : IntKind.u64.wrap (m1 * 1073741824) = A) (v6 : wrap64 (e1 - 30) = E) (h3 : ¬ (60 : Int) < (u : Int)) (h7 : min u 64 = u) (v8 : IntKind.u64.wrap (IntKind.u64.wrap (2 ^ u) - 1) = Y) (hm : (bits .and .u64 m2 Y != 0) = more) (v4 : m2 / 2 ^ u = L) (h4 : ¬ A < L) (v2 : IntKind.u64.wrap (A - L) = X) (hM : (if more = true then IntKind.u64.wrap (X - 1) else X) = M) (h5 : (M == 0) = false) (RR : ∀ w, Calls Try.prog 58 #[(.agg #[.int .u64 8, .int .u64 23]), .bool s, .int .u64 M, .int .i64 E, .bool more] w fun e w' => e = .returned (.int .u32 r) ∧ Below w.heap.size w w') (w : World) :
    Calls Try.prog 37 #[(.agg #[.int .u64 8, .int .u64 23]), (.agg #[.bool s, .bool false, .bool false, .int .u64 m1, .int .i64 e1]), (.agg #[.bool (!s), .bool false, .bool false, .int .u64 m2, .int .i64 e2])] w fun e w' => e = .returned (.int .u32 r) ∧ Below w.heap.size w w' := by
  have hn : (s == !s) = false := by cases s <;> rfl
  cases more
  · simp only [Bool.false_eq_true, if_false] at hM
    subst hM
    go_enter Try.func37, Try.ntmps37
    go_wp2_with fail
    refine (RR _).mono ?_
    rintro e w1 ⟨rfl, B1⟩
    go_wp2
    go_ret
    refine ⟨rfl, ?_⟩
    ((repeat (first | refine bel_alloc ?_ _ | refine bel_dN ?_ _ | refine Below.drew ?_ | refine Below.setCell ?_ (by first | (simp; done) | (simp; omega)) _)); refine bel_step ?_ B1; (repeat (first | refine bel_alloc ?_ _ | refine bel_dN ?_ _ | refine Below.drew ?_ | refine Below.setCell ?_ (by first | (simp; done) | (simp; omega)) _)); exact Below.refl _ _)
  · simp only [if_true] at hM
    go_enter Try.func37, Try.ntmps37
    go_wp2_with fail
    refine (RR _).mono ?_
    rintro e w1 ⟨rfl, B1⟩
    go_wp2
    go_ret
    refine ⟨rfl, ?_⟩
    ((repeat (first | refine bel_alloc ?_ _ | refine bel_dN ?_ _ | refine Below.drew ?_ | refine Below.setCell ?_ (by first | (simp; done) | (simp; omega)) _)); refine bel_step ?_ B1; (repeat (first | refine bel_alloc ?_ _ | refine bel_dN ?_ _ | refine Below.drew ?_ | refine Below.setCell ?_ (by first | (simp; done) | (simp; omega)) _)); exact Below.refl _ _)



end Go.Proofs.Yteniijmnpgdpcaa
