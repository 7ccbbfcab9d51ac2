/-
  Which instructions are good: both sides, and the law on it.
-/
import Derived.Test.YtdalkbapfjpkoaaCInsI
import Derived.Test.YtdalkbapfjpkoaaCBase
import Derived.Test.YtdalkbapfjpkoaaBel
namespace Go.Proofs.Ytdalkbapfjpkoaa
open Go.ChangeShapes Go.WideShapes Go.ChangeAt Go.RowKit

/-- Whether A fits its kind. -/
def mayK (k a : Int) : Bool :=
  if k = 0 then a == 0
  else if k = 1 then (decide (125 ≤ a) && decide (a ≤ 127)) || a == 64
  else if k = 2 then decide (0 ≤ a) && decide (a ≤ 1000)
  else if k = 3 then decide (0 ≤ a) && decide (a ≤ 10000)
  else if k = 4 then decide (-2147483648 ≤ a) && decide (a ≤ 2147483647)
  else if k = 5 then true
  else if k = 6 then decide (0 ≤ a) && decide (a ≤ 4294967295)
  else false
def gi (op a : Int) : Bool := mayK (shp op) a

set_option maxRecDepth 100000 in
set_option maxHeartbeats 400000 in
theorem isType_eq (a : Int) (w : World) : Calls Try.prog 83 #[.int .i64 a] w fun e w' => e = .returned (.bool (decide (125 ≤ a) && decide (a ≤ 127))) ∧ w' = w := by
  by_cases h1 : a = 127
  · subst h1
    go_enter Try.func83, Try.ntmps83
    go_wp2
    go_ret
    exact ⟨rfl, rfl⟩
  · by_cases h2 : a = 126
    · subst h2
      go_enter Try.func83, Try.ntmps83
      go_wp2
      go_ret
      exact ⟨rfl, rfl⟩
    · by_cases h3 : a = 125
      · subst h3
        go_enter Try.func83, Try.ntmps83
        go_wp2
        go_ret
        exact ⟨rfl, rfl⟩
      · have e : (decide (125 ≤ a) && decide (a ≤ 127)) = false := by
          simp only [Bool.and_eq_false_iff, decide_eq_false_iff_not]; omega
        rw [e]
        have e1 : (a == 127) = false := by simpa using h1
        have e2 : (a == 126) = false := by simpa using h2
        have e3 : (a == 125) = false := by simpa using h3
        clear h1 h2 h3 e
        go_enter Try.func83, Try.ntmps83
        go_wp2
        go_ret
        exact ⟨rfl, rfl⟩

set_option maxRecDepth 100000 in
set_option maxHeartbeats 400000 in
theorem may0 (a : Int) (w : World) : Calls Try.prog 89 #[.agg #[], .int .i64 a] w fun e w' => e = .returned (.bool (mayK 0 a)) ∧ Below w.heap.size w w' := by
  go_enter Try.func89, Try.ntmps89
  go_wp2
  go_ret
  refine ⟨rfl, ?_⟩
  (repeat (first | refine Below.alloc ?_ (by first | (simp; done) | (simp; omega)) _ | refine Below.setCell ?_ (by first | (simp; done) | (simp; omega)) _ | refine bel_dN ?_ _ | refine Below.drew ?_ | exact Below.refl _ _))

set_option maxRecDepth 100000 in
set_option maxHeartbeats 400000 in
theorem may1 (a : Int) (w : World) : Calls Try.prog 82 #[.agg #[], .int .i64 a] w fun e w' => e = .returned (.bool (mayK 1 a)) ∧ Below w.heap.size w w' := by
  have T := isType_eq a
  have e : mayK 1 a = ((decide (125 ≤ a) && decide (a ≤ 127)) || a == 64) := rfl
  rw [e]
  clear e
  generalize (decide (125 ≤ a) && decide (a ≤ 127)) = x at T ⊢
  obtain ⟨y, hy⟩ : ∃ y, (a == 64) = y := ⟨_, rfl⟩
  rw [hy]
  cases x
  all_goals
    go_enter Try.func82, Try.ntmps82
    go_wp2_with (go_at_call 83; refine (T _).mono ?_; rintro e w1 ⟨rfl, hw⟩; obtain rfl := hw.symm)
    go_ret
    refine ⟨rfl, ?_⟩
    (repeat (first | refine Below.alloc ?_ (by first | (simp; done) | (simp; omega)) _ | refine Below.setCell ?_ (by first | (simp; done) | (simp; omega)) _ | refine bel_dN ?_ _ | refine Below.drew ?_ | exact Below.refl _ _))

set_option maxRecDepth 100000 in
set_option maxHeartbeats 400000 in
theorem mayUp (m a : Int) (w : World) : Calls Try.prog 84 #[.int .i64 m, .int .i64 a] w fun e w' => e = .returned (.bool (decide (0 ≤ a) && decide (a ≤ m))) ∧ w' = w := by
  by_cases h1 : 0 ≤ a
  · rw [decide_eq_true h1, Bool.true_and]
    obtain ⟨y, hy⟩ : ∃ y, decide (a ≤ m) = y := ⟨_, rfl⟩
    rw [hy]
    go_enter Try.func84, Try.ntmps84
    go_wp2
    go_ret
    exact ⟨rfl, rfl⟩
  · rw [decide_eq_false h1, Bool.false_and]
    go_enter Try.func84, Try.ntmps84
    go_wp2
    go_ret
    exact ⟨rfl, rfl⟩

set_option maxRecDepth 100000 in
set_option maxHeartbeats 400000 in
theorem may4 (a : Int) (h0 : -9223372036854775808 ≤ a) (h1 : a ≤ 9223372036854775807) (w : World) : Calls Try.prog 85 #[.int .i64 32, .int .i64 a] w fun e w' => e = .returned (.bool (mayK 4 a)) ∧ w' = w := by
  have e : mayK 4 a = (s32 (IntKind.u64.wrap a) == a) := by
    have e : mayK 4 a = (decide (-2147483648 ≤ a) && decide (a ≤ 2147483647)) := rfl
    rw [e, Bool.eq_iff_iff]
    simp only [Bool.and_eq_true, decide_eq_true_eq, beq_iff_eq]
    unfold s32; rw [IntKind.wrap_u64]; omega
  rw [e]
  have T := signed32 (IntKind.u64.wrap a)
  clear e
  generalize s32 (IntKind.u64.wrap a) = x at T ⊢
  obtain ⟨y, hy⟩ : ∃ y, (x == a) = y := ⟨_, rfl⟩
  rw [hy]
  clear h0 h1
  go_enter Try.func85, Try.ntmps85
  go_wp2_with (go_at_call 86; refine (T _).mono ?_; rintro e w1 ⟨rfl, hw⟩; obtain rfl := hw.symm)
  go_ret
  exact ⟨rfl, rfl⟩

set_option maxRecDepth 100000 in
set_option maxHeartbeats 400000 in
theorem may5 (a : Int) (h0 : -9223372036854775808 ≤ a) (h1 : a ≤ 9223372036854775807) (w : World) : Calls Try.prog 85 #[.int .i64 64, .int .i64 a] w fun e w' => e = .returned (.bool (mayK 5 a)) ∧ w' = w := by
  have T := signed64 (IntKind.u64.wrap a) (by rw [IntKind.wrap_u64]; omega) (by rw [IntKind.wrap_u64]; omega)
  have e : s64 (IntKind.u64.wrap a) = a := by unfold s64; rw [IntKind.wrap_u64]; omega
  rw [e] at T
  clear e h0 h1
  go_enter Try.func85, Try.ntmps85
  go_wp2_with (go_at_call 86; refine (T _).mono ?_; rintro e w1 ⟨rfl, hw⟩; obtain rfl := hw.symm)
  go_ret
  exact ⟨by simp [mayK], rfl⟩

set_option maxRecDepth 100000 in
set_option maxHeartbeats 400000 in
theorem may6 (a : Int) (h0 : -9223372036854775808 ≤ a) (h1 : a ≤ 9223372036854775807) (w : World) : Calls Try.prog 87 #[.agg #[], .int .i64 a] w fun e w' => e = .returned (.bool (mayK 6 a)) ∧ Below w.heap.size w w' := by
  have e : mayK 6 a = (IntKind.u64.wrap a % 4294967296 == IntKind.u64.wrap a) := by
    have e : mayK 6 a = (decide (0 ≤ a) && decide (a ≤ 4294967295)) := rfl
    rw [e, Bool.eq_iff_iff]
    simp only [Bool.and_eq_true, decide_eq_true_eq, beq_iff_eq]
    rw [IntKind.wrap_u64]; omega
  rw [e]
  have T := cut32 (IntKind.u64.wrap a)
  clear e
  generalize IntKind.u64.wrap a % 4294967296 = x at T ⊢
  obtain ⟨y, hy⟩ : ∃ y, (x == IntKind.u64.wrap a) = y := ⟨_, rfl⟩
  rw [hy]
  clear h0 h1
  go_enter Try.func87, Try.ntmps87
  go_wp2_with (go_at_call 88; refine (T _).mono ?_; rintro e w1 ⟨rfl, hw⟩; obtain rfl := hw.symm)
  go_ret
  refine ⟨rfl, ?_⟩
  (repeat (first | refine Below.alloc ?_ (by first | (simp; done) | (simp; omega)) _ | refine Below.setCell ?_ (by first | (simp; done) | (simp; omega)) _ | refine bel_dN ?_ _ | refine Below.drew ?_ | exact Below.refl _ _))

/-- A call of 'may' by its kind. -/
theorem below_same {w w' : World} (h : w' = w) : Below w.heap.size w w' := by subst h; exact Below.refl _ _

set_option maxRecDepth 100000 in
set_option maxHeartbeats 1600000 in
theorem implGoodIns (op a : Int) (h0 : -9223372036854775808 ≤ a) (h1 : a ≤ 9223372036854775807) (w : World) :
    Calls Try.prog 28 #[.agg #[.int .i64 op, .int .i64 a]] w fun e w' => e = .returned (.bool (gi op a)) ∧ Below w.heap.size w w' := by
  have O := operandOf_eq op
  have hg : gi op a = mayK (shp op) a := rfl
  rw [hg]
  rcases shp_one op with h | h | h | h | h | h | h | h
  all_goals
    rw [h] at O ⊢
  · have e : opv 0 = .iface 74 (.agg #[]) := rfl
    rw [e] at O
    have hm : ∀ w : World, (method 229 74 (.agg #[]) "loop.example/g00209/impl.may").run Try.prog w = .ok (89, .agg #[]) w := fun _ => by kernel_rfl
    have M : ∀ w : World, Calls Try.prog 89 #[.agg #[], .int .i64 a] w fun e w' => e = .returned (.bool (mayK 0 a)) ∧ Below w.heap.size w w' := fun w => may0 a w
    generalize mayK 0 a = r at M ⊢
    clear h hg e h0 h1
    go_enter Try.func28, Try.ntmps28
    go_wp2_with (first | (go_at_call 18; refine (O _).mono ?_; rintro e w1 ⟨rfl, hw⟩; obtain rfl := hw.symm) | (go_at_call 89; refine (M _).mono ?_; rintro e w2 ⟨rfl, hb⟩))
    go_ret
    refine ⟨rfl, ?_⟩
    ((repeat (first | refine bel_alloc ?_ _ | refine bel_dN ?_ _ | refine Below.drew ?_ | refine Below.setCell ?_ (by first | (simp; done) | (simp; omega)) _)); refine bel_step ?_ hb; (repeat (first | refine bel_alloc ?_ _ | refine bel_dN ?_ _ | refine Below.drew ?_ | refine Below.setCell ?_ (by first | (simp; done) | (simp; omega)) _)); exact Below.refl _ _)
  · have e : opv 1 = .iface 67 (.agg #[]) := rfl
    rw [e] at O
    have hm : ∀ w : World, (method 229 67 (.agg #[]) "loop.example/g00209/impl.may").run Try.prog w = .ok (82, .agg #[]) w := fun _ => by kernel_rfl
    have M : ∀ w : World, Calls Try.prog 82 #[.agg #[], .int .i64 a] w fun e w' => e = .returned (.bool (mayK 1 a)) ∧ Below w.heap.size w w' := fun w => may1 a w
    generalize mayK 1 a = r at M ⊢
    clear h hg e h0 h1
    go_enter Try.func28, Try.ntmps28
    go_wp2_with (first | (go_at_call 18; refine (O _).mono ?_; rintro e w1 ⟨rfl, hw⟩; obtain rfl := hw.symm) | (go_at_call 82; refine (M _).mono ?_; rintro e w2 ⟨rfl, hb⟩))
    go_ret
    refine ⟨rfl, ?_⟩
    ((repeat (first | refine bel_alloc ?_ _ | refine bel_dN ?_ _ | refine Below.drew ?_ | refine Below.setCell ?_ (by first | (simp; done) | (simp; omega)) _)); refine bel_step ?_ hb; (repeat (first | refine bel_alloc ?_ _ | refine bel_dN ?_ _ | refine Below.drew ?_ | refine Below.setCell ?_ (by first | (simp; done) | (simp; omega)) _)); exact Below.refl _ _)
  · have e : opv 2 = .iface 69 (.int .i64 1000) := rfl
    rw [e] at O
    have hm : ∀ w : World, (method 229 69 (.int .i64 1000) "loop.example/g00209/impl.may").run Try.prog w = .ok (84, .int .i64 1000) w := fun _ => by kernel_rfl
    have M : ∀ w : World, Calls Try.prog 84 #[.int .i64 1000, .int .i64 a] w fun e w' => e = .returned (.bool (mayK 2 a)) ∧ Below w.heap.size w w' := fun w => (mayUp 1000 a w).mono fun e w1 h => ⟨h.1, below_same h.2⟩
    generalize mayK 2 a = r at M ⊢
    clear h hg e h0 h1
    go_enter Try.func28, Try.ntmps28
    go_wp2_with (first | (go_at_call 18; refine (O _).mono ?_; rintro e w1 ⟨rfl, hw⟩; obtain rfl := hw.symm) | (go_at_call 84; refine (M _).mono ?_; rintro e w2 ⟨rfl, hb⟩))
    go_ret
    refine ⟨rfl, ?_⟩
    ((repeat (first | refine bel_alloc ?_ _ | refine bel_dN ?_ _ | refine Below.drew ?_ | refine Below.setCell ?_ (by first | (simp; done) | (simp; omega)) _)); refine bel_step ?_ hb; (repeat (first | refine bel_alloc ?_ _ | refine bel_dN ?_ _ | refine Below.drew ?_ | refine Below.setCell ?_ (by first | (simp; done) | (simp; omega)) _)); exact Below.refl _ _)
  · have e : opv 3 = .iface 69 (.int .i64 10000) := rfl
    rw [e] at O
    have hm : ∀ w : World, (method 229 69 (.int .i64 10000) "loop.example/g00209/impl.may").run Try.prog w = .ok (84, .int .i64 10000) w := fun _ => by kernel_rfl
    have M : ∀ w : World, Calls Try.prog 84 #[.int .i64 10000, .int .i64 a] w fun e w' => e = .returned (.bool (mayK 3 a)) ∧ Below w.heap.size w w' := fun w => (mayUp 10000 a w).mono fun e w1 h => ⟨h.1, below_same h.2⟩
    generalize mayK 3 a = r at M ⊢
    clear h hg e h0 h1
    go_enter Try.func28, Try.ntmps28
    go_wp2_with (first | (go_at_call 18; refine (O _).mono ?_; rintro e w1 ⟨rfl, hw⟩; obtain rfl := hw.symm) | (go_at_call 84; refine (M _).mono ?_; rintro e w2 ⟨rfl, hb⟩))
    go_ret
    refine ⟨rfl, ?_⟩
    ((repeat (first | refine bel_alloc ?_ _ | refine bel_dN ?_ _ | refine Below.drew ?_ | refine Below.setCell ?_ (by first | (simp; done) | (simp; omega)) _)); refine bel_step ?_ hb; (repeat (first | refine bel_alloc ?_ _ | refine bel_dN ?_ _ | refine Below.drew ?_ | refine Below.setCell ?_ (by first | (simp; done) | (simp; omega)) _)); exact Below.refl _ _)
  · have e : opv 4 = .iface 71 (.int .i64 32) := rfl
    rw [e] at O
    have hm : ∀ w : World, (method 229 71 (.int .i64 32) "loop.example/g00209/impl.may").run Try.prog w = .ok (85, .int .i64 32) w := fun _ => by kernel_rfl
    have M : ∀ w : World, Calls Try.prog 85 #[.int .i64 32, .int .i64 a] w fun e w' => e = .returned (.bool (mayK 4 a)) ∧ Below w.heap.size w w' := fun w => (may4 a h0 h1 w).mono fun e w1 h => ⟨h.1, below_same h.2⟩
    generalize mayK 4 a = r at M ⊢
    clear h hg e h0 h1
    go_enter Try.func28, Try.ntmps28
    go_wp2_with (first | (go_at_call 18; refine (O _).mono ?_; rintro e w1 ⟨rfl, hw⟩; obtain rfl := hw.symm) | (go_at_call 85; refine (M _).mono ?_; rintro e w2 ⟨rfl, hb⟩))
    go_ret
    refine ⟨rfl, ?_⟩
    ((repeat (first | refine bel_alloc ?_ _ | refine bel_dN ?_ _ | refine Below.drew ?_ | refine Below.setCell ?_ (by first | (simp; done) | (simp; omega)) _)); refine bel_step ?_ hb; (repeat (first | refine bel_alloc ?_ _ | refine bel_dN ?_ _ | refine Below.drew ?_ | refine Below.setCell ?_ (by first | (simp; done) | (simp; omega)) _)); exact Below.refl _ _)
  · have e : opv 5 = .iface 71 (.int .i64 64) := rfl
    rw [e] at O
    have hm : ∀ w : World, (method 229 71 (.int .i64 64) "loop.example/g00209/impl.may").run Try.prog w = .ok (85, .int .i64 64) w := fun _ => by kernel_rfl
    have M : ∀ w : World, Calls Try.prog 85 #[.int .i64 64, .int .i64 a] w fun e w' => e = .returned (.bool (mayK 5 a)) ∧ Below w.heap.size w w' := fun w => (may5 a h0 h1 w).mono fun e w1 h => ⟨h.1, below_same h.2⟩
    generalize mayK 5 a = r at M ⊢
    clear h hg e h0 h1
    go_enter Try.func28, Try.ntmps28
    go_wp2_with (first | (go_at_call 18; refine (O _).mono ?_; rintro e w1 ⟨rfl, hw⟩; obtain rfl := hw.symm) | (go_at_call 85; refine (M _).mono ?_; rintro e w2 ⟨rfl, hb⟩))
    go_ret
    refine ⟨rfl, ?_⟩
    ((repeat (first | refine bel_alloc ?_ _ | refine bel_dN ?_ _ | refine Below.drew ?_ | refine Below.setCell ?_ (by first | (simp; done) | (simp; omega)) _)); refine bel_step ?_ hb; (repeat (first | refine bel_alloc ?_ _ | refine bel_dN ?_ _ | refine Below.drew ?_ | refine Below.setCell ?_ (by first | (simp; done) | (simp; omega)) _)); exact Below.refl _ _)
  · have e : opv 6 = .iface 73 (.agg #[]) := rfl
    rw [e] at O
    have hm : ∀ w : World, (method 229 73 (.agg #[]) "loop.example/g00209/impl.may").run Try.prog w = .ok (87, .agg #[]) w := fun _ => by kernel_rfl
    have M : ∀ w : World, Calls Try.prog 87 #[.agg #[], .int .i64 a] w fun e w' => e = .returned (.bool (mayK 6 a)) ∧ Below w.heap.size w w' := fun w => may6 a h0 h1 w
    generalize mayK 6 a = r at M ⊢
    clear h hg e h0 h1
    go_enter Try.func28, Try.ntmps28
    go_wp2_with (first | (go_at_call 18; refine (O _).mono ?_; rintro e w1 ⟨rfl, hw⟩; obtain rfl := hw.symm) | (go_at_call 87; refine (M _).mono ?_; rintro e w2 ⟨rfl, hb⟩))
    go_ret
    refine ⟨rfl, ?_⟩
    ((repeat (first | refine bel_alloc ?_ _ | refine bel_dN ?_ _ | refine Below.drew ?_ | refine Below.setCell ?_ (by first | (simp; done) | (simp; omega)) _)); refine bel_step ?_ hb; (repeat (first | refine bel_alloc ?_ _ | refine bel_dN ?_ _ | refine Below.drew ?_ | refine Below.setCell ?_ (by first | (simp; done) | (simp; omega)) _)); exact Below.refl _ _)
  · have e : opv (-1) = .nilIface := rfl
    rw [e] at O
    have hr : mayK (-1) a = false := rfl
    rw [hr]
    clear h hg e h0 h1 hr
    go_enter Try.func28, Try.ntmps28
    go_wp2_with (go_at_call 18; refine (O _).mono ?_; rintro e w1 ⟨rfl, hw⟩; obtain rfl := hw.symm)
    go_ret
    refine ⟨rfl, ?_⟩
    (repeat (first | refine Below.alloc ?_ (by first | (simp; done) | (simp; omega)) _ | refine Below.setCell ?_ (by first | (simp; done) | (simp; omega)) _ | refine bel_dN ?_ _ | refine Below.drew ?_ | exact Below.refl _ _))

end Go.Proofs.Ytdalkbapfjpkoaa
