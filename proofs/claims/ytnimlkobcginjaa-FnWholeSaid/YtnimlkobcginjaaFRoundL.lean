/-
  FRound: both sides, and its law.
-/
import Derived.Test.YtnimlkobcginjaaFRoundS
namespace Go.Proofs.Ytnimlkobcginjaa
open Go.RowKit

theorem wholeNan16 (mode e m : Int) (s : Bool) (w : World) :
    Calls Try.prog 81 #[(.agg #[.int .u64 5, .int .u64 10]), .int .i64 mode, .agg #[.bool s, .bool false, .bool true, .int .u64 m, .int .i64 e]] w fun x w' => x = .returned (.int .u32 (31744 + 512)) ∧ Below w.heap.size w w' := by
  have NN := l4Nan16
  go_enter Try.func81, Try.ntmps81
  go_wp2_with fail
  refine (NN _).mono ?_
  rintro x w1 ⟨rfl, B1⟩
  go_wp2
  go_ret
  refine ⟨rfl, ?_⟩
  ((repeat (first | refine bel_alloc ?_ _ | refine bel_dN ?_ _ | refine Below.drew ?_ | refine Below.setCell ?_ (by first | (simp; done) | (simp; omega)) _)); refine bel_step ?_ B1; (repeat (first | refine bel_alloc ?_ _ | refine bel_dN ?_ _ | refine Below.drew ?_ | refine Below.setCell ?_ (by first | (simp; done) | (simp; omega)) _)); exact Below.refl _ _)

theorem wholeNan32 (mode e m : Int) (s : Bool) (w : World) :
    Calls Try.prog 81 #[(.agg #[.int .u64 8, .int .u64 23]), .int .i64 mode, .agg #[.bool s, .bool false, .bool true, .int .u64 m, .int .i64 e]] w fun x w' => x = .returned (.int .u32 (2139095040 + 4194304)) ∧ Below w.heap.size w w' := by
  have NN := l4Nan32
  go_enter Try.func81, Try.ntmps81
  go_wp2_with fail
  refine (NN _).mono ?_
  rintro x w1 ⟨rfl, B1⟩
  go_wp2
  go_ret
  refine ⟨rfl, ?_⟩
  ((repeat (first | refine bel_alloc ?_ _ | refine bel_dN ?_ _ | refine Below.drew ?_ | refine Below.setCell ?_ (by first | (simp; done) | (simp; omega)) _)); refine bel_step ?_ B1; (repeat (first | refine bel_alloc ?_ _ | refine bel_dN ?_ _ | refine Below.drew ?_ | refine Below.setCell ?_ (by first | (simp; done) | (simp; omega)) _)); exact Below.refl _ _)

theorem wholeInf16 (mode e m : Int) (s : Bool) (w : World) :
    Calls Try.prog 81 #[(.agg #[.int .u64 5, .int .u64 10]), .int .i64 mode, .agg #[.bool s, .bool true, .bool false, .int .u64 m, .int .i64 e]] w fun x w' => x = .returned (.int .u32 (s.toNat * 32768 + 31744)) ∧ Below w.heap.size w w' := by
  have NN := l4Inf16 s
  go_enter Try.func81, Try.ntmps81
  go_wp2_with fail
  refine (NN _).mono ?_
  rintro x w1 ⟨rfl, B1⟩
  go_wp2
  go_ret
  refine ⟨rfl, ?_⟩
  ((repeat (first | refine bel_alloc ?_ _ | refine bel_dN ?_ _ | refine Below.drew ?_ | refine Below.setCell ?_ (by first | (simp; done) | (simp; omega)) _)); refine bel_step ?_ B1; (repeat (first | refine bel_alloc ?_ _ | refine bel_dN ?_ _ | refine Below.drew ?_ | refine Below.setCell ?_ (by first | (simp; done) | (simp; omega)) _)); exact Below.refl _ _)

theorem wholeInf32 (mode e m : Int) (s : Bool) (w : World) :
    Calls Try.prog 81 #[(.agg #[.int .u64 8, .int .u64 23]), .int .i64 mode, .agg #[.bool s, .bool true, .bool false, .int .u64 m, .int .i64 e]] w fun x w' => x = .returned (.int .u32 (s.toNat * 2147483648 + 2139095040)) ∧ Below w.heap.size w w' := by
  have NN := l4Inf32 s
  go_enter Try.func81, Try.ntmps81
  go_wp2_with fail
  refine (NN _).mono ?_
  rintro x w1 ⟨rfl, B1⟩
  go_wp2
  go_ret
  refine ⟨rfl, ?_⟩
  ((repeat (first | refine bel_alloc ?_ _ | refine bel_dN ?_ _ | refine Below.drew ?_ | refine Below.setCell ?_ (by first | (simp; done) | (simp; omega)) _)); refine bel_step ?_ B1; (repeat (first | refine bel_alloc ?_ _ | refine bel_dN ?_ _ | refine Below.drew ?_ | refine Below.setCell ?_ (by first | (simp; done) | (simp; omega)) _)); exact Below.refl _ _)

theorem wholeRnd16 (mode e m r : Int) (s : Bool) (h : 0 ≤ e ∨ m = 0) (RR : Hid (∀ w, Calls Try.prog 92 #[(.agg #[.int .u64 5, .int .u64 10]), .bool s, .int .u64 m, .int .i64 e, .bool false] w fun x w' => x = .returned (.int .u32 r) ∧ Below w.heap.size w w')) (w : World) :
    Calls Try.prog 81 #[(.agg #[.int .u64 5, .int .u64 10]), .int .i64 mode, .agg #[.bool s, .bool false, .bool false, .int .u64 m, .int .i64 e]] w fun x w' => x = .returned (.int .u32 r) ∧ Below w.heap.size w w' := by
  by_cases he : 0 ≤ e
  · clear h
    go_enter Try.func81, Try.ntmps81
    go_wp2_with fail
    refine (RR.out _).mono ?_
    rintro x w1 ⟨rfl, B1⟩
    go_wp2
    go_ret
    refine ⟨rfl, ?_⟩
    ((repeat (first | refine bel_alloc ?_ _ | refine bel_dN ?_ _ | refine Below.drew ?_ | refine Below.setCell ?_ (by first | (simp; done) | (simp; omega)) _)); refine bel_step ?_ B1; (repeat (first | refine bel_alloc ?_ _ | refine bel_dN ?_ _ | refine Below.drew ?_ | refine Below.setCell ?_ (by first | (simp; done) | (simp; omega)) _)); exact Below.refl _ _)
  · obtain rfl : m = 0 := by omega
    clear h
    go_enter Try.func81, Try.ntmps81
    go_wp2_with fail
    refine (RR.out _).mono ?_
    rintro x w1 ⟨rfl, B1⟩
    go_wp2
    go_ret
    refine ⟨rfl, ?_⟩
    ((repeat (first | refine bel_alloc ?_ _ | refine bel_dN ?_ _ | refine Below.drew ?_ | refine Below.setCell ?_ (by first | (simp; done) | (simp; omega)) _)); refine bel_step ?_ B1; (repeat (first | refine bel_alloc ?_ _ | refine bel_dN ?_ _ | refine Below.drew ?_ | refine Below.setCell ?_ (by first | (simp; done) | (simp; omega)) _)); exact Below.refl _ _)

theorem wholeRnd32 (mode e m r : Int) (s : Bool) (h : 0 ≤ e ∨ m = 0) (RR : Hid (∀ w, Calls Try.prog 92 #[(.agg #[.int .u64 8, .int .u64 23]), .bool s, .int .u64 m, .int .i64 e, .bool false] w fun x w' => x = .returned (.int .u32 r) ∧ Below w.heap.size w w')) (w : World) :
    Calls Try.prog 81 #[(.agg #[.int .u64 8, .int .u64 23]), .int .i64 mode, .agg #[.bool s, .bool false, .bool false, .int .u64 m, .int .i64 e]] w fun x w' => x = .returned (.int .u32 r) ∧ Below w.heap.size w w' := by
  by_cases he : 0 ≤ e
  · clear h
    go_enter Try.func81, Try.ntmps81
    go_wp2_with fail
    refine (RR.out _).mono ?_
    rintro x w1 ⟨rfl, B1⟩
    go_wp2
    go_ret
    refine ⟨rfl, ?_⟩
    ((repeat (first | refine bel_alloc ?_ _ | refine bel_dN ?_ _ | refine Below.drew ?_ | refine Below.setCell ?_ (by first | (simp; done) | (simp; omega)) _)); refine bel_step ?_ B1; (repeat (first | refine bel_alloc ?_ _ | refine bel_dN ?_ _ | refine Below.drew ?_ | refine Below.setCell ?_ (by first | (simp; done) | (simp; omega)) _)); exact Below.refl _ _)
  · obtain rfl : m = 0 := by omega
    clear h
    go_enter Try.func81, Try.ntmps81
    go_wp2_with fail
    refine (RR.out _).mono ?_
    rintro x w1 ⟨rfl, B1⟩
    go_wp2
    go_ret
    refine ⟨rfl, ?_⟩
    ((repeat (first | refine bel_alloc ?_ _ | refine bel_dN ?_ _ | refine Below.drew ?_ | refine Below.setCell ?_ (by first | (simp; done) | (simp; omega)) _)); refine bel_step ?_ B1; (repeat (first | refine bel_alloc ?_ _ | refine bel_dN ?_ _ | refine Below.drew ?_ | refine Below.setCell ?_ (by first | (simp; done) | (simp; omega)) _)); exact Below.refl _ _)

theorem l1InYes2 (x lo hi : Int) (h1 : lo ≤ x) (h2 : x ≤ hi) (w : World) : Calls Try.prog 57 #[.int .i64 x, .int .i64 lo, .int .i64 hi] w fun e w' => e = .returned (.bool true) ∧ w' = w := by
  go_enter Try.func57, Try.ntmps57
  go_wp2
  go_ret
  exact ⟨rfl, rfl⟩
theorem l1InNo2 (x lo hi : Int) (h : ¬ (lo ≤ x ∧ x ≤ hi)) (w : World) : Calls Try.prog 57 #[.int .i64 x, .int .i64 lo, .int .i64 hi] w fun e w' => e = .returned (.bool false) ∧ w' = w := by
  by_cases h1 : lo ≤ x
  · have h2 : ¬ x ≤ hi := fun h2 => h ⟨h1, h2⟩
    clear h
    go_enter Try.func57, Try.ntmps57
    go_wp2
    go_ret
    exact ⟨rfl, rfl⟩
  · clear h
    go_enter Try.func57, Try.ntmps57
    go_wp2
    go_ret
    exact ⟨rfl, rfl⟩

set_option maxHeartbeats 1000000 in
theorem roundSpecF16 (mode a r : Int) (v : Value) (h1 : 1 ≤ mode) (h4 : mode ≤ 4) (O : Hid (∀ w, Calls Try.prog 82 #[(.agg #[.int .u64 5, .int .u64 10]), .int .u32 a] w fun x w' => x = .returned v ∧ Below w.heap.size w w'))
    (WW : Hid (∀ w, Calls Try.prog 81 #[(.agg #[.int .u64 5, .int .u64 10]), .int .i64 mode, v] w fun x w' => x = .returned (.int .u32 r) ∧ Below w.heap.size w w')) (w : World) :
    Calls Try.prog 35 #[.int .i64 16, .int .i64 mode, .int .u32 a] w fun x w' => x = .returned (.int .u32 r) ∧ Below w.heap.size w w' := by
  have IN := l1InYes2 mode 1 4 h1 h4
  clear h1 h4
  go_enter Try.func35, Try.ntmps35
  go_wp2_with fail
  refine (l4Kind16 _).mono ?_
  rintro x w1 ⟨rfl, B1⟩
  go_wp2_with fail
  refine (IN _).mono ?_
  rintro x w2 ⟨rfl, hw⟩
  obtain rfl := hw.symm
  go_wp2_with fail
  have k0 : ∀ w, Keeps (w1.alloc (.cells #[.int .u64 5, .int .u64 10] 97)) w → w.cell? ⟨w1.heap.size, 0, none⟩ = some (.int .u64 5) := fun w h => h.cell (by simp) (by simp)
  have k1 : ∀ w, Keeps (w1.alloc (.cells #[.int .u64 5, .int .u64 10] 97)) w → w.cell? ⟨w1.heap.size, 1, none⟩ = some (.int .u64 10) := fun w h => h.cell (by simp) (by simp)
  refine region_q (C := Keeps (w1.alloc (.cells #[.int .u64 5, .int .u64 10] 97))) (by kernel_rfl) (by kernel_rfl) (Keeps.drew _) ?_
  (iterate 7
    (apply wpQuiet_go _ (by rfl)
     · intro wq hq
       go_simp
       first
         | (go_at_call 82; exact qcall hq (O.out _))
         | (go_at_call 81; exact qcall hq (WW.out _))
         | exact rfl
     simp only [Act.put, List.setIfInBounds_toArray, List.set_cons_succ, List.set_cons_zero]))
  refine wpQuiet_nil ?_
  intro w3 hk
  have hb := hk.below
  clear k0 k1 hk
  go_wp2
  go_ret
  refine ⟨rfl, ?_⟩
  ((repeat (first | refine bel_alloc ?_ _ | refine bel_dN ?_ _ | refine Below.drew ?_ | refine Below.setCell ?_ (by first | (simp; done) | (simp; omega)) _)); refine bel_step ?_ hb; (repeat (first | refine bel_alloc ?_ _ | refine bel_dN ?_ _ | refine Below.drew ?_ | refine Below.setCell ?_ (by first | (simp; done) | (simp; omega)) _)); refine bel_step ?_ B1; (repeat (first | refine bel_alloc ?_ _ | refine bel_dN ?_ _ | refine Below.drew ?_ | refine Below.setCell ?_ (by first | (simp; done) | (simp; omega)) _)); exact Below.refl _ _)

set_option maxHeartbeats 1000000 in
theorem roundSpecF32 (mode a r : Int) (v : Value) (h1 : 1 ≤ mode) (h4 : mode ≤ 4) (O : Hid (∀ w, Calls Try.prog 82 #[(.agg #[.int .u64 8, .int .u64 23]), .int .u32 a] w fun x w' => x = .returned v ∧ Below w.heap.size w w'))
    (WW : Hid (∀ w, Calls Try.prog 81 #[(.agg #[.int .u64 8, .int .u64 23]), .int .i64 mode, v] w fun x w' => x = .returned (.int .u32 r) ∧ Below w.heap.size w w')) (w : World) :
    Calls Try.prog 35 #[.int .i64 32, .int .i64 mode, .int .u32 a] w fun x w' => x = .returned (.int .u32 r) ∧ Below w.heap.size w w' := by
  have IN := l1InYes2 mode 1 4 h1 h4
  clear h1 h4
  go_enter Try.func35, Try.ntmps35
  go_wp2_with fail
  refine (l4Kind32 _).mono ?_
  rintro x w1 ⟨rfl, B1⟩
  go_wp2_with fail
  refine (IN _).mono ?_
  rintro x w2 ⟨rfl, hw⟩
  obtain rfl := hw.symm
  go_wp2_with fail
  have k0 : ∀ w, Keeps (w1.alloc (.cells #[.int .u64 8, .int .u64 23] 97)) w → w.cell? ⟨w1.heap.size, 0, none⟩ = some (.int .u64 8) := fun w h => h.cell (by simp) (by simp)
  have k1 : ∀ w, Keeps (w1.alloc (.cells #[.int .u64 8, .int .u64 23] 97)) w → w.cell? ⟨w1.heap.size, 1, none⟩ = some (.int .u64 23) := fun w h => h.cell (by simp) (by simp)
  refine region_q (C := Keeps (w1.alloc (.cells #[.int .u64 8, .int .u64 23] 97))) (by kernel_rfl) (by kernel_rfl) (Keeps.drew _) ?_
  (iterate 7
    (apply wpQuiet_go _ (by rfl)
     · intro wq hq
       go_simp
       first
         | (go_at_call 82; exact qcall hq (O.out _))
         | (go_at_call 81; exact qcall hq (WW.out _))
         | exact rfl
     simp only [Act.put, List.setIfInBounds_toArray, List.set_cons_succ, List.set_cons_zero]))
  refine wpQuiet_nil ?_
  intro w3 hk
  have hb := hk.below
  clear k0 k1 hk
  go_wp2
  go_ret
  refine ⟨rfl, ?_⟩
  ((repeat (first | refine bel_alloc ?_ _ | refine bel_dN ?_ _ | refine Below.drew ?_ | refine Below.setCell ?_ (by first | (simp; done) | (simp; omega)) _)); refine bel_step ?_ hb; (repeat (first | refine bel_alloc ?_ _ | refine bel_dN ?_ _ | refine Below.drew ?_ | refine Below.setCell ?_ (by first | (simp; done) | (simp; omega)) _)); refine bel_step ?_ B1; (repeat (first | refine bel_alloc ?_ _ | refine bel_dN ?_ _ | refine Below.drew ?_ | refine Below.setCell ?_ (by first | (simp; done) | (simp; omega)) _)); exact Below.refl _ _)

set_option maxHeartbeats 1000000 in
theorem roundImpl216 (mode a m e : Int) (s : Bool) (h1 : 1 ≤ mode) (h4 : mode ≤ 4) (V : Hid (∀ w, Calls Try.prog 66 #[(.agg #[.int .i64 10, .int .i64 15, .int .u32 31]), .int .u32 a] w fun x w' => x = .returned (.agg #[.int .i64 2, .bool s, .int .u64 m, .int .i64 e]) ∧ Below w.heap.size w w')) (w : World) :
    Calls Try.prog 34 #[.int .i64 16, .int .i64 mode, .int .u32 a] w fun x w' => x = .returned (.int .u32 (31744 + 512)) ∧ Below w.heap.size w w' := by
  go_enter Try.func34, Try.ntmps34
  go_wp2_with fail
  refine (form16 _).mono ?_
  rintro x w1 ⟨rfl, B1⟩
  go_wp2_with fail
  refine (V.out _).mono ?_
  rintro x w2 ⟨rfl, B2⟩
  have f0 := B2.cell (p := ⟨w1.heap.size, 0, none⟩) (by simp)
  have f1 := B2.cell (p := ⟨w1.heap.size, 1, none⟩) (by simp)
  have f2 := B2.cell (p := ⟨w1.heap.size, 2, none⟩) (by simp)
  simp at f0 f1 f2
  have l1 : w1.heap.size < w2.heap.size := Nat.lt_of_lt_of_le (by simp) B2.size
  clear V
  go_wp2_with fail
  refine (noNumber16 _).mono ?_
  rintro x w3 ⟨rfl, B3⟩
  go_wp2
  go_ret
  refine ⟨rfl, ?_⟩
  ((repeat (first | refine bel_alloc ?_ _ | refine bel_dN ?_ _ | refine Below.drew ?_ | refine Below.setCell ?_ (by first | (simp; done) | (simp; omega)) _)); refine bel_step ?_ B3; (repeat (first | refine bel_alloc ?_ _ | refine bel_dN ?_ _ | refine Below.drew ?_ | refine Below.setCell ?_ (by first | (simp; done) | (simp; omega)) _)); refine bel_step ?_ B2; (repeat (first | refine bel_alloc ?_ _ | refine bel_dN ?_ _ | refine Below.drew ?_ | refine Below.setCell ?_ (by first | (simp; done) | (simp; omega)) _)); refine bel_step ?_ B1; (repeat (first | refine bel_alloc ?_ _ | refine bel_dN ?_ _ | refine Below.drew ?_ | refine Below.setCell ?_ (by first | (simp; done) | (simp; omega)) _)); exact Below.refl _ _)

set_option maxHeartbeats 1000000 in
theorem roundImpl232 (mode a m e : Int) (s : Bool) (h1 : 1 ≤ mode) (h4 : mode ≤ 4) (V : Hid (∀ w, Calls Try.prog 66 #[(.agg #[.int .i64 23, .int .i64 127, .int .u32 255]), .int .u32 a] w fun x w' => x = .returned (.agg #[.int .i64 2, .bool s, .int .u64 m, .int .i64 e]) ∧ Below w.heap.size w w')) (w : World) :
    Calls Try.prog 34 #[.int .i64 32, .int .i64 mode, .int .u32 a] w fun x w' => x = .returned (.int .u32 (2139095040 + 4194304)) ∧ Below w.heap.size w w' := by
  go_enter Try.func34, Try.ntmps34
  go_wp2_with fail
  refine (form32 _).mono ?_
  rintro x w1 ⟨rfl, B1⟩
  go_wp2_with fail
  refine (V.out _).mono ?_
  rintro x w2 ⟨rfl, B2⟩
  have f0 := B2.cell (p := ⟨w1.heap.size, 0, none⟩) (by simp)
  have f1 := B2.cell (p := ⟨w1.heap.size, 1, none⟩) (by simp)
  have f2 := B2.cell (p := ⟨w1.heap.size, 2, none⟩) (by simp)
  simp at f0 f1 f2
  have l1 : w1.heap.size < w2.heap.size := Nat.lt_of_lt_of_le (by simp) B2.size
  clear V
  go_wp2_with fail
  refine (noNumber32 _).mono ?_
  rintro x w3 ⟨rfl, B3⟩
  go_wp2
  go_ret
  refine ⟨rfl, ?_⟩
  ((repeat (first | refine bel_alloc ?_ _ | refine bel_dN ?_ _ | refine Below.drew ?_ | refine Below.setCell ?_ (by first | (simp; done) | (simp; omega)) _)); refine bel_step ?_ B3; (repeat (first | refine bel_alloc ?_ _ | refine bel_dN ?_ _ | refine Below.drew ?_ | refine Below.setCell ?_ (by first | (simp; done) | (simp; omega)) _)); refine bel_step ?_ B2; (repeat (first | refine bel_alloc ?_ _ | refine bel_dN ?_ _ | refine Below.drew ?_ | refine Below.setCell ?_ (by first | (simp; done) | (simp; omega)) _)); refine bel_step ?_ B1; (repeat (first | refine bel_alloc ?_ _ | refine bel_dN ?_ _ | refine Below.drew ?_ | refine Below.setCell ?_ (by first | (simp; done) | (simp; omega)) _)); exact Below.refl _ _)

set_option maxHeartbeats 1000000 in
theorem roundImpl116 (mode a m e : Int) (s : Bool) (h1 : 1 ≤ mode) (h4 : mode ≤ 4) (V : Hid (∀ w, Calls Try.prog 66 #[(.agg #[.int .i64 10, .int .i64 15, .int .u32 31]), .int .u32 a] w fun x w' => x = .returned (.agg #[.int .i64 1, .bool s, .int .u64 m, .int .i64 e]) ∧ Below w.heap.size w w')) (w : World) :
    Calls Try.prog 34 #[.int .i64 16, .int .i64 mode, .int .u32 a] w fun x w' => x = .returned (.int .u32 (s.toNat * 32768 + 31744)) ∧ Below w.heap.size w w' := by
  go_enter Try.func34, Try.ntmps34
  go_wp2_with fail
  refine (form16 _).mono ?_
  rintro x w1 ⟨rfl, B1⟩
  go_wp2_with fail
  refine (V.out _).mono ?_
  rintro x w2 ⟨rfl, B2⟩
  have f0 := B2.cell (p := ⟨w1.heap.size, 0, none⟩) (by simp)
  have f1 := B2.cell (p := ⟨w1.heap.size, 1, none⟩) (by simp)
  have f2 := B2.cell (p := ⟨w1.heap.size, 2, none⟩) (by simp)
  simp at f0 f1 f2
  have l1 : w1.heap.size < w2.heap.size := Nat.lt_of_lt_of_le (by simp) B2.size
  clear V
  go_wp2_with fail
  refine (infinite16 s _).mono ?_
  rintro x w3 ⟨rfl, B3⟩
  go_wp2
  go_ret
  refine ⟨rfl, ?_⟩
  ((repeat (first | refine bel_alloc ?_ _ | refine bel_dN ?_ _ | refine Below.drew ?_ | refine Below.setCell ?_ (by first | (simp; done) | (simp; omega)) _)); refine bel_step ?_ B3; (repeat (first | refine bel_alloc ?_ _ | refine bel_dN ?_ _ | refine Below.drew ?_ | refine Below.setCell ?_ (by first | (simp; done) | (simp; omega)) _)); refine bel_step ?_ B2; (repeat (first | refine bel_alloc ?_ _ | refine bel_dN ?_ _ | refine Below.drew ?_ | refine Below.setCell ?_ (by first | (simp; done) | (simp; omega)) _)); refine bel_step ?_ B1; (repeat (first | refine bel_alloc ?_ _ | refine bel_dN ?_ _ | refine Below.drew ?_ | refine Below.setCell ?_ (by first | (simp; done) | (simp; omega)) _)); exact Below.refl _ _)

set_option maxHeartbeats 1000000 in
theorem roundImpl132 (mode a m e : Int) (s : Bool) (h1 : 1 ≤ mode) (h4 : mode ≤ 4) (V : Hid (∀ w, Calls Try.prog 66 #[(.agg #[.int .i64 23, .int .i64 127, .int .u32 255]), .int .u32 a] w fun x w' => x = .returned (.agg #[.int .i64 1, .bool s, .int .u64 m, .int .i64 e]) ∧ Below w.heap.size w w')) (w : World) :
    Calls Try.prog 34 #[.int .i64 32, .int .i64 mode, .int .u32 a] w fun x w' => x = .returned (.int .u32 (s.toNat * 2147483648 + 2139095040)) ∧ Below w.heap.size w w' := by
  go_enter Try.func34, Try.ntmps34
  go_wp2_with fail
  refine (form32 _).mono ?_
  rintro x w1 ⟨rfl, B1⟩
  go_wp2_with fail
  refine (V.out _).mono ?_
  rintro x w2 ⟨rfl, B2⟩
  have f0 := B2.cell (p := ⟨w1.heap.size, 0, none⟩) (by simp)
  have f1 := B2.cell (p := ⟨w1.heap.size, 1, none⟩) (by simp)
  have f2 := B2.cell (p := ⟨w1.heap.size, 2, none⟩) (by simp)
  simp at f0 f1 f2
  have l1 : w1.heap.size < w2.heap.size := Nat.lt_of_lt_of_le (by simp) B2.size
  clear V
  go_wp2_with fail
  refine (infinite32 s _).mono ?_
  rintro x w3 ⟨rfl, B3⟩
  go_wp2
  go_ret
  refine ⟨rfl, ?_⟩
  ((repeat (first | refine bel_alloc ?_ _ | refine bel_dN ?_ _ | refine Below.drew ?_ | refine Below.setCell ?_ (by first | (simp; done) | (simp; omega)) _)); refine bel_step ?_ B3; (repeat (first | refine bel_alloc ?_ _ | refine bel_dN ?_ _ | refine Below.drew ?_ | refine Below.setCell ?_ (by first | (simp; done) | (simp; omega)) _)); refine bel_step ?_ B2; (repeat (first | refine bel_alloc ?_ _ | refine bel_dN ?_ _ | refine Below.drew ?_ | refine Below.setCell ?_ (by first | (simp; done) | (simp; omega)) _)); refine bel_step ?_ B1; (repeat (first | refine bel_alloc ?_ _ | refine bel_dN ?_ _ | refine Below.drew ?_ | refine Below.setCell ?_ (by first | (simp; done) | (simp; omega)) _)); exact Below.refl _ _)

set_option maxHeartbeats 1000000 in
theorem roundImplE16 (mode a m e : Int) (s : Bool) (h1 : 1 ≤ mode) (h4 : mode ≤ 4) (V : Hid (∀ w, Calls Try.prog 66 #[(.agg #[.int .i64 10, .int .i64 15, .int .u32 31]), .int .u32 a] w fun x w' => x = .returned (.agg #[.int .i64 0, .bool s, .int .u64 m, .int .i64 e]) ∧ Below w.heap.size w w')) (r : Int) (RR : Hid (∀ w, Calls Try.prog 79 #[(.agg #[.int .i64 10, .int .i64 15, .int .u32 31]), .bool s, .int .u64 m, .int .i64 e, .bool false] w fun x w' => x = .returned (.int .u32 r) ∧ Below w.heap.size w w')) (he : 0 ≤ e) (w : World) :
    Calls Try.prog 34 #[.int .i64 16, .int .i64 mode, .int .u32 a] w fun x w' => x = .returned (.int .u32 (r)) ∧ Below w.heap.size w w' := by
  go_enter Try.func34, Try.ntmps34
  go_wp2_with fail
  refine (form16 _).mono ?_
  rintro x w1 ⟨rfl, B1⟩
  go_wp2_with fail
  refine (V.out _).mono ?_
  rintro x w2 ⟨rfl, B2⟩
  have f0 := B2.cell (p := ⟨w1.heap.size, 0, none⟩) (by simp)
  have f1 := B2.cell (p := ⟨w1.heap.size, 1, none⟩) (by simp)
  have f2 := B2.cell (p := ⟨w1.heap.size, 2, none⟩) (by simp)
  simp at f0 f1 f2
  have l1 : w1.heap.size < w2.heap.size := Nat.lt_of_lt_of_le (by simp) B2.size
  clear V
  go_wp2_with fail
  refine (RR.out _).mono ?_
  rintro x w3 ⟨rfl, B3⟩
  go_wp2
  go_ret
  refine ⟨rfl, ?_⟩
  ((repeat (first | refine bel_alloc ?_ _ | refine bel_dN ?_ _ | refine Below.drew ?_ | refine Below.setCell ?_ (by first | (simp; done) | (simp; omega)) _)); refine bel_step ?_ B3; (repeat (first | refine bel_alloc ?_ _ | refine bel_dN ?_ _ | refine Below.drew ?_ | refine Below.setCell ?_ (by first | (simp; done) | (simp; omega)) _)); refine bel_step ?_ B2; (repeat (first | refine bel_alloc ?_ _ | refine bel_dN ?_ _ | refine Below.drew ?_ | refine Below.setCell ?_ (by first | (simp; done) | (simp; omega)) _)); refine bel_step ?_ B1; (repeat (first | refine bel_alloc ?_ _ | refine bel_dN ?_ _ | refine Below.drew ?_ | refine Below.setCell ?_ (by first | (simp; done) | (simp; omega)) _)); exact Below.refl _ _)

set_option maxHeartbeats 1000000 in
theorem roundImplE32 (mode a m e : Int) (s : Bool) (h1 : 1 ≤ mode) (h4 : mode ≤ 4) (V : Hid (∀ w, Calls Try.prog 66 #[(.agg #[.int .i64 23, .int .i64 127, .int .u32 255]), .int .u32 a] w fun x w' => x = .returned (.agg #[.int .i64 0, .bool s, .int .u64 m, .int .i64 e]) ∧ Below w.heap.size w w')) (r : Int) (RR : Hid (∀ w, Calls Try.prog 79 #[(.agg #[.int .i64 23, .int .i64 127, .int .u32 255]), .bool s, .int .u64 m, .int .i64 e, .bool false] w fun x w' => x = .returned (.int .u32 r) ∧ Below w.heap.size w w')) (he : 0 ≤ e) (w : World) :
    Calls Try.prog 34 #[.int .i64 32, .int .i64 mode, .int .u32 a] w fun x w' => x = .returned (.int .u32 (r)) ∧ Below w.heap.size w w' := by
  go_enter Try.func34, Try.ntmps34
  go_wp2_with fail
  refine (form32 _).mono ?_
  rintro x w1 ⟨rfl, B1⟩
  go_wp2_with fail
  refine (V.out _).mono ?_
  rintro x w2 ⟨rfl, B2⟩
  have f0 := B2.cell (p := ⟨w1.heap.size, 0, none⟩) (by simp)
  have f1 := B2.cell (p := ⟨w1.heap.size, 1, none⟩) (by simp)
  have f2 := B2.cell (p := ⟨w1.heap.size, 2, none⟩) (by simp)
  simp at f0 f1 f2
  have l1 : w1.heap.size < w2.heap.size := Nat.lt_of_lt_of_le (by simp) B2.size
  clear V
  go_wp2_with fail
  refine (RR.out _).mono ?_
  rintro x w3 ⟨rfl, B3⟩
  go_wp2
  go_ret
  refine ⟨rfl, ?_⟩
  ((repeat (first | refine bel_alloc ?_ _ | refine bel_dN ?_ _ | refine Below.drew ?_ | refine Below.setCell ?_ (by first | (simp; done) | (simp; omega)) _)); refine bel_step ?_ B3; (repeat (first | refine bel_alloc ?_ _ | refine bel_dN ?_ _ | refine Below.drew ?_ | refine Below.setCell ?_ (by first | (simp; done) | (simp; omega)) _)); refine bel_step ?_ B2; (repeat (first | refine bel_alloc ?_ _ | refine bel_dN ?_ _ | refine Below.drew ?_ | refine Below.setCell ?_ (by first | (simp; done) | (simp; omega)) _)); refine bel_step ?_ B1; (repeat (first | refine bel_alloc ?_ _ | refine bel_dN ?_ _ | refine Below.drew ?_ | refine Below.setCell ?_ (by first | (simp; done) | (simp; omega)) _)); exact Below.refl _ _)

set_option maxHeartbeats 1000000 in
theorem roundImplN16 (mode a m e : Int) (s : Bool) (h1 : 1 ≤ mode) (h4 : mode ≤ 4) (V : Hid (∀ w, Calls Try.prog 66 #[(.agg #[.int .i64 10, .int .i64 15, .int .u32 31]), .int .u32 a] w fun x w' => x = .returned (.agg #[.int .i64 0, .bool s, .int .u64 m, .int .i64 e]) ∧ Below w.heap.size w w')) (r W : Int) (RR : Hid (∀ w, Calls Try.prog 79 #[(.agg #[.int .i64 10, .int .i64 15, .int .u32 31]), .bool s, .int .u64 W, .int .i64 0, .bool false] w fun x w' => x = .returned (.int .u32 r) ∧ Below w.heap.size w w')) (WB : Hid (∀ w, Calls Try.prog 80 #[.agg #[.int .i64 0, .bool s, .int .u64 m, .int .i64 e], .int .i64 mode] w fun x w' => x = .returned (.int .u64 W) ∧ Below w.heap.size w w')) (he : ¬ 0 ≤ e) (w : World) :
    Calls Try.prog 34 #[.int .i64 16, .int .i64 mode, .int .u32 a] w fun x w' => x = .returned (.int .u32 (r)) ∧ Below w.heap.size w w' := by
  go_enter Try.func34, Try.ntmps34
  go_wp2_with fail
  refine (form16 _).mono ?_
  rintro x w1 ⟨rfl, B1⟩
  go_wp2_with fail
  refine (V.out _).mono ?_
  rintro x w2 ⟨rfl, B2⟩
  have f0 := B2.cell (p := ⟨w1.heap.size, 0, none⟩) (by simp)
  have f1 := B2.cell (p := ⟨w1.heap.size, 1, none⟩) (by simp)
  have f2 := B2.cell (p := ⟨w1.heap.size, 2, none⟩) (by simp)
  simp at f0 f1 f2
  have l1 : w1.heap.size < w2.heap.size := Nat.lt_of_lt_of_le (by simp) B2.size
  clear V
  go_wp2_with fail
  obtain ⟨W2, hW2⟩ : ∃ W2, w2.alloc (.cells #[.int .i64 0, .bool s, .int .u64 m, .int .i64 e] 88) = W2 := ⟨_, rfl⟩
  have H2 : Hid (Below w2.heap.size w2 W2) := by unfold Hid; rw [← hW2]; (repeat (first | refine Below.alloc ?_ (by first | (simp; done) | (simp; omega)) _ | refine Below.setCell ?_ (by first | (simp; done) | (simp; omega)) _ | refine bel_dN ?_ _ | refine Below.drew ?_ | exact Below.refl _ _))
  have q0 := (H2.out.cell (p := ⟨w1.heap.size, 0, none⟩) l1).trans f0
  have q1 := (H2.out.cell (p := ⟨w1.heap.size, 1, none⟩) l1).trans f1
  have q2 := (H2.out.cell (p := ⟨w1.heap.size, 2, none⟩) l1).trans f2
  have r0 : W2.cell? ⟨w2.heap.size, 0, none⟩ = some (.int .i64 0) := by rw [← hW2]; simp
  have r1 : W2.cell? ⟨w2.heap.size, 1, none⟩ = some (.bool s) := by rw [← hW2]; simp
  have r2 : W2.cell? ⟨w2.heap.size, 2, none⟩ = some (.int .u64 m) := by rw [← hW2]; simp
  have r3 : W2.cell? ⟨w2.heap.size, 3, none⟩ = some (.int .i64 e) := by rw [← hW2]; simp
  have hs : W2.heap.size = w2.heap.size + 1 := by rw [← hW2]; simp
  rw [hW2]
  clear f0 f1 f2 hW2
  have k0 : ∀ w, Keeps W2 w → w.cell? ⟨w1.heap.size, 0, none⟩ = some (.int .i64 10) := fun w h => h.cell (by omega) q0
  have k1 : ∀ w, Keeps W2 w → w.cell? ⟨w1.heap.size, 1, none⟩ = some (.int .i64 15) := fun w h => h.cell (by omega) q1
  have k2 : ∀ w, Keeps W2 w → w.cell? ⟨w1.heap.size, 2, none⟩ = some (.int .u32 31) := fun w h => h.cell (by omega) q2
  have j0 : ∀ w, Keeps W2 w → w.cell? ⟨w2.heap.size, 0, none⟩ = some (.int .i64 0) := fun w h => h.cell (by omega) r0
  have j1 : ∀ w, Keeps W2 w → w.cell? ⟨w2.heap.size, 1, none⟩ = some (.bool s) := fun w h => h.cell (by omega) r1
  have j2 : ∀ w, Keeps W2 w → w.cell? ⟨w2.heap.size, 2, none⟩ = some (.int .u64 m) := fun w h => h.cell (by omega) r2
  have j3 : ∀ w, Keeps W2 w → w.cell? ⟨w2.heap.size, 3, none⟩ = some (.int .i64 e) := fun w h => h.cell (by omega) r3
  clear q0 q1 q2 r0 r1 r2 r3
  refine region_q (C := Keeps W2) (by kernel_rfl) (by kernel_rfl) (Keeps.drew _) ?_
  (iterate 8
    (apply wpQuiet_go _ (by rfl)
     · intro wq hq
       go_simp
       first
         | (go_at_call 80; exact qcall hq (WB.out _))
         | (go_at_call 79; exact qcall hq (RR.out _))
         | exact rfl
     simp only [Act.put, List.setIfInBounds_toArray, List.set_cons_succ, List.set_cons_zero]))
  refine wpQuiet_nil ?_
  intro w3 hk
  have hb := bel_step H2.out hk.below
  clear k0 k1 k2 j0 j1 j2 j3 hk
  go_wp2
  go_ret
  refine ⟨rfl, ?_⟩
  ((repeat (first | refine bel_alloc ?_ _ | refine bel_dN ?_ _ | refine Below.drew ?_ | refine Below.setCell ?_ (by first | (simp; done) | (simp; omega)) _)); refine bel_step ?_ hb; (repeat (first | refine bel_alloc ?_ _ | refine bel_dN ?_ _ | refine Below.drew ?_ | refine Below.setCell ?_ (by first | (simp; done) | (simp; omega)) _)); refine bel_step ?_ B2; (repeat (first | refine bel_alloc ?_ _ | refine bel_dN ?_ _ | refine Below.drew ?_ | refine Below.setCell ?_ (by first | (simp; done) | (simp; omega)) _)); refine bel_step ?_ B1; (repeat (first | refine bel_alloc ?_ _ | refine bel_dN ?_ _ | refine Below.drew ?_ | refine Below.setCell ?_ (by first | (simp; done) | (simp; omega)) _)); exact Below.refl _ _)

set_option maxHeartbeats 1000000 in
theorem roundImplN32 (mode a m e : Int) (s : Bool) (h1 : 1 ≤ mode) (h4 : mode ≤ 4) (V : Hid (∀ w, Calls Try.prog 66 #[(.agg #[.int .i64 23, .int .i64 127, .int .u32 255]), .int .u32 a] w fun x w' => x = .returned (.agg #[.int .i64 0, .bool s, .int .u64 m, .int .i64 e]) ∧ Below w.heap.size w w')) (r W : Int) (RR : Hid (∀ w, Calls Try.prog 79 #[(.agg #[.int .i64 23, .int .i64 127, .int .u32 255]), .bool s, .int .u64 W, .int .i64 0, .bool false] w fun x w' => x = .returned (.int .u32 r) ∧ Below w.heap.size w w')) (WB : Hid (∀ w, Calls Try.prog 80 #[.agg #[.int .i64 0, .bool s, .int .u64 m, .int .i64 e], .int .i64 mode] w fun x w' => x = .returned (.int .u64 W) ∧ Below w.heap.size w w')) (he : ¬ 0 ≤ e) (w : World) :
    Calls Try.prog 34 #[.int .i64 32, .int .i64 mode, .int .u32 a] w fun x w' => x = .returned (.int .u32 (r)) ∧ Below w.heap.size w w' := by
  go_enter Try.func34, Try.ntmps34
  go_wp2_with fail
  refine (form32 _).mono ?_
  rintro x w1 ⟨rfl, B1⟩
  go_wp2_with fail
  refine (V.out _).mono ?_
  rintro x w2 ⟨rfl, B2⟩
  have f0 := B2.cell (p := ⟨w1.heap.size, 0, none⟩) (by simp)
  have f1 := B2.cell (p := ⟨w1.heap.size, 1, none⟩) (by simp)
  have f2 := B2.cell (p := ⟨w1.heap.size, 2, none⟩) (by simp)
  simp at f0 f1 f2
  have l1 : w1.heap.size < w2.heap.size := Nat.lt_of_lt_of_le (by simp) B2.size
  clear V
  go_wp2_with fail
  obtain ⟨W2, hW2⟩ : ∃ W2, w2.alloc (.cells #[.int .i64 0, .bool s, .int .u64 m, .int .i64 e] 88) = W2 := ⟨_, rfl⟩
  have H2 : Hid (Below w2.heap.size w2 W2) := by unfold Hid; rw [← hW2]; (repeat (first | refine Below.alloc ?_ (by first | (simp; done) | (simp; omega)) _ | refine Below.setCell ?_ (by first | (simp; done) | (simp; omega)) _ | refine bel_dN ?_ _ | refine Below.drew ?_ | exact Below.refl _ _))
  have q0 := (H2.out.cell (p := ⟨w1.heap.size, 0, none⟩) l1).trans f0
  have q1 := (H2.out.cell (p := ⟨w1.heap.size, 1, none⟩) l1).trans f1
  have q2 := (H2.out.cell (p := ⟨w1.heap.size, 2, none⟩) l1).trans f2
  have r0 : W2.cell? ⟨w2.heap.size, 0, none⟩ = some (.int .i64 0) := by rw [← hW2]; simp
  have r1 : W2.cell? ⟨w2.heap.size, 1, none⟩ = some (.bool s) := by rw [← hW2]; simp
  have r2 : W2.cell? ⟨w2.heap.size, 2, none⟩ = some (.int .u64 m) := by rw [← hW2]; simp
  have r3 : W2.cell? ⟨w2.heap.size, 3, none⟩ = some (.int .i64 e) := by rw [← hW2]; simp
  have hs : W2.heap.size = w2.heap.size + 1 := by rw [← hW2]; simp
  rw [hW2]
  clear f0 f1 f2 hW2
  have k0 : ∀ w, Keeps W2 w → w.cell? ⟨w1.heap.size, 0, none⟩ = some (.int .i64 23) := fun w h => h.cell (by omega) q0
  have k1 : ∀ w, Keeps W2 w → w.cell? ⟨w1.heap.size, 1, none⟩ = some (.int .i64 127) := fun w h => h.cell (by omega) q1
  have k2 : ∀ w, Keeps W2 w → w.cell? ⟨w1.heap.size, 2, none⟩ = some (.int .u32 255) := fun w h => h.cell (by omega) q2
  have j0 : ∀ w, Keeps W2 w → w.cell? ⟨w2.heap.size, 0, none⟩ = some (.int .i64 0) := fun w h => h.cell (by omega) r0
  have j1 : ∀ w, Keeps W2 w → w.cell? ⟨w2.heap.size, 1, none⟩ = some (.bool s) := fun w h => h.cell (by omega) r1
  have j2 : ∀ w, Keeps W2 w → w.cell? ⟨w2.heap.size, 2, none⟩ = some (.int .u64 m) := fun w h => h.cell (by omega) r2
  have j3 : ∀ w, Keeps W2 w → w.cell? ⟨w2.heap.size, 3, none⟩ = some (.int .i64 e) := fun w h => h.cell (by omega) r3
  clear q0 q1 q2 r0 r1 r2 r3
  refine region_q (C := Keeps W2) (by kernel_rfl) (by kernel_rfl) (Keeps.drew _) ?_
  (iterate 8
    (apply wpQuiet_go _ (by rfl)
     · intro wq hq
       go_simp
       first
         | (go_at_call 80; exact qcall hq (WB.out _))
         | (go_at_call 79; exact qcall hq (RR.out _))
         | exact rfl
     simp only [Act.put, List.setIfInBounds_toArray, List.set_cons_succ, List.set_cons_zero]))
  refine wpQuiet_nil ?_
  intro w3 hk
  have hb := bel_step H2.out hk.below
  clear k0 k1 k2 j0 j1 j2 j3 hk
  go_wp2
  go_ret
  refine ⟨rfl, ?_⟩
  ((repeat (first | refine bel_alloc ?_ _ | refine bel_dN ?_ _ | refine Below.drew ?_ | refine Below.setCell ?_ (by first | (simp; done) | (simp; omega)) _)); refine bel_step ?_ hb; (repeat (first | refine bel_alloc ?_ _ | refine bel_dN ?_ _ | refine Below.drew ?_ | refine Below.setCell ?_ (by first | (simp; done) | (simp; omega)) _)); refine bel_step ?_ B2; (repeat (first | refine bel_alloc ?_ _ | refine bel_dN ?_ _ | refine Below.drew ?_ | refine Below.setCell ?_ (by first | (simp; done) | (simp; omega)) _)); refine bel_step ?_ B1; (repeat (first | refine bel_alloc ?_ _ | refine bel_dN ?_ _ | refine Below.drew ?_ | refine Below.setCell ?_ (by first | (simp; done) | (simp; omega)) _)); exact Below.refl _ _)

theorem roundBoth16 (mode a : Int) (h0 : 0 ≤ a) (ha : a ≤ 4294967295) (h1 : 1 ≤ mode) (h4 : mode ≤ 4) : ∃ r : Int,
    (∀ w, Calls Try.prog 35 #[.int .i64 16, .int .i64 mode, .int .u32 a] w fun x w' => x = .returned (.int .u32 r) ∧ Below w.heap.size w w') ∧
    (∀ w, Calls Try.prog 34 #[.int .i64 16, .int .i64 mode, .int .u32 a] w fun x w' => x = .returned (.int .u32 r) ∧ Below w.heap.size w w') := by
  obtain ⟨c0, m0, m1, e0, e1, _, _⟩ := fv16 a
  have V := value16 a h0 ha
  have O := open16 a h0 ha
  generalize cl16 a = c at *
  generalize vm16 a = m at *
  generalize ve16 a = e at *
  generalize (a / 32768 % 2 == 1) = s at *
  obtain ⟨n, rfl⟩ := Int.eq_ofNat_of_zero_le m0
  rcases c0 with rfl | rfl | rfl
  · by_cases he : 0 ≤ e
    · exact ⟨_, roundSpecF16 mode a _ _ h1 h4 O (wholeRnd16 mode e n _ s (Or.inl he) (specRound16 s n (by omega) e (by omega) (by omega) false)), roundImplE16 mode a n e s h1 h4 V _ (implRound16 s n (by omega) e (by omega) (by omega) false) he⟩
    · obtain ⟨T, hT⟩ : ∃ T : Nat, e = -(T : Int) := ⟨(-e).toNat, by omega⟩
      have hw : wh mode s n T < 1152921504606846976 := by
        have hd : n / 2 ^ T ≤ n := Nat.div_le_self _ _
        unfold wh
        split
        · unfold nsh; split <;> omega
        · split <;> omega
      have I := roundImplN16 mode a n e s h1 h4 V _ _ (implRound16 s (wh mode s n T) hw 0 (by omega) (by omega) false) (wholeBy mode 0 s n T e hT (by omega) (by omega) (by omega) h1 h4) he
      by_cases hn : n = 0
      · have hz : wh mode s n T = 0 := by
          subst hn
          unfold wh nsh
          simp
        rw [hz] at I
        subst hn
        have S := roundSpecF16 mode a _ _ h1 h4 O (wholeRnd16 mode e ((0 : Nat) : Int) _ s (Or.inr rfl) (specRound16 s 0 (by omega) e (by omega) (by omega) false))
        rw [show toldOf 10 (-24) 0 e false = toldOf 10 (-24) 0 0 false by simp [toldOf]] at S
        exact ⟨_, S, I⟩
      · exact ⟨_, roundSpecF16 mode a _ _ h1 h4 O (wholeSpec16 mode e s n T hT (by omega) (by omega) (by omega) hn h1 h4 _ (specRound16 s (wh mode s n T) hw 0 (by omega) (by omega) false)), I⟩
  · exact ⟨_, roundSpecF16 mode a _ _ h1 h4 O (wholeInf16 mode e n s), roundImpl116 mode a n e s h1 h4 V⟩
  · exact ⟨_, roundSpecF16 mode a _ _ h1 h4 O (wholeNan16 mode e n s), roundImpl216 mode a n e s h1 h4 V⟩

theorem roundBoth32 (mode a : Int) (h0 : 0 ≤ a) (ha : a ≤ 4294967295) (h1 : 1 ≤ mode) (h4 : mode ≤ 4) : ∃ r : Int,
    (∀ w, Calls Try.prog 35 #[.int .i64 32, .int .i64 mode, .int .u32 a] w fun x w' => x = .returned (.int .u32 r) ∧ Below w.heap.size w w') ∧
    (∀ w, Calls Try.prog 34 #[.int .i64 32, .int .i64 mode, .int .u32 a] w fun x w' => x = .returned (.int .u32 r) ∧ Below w.heap.size w w') := by
  obtain ⟨c0, m0, m1, e0, e1, _, _⟩ := fv32 a
  have V := value32 a h0 ha
  have O := open32 a h0 ha
  generalize cl32 a = c at *
  generalize vm32 a = m at *
  generalize ve32 a = e at *
  generalize (a / 2147483648 % 2 == 1) = s at *
  obtain ⟨n, rfl⟩ := Int.eq_ofNat_of_zero_le m0
  rcases c0 with rfl | rfl | rfl
  · by_cases he : 0 ≤ e
    · exact ⟨_, roundSpecF32 mode a _ _ h1 h4 O (wholeRnd32 mode e n _ s (Or.inl he) (specRound32 s n (by omega) e (by omega) (by omega) false)), roundImplE32 mode a n e s h1 h4 V _ (implRound32 s n (by omega) e (by omega) (by omega) false) he⟩
    · obtain ⟨T, hT⟩ : ∃ T : Nat, e = -(T : Int) := ⟨(-e).toNat, by omega⟩
      have hw : wh mode s n T < 1152921504606846976 := by
        have hd : n / 2 ^ T ≤ n := Nat.div_le_self _ _
        unfold wh
        split
        · unfold nsh; split <;> omega
        · split <;> omega
      have I := roundImplN32 mode a n e s h1 h4 V _ _ (implRound32 s (wh mode s n T) hw 0 (by omega) (by omega) false) (wholeBy mode 0 s n T e hT (by omega) (by omega) (by omega) h1 h4) he
      by_cases hn : n = 0
      · have hz : wh mode s n T = 0 := by
          subst hn
          unfold wh nsh
          simp
        rw [hz] at I
        subst hn
        have S := roundSpecF32 mode a _ _ h1 h4 O (wholeRnd32 mode e ((0 : Nat) : Int) _ s (Or.inr rfl) (specRound32 s 0 (by omega) e (by omega) (by omega) false))
        rw [show toldOf 23 (-149) 0 e false = toldOf 23 (-149) 0 0 false by simp [toldOf]] at S
        exact ⟨_, S, I⟩
      · exact ⟨_, roundSpecF32 mode a _ _ h1 h4 O (wholeSpec32 mode e s n T hT (by omega) (by omega) (by omega) hn h1 h4 _ (specRound32 s (wh mode s n T) hw 0 (by omega) (by omega) false)), I⟩
  · exact ⟨_, roundSpecF32 mode a _ _ h1 h4 O (wholeInf32 mode e n s), roundImpl132 mode a n e s h1 h4 V⟩
  · exact ⟨_, roundSpecF32 mode a _ _ h1 h4 O (wholeNan32 mode e n s), roundImpl232 mode a n e s h1 h4 V⟩

theorem roundMode16 (mode a : Int) (h : ¬ (1 ≤ mode ∧ mode ≤ 4)) :
    (∀ w, Calls Try.prog 35 #[.int .i64 16, .int .i64 mode, .int .u32 a] w fun x w' => x = .returned (.int .u32 0) ∧ Below w.heap.size w w') ∧
    (∀ w, Calls Try.prog 34 #[.int .i64 16, .int .i64 mode, .int .u32 a] w fun x w' => x = .returned (.int .u32 0) ∧ Below w.heap.size w w') := by
  refine ⟨fun w => ?_, fun w => ?_⟩
  · have IN := l1InNo2 mode 1 4 h
    clear h
    go_enter Try.func35, Try.ntmps35
    go_wp2_with fail
    refine (l4Kind16 _).mono ?_
    rintro x w1 ⟨rfl, B1⟩
    go_wp2_with fail
    refine (IN _).mono ?_
    rintro x w2 ⟨rfl, hw⟩
    obtain rfl := hw.symm
    go_wp2
    go_ret
    refine ⟨rfl, ?_⟩
    ((repeat (first | refine bel_alloc ?_ _ | refine bel_dN ?_ _ | refine Below.drew ?_ | refine Below.setCell ?_ (by first | (simp; done) | (simp; omega)) _)); refine bel_step ?_ B1; (repeat (first | refine bel_alloc ?_ _ | refine bel_dN ?_ _ | refine Below.drew ?_ | refine Below.setCell ?_ (by first | (simp; done) | (simp; omega)) _)); exact Below.refl _ _)
  · by_cases h1 : mode < 1
    · clear h
      go_enter Try.func34, Try.ntmps34
      go_wp2_with fail
      refine (form16 _).mono ?_
      rintro x w1 ⟨rfl, B1⟩
      go_wp2
      go_ret
      refine ⟨rfl, ?_⟩
      ((repeat (first | refine bel_alloc ?_ _ | refine bel_dN ?_ _ | refine Below.drew ?_ | refine Below.setCell ?_ (by first | (simp; done) | (simp; omega)) _)); refine bel_step ?_ B1; (repeat (first | refine bel_alloc ?_ _ | refine bel_dN ?_ _ | refine Below.drew ?_ | refine Below.setCell ?_ (by first | (simp; done) | (simp; omega)) _)); exact Below.refl _ _)
    · have h4 : 4 < mode := by omega
      clear h
      go_enter Try.func34, Try.ntmps34
      go_wp2_with fail
      refine (form16 _).mono ?_
      rintro x w1 ⟨rfl, B1⟩
      go_wp2
      go_ret
      refine ⟨rfl, ?_⟩
      ((repeat (first | refine bel_alloc ?_ _ | refine bel_dN ?_ _ | refine Below.drew ?_ | refine Below.setCell ?_ (by first | (simp; done) | (simp; omega)) _)); refine bel_step ?_ B1; (repeat (first | refine bel_alloc ?_ _ | refine bel_dN ?_ _ | refine Below.drew ?_ | refine Below.setCell ?_ (by first | (simp; done) | (simp; omega)) _)); exact Below.refl _ _)

theorem roundMode32 (mode a : Int) (h : ¬ (1 ≤ mode ∧ mode ≤ 4)) :
    (∀ w, Calls Try.prog 35 #[.int .i64 32, .int .i64 mode, .int .u32 a] w fun x w' => x = .returned (.int .u32 0) ∧ Below w.heap.size w w') ∧
    (∀ w, Calls Try.prog 34 #[.int .i64 32, .int .i64 mode, .int .u32 a] w fun x w' => x = .returned (.int .u32 0) ∧ Below w.heap.size w w') := by
  refine ⟨fun w => ?_, fun w => ?_⟩
  · have IN := l1InNo2 mode 1 4 h
    clear h
    go_enter Try.func35, Try.ntmps35
    go_wp2_with fail
    refine (l4Kind32 _).mono ?_
    rintro x w1 ⟨rfl, B1⟩
    go_wp2_with fail
    refine (IN _).mono ?_
    rintro x w2 ⟨rfl, hw⟩
    obtain rfl := hw.symm
    go_wp2
    go_ret
    refine ⟨rfl, ?_⟩
    ((repeat (first | refine bel_alloc ?_ _ | refine bel_dN ?_ _ | refine Below.drew ?_ | refine Below.setCell ?_ (by first | (simp; done) | (simp; omega)) _)); refine bel_step ?_ B1; (repeat (first | refine bel_alloc ?_ _ | refine bel_dN ?_ _ | refine Below.drew ?_ | refine Below.setCell ?_ (by first | (simp; done) | (simp; omega)) _)); exact Below.refl _ _)
  · by_cases h1 : mode < 1
    · clear h
      go_enter Try.func34, Try.ntmps34
      go_wp2_with fail
      refine (form32 _).mono ?_
      rintro x w1 ⟨rfl, B1⟩
      go_wp2
      go_ret
      refine ⟨rfl, ?_⟩
      ((repeat (first | refine bel_alloc ?_ _ | refine bel_dN ?_ _ | refine Below.drew ?_ | refine Below.setCell ?_ (by first | (simp; done) | (simp; omega)) _)); refine bel_step ?_ B1; (repeat (first | refine bel_alloc ?_ _ | refine bel_dN ?_ _ | refine Below.drew ?_ | refine Below.setCell ?_ (by first | (simp; done) | (simp; omega)) _)); exact Below.refl _ _)
    · have h4 : 4 < mode := by omega
      clear h
      go_enter Try.func34, Try.ntmps34
      go_wp2_with fail
      refine (form32 _).mono ?_
      rintro x w1 ⟨rfl, B1⟩
      go_wp2
      go_ret
      refine ⟨rfl, ?_⟩
      ((repeat (first | refine bel_alloc ?_ _ | refine bel_dN ?_ _ | refine Below.drew ?_ | refine Below.setCell ?_ (by first | (simp; done) | (simp; omega)) _)); refine bel_step ?_ B1; (repeat (first | refine bel_alloc ?_ _ | refine bel_dN ?_ _ | refine Below.drew ?_ | refine Below.setCell ?_ (by first | (simp; done) | (simp; omega)) _)); exact Below.refl _ _)

theorem roundNo (kind mode a : Int) (h1 : kind ≠ 16) (h2 : kind ≠ 32) :
    (∀ w, Calls Try.prog 35 #[.int .i64 kind, .int .i64 mode, .int .u32 a] w fun x w' => x = .returned (.int .u32 0) ∧ Below w.heap.size w w') ∧
    (∀ w, Calls Try.prog 34 #[.int .i64 kind, .int .i64 mode, .int .u32 a] w fun x w' => x = .returned (.int .u32 0) ∧ Below w.heap.size w w') := by
  refine ⟨fun w => ?_, fun w => ?_⟩
  · go_enter Try.func35, Try.ntmps35
    go_wp2_with fail
    refine (l4KindNo kind h1 h2 _).mono ?_
    rintro x w1 ⟨rfl, B1⟩
    go_wp2
    go_ret
    refine ⟨rfl, ?_⟩
    ((repeat (first | refine bel_alloc ?_ _ | refine bel_dN ?_ _ | refine Below.drew ?_ | refine Below.setCell ?_ (by first | (simp; done) | (simp; omega)) _)); refine bel_step ?_ B1; (repeat (first | refine bel_alloc ?_ _ | refine bel_dN ?_ _ | refine Below.drew ?_ | refine Below.setCell ?_ (by first | (simp; done) | (simp; omega)) _)); exact Below.refl _ _)
  · go_enter Try.func34, Try.ntmps34
    go_wp2_with fail
    refine (formNo kind h1 h2 _).mono ?_
    rintro x w1 ⟨rfl, B1⟩
    go_wp2
    go_ret
    refine ⟨rfl, ?_⟩
    ((repeat (first | refine bel_alloc ?_ _ | refine bel_dN ?_ _ | refine Below.drew ?_ | refine Below.setCell ?_ (by first | (simp; done) | (simp; omega)) _)); refine bel_step ?_ B1; (repeat (first | refine bel_alloc ?_ _ | refine bel_dN ?_ _ | refine Below.drew ?_ | refine Below.setCell ?_ (by first | (simp; done) | (simp; omega)) _)); exact Below.refl _ _)

end Go.Proofs.Ytnimlkobcginjaa
