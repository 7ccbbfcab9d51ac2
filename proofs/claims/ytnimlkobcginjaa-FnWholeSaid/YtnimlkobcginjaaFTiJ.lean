/-
  FToInt: the program's side, whole.
-/
import Derived.Test.YtnimlkobcginjaaFTiI
namespace Go.Proofs.Ytnimlkobcginjaa
open Go.RowKit

set_option maxHeartbeats 1000000 in
theorem toiNo32_16 (a c m e1 : Int) (s sg : Bool) (V1 : Hid (∀ w, Calls Try.prog 66 #[(.agg #[.int .i64 10, .int .i64 15, .int .u32 31]), .int .u32 a] w fun e w' => e = .returned (.agg #[.int .i64 c, .bool s, .int .u64 m, .int .i64 e1]) ∧ Below w.heap.size w w'))
    (SZ : Hid (∀ w, Calls Try.prog 84 #[.agg #[.int .i64 c, .bool s, .int .u64 m, .int .i64 e1]] w fun x w' => x = .returned (.tuple #[.int .u64 0, .bool false]) ∧ Below w.heap.size w w')) (w : World) :
    Calls Try.prog 38 #[.int .i64 16, .int .u32 a, .int .i64 32, .bool sg] w fun e w' => e = .returned tooGreat ∧ Below w.heap.size w w' := by
  go_enter Try.func38, Try.ntmps38
  go_wp2_with fail
  refine (form16 _).mono ?_
  rintro e' w1 ⟨rfl, B1⟩
  go_wp2_with fail
  refine (implWidth32T _).mono ?_
  rintro e' w9 ⟨rfl, hw9⟩
  obtain rfl := hw9
  go_wp2_with fail
  refine (V1.out _).mono ?_
  rintro e' w2 ⟨rfl, B2⟩
  go_wp2_with fail
  refine (SZ.out _).mono ?_
  rintro e' w3 ⟨rfl, B3⟩
  have u1 : w3.cell? ⟨w2.heap.size, 1, none⟩ = some (.bool s) := (B3.cell (p := ⟨w2.heap.size, 1, none⟩) (by simp)).trans (by simp [go_sem])
  go_wp2
  refine bodyPost_ret (two_resT Try.results38 _ _ _) rfl ⟨rfl, ?_⟩
  ((repeat (first | refine bel_alloc ?_ _ | refine bel_dN ?_ _ | refine Below.drew ?_ | refine Below.setCell ?_ (by first | (simp; done) | (simp; omega)) _)); refine bel_step ?_ B3; (repeat (first | refine bel_alloc ?_ _ | refine bel_dN ?_ _ | refine Below.drew ?_ | refine Below.setCell ?_ (by first | (simp; done) | (simp; omega)) _)); refine bel_step ?_ B2; (repeat (first | refine bel_alloc ?_ _ | refine bel_dN ?_ _ | refine Below.drew ?_ | refine Below.setCell ?_ (by first | (simp; done) | (simp; omega)) _)); refine bel_step ?_ B1; (repeat (first | refine bel_alloc ?_ _ | refine bel_dN ?_ _ | refine Below.drew ?_ | refine Below.setCell ?_ (by first | (simp; done) | (simp; omega)) _)); exact Below.refl _ _)

set_option maxHeartbeats 1000000 in
theorem toiNo32_32 (a c m e1 : Int) (s sg : Bool) (V1 : Hid (∀ w, Calls Try.prog 66 #[(.agg #[.int .i64 23, .int .i64 127, .int .u32 255]), .int .u32 a] w fun e w' => e = .returned (.agg #[.int .i64 c, .bool s, .int .u64 m, .int .i64 e1]) ∧ Below w.heap.size w w'))
    (SZ : Hid (∀ w, Calls Try.prog 84 #[.agg #[.int .i64 c, .bool s, .int .u64 m, .int .i64 e1]] w fun x w' => x = .returned (.tuple #[.int .u64 0, .bool false]) ∧ Below w.heap.size w w')) (w : World) :
    Calls Try.prog 38 #[.int .i64 32, .int .u32 a, .int .i64 32, .bool sg] w fun e w' => e = .returned tooGreat ∧ Below w.heap.size w w' := by
  go_enter Try.func38, Try.ntmps38
  go_wp2_with fail
  refine (form32 _).mono ?_
  rintro e' w1 ⟨rfl, B1⟩
  go_wp2_with fail
  refine (implWidth32T _).mono ?_
  rintro e' w9 ⟨rfl, hw9⟩
  obtain rfl := hw9
  go_wp2_with fail
  refine (V1.out _).mono ?_
  rintro e' w2 ⟨rfl, B2⟩
  go_wp2_with fail
  refine (SZ.out _).mono ?_
  rintro e' w3 ⟨rfl, B3⟩
  have u1 : w3.cell? ⟨w2.heap.size, 1, none⟩ = some (.bool s) := (B3.cell (p := ⟨w2.heap.size, 1, none⟩) (by simp)).trans (by simp [go_sem])
  go_wp2
  refine bodyPost_ret (two_resT Try.results38 _ _ _) rfl ⟨rfl, ?_⟩
  ((repeat (first | refine bel_alloc ?_ _ | refine bel_dN ?_ _ | refine Below.drew ?_ | refine Below.setCell ?_ (by first | (simp; done) | (simp; omega)) _)); refine bel_step ?_ B3; (repeat (first | refine bel_alloc ?_ _ | refine bel_dN ?_ _ | refine Below.drew ?_ | refine Below.setCell ?_ (by first | (simp; done) | (simp; omega)) _)); refine bel_step ?_ B2; (repeat (first | refine bel_alloc ?_ _ | refine bel_dN ?_ _ | refine Below.drew ?_ | refine Below.setCell ?_ (by first | (simp; done) | (simp; omega)) _)); refine bel_step ?_ B1; (repeat (first | refine bel_alloc ?_ _ | refine bel_dN ?_ _ | refine Below.drew ?_ | refine Below.setCell ?_ (by first | (simp; done) | (simp; omega)) _)); exact Below.refl _ _)

set_option maxHeartbeats 1000000 in
theorem toiYes32_16 (a c m e1 V : Int) (s sg : Bool) (V1 : Hid (∀ w, Calls Try.prog 66 #[(.agg #[.int .i64 10, .int .i64 15, .int .u32 31]), .int .u32 a] w fun e w' => e = .returned (.agg #[.int .i64 c, .bool s, .int .u64 m, .int .i64 e1]) ∧ Below w.heap.size w w'))
    (SZ : Hid (∀ w, Calls Try.prog 84 #[.agg #[.int .i64 c, .bool s, .int .u64 m, .int .i64 e1]] w fun x w' => x = .returned (.tuple #[.int .u64 V, .bool true]) ∧ Below w.heap.size w w')) (h0 : 0 ≤ V) (h1 : V ≤ 18446744073709551615) (w : World) :
    Calls Try.prog 38 #[.int .i64 16, .int .u32 a, .int .i64 32, .bool sg] w fun e w' => e = .returned (toi 2147483648 4294967296 s V sg) ∧ Below w.heap.size w w' := by
  have HO := holds32 s sg V h0 h1
  have CP : Hid (∀ w, Calls Try.prog 86 #[.int .i64 32, .int .u64 V] w fun e w' => e = .returned (.int .u64 (V % 4294967296)) ∧ w' = w) := by
    intro w
    refine (cut32T V w).mono ?_
    rintro e w' ⟨rfl, hw⟩
    exact ⟨ret_int (by omega), hw⟩
  have CN : Hid (∀ w, Calls Try.prog 86 #[.int .i64 32, .int .u64 (IntKind.u64.wrap (-V))] w fun e w' => e = .returned (.int .u64 (-V % 4294967296)) ∧ w' = w) := by
    intro w
    refine (cut32T (IntKind.u64.wrap (-V)) w).mono ?_
    rintro e w' ⟨rfl, hw⟩
    exact ⟨ret_int (by rw [IntKind.wrap_u64] <;> omega), hw⟩
  unfold toi
  generalize hol 2147483648 4294967296 s V sg = ok at *
  have HH : Hid (∀ w, Calls Try.prog 85 #[.int .i64 32, .bool s, .int .u64 V, .bool sg] w fun x w' => x = .returned (.bool ok) ∧ w' = w) := HO
  clear HO h0 h1
  cases ok
  · rw [if_neg (by decide)]
    go_enter Try.func38, Try.ntmps38
    go_wp2_with fail
    refine (form16 _).mono ?_
    rintro e' w1 ⟨rfl, B1⟩
    go_wp2_with fail
    refine (implWidth32T _).mono ?_
    rintro e' w9 ⟨rfl, hw9⟩
    obtain rfl := hw9
    go_wp2_with fail
    refine (V1.out _).mono ?_
    rintro e' w2 ⟨rfl, B2⟩
    go_wp2_with fail
    refine (SZ.out _).mono ?_
    rintro e' w3 ⟨rfl, B3⟩
    have u1 : w3.cell? ⟨w2.heap.size, 1, none⟩ = some (.bool s) := (B3.cell (p := ⟨w2.heap.size, 1, none⟩) (by simp)).trans (by simp [go_sem])
    go_wp2_with fail
    refine (HH.out _).mono ?_
    rintro e' w4 ⟨rfl, hw4⟩
    obtain rfl := hw4
    go_wp2
    refine bodyPost_ret (two_resT Try.results38 _ _ _) rfl ⟨rfl, ?_⟩
    ((repeat (first | refine bel_alloc ?_ _ | refine bel_dN ?_ _ | refine Below.drew ?_ | refine Below.setCell ?_ (by first | (simp; done) | (simp; omega)) _)); refine bel_step ?_ B3; (repeat (first | refine bel_alloc ?_ _ | refine bel_dN ?_ _ | refine Below.drew ?_ | refine Below.setCell ?_ (by first | (simp; done) | (simp; omega)) _)); refine bel_step ?_ B2; (repeat (first | refine bel_alloc ?_ _ | refine bel_dN ?_ _ | refine Below.drew ?_ | refine Below.setCell ?_ (by first | (simp; done) | (simp; omega)) _)); refine bel_step ?_ B1; (repeat (first | refine bel_alloc ?_ _ | refine bel_dN ?_ _ | refine Below.drew ?_ | refine Below.setCell ?_ (by first | (simp; done) | (simp; omega)) _)); exact Below.refl _ _)
  · rw [if_pos rfl]
    cases s
    · rw [if_neg (by decide)]
      go_enter Try.func38, Try.ntmps38
      go_wp2_with fail
      refine (form16 _).mono ?_
      rintro e' w1 ⟨rfl, B1⟩
      go_wp2_with fail
      refine (implWidth32T _).mono ?_
      rintro e' w9 ⟨rfl, hw9⟩
      obtain rfl := hw9
      go_wp2_with fail
      refine (V1.out _).mono ?_
      rintro e' w2 ⟨rfl, B2⟩
      go_wp2_with fail
      refine (SZ.out _).mono ?_
      rintro e' w3 ⟨rfl, B3⟩
      have u1 : w3.cell? ⟨w2.heap.size, 1, none⟩ = some (.bool false) := (B3.cell (p := ⟨w2.heap.size, 1, none⟩) (by simp)).trans (by simp [go_sem])
      go_wp2_with fail
      refine (HH.out _).mono ?_
      rintro e' w4 ⟨rfl, hw4⟩
      obtain rfl := hw4
      go_wp2_with fail
      refine (CP.out _).mono ?_
      rintro e' w5 ⟨rfl, hw5⟩
      obtain rfl := hw5
      go_wp2
      refine bodyPost_ret (two_resT Try.results38 _ _ _) rfl ⟨rfl, ?_⟩
      ((repeat (first | refine bel_alloc ?_ _ | refine bel_dN ?_ _ | refine Below.drew ?_ | refine Below.setCell ?_ (by first | (simp; done) | (simp; omega)) _)); refine bel_step ?_ B3; (repeat (first | refine bel_alloc ?_ _ | refine bel_dN ?_ _ | refine Below.drew ?_ | refine Below.setCell ?_ (by first | (simp; done) | (simp; omega)) _)); refine bel_step ?_ B2; (repeat (first | refine bel_alloc ?_ _ | refine bel_dN ?_ _ | refine Below.drew ?_ | refine Below.setCell ?_ (by first | (simp; done) | (simp; omega)) _)); refine bel_step ?_ B1; (repeat (first | refine bel_alloc ?_ _ | refine bel_dN ?_ _ | refine Below.drew ?_ | refine Below.setCell ?_ (by first | (simp; done) | (simp; omega)) _)); exact Below.refl _ _)
    · rw [if_pos rfl]
      go_enter Try.func38, Try.ntmps38
      go_wp2_with fail
      refine (form16 _).mono ?_
      rintro e' w1 ⟨rfl, B1⟩
      go_wp2_with fail
      refine (implWidth32T _).mono ?_
      rintro e' w9 ⟨rfl, hw9⟩
      obtain rfl := hw9
      go_wp2_with fail
      refine (V1.out _).mono ?_
      rintro e' w2 ⟨rfl, B2⟩
      go_wp2_with fail
      refine (SZ.out _).mono ?_
      rintro e' w3 ⟨rfl, B3⟩
      have u1 : w3.cell? ⟨w2.heap.size, 1, none⟩ = some (.bool true) := (B3.cell (p := ⟨w2.heap.size, 1, none⟩) (by simp)).trans (by simp [go_sem])
      go_wp2_with fail
      refine (HH.out _).mono ?_
      rintro e' w4 ⟨rfl, hw4⟩
      obtain rfl := hw4
      go_wp2_with fail
      refine (CN.out _).mono ?_
      rintro e' w5 ⟨rfl, hw5⟩
      obtain rfl := hw5
      go_wp2
      refine bodyPost_ret (two_resT Try.results38 _ _ _) rfl ⟨rfl, ?_⟩
      ((repeat (first | refine bel_alloc ?_ _ | refine bel_dN ?_ _ | refine Below.drew ?_ | refine Below.setCell ?_ (by first | (simp; done) | (simp; omega)) _)); refine bel_step ?_ B3; (repeat (first | refine bel_alloc ?_ _ | refine bel_dN ?_ _ | refine Below.drew ?_ | refine Below.setCell ?_ (by first | (simp; done) | (simp; omega)) _)); refine bel_step ?_ B2; (repeat (first | refine bel_alloc ?_ _ | refine bel_dN ?_ _ | refine Below.drew ?_ | refine Below.setCell ?_ (by first | (simp; done) | (simp; omega)) _)); refine bel_step ?_ B1; (repeat (first | refine bel_alloc ?_ _ | refine bel_dN ?_ _ | refine Below.drew ?_ | refine Below.setCell ?_ (by first | (simp; done) | (simp; omega)) _)); exact Below.refl _ _)

set_option maxHeartbeats 1000000 in
theorem toiYes32_32 (a c m e1 V : Int) (s sg : Bool) (V1 : Hid (∀ w, Calls Try.prog 66 #[(.agg #[.int .i64 23, .int .i64 127, .int .u32 255]), .int .u32 a] w fun e w' => e = .returned (.agg #[.int .i64 c, .bool s, .int .u64 m, .int .i64 e1]) ∧ Below w.heap.size w w'))
    (SZ : Hid (∀ w, Calls Try.prog 84 #[.agg #[.int .i64 c, .bool s, .int .u64 m, .int .i64 e1]] w fun x w' => x = .returned (.tuple #[.int .u64 V, .bool true]) ∧ Below w.heap.size w w')) (h0 : 0 ≤ V) (h1 : V ≤ 18446744073709551615) (w : World) :
    Calls Try.prog 38 #[.int .i64 32, .int .u32 a, .int .i64 32, .bool sg] w fun e w' => e = .returned (toi 2147483648 4294967296 s V sg) ∧ Below w.heap.size w w' := by
  have HO := holds32 s sg V h0 h1
  have CP : Hid (∀ w, Calls Try.prog 86 #[.int .i64 32, .int .u64 V] w fun e w' => e = .returned (.int .u64 (V % 4294967296)) ∧ w' = w) := by
    intro w
    refine (cut32T V w).mono ?_
    rintro e w' ⟨rfl, hw⟩
    exact ⟨ret_int (by omega), hw⟩
  have CN : Hid (∀ w, Calls Try.prog 86 #[.int .i64 32, .int .u64 (IntKind.u64.wrap (-V))] w fun e w' => e = .returned (.int .u64 (-V % 4294967296)) ∧ w' = w) := by
    intro w
    refine (cut32T (IntKind.u64.wrap (-V)) w).mono ?_
    rintro e w' ⟨rfl, hw⟩
    exact ⟨ret_int (by rw [IntKind.wrap_u64] <;> omega), hw⟩
  unfold toi
  generalize hol 2147483648 4294967296 s V sg = ok at *
  have HH : Hid (∀ w, Calls Try.prog 85 #[.int .i64 32, .bool s, .int .u64 V, .bool sg] w fun x w' => x = .returned (.bool ok) ∧ w' = w) := HO
  clear HO h0 h1
  cases ok
  · rw [if_neg (by decide)]
    go_enter Try.func38, Try.ntmps38
    go_wp2_with fail
    refine (form32 _).mono ?_
    rintro e' w1 ⟨rfl, B1⟩
    go_wp2_with fail
    refine (implWidth32T _).mono ?_
    rintro e' w9 ⟨rfl, hw9⟩
    obtain rfl := hw9
    go_wp2_with fail
    refine (V1.out _).mono ?_
    rintro e' w2 ⟨rfl, B2⟩
    go_wp2_with fail
    refine (SZ.out _).mono ?_
    rintro e' w3 ⟨rfl, B3⟩
    have u1 : w3.cell? ⟨w2.heap.size, 1, none⟩ = some (.bool s) := (B3.cell (p := ⟨w2.heap.size, 1, none⟩) (by simp)).trans (by simp [go_sem])
    go_wp2_with fail
    refine (HH.out _).mono ?_
    rintro e' w4 ⟨rfl, hw4⟩
    obtain rfl := hw4
    go_wp2
    refine bodyPost_ret (two_resT Try.results38 _ _ _) rfl ⟨rfl, ?_⟩
    ((repeat (first | refine bel_alloc ?_ _ | refine bel_dN ?_ _ | refine Below.drew ?_ | refine Below.setCell ?_ (by first | (simp; done) | (simp; omega)) _)); refine bel_step ?_ B3; (repeat (first | refine bel_alloc ?_ _ | refine bel_dN ?_ _ | refine Below.drew ?_ | refine Below.setCell ?_ (by first | (simp; done) | (simp; omega)) _)); refine bel_step ?_ B2; (repeat (first | refine bel_alloc ?_ _ | refine bel_dN ?_ _ | refine Below.drew ?_ | refine Below.setCell ?_ (by first | (simp; done) | (simp; omega)) _)); refine bel_step ?_ B1; (repeat (first | refine bel_alloc ?_ _ | refine bel_dN ?_ _ | refine Below.drew ?_ | refine Below.setCell ?_ (by first | (simp; done) | (simp; omega)) _)); exact Below.refl _ _)
  · rw [if_pos rfl]
    cases s
    · rw [if_neg (by decide)]
      go_enter Try.func38, Try.ntmps38
      go_wp2_with fail
      refine (form32 _).mono ?_
      rintro e' w1 ⟨rfl, B1⟩
      go_wp2_with fail
      refine (implWidth32T _).mono ?_
      rintro e' w9 ⟨rfl, hw9⟩
      obtain rfl := hw9
      go_wp2_with fail
      refine (V1.out _).mono ?_
      rintro e' w2 ⟨rfl, B2⟩
      go_wp2_with fail
      refine (SZ.out _).mono ?_
      rintro e' w3 ⟨rfl, B3⟩
      have u1 : w3.cell? ⟨w2.heap.size, 1, none⟩ = some (.bool false) := (B3.cell (p := ⟨w2.heap.size, 1, none⟩) (by simp)).trans (by simp [go_sem])
      go_wp2_with fail
      refine (HH.out _).mono ?_
      rintro e' w4 ⟨rfl, hw4⟩
      obtain rfl := hw4
      go_wp2_with fail
      refine (CP.out _).mono ?_
      rintro e' w5 ⟨rfl, hw5⟩
      obtain rfl := hw5
      go_wp2
      refine bodyPost_ret (two_resT Try.results38 _ _ _) rfl ⟨rfl, ?_⟩
      ((repeat (first | refine bel_alloc ?_ _ | refine bel_dN ?_ _ | refine Below.drew ?_ | refine Below.setCell ?_ (by first | (simp; done) | (simp; omega)) _)); refine bel_step ?_ B3; (repeat (first | refine bel_alloc ?_ _ | refine bel_dN ?_ _ | refine Below.drew ?_ | refine Below.setCell ?_ (by first | (simp; done) | (simp; omega)) _)); refine bel_step ?_ B2; (repeat (first | refine bel_alloc ?_ _ | refine bel_dN ?_ _ | refine Below.drew ?_ | refine Below.setCell ?_ (by first | (simp; done) | (simp; omega)) _)); refine bel_step ?_ B1; (repeat (first | refine bel_alloc ?_ _ | refine bel_dN ?_ _ | refine Below.drew ?_ | refine Below.setCell ?_ (by first | (simp; done) | (simp; omega)) _)); exact Below.refl _ _)
    · rw [if_pos rfl]
      go_enter Try.func38, Try.ntmps38
      go_wp2_with fail
      refine (form32 _).mono ?_
      rintro e' w1 ⟨rfl, B1⟩
      go_wp2_with fail
      refine (implWidth32T _).mono ?_
      rintro e' w9 ⟨rfl, hw9⟩
      obtain rfl := hw9
      go_wp2_with fail
      refine (V1.out _).mono ?_
      rintro e' w2 ⟨rfl, B2⟩
      go_wp2_with fail
      refine (SZ.out _).mono ?_
      rintro e' w3 ⟨rfl, B3⟩
      have u1 : w3.cell? ⟨w2.heap.size, 1, none⟩ = some (.bool true) := (B3.cell (p := ⟨w2.heap.size, 1, none⟩) (by simp)).trans (by simp [go_sem])
      go_wp2_with fail
      refine (HH.out _).mono ?_
      rintro e' w4 ⟨rfl, hw4⟩
      obtain rfl := hw4
      go_wp2_with fail
      refine (CN.out _).mono ?_
      rintro e' w5 ⟨rfl, hw5⟩
      obtain rfl := hw5
      go_wp2
      refine bodyPost_ret (two_resT Try.results38 _ _ _) rfl ⟨rfl, ?_⟩
      ((repeat (first | refine bel_alloc ?_ _ | refine bel_dN ?_ _ | refine Below.drew ?_ | refine Below.setCell ?_ (by first | (simp; done) | (simp; omega)) _)); refine bel_step ?_ B3; (repeat (first | refine bel_alloc ?_ _ | refine bel_dN ?_ _ | refine Below.drew ?_ | refine Below.setCell ?_ (by first | (simp; done) | (simp; omega)) _)); refine bel_step ?_ B2; (repeat (first | refine bel_alloc ?_ _ | refine bel_dN ?_ _ | refine Below.drew ?_ | refine Below.setCell ?_ (by first | (simp; done) | (simp; omega)) _)); refine bel_step ?_ B1; (repeat (first | refine bel_alloc ?_ _ | refine bel_dN ?_ _ | refine Below.drew ?_ | refine Below.setCell ?_ (by first | (simp; done) | (simp; omega)) _)); exact Below.refl _ _)

set_option maxHeartbeats 1000000 in
theorem toiNo64_16 (a c m e1 : Int) (s sg : Bool) (V1 : Hid (∀ w, Calls Try.prog 66 #[(.agg #[.int .i64 10, .int .i64 15, .int .u32 31]), .int .u32 a] w fun e w' => e = .returned (.agg #[.int .i64 c, .bool s, .int .u64 m, .int .i64 e1]) ∧ Below w.heap.size w w'))
    (SZ : Hid (∀ w, Calls Try.prog 84 #[.agg #[.int .i64 c, .bool s, .int .u64 m, .int .i64 e1]] w fun x w' => x = .returned (.tuple #[.int .u64 0, .bool false]) ∧ Below w.heap.size w w')) (w : World) :
    Calls Try.prog 38 #[.int .i64 16, .int .u32 a, .int .i64 64, .bool sg] w fun e w' => e = .returned tooGreat ∧ Below w.heap.size w w' := by
  go_enter Try.func38, Try.ntmps38
  go_wp2_with fail
  refine (form16 _).mono ?_
  rintro e' w1 ⟨rfl, B1⟩
  go_wp2_with fail
  refine (implWidth64T _).mono ?_
  rintro e' w9 ⟨rfl, hw9⟩
  obtain rfl := hw9
  go_wp2_with fail
  refine (V1.out _).mono ?_
  rintro e' w2 ⟨rfl, B2⟩
  go_wp2_with fail
  refine (SZ.out _).mono ?_
  rintro e' w3 ⟨rfl, B3⟩
  have u1 : w3.cell? ⟨w2.heap.size, 1, none⟩ = some (.bool s) := (B3.cell (p := ⟨w2.heap.size, 1, none⟩) (by simp)).trans (by simp [go_sem])
  go_wp2
  refine bodyPost_ret (two_resT Try.results38 _ _ _) rfl ⟨rfl, ?_⟩
  ((repeat (first | refine bel_alloc ?_ _ | refine bel_dN ?_ _ | refine Below.drew ?_ | refine Below.setCell ?_ (by first | (simp; done) | (simp; omega)) _)); refine bel_step ?_ B3; (repeat (first | refine bel_alloc ?_ _ | refine bel_dN ?_ _ | refine Below.drew ?_ | refine Below.setCell ?_ (by first | (simp; done) | (simp; omega)) _)); refine bel_step ?_ B2; (repeat (first | refine bel_alloc ?_ _ | refine bel_dN ?_ _ | refine Below.drew ?_ | refine Below.setCell ?_ (by first | (simp; done) | (simp; omega)) _)); refine bel_step ?_ B1; (repeat (first | refine bel_alloc ?_ _ | refine bel_dN ?_ _ | refine Below.drew ?_ | refine Below.setCell ?_ (by first | (simp; done) | (simp; omega)) _)); exact Below.refl _ _)

set_option maxHeartbeats 1000000 in
theorem toiNo64_32 (a c m e1 : Int) (s sg : Bool) (V1 : Hid (∀ w, Calls Try.prog 66 #[(.agg #[.int .i64 23, .int .i64 127, .int .u32 255]), .int .u32 a] w fun e w' => e = .returned (.agg #[.int .i64 c, .bool s, .int .u64 m, .int .i64 e1]) ∧ Below w.heap.size w w'))
    (SZ : Hid (∀ w, Calls Try.prog 84 #[.agg #[.int .i64 c, .bool s, .int .u64 m, .int .i64 e1]] w fun x w' => x = .returned (.tuple #[.int .u64 0, .bool false]) ∧ Below w.heap.size w w')) (w : World) :
    Calls Try.prog 38 #[.int .i64 32, .int .u32 a, .int .i64 64, .bool sg] w fun e w' => e = .returned tooGreat ∧ Below w.heap.size w w' := by
  go_enter Try.func38, Try.ntmps38
  go_wp2_with fail
  refine (form32 _).mono ?_
  rintro e' w1 ⟨rfl, B1⟩
  go_wp2_with fail
  refine (implWidth64T _).mono ?_
  rintro e' w9 ⟨rfl, hw9⟩
  obtain rfl := hw9
  go_wp2_with fail
  refine (V1.out _).mono ?_
  rintro e' w2 ⟨rfl, B2⟩
  go_wp2_with fail
  refine (SZ.out _).mono ?_
  rintro e' w3 ⟨rfl, B3⟩
  have u1 : w3.cell? ⟨w2.heap.size, 1, none⟩ = some (.bool s) := (B3.cell (p := ⟨w2.heap.size, 1, none⟩) (by simp)).trans (by simp [go_sem])
  go_wp2
  refine bodyPost_ret (two_resT Try.results38 _ _ _) rfl ⟨rfl, ?_⟩
  ((repeat (first | refine bel_alloc ?_ _ | refine bel_dN ?_ _ | refine Below.drew ?_ | refine Below.setCell ?_ (by first | (simp; done) | (simp; omega)) _)); refine bel_step ?_ B3; (repeat (first | refine bel_alloc ?_ _ | refine bel_dN ?_ _ | refine Below.drew ?_ | refine Below.setCell ?_ (by first | (simp; done) | (simp; omega)) _)); refine bel_step ?_ B2; (repeat (first | refine bel_alloc ?_ _ | refine bel_dN ?_ _ | refine Below.drew ?_ | refine Below.setCell ?_ (by first | (simp; done) | (simp; omega)) _)); refine bel_step ?_ B1; (repeat (first | refine bel_alloc ?_ _ | refine bel_dN ?_ _ | refine Below.drew ?_ | refine Below.setCell ?_ (by first | (simp; done) | (simp; omega)) _)); exact Below.refl _ _)

set_option maxHeartbeats 1000000 in
theorem toiYes64_16 (a c m e1 V : Int) (s sg : Bool) (V1 : Hid (∀ w, Calls Try.prog 66 #[(.agg #[.int .i64 10, .int .i64 15, .int .u32 31]), .int .u32 a] w fun e w' => e = .returned (.agg #[.int .i64 c, .bool s, .int .u64 m, .int .i64 e1]) ∧ Below w.heap.size w w'))
    (SZ : Hid (∀ w, Calls Try.prog 84 #[.agg #[.int .i64 c, .bool s, .int .u64 m, .int .i64 e1]] w fun x w' => x = .returned (.tuple #[.int .u64 V, .bool true]) ∧ Below w.heap.size w w')) (h0 : 0 ≤ V) (h1 : V ≤ 18446744073709551615) (w : World) :
    Calls Try.prog 38 #[.int .i64 16, .int .u32 a, .int .i64 64, .bool sg] w fun e w' => e = .returned (toi 9223372036854775808 18446744073709551616 s V sg) ∧ Below w.heap.size w w' := by
  have HO := holds64 s sg V h0 h1
  have CP : Hid (∀ w, Calls Try.prog 86 #[.int .i64 64, .int .u64 V] w fun e w' => e = .returned (.int .u64 (V % 18446744073709551616)) ∧ w' = w) := by
    intro w
    refine (cut64T V h0 h1 w).mono ?_
    rintro e w' ⟨rfl, hw⟩
    exact ⟨ret_int (by omega), hw⟩
  have CN : Hid (∀ w, Calls Try.prog 86 #[.int .i64 64, .int .u64 (IntKind.u64.wrap (-V))] w fun e w' => e = .returned (.int .u64 (-V % 18446744073709551616)) ∧ w' = w) := by
    intro w
    refine (cut64T (IntKind.u64.wrap (-V)) (by rw [IntKind.wrap_u64]; omega) (by rw [IntKind.wrap_u64]; omega) w).mono ?_
    rintro e w' ⟨rfl, hw⟩
    exact ⟨ret_int (by rw [IntKind.wrap_u64] <;> omega), hw⟩
  unfold toi
  generalize hol 9223372036854775808 18446744073709551616 s V sg = ok at *
  have HH : Hid (∀ w, Calls Try.prog 85 #[.int .i64 64, .bool s, .int .u64 V, .bool sg] w fun x w' => x = .returned (.bool ok) ∧ w' = w) := HO
  clear HO h0 h1
  cases ok
  · rw [if_neg (by decide)]
    go_enter Try.func38, Try.ntmps38
    go_wp2_with fail
    refine (form16 _).mono ?_
    rintro e' w1 ⟨rfl, B1⟩
    go_wp2_with fail
    refine (implWidth64T _).mono ?_
    rintro e' w9 ⟨rfl, hw9⟩
    obtain rfl := hw9
    go_wp2_with fail
    refine (V1.out _).mono ?_
    rintro e' w2 ⟨rfl, B2⟩
    go_wp2_with fail
    refine (SZ.out _).mono ?_
    rintro e' w3 ⟨rfl, B3⟩
    have u1 : w3.cell? ⟨w2.heap.size, 1, none⟩ = some (.bool s) := (B3.cell (p := ⟨w2.heap.size, 1, none⟩) (by simp)).trans (by simp [go_sem])
    go_wp2_with fail
    refine (HH.out _).mono ?_
    rintro e' w4 ⟨rfl, hw4⟩
    obtain rfl := hw4
    go_wp2
    refine bodyPost_ret (two_resT Try.results38 _ _ _) rfl ⟨rfl, ?_⟩
    ((repeat (first | refine bel_alloc ?_ _ | refine bel_dN ?_ _ | refine Below.drew ?_ | refine Below.setCell ?_ (by first | (simp; done) | (simp; omega)) _)); refine bel_step ?_ B3; (repeat (first | refine bel_alloc ?_ _ | refine bel_dN ?_ _ | refine Below.drew ?_ | refine Below.setCell ?_ (by first | (simp; done) | (simp; omega)) _)); refine bel_step ?_ B2; (repeat (first | refine bel_alloc ?_ _ | refine bel_dN ?_ _ | refine Below.drew ?_ | refine Below.setCell ?_ (by first | (simp; done) | (simp; omega)) _)); refine bel_step ?_ B1; (repeat (first | refine bel_alloc ?_ _ | refine bel_dN ?_ _ | refine Below.drew ?_ | refine Below.setCell ?_ (by first | (simp; done) | (simp; omega)) _)); exact Below.refl _ _)
  · rw [if_pos rfl]
    cases s
    · rw [if_neg (by decide)]
      go_enter Try.func38, Try.ntmps38
      go_wp2_with fail
      refine (form16 _).mono ?_
      rintro e' w1 ⟨rfl, B1⟩
      go_wp2_with fail
      refine (implWidth64T _).mono ?_
      rintro e' w9 ⟨rfl, hw9⟩
      obtain rfl := hw9
      go_wp2_with fail
      refine (V1.out _).mono ?_
      rintro e' w2 ⟨rfl, B2⟩
      go_wp2_with fail
      refine (SZ.out _).mono ?_
      rintro e' w3 ⟨rfl, B3⟩
      have u1 : w3.cell? ⟨w2.heap.size, 1, none⟩ = some (.bool false) := (B3.cell (p := ⟨w2.heap.size, 1, none⟩) (by simp)).trans (by simp [go_sem])
      go_wp2_with fail
      refine (HH.out _).mono ?_
      rintro e' w4 ⟨rfl, hw4⟩
      obtain rfl := hw4
      go_wp2_with fail
      refine (CP.out _).mono ?_
      rintro e' w5 ⟨rfl, hw5⟩
      obtain rfl := hw5
      go_wp2
      refine bodyPost_ret (two_resT Try.results38 _ _ _) rfl ⟨rfl, ?_⟩
      ((repeat (first | refine bel_alloc ?_ _ | refine bel_dN ?_ _ | refine Below.drew ?_ | refine Below.setCell ?_ (by first | (simp; done) | (simp; omega)) _)); refine bel_step ?_ B3; (repeat (first | refine bel_alloc ?_ _ | refine bel_dN ?_ _ | refine Below.drew ?_ | refine Below.setCell ?_ (by first | (simp; done) | (simp; omega)) _)); refine bel_step ?_ B2; (repeat (first | refine bel_alloc ?_ _ | refine bel_dN ?_ _ | refine Below.drew ?_ | refine Below.setCell ?_ (by first | (simp; done) | (simp; omega)) _)); refine bel_step ?_ B1; (repeat (first | refine bel_alloc ?_ _ | refine bel_dN ?_ _ | refine Below.drew ?_ | refine Below.setCell ?_ (by first | (simp; done) | (simp; omega)) _)); exact Below.refl _ _)
    · rw [if_pos rfl]
      go_enter Try.func38, Try.ntmps38
      go_wp2_with fail
      refine (form16 _).mono ?_
      rintro e' w1 ⟨rfl, B1⟩
      go_wp2_with fail
      refine (implWidth64T _).mono ?_
      rintro e' w9 ⟨rfl, hw9⟩
      obtain rfl := hw9
      go_wp2_with fail
      refine (V1.out _).mono ?_
      rintro e' w2 ⟨rfl, B2⟩
      go_wp2_with fail
      refine (SZ.out _).mono ?_
      rintro e' w3 ⟨rfl, B3⟩
      have u1 : w3.cell? ⟨w2.heap.size, 1, none⟩ = some (.bool true) := (B3.cell (p := ⟨w2.heap.size, 1, none⟩) (by simp)).trans (by simp [go_sem])
      go_wp2_with fail
      refine (HH.out _).mono ?_
      rintro e' w4 ⟨rfl, hw4⟩
      obtain rfl := hw4
      go_wp2_with fail
      refine (CN.out _).mono ?_
      rintro e' w5 ⟨rfl, hw5⟩
      obtain rfl := hw5
      go_wp2
      refine bodyPost_ret (two_resT Try.results38 _ _ _) rfl ⟨rfl, ?_⟩
      ((repeat (first | refine bel_alloc ?_ _ | refine bel_dN ?_ _ | refine Below.drew ?_ | refine Below.setCell ?_ (by first | (simp; done) | (simp; omega)) _)); refine bel_step ?_ B3; (repeat (first | refine bel_alloc ?_ _ | refine bel_dN ?_ _ | refine Below.drew ?_ | refine Below.setCell ?_ (by first | (simp; done) | (simp; omega)) _)); refine bel_step ?_ B2; (repeat (first | refine bel_alloc ?_ _ | refine bel_dN ?_ _ | refine Below.drew ?_ | refine Below.setCell ?_ (by first | (simp; done) | (simp; omega)) _)); refine bel_step ?_ B1; (repeat (first | refine bel_alloc ?_ _ | refine bel_dN ?_ _ | refine Below.drew ?_ | refine Below.setCell ?_ (by first | (simp; done) | (simp; omega)) _)); exact Below.refl _ _)

set_option maxHeartbeats 1000000 in
theorem toiYes64_32 (a c m e1 V : Int) (s sg : Bool) (V1 : Hid (∀ w, Calls Try.prog 66 #[(.agg #[.int .i64 23, .int .i64 127, .int .u32 255]), .int .u32 a] w fun e w' => e = .returned (.agg #[.int .i64 c, .bool s, .int .u64 m, .int .i64 e1]) ∧ Below w.heap.size w w'))
    (SZ : Hid (∀ w, Calls Try.prog 84 #[.agg #[.int .i64 c, .bool s, .int .u64 m, .int .i64 e1]] w fun x w' => x = .returned (.tuple #[.int .u64 V, .bool true]) ∧ Below w.heap.size w w')) (h0 : 0 ≤ V) (h1 : V ≤ 18446744073709551615) (w : World) :
    Calls Try.prog 38 #[.int .i64 32, .int .u32 a, .int .i64 64, .bool sg] w fun e w' => e = .returned (toi 9223372036854775808 18446744073709551616 s V sg) ∧ Below w.heap.size w w' := by
  have HO := holds64 s sg V h0 h1
  have CP : Hid (∀ w, Calls Try.prog 86 #[.int .i64 64, .int .u64 V] w fun e w' => e = .returned (.int .u64 (V % 18446744073709551616)) ∧ w' = w) := by
    intro w
    refine (cut64T V h0 h1 w).mono ?_
    rintro e w' ⟨rfl, hw⟩
    exact ⟨ret_int (by omega), hw⟩
  have CN : Hid (∀ w, Calls Try.prog 86 #[.int .i64 64, .int .u64 (IntKind.u64.wrap (-V))] w fun e w' => e = .returned (.int .u64 (-V % 18446744073709551616)) ∧ w' = w) := by
    intro w
    refine (cut64T (IntKind.u64.wrap (-V)) (by rw [IntKind.wrap_u64]; omega) (by rw [IntKind.wrap_u64]; omega) w).mono ?_
    rintro e w' ⟨rfl, hw⟩
    exact ⟨ret_int (by rw [IntKind.wrap_u64] <;> omega), hw⟩
  unfold toi
  generalize hol 9223372036854775808 18446744073709551616 s V sg = ok at *
  have HH : Hid (∀ w, Calls Try.prog 85 #[.int .i64 64, .bool s, .int .u64 V, .bool sg] w fun x w' => x = .returned (.bool ok) ∧ w' = w) := HO
  clear HO h0 h1
  cases ok
  · rw [if_neg (by decide)]
    go_enter Try.func38, Try.ntmps38
    go_wp2_with fail
    refine (form32 _).mono ?_
    rintro e' w1 ⟨rfl, B1⟩
    go_wp2_with fail
    refine (implWidth64T _).mono ?_
    rintro e' w9 ⟨rfl, hw9⟩
    obtain rfl := hw9
    go_wp2_with fail
    refine (V1.out _).mono ?_
    rintro e' w2 ⟨rfl, B2⟩
    go_wp2_with fail
    refine (SZ.out _).mono ?_
    rintro e' w3 ⟨rfl, B3⟩
    have u1 : w3.cell? ⟨w2.heap.size, 1, none⟩ = some (.bool s) := (B3.cell (p := ⟨w2.heap.size, 1, none⟩) (by simp)).trans (by simp [go_sem])
    go_wp2_with fail
    refine (HH.out _).mono ?_
    rintro e' w4 ⟨rfl, hw4⟩
    obtain rfl := hw4
    go_wp2
    refine bodyPost_ret (two_resT Try.results38 _ _ _) rfl ⟨rfl, ?_⟩
    ((repeat (first | refine bel_alloc ?_ _ | refine bel_dN ?_ _ | refine Below.drew ?_ | refine Below.setCell ?_ (by first | (simp; done) | (simp; omega)) _)); refine bel_step ?_ B3; (repeat (first | refine bel_alloc ?_ _ | refine bel_dN ?_ _ | refine Below.drew ?_ | refine Below.setCell ?_ (by first | (simp; done) | (simp; omega)) _)); refine bel_step ?_ B2; (repeat (first | refine bel_alloc ?_ _ | refine bel_dN ?_ _ | refine Below.drew ?_ | refine Below.setCell ?_ (by first | (simp; done) | (simp; omega)) _)); refine bel_step ?_ B1; (repeat (first | refine bel_alloc ?_ _ | refine bel_dN ?_ _ | refine Below.drew ?_ | refine Below.setCell ?_ (by first | (simp; done) | (simp; omega)) _)); exact Below.refl _ _)
  · rw [if_pos rfl]
    cases s
    · rw [if_neg (by decide)]
      go_enter Try.func38, Try.ntmps38
      go_wp2_with fail
      refine (form32 _).mono ?_
      rintro e' w1 ⟨rfl, B1⟩
      go_wp2_with fail
      refine (implWidth64T _).mono ?_
      rintro e' w9 ⟨rfl, hw9⟩
      obtain rfl := hw9
      go_wp2_with fail
      refine (V1.out _).mono ?_
      rintro e' w2 ⟨rfl, B2⟩
      go_wp2_with fail
      refine (SZ.out _).mono ?_
      rintro e' w3 ⟨rfl, B3⟩
      have u1 : w3.cell? ⟨w2.heap.size, 1, none⟩ = some (.bool false) := (B3.cell (p := ⟨w2.heap.size, 1, none⟩) (by simp)).trans (by simp [go_sem])
      go_wp2_with fail
      refine (HH.out _).mono ?_
      rintro e' w4 ⟨rfl, hw4⟩
      obtain rfl := hw4
      go_wp2_with fail
      refine (CP.out _).mono ?_
      rintro e' w5 ⟨rfl, hw5⟩
      obtain rfl := hw5
      go_wp2
      refine bodyPost_ret (two_resT Try.results38 _ _ _) rfl ⟨rfl, ?_⟩
      ((repeat (first | refine bel_alloc ?_ _ | refine bel_dN ?_ _ | refine Below.drew ?_ | refine Below.setCell ?_ (by first | (simp; done) | (simp; omega)) _)); refine bel_step ?_ B3; (repeat (first | refine bel_alloc ?_ _ | refine bel_dN ?_ _ | refine Below.drew ?_ | refine Below.setCell ?_ (by first | (simp; done) | (simp; omega)) _)); refine bel_step ?_ B2; (repeat (first | refine bel_alloc ?_ _ | refine bel_dN ?_ _ | refine Below.drew ?_ | refine Below.setCell ?_ (by first | (simp; done) | (simp; omega)) _)); refine bel_step ?_ B1; (repeat (first | refine bel_alloc ?_ _ | refine bel_dN ?_ _ | refine Below.drew ?_ | refine Below.setCell ?_ (by first | (simp; done) | (simp; omega)) _)); exact Below.refl _ _)
    · rw [if_pos rfl]
      go_enter Try.func38, Try.ntmps38
      go_wp2_with fail
      refine (form32 _).mono ?_
      rintro e' w1 ⟨rfl, B1⟩
      go_wp2_with fail
      refine (implWidth64T _).mono ?_
      rintro e' w9 ⟨rfl, hw9⟩
      obtain rfl := hw9
      go_wp2_with fail
      refine (V1.out _).mono ?_
      rintro e' w2 ⟨rfl, B2⟩
      go_wp2_with fail
      refine (SZ.out _).mono ?_
      rintro e' w3 ⟨rfl, B3⟩
      have u1 : w3.cell? ⟨w2.heap.size, 1, none⟩ = some (.bool true) := (B3.cell (p := ⟨w2.heap.size, 1, none⟩) (by simp)).trans (by simp [go_sem])
      go_wp2_with fail
      refine (HH.out _).mono ?_
      rintro e' w4 ⟨rfl, hw4⟩
      obtain rfl := hw4
      go_wp2_with fail
      refine (CN.out _).mono ?_
      rintro e' w5 ⟨rfl, hw5⟩
      obtain rfl := hw5
      go_wp2
      refine bodyPost_ret (two_resT Try.results38 _ _ _) rfl ⟨rfl, ?_⟩
      ((repeat (first | refine bel_alloc ?_ _ | refine bel_dN ?_ _ | refine Below.drew ?_ | refine Below.setCell ?_ (by first | (simp; done) | (simp; omega)) _)); refine bel_step ?_ B3; (repeat (first | refine bel_alloc ?_ _ | refine bel_dN ?_ _ | refine Below.drew ?_ | refine Below.setCell ?_ (by first | (simp; done) | (simp; omega)) _)); refine bel_step ?_ B2; (repeat (first | refine bel_alloc ?_ _ | refine bel_dN ?_ _ | refine Below.drew ?_ | refine Below.setCell ?_ (by first | (simp; done) | (simp; omega)) _)); refine bel_step ?_ B1; (repeat (first | refine bel_alloc ?_ _ | refine bel_dN ?_ _ | refine Below.drew ?_ | refine Below.setCell ?_ (by first | (simp; done) | (simp; omega)) _)); exact Below.refl _ _)

end Go.Proofs.Ytnimlkobcginjaa
