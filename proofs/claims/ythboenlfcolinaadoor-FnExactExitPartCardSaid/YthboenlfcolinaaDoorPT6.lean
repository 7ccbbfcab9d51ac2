/-
  Entering and leaving: both sides, and the two laws. (Made by a generator.)
-/
import Derived.Test.YthboenlfcolinaaDoorPT5
namespace Go.Proofs.YthboenlfcolinaaDoor
open Go.ChangeShapes Go.WideShapes Go.ChangeAt Go.RowKit Go.Deep

theorem grV_form (A : ByteArray) (M : Int) (D : ByteArray) (N C : Int) (I L b : Bool) : ∃ A' M' D' N' C' I' L' c, grV A M D N C I L b = .tuple #[ptV A' M' D' N' C' I' L', .int .i64 c] := by
  unfold grV
  split
  · split
    · exact ⟨_, _, _, _, _, _, _, _, rfl⟩
    · exact ⟨_, _, _, _, _, _, _, _, rfl⟩
  · exact ⟨_, _, _, _, _, _, _, _, rfl⟩

theorem implGuard (b : Bool) (w : World) :
    Calls Tryd.prog 23 #[.bool b] w fun e w' => e = .returned (.func (.func 31) #[] #[.pointer (some ⟨w.heap.size, 0, none⟩)]) ∧ w' = w.alloc (.cells #[.bool b] 4) := by
  go_enter Tryd.func23, Tryd.ntmps23
  go_wp2
  go_ret
  exact ⟨rfl, rfl⟩

set_option maxRecDepth 100000 in
set_option maxHeartbeats 1600000 in
theorem implEnter (A : ByteArray) (M : Int) (D : ByteArray) (N C : Int) (I L : Bool) (ha : A.size ≤ 1048576) (hd : D.size ≤ 1048576) (w : World) :
    Calls Tryd.prog 11 #[ptV A M D N C I L] w fun e w' => e = .returned (grV A M D N C I L false) ∧ Below w.heap.size w w' := by
  have G := implGuard false
  have J := implGuarded A M D N C I L false ha hd
  obtain ⟨A1, M1, D1, N1, C1, I1, L1, c, hV⟩ := grV_form A M D N C I L false
  rw [hV] at J ⊢
  obtain ⟨g, hgs⟩ : ∃ g, w.heap.size = g := ⟨_, rfl⟩
  clear hV ha hd
  go_enter Tryd.func11, Tryd.ntmps11
  go_wp2_with fail
  refine (G _).mono ?_
  rintro e w1 ⟨rfl, hw1⟩
  have B1 : Below w.heap.size w w1 := by rw [hw1]; (repeat (first | refine Below.alloc ?_ (by first | (simp; done) | (simp; omega)) _ | refine Below.setCell ?_ (by first | (simp; done) | (simp; omega)) _ | refine bel_dN ?_ _ | refine Below.drew ?_ | exact Below.refl _ _))
  have e0 : w1.heap[g]? = some (.cells #[.string A, .int .i64 M, .string D, .int .i64 N, .int .i64 C, .bool I, .bool L] 34 (0, 0)) := by rw [hw1, ← hgs]; exact heap_old (heap_old (heap_blk rfl))
  have e1 : w1.heap[g + 1]? = some (.cells #[.string ⟨#[]⟩, .int .i64 0, .string ⟨#[]⟩, .int .i64 0, .int .i64 0, .bool false, .bool false] 34 (0, 0)) := by rw [hw1, ← hgs]; exact heap_old (heap_blk (by simp))
  have e2 : w1.heap[g + 2]? = some (.cells #[.bool false] 4 (0, 0)) := by rw [hw1, ← hgs]; exact heap_blk (by simp)
  have hl : g + 2 < w1.heap.size := lt_of_block e2
  have hS : Hid (g + 2 < w1.heap.size) := hl
  have hC : Hid (w1.cell? ⟨g + 2, 0, none⟩ = some (.bool false)) := (cell_of_block e2 0).trans rfl
  have JJ := J (g + 2) w1 hS hC
  clear hw1 G e2 J
  have p0 := (cell_of_block e0 0).trans (show _ = some (.string A : Value) from rfl)
  have p1 := (cell_of_block e0 1).trans (show _ = some (.int .i64 M : Value) from rfl)
  have p2 := (cell_of_block e0 2).trans (show _ = some (.string D : Value) from rfl)
  have p3 := (cell_of_block e0 3).trans (show _ = some (.int .i64 N : Value) from rfl)
  have p4 := (cell_of_block e0 4).trans (show _ = some (.int .i64 C : Value) from rfl)
  have p5 := (cell_of_block e0 5).trans (show _ = some (.bool I : Value) from rfl)
  have p6 := (cell_of_block e0 6).trans (show _ = some (.bool L : Value) from rfl)
  go_wp2_with fail
  refine JJ.mono ?_
  rintro e w2 ⟨rfl, B2⟩
  have hB : Below w.heap.size w w2 := bel_step B1 B2
  replace e1 := (B2.block (g + 1) (by omega)).trans e1
  clear JJ B1 B2 e0 hS hC hl p0 p1 p2 p3 p4 p5 p6
  have q0 := (cell_of_block e1 0).trans (show _ = some (.string ⟨#[]⟩ : Value) from rfl)
  have z0 := free_of_block e1 0
  have q1 := (cell_of_block e1 1).trans (show _ = some (.int .i64 0 : Value) from rfl)
  have z1 := free_of_block e1 1
  have q2 := (cell_of_block e1 2).trans (show _ = some (.string ⟨#[]⟩ : Value) from rfl)
  have z2 := free_of_block e1 2
  have q3 := (cell_of_block e1 3).trans (show _ = some (.int .i64 0 : Value) from rfl)
  have z3 := free_of_block e1 3
  have q4 := (cell_of_block e1 4).trans (show _ = some (.int .i64 0 : Value) from rfl)
  have z4 := free_of_block e1 4
  have q5 := (cell_of_block e1 5).trans (show _ = some (.bool false : Value) from rfl)
  have z5 := free_of_block e1 5
  have q6 := (cell_of_block e1 6).trans (show _ = some (.bool false : Value) from rfl)
  have z6 := free_of_block e1 6
  obtain ⟨F, FB⟩ := setP e1 (.string A1) (.int .i64 M1) (.string D1) (.int .i64 N1) (.int .i64 C1) (.bool I1) (.bool L1) rfl
  have k0 := (cell_of_block F 0).trans (show _ = some (.string A1 : Value) from rfl)
  have k1 := (cell_of_block F 1).trans (show _ = some (.int .i64 M1 : Value) from rfl)
  have k2 := (cell_of_block F 2).trans (show _ = some (.string D1 : Value) from rfl)
  have k3 := (cell_of_block F 3).trans (show _ = some (.int .i64 N1 : Value) from rfl)
  have k4 := (cell_of_block F 4).trans (show _ = some (.int .i64 C1 : Value) from rfl)
  have k5 := (cell_of_block F 5).trans (show _ = some (.bool I1 : Value) from rfl)
  have k6 := (cell_of_block F 6).trans (show _ = some (.bool L1 : Value) from rfl)
  clear F e1
  go_wp2
  refine bodyPost_ret (v := .tuple #[.agg #[.string A1, .int .i64 M1, .string D1, .int .i64 N1, .int .i64 C1, .bool I1, .bool L1], .int .i64 c]) (by simp [results, Tryd.results11, go_sem, k0, k1, k2, k3, k4, k5, k6]) rfl ⟨rfl, FB _ _ (by omega) hB⟩

set_option maxRecDepth 100000 in
set_option maxHeartbeats 1600000 in
theorem specEnter (A : ByteArray) (M : Int) (D : ByteArray) (N C : Int) (I L : Bool) (ha : A.size ≤ 1048576) (hd : D.size ≤ 1048576) (w : World) :
    Calls Tryd.prog 10 #[ptV A M D N C I L] w fun e w' => e = .returned (grV A M D N C I L false) ∧ Below w.heap.size w w' := by
  have J := specGoodPart A M D N C I L ha hd
  obtain ⟨g, hgs⟩ : ∃ g, w.heap.size = g := ⟨_, rfl⟩
  unfold grV
  cases hp : gP A M D N C with
  | false =>
    rw [hp] at J
    simp only [Bool.false_eq_true, if_false]
    clear hp ha hd
    go_enter Tryd.func10, Tryd.ntmps10
    go_wp2_with fail
    refine (J _).mono ?_
    rintro e w1 ⟨rfl, B1⟩
    have hs := B1.size
    simp at hs
    have hB : Hid (Below w.heap.size w w1) := by unfold Hid; ((repeat (first | refine bel_alloc ?_ _ | refine bel_dN ?_ _ | refine Below.drew ?_ | refine Below.setCell ?_ (by first | (simp; done) | (simp; omega)) _)); refine bel_step ?_ B1; (repeat (first | refine bel_alloc ?_ _ | refine bel_dN ?_ _ | refine Below.drew ?_ | refine Below.setCell ?_ (by first | (simp; done) | (simp; omega)) _)); exact Below.refl _ _)
    have e1 : w1.heap[g + 1]? = some (.cells #[.string ⟨#[]⟩, .int .i64 0, .string ⟨#[]⟩, .int .i64 0, .int .i64 0, .bool false, .bool false] 34 (0, 0)) := by
      rw [← hgs]
      exact (B1.block _ (by simp)).trans (heap_blk (by simp))
    have hl : g + 1 < w1.heap.size := by omega
    have q0 := (cell_of_block e1 0).trans (show _ = some (.string ⟨#[]⟩ : Value) from rfl)
    have z0 := free_of_block e1 0
    have q1 := (cell_of_block e1 1).trans (show _ = some (.int .i64 0 : Value) from rfl)
    have z1 := free_of_block e1 1
    have q2 := (cell_of_block e1 2).trans (show _ = some (.string ⟨#[]⟩ : Value) from rfl)
    have z2 := free_of_block e1 2
    have q3 := (cell_of_block e1 3).trans (show _ = some (.int .i64 0 : Value) from rfl)
    have z3 := free_of_block e1 3
    have q4 := (cell_of_block e1 4).trans (show _ = some (.int .i64 0 : Value) from rfl)
    have z4 := free_of_block e1 4
    have q5 := (cell_of_block e1 5).trans (show _ = some (.bool false : Value) from rfl)
    have z5 := free_of_block e1 5
    have q6 := (cell_of_block e1 6).trans (show _ = some (.bool false : Value) from rfl)
    have z6 := free_of_block e1 6
    clear B1 J hs
    obtain ⟨F, FB⟩ := setP e1 (.string ⟨#[]⟩) (.int .i64 0) (.string ⟨#[]⟩) (.int .i64 0) (.int .i64 0) (.bool false) (.bool false) rfl
    have k0 := (cell_of_block F 0).trans (show _ = some (.string ⟨#[]⟩ : Value) from rfl)
    have k1 := (cell_of_block F 1).trans (show _ = some (.int .i64 0 : Value) from rfl)
    have k2 := (cell_of_block F 2).trans (show _ = some (.string ⟨#[]⟩ : Value) from rfl)
    have k3 := (cell_of_block F 3).trans (show _ = some (.int .i64 0 : Value) from rfl)
    have k4 := (cell_of_block F 4).trans (show _ = some (.int .i64 0 : Value) from rfl)
    have k5 := (cell_of_block F 5).trans (show _ = some (.bool false : Value) from rfl)
    have k6 := (cell_of_block F 6).trans (show _ = some (.bool false : Value) from rfl)
    clear F e1
    go_wp2
    refine bodyPost_ret (v := .tuple #[.agg #[.string ⟨#[]⟩, .int .i64 0, .string ⟨#[]⟩, .int .i64 0, .int .i64 0, .bool false, .bool false], .int .i64 1]) (by simp [results, Tryd.results10, go_sem, k0, k1, k2, k3, k4, k5, k6]) rfl ⟨rfl, FB _ _ (by omega) hB.out⟩
  | true =>
    rw [hp] at J
    simp only [if_true]
    clear hp ha hd
    cases I with
    | false =>
      rw [if_pos rfl]
      go_enter Tryd.func10, Tryd.ntmps10
      go_wp2_with fail
      refine (J _).mono ?_
      rintro e w1 ⟨rfl, B1⟩
      have hs := B1.size
      simp at hs
      have hB : Hid (Below w.heap.size w w1) := by unfold Hid; ((repeat (first | refine bel_alloc ?_ _ | refine bel_dN ?_ _ | refine Below.drew ?_ | refine Below.setCell ?_ (by first | (simp; done) | (simp; omega)) _)); refine bel_step ?_ B1; (repeat (first | refine bel_alloc ?_ _ | refine bel_dN ?_ _ | refine Below.drew ?_ | refine Below.setCell ?_ (by first | (simp; done) | (simp; omega)) _)); exact Below.refl _ _)
      have e0 : w1.heap[g]? = some (.cells #[.string A, .int .i64 M, .string D, .int .i64 N, .int .i64 C, .bool false, .bool L] 34 (0, 0)) := by
        rw [← hgs]
        exact (B1.block _ (by simp <;> omega)).trans (heap_old (heap_blk rfl))
      have e1 : w1.heap[g + 1]? = some (.cells #[.string ⟨#[]⟩, .int .i64 0, .string ⟨#[]⟩, .int .i64 0, .int .i64 0, .bool false, .bool false] 34 (0, 0)) := by
        rw [← hgs]
        exact (B1.block _ (by simp)).trans (heap_blk (by simp))
      have hl : g + 1 < w1.heap.size := by omega
      clear B1 J hs
      have p0 := (cell_of_block e0 0).trans (show _ = some (.string A : Value) from rfl)
      have y0 := free_of_block e0 0
      have p1 := (cell_of_block e0 1).trans (show _ = some (.int .i64 M : Value) from rfl)
      have y1 := free_of_block e0 1
      have p2 := (cell_of_block e0 2).trans (show _ = some (.string D : Value) from rfl)
      have y2 := free_of_block e0 2
      have p3 := (cell_of_block e0 3).trans (show _ = some (.int .i64 N : Value) from rfl)
      have y3 := free_of_block e0 3
      have p4 := (cell_of_block e0 4).trans (show _ = some (.int .i64 C : Value) from rfl)
      have y4 := free_of_block e0 4
      have p5 := (cell_of_block e0 5).trans (show _ = some (.bool false : Value) from rfl)
      have y5 := free_of_block e0 5
      have p6 := (cell_of_block e0 6).trans (show _ = some (.bool L : Value) from rfl)
      have y6 := free_of_block e0 6
      have q0 := (cell_of_block e1 0).trans (show _ = some (.string ⟨#[]⟩ : Value) from rfl)
      have z0 := free_of_block e1 0
      have q1 := (cell_of_block e1 1).trans (show _ = some (.int .i64 0 : Value) from rfl)
      have z1 := free_of_block e1 1
      have q2 := (cell_of_block e1 2).trans (show _ = some (.string ⟨#[]⟩ : Value) from rfl)
      have z2 := free_of_block e1 2
      have q3 := (cell_of_block e1 3).trans (show _ = some (.int .i64 0 : Value) from rfl)
      have z3 := free_of_block e1 3
      have q4 := (cell_of_block e1 4).trans (show _ = some (.int .i64 0 : Value) from rfl)
      have z4 := free_of_block e1 4
      have q5 := (cell_of_block e1 5).trans (show _ = some (.bool false : Value) from rfl)
      have z5 := free_of_block e1 5
      have q6 := (cell_of_block e1 6).trans (show _ = some (.bool false : Value) from rfl)
      have z6 := free_of_block e1 6
      obtain ⟨w2, hw2⟩ : ∃ W, (w1.setCell ⟨g, 5, none⟩ (.bool true)).setCell ⟨g, 6, none⟩ (.bool false) = W := ⟨_, rfl⟩
      have f1 : w2.heap[g + 1]? = some (.cells #[.string ⟨#[]⟩, .int .i64 0, .string ⟨#[]⟩, .int .i64 0, .int .i64 0, .bool false, .bool false] 34 (0, 0)) := by
        rw [← hw2]
        refine Eq.trans (heap_setCell_other _ _ _ _ ?_) ?_
        · simp
        refine Eq.trans (heap_setCell_other _ _ _ _ ?_) e1
        simp
      have hB2 : Hid (Below w.heap.size w w2) := by
        unfold Hid; rw [← hw2]
        refine Below.setCell (Below.setCell hB.out ?_ _) ?_ _ <;> simp <;> omega
      subst hw2
      clear e0 e1
      obtain ⟨F, FB⟩ := setP f1 (.string A) (.int .i64 M) (.string D) (.int .i64 N) (.int .i64 C) (.bool true) (.bool false) rfl
      have k0 := (cell_of_block F 0).trans (show _ = some (.string A : Value) from rfl)
      have k1 := (cell_of_block F 1).trans (show _ = some (.int .i64 M : Value) from rfl)
      have k2 := (cell_of_block F 2).trans (show _ = some (.string D : Value) from rfl)
      have k3 := (cell_of_block F 3).trans (show _ = some (.int .i64 N : Value) from rfl)
      have k4 := (cell_of_block F 4).trans (show _ = some (.int .i64 C : Value) from rfl)
      have k5 := (cell_of_block F 5).trans (show _ = some (.bool true : Value) from rfl)
      have k6 := (cell_of_block F 6).trans (show _ = some (.bool false : Value) from rfl)
      clear F f1
      go_wp2
      refine bodyPost_ret (v := .tuple #[.agg #[.string A, .int .i64 M, .string D, .int .i64 N, .int .i64 C, .bool true, .bool false], .int .i64 0]) (by simp [results, Tryd.results10, go_sem, k0, k1, k2, k3, k4, k5, k6]) rfl ⟨rfl, FB _ _ (by omega) hB2.out⟩
    | true =>
      rw [if_neg (by decide)]
      go_enter Tryd.func10, Tryd.ntmps10
      go_wp2_with fail
      refine (J _).mono ?_
      rintro e w1 ⟨rfl, B1⟩
      have hs := B1.size
      simp at hs
      have hB : Hid (Below w.heap.size w w1) := by unfold Hid; ((repeat (first | refine bel_alloc ?_ _ | refine bel_dN ?_ _ | refine Below.drew ?_ | refine Below.setCell ?_ (by first | (simp; done) | (simp; omega)) _)); refine bel_step ?_ B1; (repeat (first | refine bel_alloc ?_ _ | refine bel_dN ?_ _ | refine Below.drew ?_ | refine Below.setCell ?_ (by first | (simp; done) | (simp; omega)) _)); exact Below.refl _ _)
      have e0 : w1.heap[g]? = some (.cells #[.string A, .int .i64 M, .string D, .int .i64 N, .int .i64 C, .bool true, .bool L] 34 (0, 0)) := by
        rw [← hgs]
        exact (B1.block _ (by simp <;> omega)).trans (heap_old (heap_blk rfl))
      have e1 : w1.heap[g + 1]? = some (.cells #[.string ⟨#[]⟩, .int .i64 0, .string ⟨#[]⟩, .int .i64 0, .int .i64 0, .bool false, .bool false] 34 (0, 0)) := by
        rw [← hgs]
        exact (B1.block _ (by simp)).trans (heap_blk (by simp))
      have hl : g + 1 < w1.heap.size := by omega
      clear B1 J hs
      have p0 := (cell_of_block e0 0).trans (show _ = some (.string A : Value) from rfl)
      have y0 := free_of_block e0 0
      have p1 := (cell_of_block e0 1).trans (show _ = some (.int .i64 M : Value) from rfl)
      have y1 := free_of_block e0 1
      have p2 := (cell_of_block e0 2).trans (show _ = some (.string D : Value) from rfl)
      have y2 := free_of_block e0 2
      have p3 := (cell_of_block e0 3).trans (show _ = some (.int .i64 N : Value) from rfl)
      have y3 := free_of_block e0 3
      have p4 := (cell_of_block e0 4).trans (show _ = some (.int .i64 C : Value) from rfl)
      have y4 := free_of_block e0 4
      have p5 := (cell_of_block e0 5).trans (show _ = some (.bool true : Value) from rfl)
      have y5 := free_of_block e0 5
      have p6 := (cell_of_block e0 6).trans (show _ = some (.bool L : Value) from rfl)
      have y6 := free_of_block e0 6
      have q0 := (cell_of_block e1 0).trans (show _ = some (.string ⟨#[]⟩ : Value) from rfl)
      have z0 := free_of_block e1 0
      have q1 := (cell_of_block e1 1).trans (show _ = some (.int .i64 0 : Value) from rfl)
      have z1 := free_of_block e1 1
      have q2 := (cell_of_block e1 2).trans (show _ = some (.string ⟨#[]⟩ : Value) from rfl)
      have z2 := free_of_block e1 2
      have q3 := (cell_of_block e1 3).trans (show _ = some (.int .i64 0 : Value) from rfl)
      have z3 := free_of_block e1 3
      have q4 := (cell_of_block e1 4).trans (show _ = some (.int .i64 0 : Value) from rfl)
      have z4 := free_of_block e1 4
      have q5 := (cell_of_block e1 5).trans (show _ = some (.bool false : Value) from rfl)
      have z5 := free_of_block e1 5
      have q6 := (cell_of_block e1 6).trans (show _ = some (.bool false : Value) from rfl)
      have z6 := free_of_block e1 6
      clear e0
      obtain ⟨F, FB⟩ := setP e1 (.string A) (.int .i64 M) (.string D) (.int .i64 N) (.int .i64 C) (.bool true) (.bool L) rfl
      have k0 := (cell_of_block F 0).trans (show _ = some (.string A : Value) from rfl)
      have k1 := (cell_of_block F 1).trans (show _ = some (.int .i64 M : Value) from rfl)
      have k2 := (cell_of_block F 2).trans (show _ = some (.string D : Value) from rfl)
      have k3 := (cell_of_block F 3).trans (show _ = some (.int .i64 N : Value) from rfl)
      have k4 := (cell_of_block F 4).trans (show _ = some (.int .i64 C : Value) from rfl)
      have k5 := (cell_of_block F 5).trans (show _ = some (.bool true : Value) from rfl)
      have k6 := (cell_of_block F 6).trans (show _ = some (.bool L : Value) from rfl)
      clear F e1
      go_wp2
      refine bodyPost_ret (v := .tuple #[.agg #[.string A, .int .i64 M, .string D, .int .i64 N, .int .i64 C, .bool true, .bool L], .int .i64 4]) (by simp [results, Tryd.results10, go_sem, k0, k1, k2, k3, k4, k5, k6]) rfl ⟨rfl, FB _ _ (by omega) hB.out⟩

set_option maxRecDepth 2000000 in
set_option maxHeartbeats 1600000 in
theorem enterPart_walk (A : ByteArray) (M : Int) (D : ByteArray) (N C : Int) (I L : Bool) (wa : A.size ≤ maxLen) (wd : D.size ≤ maxLen) (w : World) :
    Calls Tryd.prog 4 #[ptV A M D N C I L] w fun e w' => e = .returned (.bool true) ∧ Below w.heap.size w w' := by
  unfold maxLen at *
  have ZZ := szPart A M D N C I L wa wd
  obtain ⟨g, hgs⟩ : ∃ g, w.heap.size = g := ⟨_, rfl⟩
  rcases ptL_or A D with h | ⟨h, ha, hd⟩
  · rw [h] at ZZ
    clear h wa wd
    go_enter Tryd.func4, Tryd.ntmps4
    go_wp2_with fail
    refine (ZZ _).mono ?_
    rintro e w1 ⟨rfl, B1⟩
    have hB : Hid (Below w.heap.size w w1) := by unfold Hid; ((repeat (first | refine bel_alloc ?_ _ | refine bel_dN ?_ _ | refine Below.drew ?_ | refine Below.setCell ?_ (by first | (simp; done) | (simp; omega)) _)); refine bel_step ?_ B1; (repeat (first | refine bel_alloc ?_ _ | refine bel_dN ?_ _ | refine Below.drew ?_ | refine Below.setCell ?_ (by first | (simp; done) | (simp; omega)) _)); exact Below.refl _ _)
    clear B1 ZZ
    go_wp2
    go_ret
    exact ⟨rfl, hB.out⟩
  · have T := toPart A M D N C I L
    have S := specEnter A M D N C I L ha hd
    have J := implEnter A M D N C I L ha hd
    obtain ⟨A1, M1, D1, N1, C1, I1, L1, c, hV⟩ := grV_form A M D N C I L false
    rw [hV] at S J
    have E := eqPart A1 M1 D1 N1 C1 I1 L1
    obtain ⟨left, hleft⟩ : ∃ left, ptL A D = left := ⟨_, rfl⟩
    rw [hleft] at ZZ h
    clear hV hleft wa wd ha hd
    go_enter Tryd.func4, Tryd.ntmps4
    go_wp2_with fail
    refine (ZZ _).mono ?_
    rintro e w1 ⟨rfl, B1⟩
    have hs := B1.size
    simp at hs
    have hB : Hid (Below w.heap.size w w1) := by unfold Hid; ((repeat (first | refine bel_alloc ?_ _ | refine bel_dN ?_ _ | refine Below.drew ?_ | refine Below.setCell ?_ (by first | (simp; done) | (simp; omega)) _)); refine bel_step ?_ B1; (repeat (first | refine bel_alloc ?_ _ | refine bel_dN ?_ _ | refine Below.drew ?_ | refine Below.setCell ?_ (by first | (simp; done) | (simp; omega)) _)); exact Below.refl _ _)
    have e0 : w1.heap[g]? = some (.cells #[.string A, .int .i64 M, .string D, .int .i64 N, .int .i64 C, .bool I, .bool L] 27 (0, 0)) := by
      rw [← hgs]
      exact (B1.block _ (by simp)).trans (heap_blk rfl)
    have hl : g < w1.heap.size := by omega
    clear B1 ZZ hs
    have p0 := (cell_of_block e0 0).trans (show _ = some (.string A : Value) from rfl)
    have p1 := (cell_of_block e0 1).trans (show _ = some (.int .i64 M : Value) from rfl)
    have p2 := (cell_of_block e0 2).trans (show _ = some (.string D : Value) from rfl)
    have p3 := (cell_of_block e0 3).trans (show _ = some (.int .i64 N : Value) from rfl)
    have p4 := (cell_of_block e0 4).trans (show _ = some (.int .i64 C : Value) from rfl)
    have p5 := (cell_of_block e0 5).trans (show _ = some (.bool I : Value) from rfl)
    have p6 := (cell_of_block e0 6).trans (show _ = some (.bool L : Value) from rfl)
    go_wp2_with fail
    refine (T _).mono ?_
    rintro e w2 ⟨rfl, B2⟩
    replace e0 := (B2.block g hl).trans e0
    replace hl := Nat.lt_of_lt_of_le hl B2.size
    replace hB : Hid (Below w.heap.size w w2) := bel_step hB.out B2
    clear B2 p0 p1 p2 p3 p4 p5 p6
    go_wp2_with fail
    refine (S _).mono ?_
    rintro e w3 ⟨rfl, B2⟩
    replace e0 := (B2.block g hl).trans e0
    replace hl := Nat.lt_of_lt_of_le hl B2.size
    replace hB : Hid (Below w.heap.size w w3) := bel_step hB.out B2
    clear B2
    obtain ⟨y, hy⟩ : ∃ y, w3.heap.size = y := ⟨_, rfl⟩
    obtain ⟨X, hX⟩ : ∃ W, w3.alloc (.cells #[.string A1, .int .i64 M1, .string D1, .int .i64 N1, .int .i64 C1, .bool I1, .bool L1] 34) = W := ⟨_, rfl⟩
    have bY : X.heap[y]? = some (.cells #[.string A1, .int .i64 M1, .string D1, .int .i64 N1, .int .i64 C1, .bool I1, .bool L1] 34 (0, 0)) := by rw [← hX]; exact heap_blk hy
    replace e0 : X.heap[g]? = some (.cells #[.string A, .int .i64 M, .string D, .int .i64 N, .int .i64 C, .bool I, .bool L] 27 (0, 0)) := by rw [← hX]; exact heap_old e0
    replace hl : g < X.heap.size := lt_of_block e0
    replace hB : Hid (Below w.heap.size w X) := by unfold Hid; rw [← hX]; exact hB.out.alloc hB.out.size _
    have p0 := (cell_of_block e0 0).trans (show _ = some (.string A : Value) from rfl)
    have p1 := (cell_of_block e0 1).trans (show _ = some (.int .i64 M : Value) from rfl)
    have p2 := (cell_of_block e0 2).trans (show _ = some (.string D : Value) from rfl)
    have p3 := (cell_of_block e0 3).trans (show _ = some (.int .i64 N : Value) from rfl)
    have p4 := (cell_of_block e0 4).trans (show _ = some (.int .i64 C : Value) from rfl)
    have p5 := (cell_of_block e0 5).trans (show _ = some (.bool I : Value) from rfl)
    have p6 := (cell_of_block e0 6).trans (show _ = some (.bool L : Value) from rfl)
    go_wp2_with fail
    clear hy hX p0 p1 p2 p3 p4 p5 p6
    refine (T _).mono ?_
    rintro e w4 ⟨rfl, B2⟩
    replace bY := (B2.block y (lt_of_block bY)).trans bY
    replace e0 := (B2.block g hl).trans e0
    replace hl := Nat.lt_of_lt_of_le hl B2.size
    replace hB : Hid (Below w.heap.size w w4) := bel_step hB.out B2
    clear B2
    go_wp2_with fail
    refine (J _).mono ?_
    rintro e w5 ⟨rfl, B2⟩
    replace bY := (B2.block y (lt_of_block bY)).trans bY
    replace e0 := (B2.block g hl).trans e0
    replace hl := Nat.lt_of_lt_of_le hl B2.size
    replace hB : Hid (Below w.heap.size w w5) := bel_step hB.out B2
    clear B2
    obtain ⟨u, hu⟩ : ∃ y, w5.heap.size = y := ⟨_, rfl⟩
    obtain ⟨X2, hX2⟩ : ∃ W, w5.alloc (.cells #[.string A1, .int .i64 M1, .string D1, .int .i64 N1, .int .i64 C1, .bool I1, .bool L1] 34) = W := ⟨_, rfl⟩
    have bu : X2.heap[u]? = some (.cells #[.string A1, .int .i64 M1, .string D1, .int .i64 N1, .int .i64 C1, .bool I1, .bool L1] 34 (0, 0)) := by rw [← hX2]; exact heap_blk hu
    replace e0 : X2.heap[g]? = some (.cells #[.string A, .int .i64 M, .string D, .int .i64 N, .int .i64 C, .bool I, .bool L] 27 (0, 0)) := by rw [← hX2]; exact heap_old e0
    replace hl : g < X2.heap.size := lt_of_block e0
    replace hB : Hid (Below w.heap.size w X2) := by unfold Hid; rw [← hX2]; exact hB.out.alloc hB.out.size _
    replace bY : X2.heap[y]? = some (.cells #[.string A1, .int .i64 M1, .string D1, .int .i64 N1, .int .i64 C1, .bool I1, .bool L1] 34 (0, 0)) := by rw [← hX2]; exact heap_old bY
    have p0 := (cell_of_block bY 0).trans (show _ = some (.string A1 : Value) from rfl)
    have p1 := (cell_of_block bY 1).trans (show _ = some (.int .i64 M1 : Value) from rfl)
    have p2 := (cell_of_block bY 2).trans (show _ = some (.string D1 : Value) from rfl)
    have p3 := (cell_of_block bY 3).trans (show _ = some (.int .i64 N1 : Value) from rfl)
    have p4 := (cell_of_block bY 4).trans (show _ = some (.int .i64 C1 : Value) from rfl)
    have p5 := (cell_of_block bY 5).trans (show _ = some (.bool I1 : Value) from rfl)
    have p6 := (cell_of_block bY 6).trans (show _ = some (.bool L1 : Value) from rfl)
    have q0 := (cell_of_block bu 0).trans (show _ = some (.string A1 : Value) from rfl)
    have q1 := (cell_of_block bu 1).trans (show _ = some (.int .i64 M1 : Value) from rfl)
    have q2 := (cell_of_block bu 2).trans (show _ = some (.string D1 : Value) from rfl)
    have q3 := (cell_of_block bu 3).trans (show _ = some (.int .i64 N1 : Value) from rfl)
    have q4 := (cell_of_block bu 4).trans (show _ = some (.int .i64 C1 : Value) from rfl)
    have q5 := (cell_of_block bu 5).trans (show _ = some (.bool I1 : Value) from rfl)
    have q6 := (cell_of_block bu 6).trans (show _ = some (.bool L1 : Value) from rfl)
    go_wp2_with fail
    clear hu hX2 p0 p1 p2 p3 p4 p5 p6 q0 q1 q2 q3 q4 q5 q6
    refine (E _).mono ?_
    rintro e w6 ⟨rfl, B2⟩
    replace hB : Hid (Below w.heap.size w w6) := bel_step hB.out B2
    clear B2 E J S T e0 hl bY bu
    have hcc : (c != c) = false := by simp
    go_wp2
    go_ret
    exact ⟨rfl, hB.out⟩

set_option maxRecDepth 100000 in
set_option maxHeartbeats 1600000 in
theorem implExit (A : ByteArray) (M : Int) (D : ByteArray) (N C : Int) (I L : Bool) (ha : A.size ≤ 1048576) (hd : D.size ≤ 1048576) (w : World) :
    Calls Tryd.prog 14 #[ptV A M D N C I L] w fun e w' => e = .returned (grV A M D N C I L true) ∧ Below w.heap.size w w' := by
  have G := implGuard true
  have J := implGuarded A M D N C I L true ha hd
  obtain ⟨A1, M1, D1, N1, C1, I1, L1, c, hV⟩ := grV_form A M D N C I L true
  rw [hV] at J ⊢
  obtain ⟨g, hgs⟩ : ∃ g, w.heap.size = g := ⟨_, rfl⟩
  clear hV ha hd
  go_enter Tryd.func14, Tryd.ntmps14
  go_wp2_with fail
  refine (G _).mono ?_
  rintro e w1 ⟨rfl, hw1⟩
  have B1 : Below w.heap.size w w1 := by rw [hw1]; (repeat (first | refine Below.alloc ?_ (by first | (simp; done) | (simp; omega)) _ | refine Below.setCell ?_ (by first | (simp; done) | (simp; omega)) _ | refine bel_dN ?_ _ | refine Below.drew ?_ | exact Below.refl _ _))
  have e0 : w1.heap[g]? = some (.cells #[.string A, .int .i64 M, .string D, .int .i64 N, .int .i64 C, .bool I, .bool L] 34 (0, 0)) := by rw [hw1, ← hgs]; exact heap_old (heap_old (heap_blk rfl))
  have e1 : w1.heap[g + 1]? = some (.cells #[.string ⟨#[]⟩, .int .i64 0, .string ⟨#[]⟩, .int .i64 0, .int .i64 0, .bool false, .bool false] 34 (0, 0)) := by rw [hw1, ← hgs]; exact heap_old (heap_blk (by simp))
  have e2 : w1.heap[g + 2]? = some (.cells #[.bool true] 4 (0, 0)) := by rw [hw1, ← hgs]; exact heap_blk (by simp)
  have hl : g + 2 < w1.heap.size := lt_of_block e2
  have hS : Hid (g + 2 < w1.heap.size) := hl
  have hC : Hid (w1.cell? ⟨g + 2, 0, none⟩ = some (.bool true)) := (cell_of_block e2 0).trans rfl
  have JJ := J (g + 2) w1 hS hC
  clear hw1 G e2 J
  have p0 := (cell_of_block e0 0).trans (show _ = some (.string A : Value) from rfl)
  have p1 := (cell_of_block e0 1).trans (show _ = some (.int .i64 M : Value) from rfl)
  have p2 := (cell_of_block e0 2).trans (show _ = some (.string D : Value) from rfl)
  have p3 := (cell_of_block e0 3).trans (show _ = some (.int .i64 N : Value) from rfl)
  have p4 := (cell_of_block e0 4).trans (show _ = some (.int .i64 C : Value) from rfl)
  have p5 := (cell_of_block e0 5).trans (show _ = some (.bool I : Value) from rfl)
  have p6 := (cell_of_block e0 6).trans (show _ = some (.bool L : Value) from rfl)
  go_wp2_with fail
  refine JJ.mono ?_
  rintro e w2 ⟨rfl, B2⟩
  have hB : Below w.heap.size w w2 := bel_step B1 B2
  replace e1 := (B2.block (g + 1) (by omega)).trans e1
  clear JJ B1 B2 e0 hS hC hl p0 p1 p2 p3 p4 p5 p6
  have q0 := (cell_of_block e1 0).trans (show _ = some (.string ⟨#[]⟩ : Value) from rfl)
  have z0 := free_of_block e1 0
  have q1 := (cell_of_block e1 1).trans (show _ = some (.int .i64 0 : Value) from rfl)
  have z1 := free_of_block e1 1
  have q2 := (cell_of_block e1 2).trans (show _ = some (.string ⟨#[]⟩ : Value) from rfl)
  have z2 := free_of_block e1 2
  have q3 := (cell_of_block e1 3).trans (show _ = some (.int .i64 0 : Value) from rfl)
  have z3 := free_of_block e1 3
  have q4 := (cell_of_block e1 4).trans (show _ = some (.int .i64 0 : Value) from rfl)
  have z4 := free_of_block e1 4
  have q5 := (cell_of_block e1 5).trans (show _ = some (.bool false : Value) from rfl)
  have z5 := free_of_block e1 5
  have q6 := (cell_of_block e1 6).trans (show _ = some (.bool false : Value) from rfl)
  have z6 := free_of_block e1 6
  obtain ⟨F, FB⟩ := setP e1 (.string A1) (.int .i64 M1) (.string D1) (.int .i64 N1) (.int .i64 C1) (.bool I1) (.bool L1) rfl
  have k0 := (cell_of_block F 0).trans (show _ = some (.string A1 : Value) from rfl)
  have k1 := (cell_of_block F 1).trans (show _ = some (.int .i64 M1 : Value) from rfl)
  have k2 := (cell_of_block F 2).trans (show _ = some (.string D1 : Value) from rfl)
  have k3 := (cell_of_block F 3).trans (show _ = some (.int .i64 N1 : Value) from rfl)
  have k4 := (cell_of_block F 4).trans (show _ = some (.int .i64 C1 : Value) from rfl)
  have k5 := (cell_of_block F 5).trans (show _ = some (.bool I1 : Value) from rfl)
  have k6 := (cell_of_block F 6).trans (show _ = some (.bool L1 : Value) from rfl)
  clear F e1
  go_wp2
  refine bodyPost_ret (v := .tuple #[.agg #[.string A1, .int .i64 M1, .string D1, .int .i64 N1, .int .i64 C1, .bool I1, .bool L1], .int .i64 c]) (by simp [results, Tryd.results14, go_sem, k0, k1, k2, k3, k4, k5, k6]) rfl ⟨rfl, FB _ _ (by omega) hB⟩

set_option maxRecDepth 100000 in
set_option maxHeartbeats 1600000 in
theorem specExit (A : ByteArray) (M : Int) (D : ByteArray) (N C : Int) (I L : Bool) (ha : A.size ≤ 1048576) (hd : D.size ≤ 1048576) (w : World) :
    Calls Tryd.prog 13 #[ptV A M D N C I L] w fun e w' => e = .returned (grV A M D N C I L true) ∧ Below w.heap.size w w' := by
  have J := specGoodPart A M D N C I L ha hd
  obtain ⟨g, hgs⟩ : ∃ g, w.heap.size = g := ⟨_, rfl⟩
  unfold grV
  cases hp : gP A M D N C with
  | false =>
    rw [hp] at J
    simp only [Bool.false_eq_true, if_false]
    clear hp ha hd
    go_enter Tryd.func13, Tryd.ntmps13
    go_wp2_with fail
    refine (J _).mono ?_
    rintro e w1 ⟨rfl, B1⟩
    have hs := B1.size
    simp at hs
    have hB : Hid (Below w.heap.size w w1) := by unfold Hid; ((repeat (first | refine bel_alloc ?_ _ | refine bel_dN ?_ _ | refine Below.drew ?_ | refine Below.setCell ?_ (by first | (simp; done) | (simp; omega)) _)); refine bel_step ?_ B1; (repeat (first | refine bel_alloc ?_ _ | refine bel_dN ?_ _ | refine Below.drew ?_ | refine Below.setCell ?_ (by first | (simp; done) | (simp; omega)) _)); exact Below.refl _ _)
    have e1 : w1.heap[g + 1]? = some (.cells #[.string ⟨#[]⟩, .int .i64 0, .string ⟨#[]⟩, .int .i64 0, .int .i64 0, .bool false, .bool false] 34 (0, 0)) := by
      rw [← hgs]
      exact (B1.block _ (by simp)).trans (heap_blk (by simp))
    have hl : g + 1 < w1.heap.size := by omega
    have q0 := (cell_of_block e1 0).trans (show _ = some (.string ⟨#[]⟩ : Value) from rfl)
    have z0 := free_of_block e1 0
    have q1 := (cell_of_block e1 1).trans (show _ = some (.int .i64 0 : Value) from rfl)
    have z1 := free_of_block e1 1
    have q2 := (cell_of_block e1 2).trans (show _ = some (.string ⟨#[]⟩ : Value) from rfl)
    have z2 := free_of_block e1 2
    have q3 := (cell_of_block e1 3).trans (show _ = some (.int .i64 0 : Value) from rfl)
    have z3 := free_of_block e1 3
    have q4 := (cell_of_block e1 4).trans (show _ = some (.int .i64 0 : Value) from rfl)
    have z4 := free_of_block e1 4
    have q5 := (cell_of_block e1 5).trans (show _ = some (.bool false : Value) from rfl)
    have z5 := free_of_block e1 5
    have q6 := (cell_of_block e1 6).trans (show _ = some (.bool false : Value) from rfl)
    have z6 := free_of_block e1 6
    clear B1 J hs
    obtain ⟨F, FB⟩ := setP e1 (.string ⟨#[]⟩) (.int .i64 0) (.string ⟨#[]⟩) (.int .i64 0) (.int .i64 0) (.bool false) (.bool false) rfl
    have k0 := (cell_of_block F 0).trans (show _ = some (.string ⟨#[]⟩ : Value) from rfl)
    have k1 := (cell_of_block F 1).trans (show _ = some (.int .i64 0 : Value) from rfl)
    have k2 := (cell_of_block F 2).trans (show _ = some (.string ⟨#[]⟩ : Value) from rfl)
    have k3 := (cell_of_block F 3).trans (show _ = some (.int .i64 0 : Value) from rfl)
    have k4 := (cell_of_block F 4).trans (show _ = some (.int .i64 0 : Value) from rfl)
    have k5 := (cell_of_block F 5).trans (show _ = some (.bool false : Value) from rfl)
    have k6 := (cell_of_block F 6).trans (show _ = some (.bool false : Value) from rfl)
    clear F e1
    go_wp2
    refine bodyPost_ret (v := .tuple #[.agg #[.string ⟨#[]⟩, .int .i64 0, .string ⟨#[]⟩, .int .i64 0, .int .i64 0, .bool false, .bool false], .int .i64 1]) (by simp [results, Tryd.results13, go_sem, k0, k1, k2, k3, k4, k5, k6]) rfl ⟨rfl, FB _ _ (by omega) hB.out⟩
  | true =>
    rw [hp] at J
    simp only [if_true]
    clear hp ha hd
    cases I with
    | false =>
      rw [if_neg (by decide)]
      go_enter Tryd.func13, Tryd.ntmps13
      go_wp2_with fail
      refine (J _).mono ?_
      rintro e w1 ⟨rfl, B1⟩
      have hs := B1.size
      simp at hs
      have hB : Hid (Below w.heap.size w w1) := by unfold Hid; ((repeat (first | refine bel_alloc ?_ _ | refine bel_dN ?_ _ | refine Below.drew ?_ | refine Below.setCell ?_ (by first | (simp; done) | (simp; omega)) _)); refine bel_step ?_ B1; (repeat (first | refine bel_alloc ?_ _ | refine bel_dN ?_ _ | refine Below.drew ?_ | refine Below.setCell ?_ (by first | (simp; done) | (simp; omega)) _)); exact Below.refl _ _)
      have e0 : w1.heap[g]? = some (.cells #[.string A, .int .i64 M, .string D, .int .i64 N, .int .i64 C, .bool false, .bool L] 34 (0, 0)) := by
        rw [← hgs]
        exact (B1.block _ (by simp <;> omega)).trans (heap_old (heap_blk rfl))
      have e1 : w1.heap[g + 1]? = some (.cells #[.string ⟨#[]⟩, .int .i64 0, .string ⟨#[]⟩, .int .i64 0, .int .i64 0, .bool false, .bool false] 34 (0, 0)) := by
        rw [← hgs]
        exact (B1.block _ (by simp)).trans (heap_blk (by simp))
      have hl : g + 1 < w1.heap.size := by omega
      clear B1 J hs
      have p0 := (cell_of_block e0 0).trans (show _ = some (.string A : Value) from rfl)
      have y0 := free_of_block e0 0
      have p1 := (cell_of_block e0 1).trans (show _ = some (.int .i64 M : Value) from rfl)
      have y1 := free_of_block e0 1
      have p2 := (cell_of_block e0 2).trans (show _ = some (.string D : Value) from rfl)
      have y2 := free_of_block e0 2
      have p3 := (cell_of_block e0 3).trans (show _ = some (.int .i64 N : Value) from rfl)
      have y3 := free_of_block e0 3
      have p4 := (cell_of_block e0 4).trans (show _ = some (.int .i64 C : Value) from rfl)
      have y4 := free_of_block e0 4
      have p5 := (cell_of_block e0 5).trans (show _ = some (.bool false : Value) from rfl)
      have y5 := free_of_block e0 5
      have p6 := (cell_of_block e0 6).trans (show _ = some (.bool L : Value) from rfl)
      have y6 := free_of_block e0 6
      have q0 := (cell_of_block e1 0).trans (show _ = some (.string ⟨#[]⟩ : Value) from rfl)
      have z0 := free_of_block e1 0
      have q1 := (cell_of_block e1 1).trans (show _ = some (.int .i64 0 : Value) from rfl)
      have z1 := free_of_block e1 1
      have q2 := (cell_of_block e1 2).trans (show _ = some (.string ⟨#[]⟩ : Value) from rfl)
      have z2 := free_of_block e1 2
      have q3 := (cell_of_block e1 3).trans (show _ = some (.int .i64 0 : Value) from rfl)
      have z3 := free_of_block e1 3
      have q4 := (cell_of_block e1 4).trans (show _ = some (.int .i64 0 : Value) from rfl)
      have z4 := free_of_block e1 4
      have q5 := (cell_of_block e1 5).trans (show _ = some (.bool false : Value) from rfl)
      have z5 := free_of_block e1 5
      have q6 := (cell_of_block e1 6).trans (show _ = some (.bool false : Value) from rfl)
      have z6 := free_of_block e1 6
      clear e0
      obtain ⟨F, FB⟩ := setP e1 (.string A) (.int .i64 M) (.string D) (.int .i64 N) (.int .i64 C) (.bool false) (.bool L) rfl
      have k0 := (cell_of_block F 0).trans (show _ = some (.string A : Value) from rfl)
      have k1 := (cell_of_block F 1).trans (show _ = some (.int .i64 M : Value) from rfl)
      have k2 := (cell_of_block F 2).trans (show _ = some (.string D : Value) from rfl)
      have k3 := (cell_of_block F 3).trans (show _ = some (.int .i64 N : Value) from rfl)
      have k4 := (cell_of_block F 4).trans (show _ = some (.int .i64 C : Value) from rfl)
      have k5 := (cell_of_block F 5).trans (show _ = some (.bool false : Value) from rfl)
      have k6 := (cell_of_block F 6).trans (show _ = some (.bool L : Value) from rfl)
      clear F e1
      go_wp2
      refine bodyPost_ret (v := .tuple #[.agg #[.string A, .int .i64 M, .string D, .int .i64 N, .int .i64 C, .bool false, .bool L], .int .i64 4]) (by simp [results, Tryd.results13, go_sem, k0, k1, k2, k3, k4, k5, k6]) rfl ⟨rfl, FB _ _ (by omega) hB.out⟩
    | true =>
      rw [if_pos rfl]
      go_enter Tryd.func13, Tryd.ntmps13
      go_wp2_with fail
      refine (J _).mono ?_
      rintro e w1 ⟨rfl, B1⟩
      have hs := B1.size
      simp at hs
      have hB : Hid (Below w.heap.size w w1) := by unfold Hid; ((repeat (first | refine bel_alloc ?_ _ | refine bel_dN ?_ _ | refine Below.drew ?_ | refine Below.setCell ?_ (by first | (simp; done) | (simp; omega)) _)); refine bel_step ?_ B1; (repeat (first | refine bel_alloc ?_ _ | refine bel_dN ?_ _ | refine Below.drew ?_ | refine Below.setCell ?_ (by first | (simp; done) | (simp; omega)) _)); exact Below.refl _ _)
      have e0 : w1.heap[g]? = some (.cells #[.string A, .int .i64 M, .string D, .int .i64 N, .int .i64 C, .bool true, .bool L] 34 (0, 0)) := by
        rw [← hgs]
        exact (B1.block _ (by simp <;> omega)).trans (heap_old (heap_blk rfl))
      have e1 : w1.heap[g + 1]? = some (.cells #[.string ⟨#[]⟩, .int .i64 0, .string ⟨#[]⟩, .int .i64 0, .int .i64 0, .bool false, .bool false] 34 (0, 0)) := by
        rw [← hgs]
        exact (B1.block _ (by simp)).trans (heap_blk (by simp))
      have hl : g + 1 < w1.heap.size := by omega
      clear B1 J hs
      have p0 := (cell_of_block e0 0).trans (show _ = some (.string A : Value) from rfl)
      have y0 := free_of_block e0 0
      have p1 := (cell_of_block e0 1).trans (show _ = some (.int .i64 M : Value) from rfl)
      have y1 := free_of_block e0 1
      have p2 := (cell_of_block e0 2).trans (show _ = some (.string D : Value) from rfl)
      have y2 := free_of_block e0 2
      have p3 := (cell_of_block e0 3).trans (show _ = some (.int .i64 N : Value) from rfl)
      have y3 := free_of_block e0 3
      have p4 := (cell_of_block e0 4).trans (show _ = some (.int .i64 C : Value) from rfl)
      have y4 := free_of_block e0 4
      have p5 := (cell_of_block e0 5).trans (show _ = some (.bool true : Value) from rfl)
      have y5 := free_of_block e0 5
      have p6 := (cell_of_block e0 6).trans (show _ = some (.bool L : Value) from rfl)
      have y6 := free_of_block e0 6
      have q0 := (cell_of_block e1 0).trans (show _ = some (.string ⟨#[]⟩ : Value) from rfl)
      have z0 := free_of_block e1 0
      have q1 := (cell_of_block e1 1).trans (show _ = some (.int .i64 0 : Value) from rfl)
      have z1 := free_of_block e1 1
      have q2 := (cell_of_block e1 2).trans (show _ = some (.string ⟨#[]⟩ : Value) from rfl)
      have z2 := free_of_block e1 2
      have q3 := (cell_of_block e1 3).trans (show _ = some (.int .i64 0 : Value) from rfl)
      have z3 := free_of_block e1 3
      have q4 := (cell_of_block e1 4).trans (show _ = some (.int .i64 0 : Value) from rfl)
      have z4 := free_of_block e1 4
      have q5 := (cell_of_block e1 5).trans (show _ = some (.bool false : Value) from rfl)
      have z5 := free_of_block e1 5
      have q6 := (cell_of_block e1 6).trans (show _ = some (.bool false : Value) from rfl)
      have z6 := free_of_block e1 6
      obtain ⟨w2, hw2⟩ : ∃ W, (w1.setCell ⟨g, 5, none⟩ (.bool false)).setCell ⟨g, 6, none⟩ (.bool true) = W := ⟨_, rfl⟩
      have f1 : w2.heap[g + 1]? = some (.cells #[.string ⟨#[]⟩, .int .i64 0, .string ⟨#[]⟩, .int .i64 0, .int .i64 0, .bool false, .bool false] 34 (0, 0)) := by
        rw [← hw2]
        refine Eq.trans (heap_setCell_other _ _ _ _ ?_) ?_
        · simp
        refine Eq.trans (heap_setCell_other _ _ _ _ ?_) e1
        simp
      have hB2 : Hid (Below w.heap.size w w2) := by
        unfold Hid; rw [← hw2]
        refine Below.setCell (Below.setCell hB.out ?_ _) ?_ _ <;> simp <;> omega
      subst hw2
      clear e0 e1
      obtain ⟨F, FB⟩ := setP f1 (.string A) (.int .i64 M) (.string D) (.int .i64 N) (.int .i64 C) (.bool false) (.bool true) rfl
      have k0 := (cell_of_block F 0).trans (show _ = some (.string A : Value) from rfl)
      have k1 := (cell_of_block F 1).trans (show _ = some (.int .i64 M : Value) from rfl)
      have k2 := (cell_of_block F 2).trans (show _ = some (.string D : Value) from rfl)
      have k3 := (cell_of_block F 3).trans (show _ = some (.int .i64 N : Value) from rfl)
      have k4 := (cell_of_block F 4).trans (show _ = some (.int .i64 C : Value) from rfl)
      have k5 := (cell_of_block F 5).trans (show _ = some (.bool false : Value) from rfl)
      have k6 := (cell_of_block F 6).trans (show _ = some (.bool true : Value) from rfl)
      clear F f1
      go_wp2
      refine bodyPost_ret (v := .tuple #[.agg #[.string A, .int .i64 M, .string D, .int .i64 N, .int .i64 C, .bool false, .bool true], .int .i64 0]) (by simp [results, Tryd.results13, go_sem, k0, k1, k2, k3, k4, k5, k6]) rfl ⟨rfl, FB _ _ (by omega) hB2.out⟩

set_option maxRecDepth 2000000 in
set_option maxHeartbeats 1600000 in
theorem exitPart_walk (A : ByteArray) (M : Int) (D : ByteArray) (N C : Int) (I L : Bool) (wa : A.size ≤ maxLen) (wd : D.size ≤ maxLen) (w : World) :
    Calls Tryd.prog 5 #[ptV A M D N C I L] w fun e w' => e = .returned (.bool true) ∧ Below w.heap.size w w' := by
  unfold maxLen at *
  have ZZ := szPart A M D N C I L wa wd
  obtain ⟨g, hgs⟩ : ∃ g, w.heap.size = g := ⟨_, rfl⟩
  rcases ptL_or A D with h | ⟨h, ha, hd⟩
  · rw [h] at ZZ
    clear h wa wd
    go_enter Tryd.func5, Tryd.ntmps5
    go_wp2_with fail
    refine (ZZ _).mono ?_
    rintro e w1 ⟨rfl, B1⟩
    have hB : Hid (Below w.heap.size w w1) := by unfold Hid; ((repeat (first | refine bel_alloc ?_ _ | refine bel_dN ?_ _ | refine Below.drew ?_ | refine Below.setCell ?_ (by first | (simp; done) | (simp; omega)) _)); refine bel_step ?_ B1; (repeat (first | refine bel_alloc ?_ _ | refine bel_dN ?_ _ | refine Below.drew ?_ | refine Below.setCell ?_ (by first | (simp; done) | (simp; omega)) _)); exact Below.refl _ _)
    clear B1 ZZ
    go_wp2
    go_ret
    exact ⟨rfl, hB.out⟩
  · have T := toPart A M D N C I L
    have S := specExit A M D N C I L ha hd
    have J := implExit A M D N C I L ha hd
    obtain ⟨A1, M1, D1, N1, C1, I1, L1, c, hV⟩ := grV_form A M D N C I L true
    rw [hV] at S J
    have E := eqPart A1 M1 D1 N1 C1 I1 L1
    obtain ⟨left, hleft⟩ : ∃ left, ptL A D = left := ⟨_, rfl⟩
    rw [hleft] at ZZ h
    clear hV hleft wa wd ha hd
    go_enter Tryd.func5, Tryd.ntmps5
    go_wp2_with fail
    refine (ZZ _).mono ?_
    rintro e w1 ⟨rfl, B1⟩
    have hs := B1.size
    simp at hs
    have hB : Hid (Below w.heap.size w w1) := by unfold Hid; ((repeat (first | refine bel_alloc ?_ _ | refine bel_dN ?_ _ | refine Below.drew ?_ | refine Below.setCell ?_ (by first | (simp; done) | (simp; omega)) _)); refine bel_step ?_ B1; (repeat (first | refine bel_alloc ?_ _ | refine bel_dN ?_ _ | refine Below.drew ?_ | refine Below.setCell ?_ (by first | (simp; done) | (simp; omega)) _)); exact Below.refl _ _)
    have e0 : w1.heap[g]? = some (.cells #[.string A, .int .i64 M, .string D, .int .i64 N, .int .i64 C, .bool I, .bool L] 27 (0, 0)) := by
      rw [← hgs]
      exact (B1.block _ (by simp)).trans (heap_blk rfl)
    have hl : g < w1.heap.size := by omega
    clear B1 ZZ hs
    have p0 := (cell_of_block e0 0).trans (show _ = some (.string A : Value) from rfl)
    have p1 := (cell_of_block e0 1).trans (show _ = some (.int .i64 M : Value) from rfl)
    have p2 := (cell_of_block e0 2).trans (show _ = some (.string D : Value) from rfl)
    have p3 := (cell_of_block e0 3).trans (show _ = some (.int .i64 N : Value) from rfl)
    have p4 := (cell_of_block e0 4).trans (show _ = some (.int .i64 C : Value) from rfl)
    have p5 := (cell_of_block e0 5).trans (show _ = some (.bool I : Value) from rfl)
    have p6 := (cell_of_block e0 6).trans (show _ = some (.bool L : Value) from rfl)
    go_wp2_with fail
    refine (T _).mono ?_
    rintro e w2 ⟨rfl, B2⟩
    replace e0 := (B2.block g hl).trans e0
    replace hl := Nat.lt_of_lt_of_le hl B2.size
    replace hB : Hid (Below w.heap.size w w2) := bel_step hB.out B2
    clear B2 p0 p1 p2 p3 p4 p5 p6
    go_wp2_with fail
    refine (S _).mono ?_
    rintro e w3 ⟨rfl, B2⟩
    replace e0 := (B2.block g hl).trans e0
    replace hl := Nat.lt_of_lt_of_le hl B2.size
    replace hB : Hid (Below w.heap.size w w3) := bel_step hB.out B2
    clear B2
    obtain ⟨y, hy⟩ : ∃ y, w3.heap.size = y := ⟨_, rfl⟩
    obtain ⟨X, hX⟩ : ∃ W, w3.alloc (.cells #[.string A1, .int .i64 M1, .string D1, .int .i64 N1, .int .i64 C1, .bool I1, .bool L1] 34) = W := ⟨_, rfl⟩
    have bY : X.heap[y]? = some (.cells #[.string A1, .int .i64 M1, .string D1, .int .i64 N1, .int .i64 C1, .bool I1, .bool L1] 34 (0, 0)) := by rw [← hX]; exact heap_blk hy
    replace e0 : X.heap[g]? = some (.cells #[.string A, .int .i64 M, .string D, .int .i64 N, .int .i64 C, .bool I, .bool L] 27 (0, 0)) := by rw [← hX]; exact heap_old e0
    replace hl : g < X.heap.size := lt_of_block e0
    replace hB : Hid (Below w.heap.size w X) := by unfold Hid; rw [← hX]; exact hB.out.alloc hB.out.size _
    have p0 := (cell_of_block e0 0).trans (show _ = some (.string A : Value) from rfl)
    have p1 := (cell_of_block e0 1).trans (show _ = some (.int .i64 M : Value) from rfl)
    have p2 := (cell_of_block e0 2).trans (show _ = some (.string D : Value) from rfl)
    have p3 := (cell_of_block e0 3).trans (show _ = some (.int .i64 N : Value) from rfl)
    have p4 := (cell_of_block e0 4).trans (show _ = some (.int .i64 C : Value) from rfl)
    have p5 := (cell_of_block e0 5).trans (show _ = some (.bool I : Value) from rfl)
    have p6 := (cell_of_block e0 6).trans (show _ = some (.bool L : Value) from rfl)
    go_wp2_with fail
    clear hy hX p0 p1 p2 p3 p4 p5 p6
    refine (T _).mono ?_
    rintro e w4 ⟨rfl, B2⟩
    replace bY := (B2.block y (lt_of_block bY)).trans bY
    replace e0 := (B2.block g hl).trans e0
    replace hl := Nat.lt_of_lt_of_le hl B2.size
    replace hB : Hid (Below w.heap.size w w4) := bel_step hB.out B2
    clear B2
    go_wp2_with fail
    refine (J _).mono ?_
    rintro e w5 ⟨rfl, B2⟩
    replace bY := (B2.block y (lt_of_block bY)).trans bY
    replace e0 := (B2.block g hl).trans e0
    replace hl := Nat.lt_of_lt_of_le hl B2.size
    replace hB : Hid (Below w.heap.size w w5) := bel_step hB.out B2
    clear B2
    obtain ⟨u, hu⟩ : ∃ y, w5.heap.size = y := ⟨_, rfl⟩
    obtain ⟨X2, hX2⟩ : ∃ W, w5.alloc (.cells #[.string A1, .int .i64 M1, .string D1, .int .i64 N1, .int .i64 C1, .bool I1, .bool L1] 34) = W := ⟨_, rfl⟩
    have bu : X2.heap[u]? = some (.cells #[.string A1, .int .i64 M1, .string D1, .int .i64 N1, .int .i64 C1, .bool I1, .bool L1] 34 (0, 0)) := by rw [← hX2]; exact heap_blk hu
    replace e0 : X2.heap[g]? = some (.cells #[.string A, .int .i64 M, .string D, .int .i64 N, .int .i64 C, .bool I, .bool L] 27 (0, 0)) := by rw [← hX2]; exact heap_old e0
    replace hl : g < X2.heap.size := lt_of_block e0
    replace hB : Hid (Below w.heap.size w X2) := by unfold Hid; rw [← hX2]; exact hB.out.alloc hB.out.size _
    replace bY : X2.heap[y]? = some (.cells #[.string A1, .int .i64 M1, .string D1, .int .i64 N1, .int .i64 C1, .bool I1, .bool L1] 34 (0, 0)) := by rw [← hX2]; exact heap_old bY
    have p0 := (cell_of_block bY 0).trans (show _ = some (.string A1 : Value) from rfl)
    have p1 := (cell_of_block bY 1).trans (show _ = some (.int .i64 M1 : Value) from rfl)
    have p2 := (cell_of_block bY 2).trans (show _ = some (.string D1 : Value) from rfl)
    have p3 := (cell_of_block bY 3).trans (show _ = some (.int .i64 N1 : Value) from rfl)
    have p4 := (cell_of_block bY 4).trans (show _ = some (.int .i64 C1 : Value) from rfl)
    have p5 := (cell_of_block bY 5).trans (show _ = some (.bool I1 : Value) from rfl)
    have p6 := (cell_of_block bY 6).trans (show _ = some (.bool L1 : Value) from rfl)
    have q0 := (cell_of_block bu 0).trans (show _ = some (.string A1 : Value) from rfl)
    have q1 := (cell_of_block bu 1).trans (show _ = some (.int .i64 M1 : Value) from rfl)
    have q2 := (cell_of_block bu 2).trans (show _ = some (.string D1 : Value) from rfl)
    have q3 := (cell_of_block bu 3).trans (show _ = some (.int .i64 N1 : Value) from rfl)
    have q4 := (cell_of_block bu 4).trans (show _ = some (.int .i64 C1 : Value) from rfl)
    have q5 := (cell_of_block bu 5).trans (show _ = some (.bool I1 : Value) from rfl)
    have q6 := (cell_of_block bu 6).trans (show _ = some (.bool L1 : Value) from rfl)
    go_wp2_with fail
    clear hu hX2 p0 p1 p2 p3 p4 p5 p6 q0 q1 q2 q3 q4 q5 q6
    refine (E _).mono ?_
    rintro e w6 ⟨rfl, B2⟩
    replace hB : Hid (Below w.heap.size w w6) := bel_step hB.out B2
    clear B2 E J S T e0 hl bY bu
    have hcc : (c != c) = false := by simp
    go_wp2
    go_ret
    exact ⟨rfl, hB.out⟩

end Go.Proofs.YthboenlfcolinaaDoor
