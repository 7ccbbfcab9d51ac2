/-
  A good part: both sides, and the law. (Made by a generator.)
-/
import Derived.Test.YthboenlfcolinaaDoorPT3
namespace Go.Proofs.YthboenlfcolinaaDoor
open Go.ChangeShapes Go.WideShapes Go.ChangeAt Go.RowKit Go.Deep

def gP (A : ByteArray) (M : Int) (D : ByteArray) (N C : Int) : Bool := nmOk A && (goodH M D N && decide (1 ≤ C ∧ C ≤ 3))
theorem gP_yes {A : ByteArray} {M : Int} {D : ByteArray} {N C : Int} (h : gP A M D N C = true) : nmOk A = true ∧ goodH M D N = true ∧ 1 ≤ C ∧ C ≤ 3 := by
  unfold gP at h
  simp only [Bool.and_eq_true, decide_eq_true_eq] at h
  exact ⟨h.1, h.2.1, h.2.2⟩

set_option maxRecDepth 100000 in
set_option maxHeartbeats 1600000 in
theorem specGoodPart (A : ByteArray) (M : Int) (D : ByteArray) (N C : Int) (I L : Bool) (ha : A.size ≤ 1048576) (hd : D.size ≤ 1048576) (w : World) :
    Calls Tryd.prog 7 #[ptV A M D N C I L] w fun e w' => e = .returned (.bool (gP A M D N C)) ∧ Below w.heap.size w w' := by
  have T := specName A ha
  have H := specGoodHeap M D N hd
  have K := specCode C
  obtain ⟨g, hgs⟩ : ∃ g, w.heap.size = g := ⟨_, rfl⟩
  unfold gP
  obtain ⟨k, hk⟩ : ∃ k, decide (1 ≤ C ∧ C ≤ 3) = k := ⟨_, rfl⟩
  rw [hk] at K ⊢
  cases hn : nmOk A with
  | false =>
    rw [hn] at T
    rw [Bool.false_and]
    clear H K hk hn ha hd
    go_enter Tryd.func7, Tryd.ntmps7
    go_wp2_with fail
    refine (T _).mono ?_
    rintro e w1 ⟨rfl, B1⟩
    have hB : Hid (Below w.heap.size w w1) := by unfold Hid; ((repeat (first | refine bel_alloc ?_ _ | refine bel_dN ?_ _ | refine Below.drew ?_ | refine Below.setCell ?_ (by first | (simp; done) | (simp; omega)) _)); refine bel_step ?_ B1; (repeat (first | refine bel_alloc ?_ _ | refine bel_dN ?_ _ | refine Below.drew ?_ | refine Below.setCell ?_ (by first | (simp; done) | (simp; omega)) _)); exact Below.refl _ _)
    clear B1 T
    go_wp2
    go_ret
    exact ⟨rfl, hB.out⟩
  | true =>
    rw [hn] at T
    rw [Bool.true_and]
    cases hh : goodH M D N with
    | false =>
      rw [hh] at H
      rw [Bool.false_and]
      clear K hk hn hh ha hd
      go_enter Tryd.func7, Tryd.ntmps7
      go_wp2_with fail
      refine (T _).mono ?_
      rintro e w1 ⟨rfl, B1⟩
      have hs := B1.size
      simp at hs
      have hB : Hid (Below w.heap.size w w1) := by unfold Hid; ((repeat (first | refine bel_alloc ?_ _ | refine bel_dN ?_ _ | refine Below.drew ?_ | refine Below.setCell ?_ (by first | (simp; done) | (simp; omega)) _)); refine bel_step ?_ B1; (repeat (first | refine bel_alloc ?_ _ | refine bel_dN ?_ _ | refine Below.drew ?_ | refine Below.setCell ?_ (by first | (simp; done) | (simp; omega)) _)); exact Below.refl _ _)
      have e0 : w1.heap[g]? = some (.cells #[.string A, .int .i64 M, .string D, .int .i64 N, .int .i64 C, .bool I, .bool L] 34 (0, 0)) := by
        rw [← hgs]
        exact (B1.block _ (by simp)).trans (heap_blk rfl)
      have p1 := (cell_of_block e0 1).trans (show _ = some (Value.int .i64 M) from rfl)
      have p2 := (cell_of_block e0 2).trans (show _ = some (Value.string D) from rfl)
      have p3 := (cell_of_block e0 3).trans (show _ = some (Value.int .i64 N) from rfl)
      clear B1 T hs e0
      go_wp2_with fail
      refine (H _).mono ?_
      rintro e w2 ⟨rfl, B2⟩
      have hC : Hid (Below w.heap.size w w2) := bel_step hB.out B2
      clear B2 H p1 p2 p3 hB
      go_wp2
      go_ret
      exact ⟨rfl, hC.out⟩
    | true =>
      rw [hh] at H
      rw [Bool.true_and]
      clear hk hn hh ha hd
      go_enter Tryd.func7, Tryd.ntmps7
      go_wp2_with fail
      refine (T _).mono ?_
      rintro e w1 ⟨rfl, B1⟩
      have hs := B1.size
      simp at hs
      have hB : Hid (Below w.heap.size w w1) := by unfold Hid; ((repeat (first | refine bel_alloc ?_ _ | refine bel_dN ?_ _ | refine Below.drew ?_ | refine Below.setCell ?_ (by first | (simp; done) | (simp; omega)) _)); refine bel_step ?_ B1; (repeat (first | refine bel_alloc ?_ _ | refine bel_dN ?_ _ | refine Below.drew ?_ | refine Below.setCell ?_ (by first | (simp; done) | (simp; omega)) _)); exact Below.refl _ _)
      have hl : g < w1.heap.size := by omega
      have e0 : w1.heap[g]? = some (.cells #[.string A, .int .i64 M, .string D, .int .i64 N, .int .i64 C, .bool I, .bool L] 34 (0, 0)) := by
        rw [← hgs]
        exact (B1.block _ (by simp)).trans (heap_blk rfl)
      have p1 := (cell_of_block e0 1).trans (show _ = some (Value.int .i64 M) from rfl)
      have p2 := (cell_of_block e0 2).trans (show _ = some (Value.string D) from rfl)
      have p3 := (cell_of_block e0 3).trans (show _ = some (Value.int .i64 N) from rfl)
      have E0 : Hid (w1.heap[g]? = some (.cells #[.string A, .int .i64 M, .string D, .int .i64 N, .int .i64 C, .bool I, .bool L] 34 (0, 0)) ∧ g < w1.heap.size) := ⟨e0, hl⟩
      clear B1 T hs e0 hl
      go_wp2_with fail
      refine (H _).mono ?_
      rintro e w2 ⟨rfl, B2⟩
      have e0 := (B2.block g E0.out.2).trans E0.out.1
      have hC : Hid (Below w.heap.size w w2) := bel_step hB.out B2
      have p4 := (cell_of_block e0 4).trans (show _ = some (Value.int .i64 C) from rfl)
      clear B2 H p1 p2 p3 hB e0 E0
      go_wp2_with fail
      refine (K _).mono ?_
      rintro e w3 ⟨rfl, rfl⟩
      clear K p4
      go_wp2
      go_ret
      exact ⟨rfl, hC.out⟩

set_option maxRecDepth 100000 in
set_option maxHeartbeats 1600000 in
theorem implGoodPart (A : ByteArray) (M : Int) (D : ByteArray) (N C : Int) (I L : Bool) (ha : A.size ≤ 1048576) (hd : D.size ≤ 1048576) (w : World) :
    Calls Tryd.prog 9 #[ptV A M D N C I L] w fun e w' => e = .returned (.bool (gP A M D N C)) ∧ Below w.heap.size w w' := by
  have T := implName A ha
  have H := implGoodHeap M D N hd
  have K := implCode C
  obtain ⟨g, hgs⟩ : ∃ g, w.heap.size = g := ⟨_, rfl⟩
  unfold gP
  obtain ⟨k, hk⟩ : ∃ k, decide (1 ≤ C ∧ C ≤ 3) = k := ⟨_, rfl⟩
  rw [hk] at K ⊢
  cases hn : nmOk A with
  | false =>
    rw [hn] at T
    rw [Bool.false_and]
    clear H K hk hn ha hd
    go_enter Tryd.func9, Tryd.ntmps9
    go_wp2_with fail
    refine (T _).mono ?_
    rintro e w1 ⟨rfl, B1⟩
    have hB : Hid (Below w.heap.size w w1) := by unfold Hid; ((repeat (first | refine bel_alloc ?_ _ | refine bel_dN ?_ _ | refine Below.drew ?_ | refine Below.setCell ?_ (by first | (simp; done) | (simp; omega)) _)); refine bel_step ?_ B1; (repeat (first | refine bel_alloc ?_ _ | refine bel_dN ?_ _ | refine Below.drew ?_ | refine Below.setCell ?_ (by first | (simp; done) | (simp; omega)) _)); exact Below.refl _ _)
    clear B1 T
    go_wp2
    go_ret
    exact ⟨rfl, hB.out⟩
  | true =>
    rw [hn] at T
    rw [Bool.true_and]
    cases hh : goodH M D N with
    | false =>
      rw [hh] at H
      rw [Bool.false_and]
      clear K hk hn hh ha hd
      go_enter Tryd.func9, Tryd.ntmps9
      go_wp2_with fail
      refine (T _).mono ?_
      rintro e w1 ⟨rfl, B1⟩
      have hs := B1.size
      simp at hs
      have hB : Hid (Below w.heap.size w w1) := by unfold Hid; ((repeat (first | refine bel_alloc ?_ _ | refine bel_dN ?_ _ | refine Below.drew ?_ | refine Below.setCell ?_ (by first | (simp; done) | (simp; omega)) _)); refine bel_step ?_ B1; (repeat (first | refine bel_alloc ?_ _ | refine bel_dN ?_ _ | refine Below.drew ?_ | refine Below.setCell ?_ (by first | (simp; done) | (simp; omega)) _)); exact Below.refl _ _)
      have e0 : w1.heap[g]? = some (.cells #[.string A, .int .i64 M, .string D, .int .i64 N, .int .i64 C, .bool I, .bool L] 34 (0, 0)) := by
        rw [← hgs]
        exact (B1.block _ (by simp)).trans (heap_blk rfl)
      have p1 := (cell_of_block e0 1).trans (show _ = some (Value.int .i64 M) from rfl)
      have p2 := (cell_of_block e0 2).trans (show _ = some (Value.string D) from rfl)
      have p3 := (cell_of_block e0 3).trans (show _ = some (Value.int .i64 N) from rfl)
      clear B1 T hs e0
      go_wp2_with fail
      refine (H _).mono ?_
      rintro e w2 ⟨rfl, B2⟩
      have hC : Hid (Below w.heap.size w w2) := bel_step hB.out B2
      clear B2 H p1 p2 p3 hB
      go_wp2
      go_ret
      exact ⟨rfl, hC.out⟩
    | true =>
      rw [hh] at H
      rw [Bool.true_and]
      clear hk hn hh ha hd
      go_enter Tryd.func9, Tryd.ntmps9
      go_wp2_with fail
      refine (T _).mono ?_
      rintro e w1 ⟨rfl, B1⟩
      have hs := B1.size
      simp at hs
      have hB : Hid (Below w.heap.size w w1) := by unfold Hid; ((repeat (first | refine bel_alloc ?_ _ | refine bel_dN ?_ _ | refine Below.drew ?_ | refine Below.setCell ?_ (by first | (simp; done) | (simp; omega)) _)); refine bel_step ?_ B1; (repeat (first | refine bel_alloc ?_ _ | refine bel_dN ?_ _ | refine Below.drew ?_ | refine Below.setCell ?_ (by first | (simp; done) | (simp; omega)) _)); exact Below.refl _ _)
      have hl : g < w1.heap.size := by omega
      have e0 : w1.heap[g]? = some (.cells #[.string A, .int .i64 M, .string D, .int .i64 N, .int .i64 C, .bool I, .bool L] 34 (0, 0)) := by
        rw [← hgs]
        exact (B1.block _ (by simp)).trans (heap_blk rfl)
      have p1 := (cell_of_block e0 1).trans (show _ = some (Value.int .i64 M) from rfl)
      have p2 := (cell_of_block e0 2).trans (show _ = some (Value.string D) from rfl)
      have p3 := (cell_of_block e0 3).trans (show _ = some (Value.int .i64 N) from rfl)
      have E0 : Hid (w1.heap[g]? = some (.cells #[.string A, .int .i64 M, .string D, .int .i64 N, .int .i64 C, .bool I, .bool L] 34 (0, 0)) ∧ g < w1.heap.size) := ⟨e0, hl⟩
      clear B1 T hs e0 hl
      go_wp2_with fail
      refine (H _).mono ?_
      rintro e w2 ⟨rfl, B2⟩
      have e0 := (B2.block g E0.out.2).trans E0.out.1
      have hC : Hid (Below w.heap.size w w2) := bel_step hB.out B2
      have p4 := (cell_of_block e0 4).trans (show _ = some (Value.int .i64 C) from rfl)
      clear B2 H p1 p2 p3 hB e0 E0
      go_wp2_with fail
      refine (K _).mono ?_
      rintro e w3 ⟨rfl, rfl⟩
      clear K p4
      go_wp2
      go_ret
      exact ⟨rfl, hC.out⟩

set_option maxRecDepth 2000000 in
set_option maxHeartbeats 1600000 in
theorem goodPart_walk (A : ByteArray) (M : Int) (D : ByteArray) (N C : Int) (I L : Bool) (wa : A.size ≤ maxLen) (wd : D.size ≤ maxLen) (w : World) :
    Calls Tryd.prog 3 #[ptV A M D N C I L] w fun e w' => e = .returned (.bool true) ∧ Below w.heap.size w w' := by
  unfold maxLen at *
  have Z := szPart A M D N C I L wa wd
  obtain ⟨g, hgs⟩ : ∃ g, w.heap.size = g := ⟨_, rfl⟩
  rcases ptL_or A D with h | ⟨h, ha, hd⟩
  · rw [h] at Z
    clear h wa wd
    go_enter Tryd.func3, Tryd.ntmps3
    go_wp2_with fail
    refine (Z _).mono ?_
    rintro e w1 ⟨rfl, B1⟩
    have hB : Hid (Below w.heap.size w w1) := by unfold Hid; ((repeat (first | refine bel_alloc ?_ _ | refine bel_dN ?_ _ | refine Below.drew ?_ | refine Below.setCell ?_ (by first | (simp; done) | (simp; omega)) _)); refine bel_step ?_ B1; (repeat (first | refine bel_alloc ?_ _ | refine bel_dN ?_ _ | refine Below.drew ?_ | refine Below.setCell ?_ (by first | (simp; done) | (simp; omega)) _)); exact Below.refl _ _)
    clear B1 Z
    go_wp2
    go_ret
    exact ⟨rfl, hB.out⟩
  · have T := toPart A M D N C I L
    have S := specGoodPart A M D N C I L ha hd
    have J := implGoodPart A M D N C I L ha hd
    obtain ⟨r, hr⟩ : ∃ r, gP A M D N C = r := ⟨_, rfl⟩
    rw [hr] at S J
    obtain ⟨left, hleft⟩ : ∃ left, ptL A D = left := ⟨_, rfl⟩
    rw [hleft] at Z h
    clear hr hleft wa wd ha hd
    go_enter Tryd.func3, Tryd.ntmps3
    go_wp2_with fail
    refine (Z _).mono ?_
    rintro e w1 ⟨rfl, B1⟩
    have hs := B1.size
    simp at hs
    have hB : Hid (Below w.heap.size w w1) := by unfold Hid; ((repeat (first | refine bel_alloc ?_ _ | refine bel_dN ?_ _ | refine Below.drew ?_ | refine Below.setCell ?_ (by first | (simp; done) | (simp; omega)) _)); refine bel_step ?_ B1; (repeat (first | refine bel_alloc ?_ _ | refine bel_dN ?_ _ | refine Below.drew ?_ | refine Below.setCell ?_ (by first | (simp; done) | (simp; omega)) _)); exact Below.refl _ _)
    have e0 : w1.heap[g]? = some (.cells #[.string A, .int .i64 M, .string D, .int .i64 N, .int .i64 C, .bool I, .bool L] 27 (0, 0)) := by
      rw [← hgs]
      exact (B1.block _ (by simp)).trans (heap_blk rfl)
    have hl : g < w1.heap.size := by omega
    clear B1 Z hs
    have p0 := (cell_of_block e0 0).trans (show _ = some (.string A : Value) from rfl)
    have p1 := (cell_of_block e0 1).trans (show _ = some (.int .i64 M : Value) from rfl)
    have p2 := (cell_of_block e0 2).trans (show _ = some (.string D : Value) from rfl)
    have p3 := (cell_of_block e0 3).trans (show _ = some (.int .i64 N : Value) from rfl)
    have p4 := (cell_of_block e0 4).trans (show _ = some (.int .i64 C : Value) from rfl)
    have p5 := (cell_of_block e0 5).trans (show _ = some (.bool I : Value) from rfl)
    have p6 := (cell_of_block e0 6).trans (show _ = some (.bool L : Value) from rfl)
    go_wp2_with fail
    refine (T _).mono ?_
    rintro e w2 ⟨rfl, B2⟩
    replace e0 := (B2.block g hl).trans e0
    replace hl := Nat.lt_of_lt_of_le hl B2.size
    replace hB : Hid (Below w.heap.size w w2) := bel_step hB.out B2
    clear B2 p0 p1 p2 p3 p4 p5 p6
    go_wp2_with fail
    refine (S _).mono ?_
    rintro e w3 ⟨rfl, B2⟩
    replace e0 := (B2.block g hl).trans e0
    replace hl := Nat.lt_of_lt_of_le hl B2.size
    replace hB : Hid (Below w.heap.size w w3) := bel_step hB.out B2
    clear B2
    have p0 := (cell_of_block e0 0).trans (show _ = some (.string A : Value) from rfl)
    have p1 := (cell_of_block e0 1).trans (show _ = some (.int .i64 M : Value) from rfl)
    have p2 := (cell_of_block e0 2).trans (show _ = some (.string D : Value) from rfl)
    have p3 := (cell_of_block e0 3).trans (show _ = some (.int .i64 N : Value) from rfl)
    have p4 := (cell_of_block e0 4).trans (show _ = some (.int .i64 C : Value) from rfl)
    have p5 := (cell_of_block e0 5).trans (show _ = some (.bool I : Value) from rfl)
    have p6 := (cell_of_block e0 6).trans (show _ = some (.bool L : Value) from rfl)
    go_wp2_with fail
    refine (T _).mono ?_
    rintro e w4 ⟨rfl, B2⟩
    replace e0 := (B2.block g hl).trans e0
    replace hl := Nat.lt_of_lt_of_le hl B2.size
    replace hB : Hid (Below w.heap.size w w4) := bel_step hB.out B2
    clear B2 p0 p1 p2 p3 p4 p5 p6
    go_wp2_with fail
    refine (J _).mono ?_
    rintro e w5 ⟨rfl, B2⟩
    replace e0 := (B2.block g hl).trans e0
    replace hl := Nat.lt_of_lt_of_le hl B2.size
    replace hB : Hid (Below w.heap.size w w5) := bel_step hB.out B2
    clear B2
    have hr : (r != r) = false := by cases r <;> rfl
    have hr2 : (!(r == r)) = false := by cases r <;> rfl
    clear T S J e0 hl
    go_wp2
    go_ret
    exact ⟨rfl, hB.out⟩

end Go.Proofs.YthboenlfcolinaaDoor
