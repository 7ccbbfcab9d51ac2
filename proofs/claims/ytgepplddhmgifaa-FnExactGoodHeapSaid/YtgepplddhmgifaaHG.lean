/-
  Good heaps: both sides, and the law.
-/
import Derived.Test.YtgepplddhmgifaaHB1
namespace Go.Proofs.Ytgepplddhmgifaa
open Go.ChangeShapes Go.WideShapes Go.ChangeAt Go.RowKit Go.Deep

theorem goodH_no {M N : Int} {D : ByteArray} (h : good M D = false) : goodH M D N = false := by unfold goodH; rw [h]; rfl
theorem goodH_in {M N : Int} {D : ByteArray} (h : good M D = true) : goodH M D N = (decide (0 ≤ N) && decide (N ≤ (D.size : Int))) := by unfold goodH; rw [h]; rfl

theorem implGoodHeap (M : Int) (D : ByteArray) (N : Int) (h : D.size ≤ 1048576) (w : World) :
    Calls Try.prog 7 #[hpV M D N] w fun e w' => e = .returned (.bool (goodH M D N)) ∧ Below w.heap.size w w' := by
  have I := mGoodI M D h
  obtain ⟨g, hgs⟩ : ∃ g, w.heap.size = g := ⟨_, rfl⟩
  obtain ⟨n, hn⟩ : ∃ n : Int, (D.size : Int) = n := ⟨_, rfl⟩
  clear h
  cases hg : good M D with
  | false =>
    rw [hg] at I
    rw [goodH_no hg]
    clear hg
    go_enter Try.func7, Try.ntmps7
    go_wp2_with fail
    refine (I _).mono ?_
    rintro e w1 ⟨rfl, B1⟩
    have hB : Hid (Below w.heap.size w w1) := by unfold Hid; ((repeat (first | refine bel_alloc ?_ _ | refine bel_dN ?_ _ | refine Below.drew ?_ | refine Below.setCell ?_ (by first | (simp; done) | (simp; omega)) _)); refine bel_step ?_ B1; (repeat (first | refine bel_alloc ?_ _ | refine bel_dN ?_ _ | refine Below.drew ?_ | refine Below.setCell ?_ (by first | (simp; done) | (simp; omega)) _)); exact Below.refl _ _)
    clear B1 I
    go_wp2
    go_ret
    exact ⟨rfl, hB.out⟩
  | true =>
    rw [hg] at I
    rw [goodH_in hg, hn]
    clear hg
    go_enter Try.func7, Try.ntmps7
    go_wp2_with fail
    refine (I _).mono ?_
    rintro e w1 ⟨rfl, B1⟩
    have hB : Hid (Below w.heap.size w w1) := by unfold Hid; ((repeat (first | refine bel_alloc ?_ _ | refine bel_dN ?_ _ | refine Below.drew ?_ | refine Below.setCell ?_ (by first | (simp; done) | (simp; omega)) _)); refine bel_step ?_ B1; (repeat (first | refine bel_alloc ?_ _ | refine bel_dN ?_ _ | refine Below.drew ?_ | refine Below.setCell ?_ (by first | (simp; done) | (simp; omega)) _)); exact Below.refl _ _)
    have hs := B1.size
    simp at hs
    have e0 : w1.heap[g]? = some (.cells #[.int .i64 M, .string D, .int .i64 N] 30 (0, 0)) := (B1.block _ (by simp; omega)).trans (by rw [← hgs]; exact heap_alloc_new _ _)
    have p1 : w1.cell? ⟨g, 1, none⟩ = some (.string D) := (cell_of_block e0 1).trans rfl
    have p2 : w1.cell? ⟨g, 2, none⟩ = some (.int .i64 N) := (cell_of_block e0 2).trans rfl
    clear B1 I e0
    by_cases h0 : 0 ≤ N
    · have k0 : decide (0 ≤ N) = true := by simpa using h0
      go_wp2
      go_ret
      exact ⟨by rw [k0]; rfl, hB.out⟩
    · have k0 : decide (0 ≤ N) = false := by simpa using h0
      go_wp2
      go_ret
      exact ⟨by rw [k0]; rfl, hB.out⟩

theorem specGoodHeap (M : Int) (D : ByteArray) (N : Int) (h : D.size ≤ 1048576) (w : World) :
    Calls Try.prog 5 #[hpV M D N] w fun e w' => e = .returned (.bool (goodH M D N)) ∧ Below w.heap.size w w' := by
  have I := mGoodS M D h
  obtain ⟨g, hgs⟩ : ∃ g, w.heap.size = g := ⟨_, rfl⟩
  obtain ⟨n, hn⟩ : ∃ n : Int, (D.size : Int) = n := ⟨_, rfl⟩
  clear h
  cases hg : good M D with
  | false =>
    rw [hg] at I
    rw [goodH_no hg]
    clear hg
    go_enter Try.func5, Try.ntmps5
    go_wp2_with fail
    refine (I _).mono ?_
    rintro e w1 ⟨rfl, B1⟩
    have hB : Hid (Below w.heap.size w w1) := by unfold Hid; ((repeat (first | refine bel_alloc ?_ _ | refine bel_dN ?_ _ | refine Below.drew ?_ | refine Below.setCell ?_ (by first | (simp; done) | (simp; omega)) _)); refine bel_step ?_ B1; (repeat (first | refine bel_alloc ?_ _ | refine bel_dN ?_ _ | refine Below.drew ?_ | refine Below.setCell ?_ (by first | (simp; done) | (simp; omega)) _)); exact Below.refl _ _)
    clear B1 I
    go_wp2
    go_ret
    exact ⟨rfl, hB.out⟩
  | true =>
    rw [hg] at I
    rw [goodH_in hg, hn]
    obtain ⟨r, hr⟩ : ∃ r, Hid ((decide (0 ≤ N) && decide (N ≤ n)) = r) := ⟨_, rfl⟩
    rw [hr.out]
    have IN := in_eq N 0 n r hr
    clear hg
    go_enter Try.func5, Try.ntmps5
    go_wp2_with fail
    refine (I _).mono ?_
    rintro e w1 ⟨rfl, B1⟩
    have hB : Hid (Below w.heap.size w w1) := by unfold Hid; ((repeat (first | refine bel_alloc ?_ _ | refine bel_dN ?_ _ | refine Below.drew ?_ | refine Below.setCell ?_ (by first | (simp; done) | (simp; omega)) _)); refine bel_step ?_ B1; (repeat (first | refine bel_alloc ?_ _ | refine bel_dN ?_ _ | refine Below.drew ?_ | refine Below.setCell ?_ (by first | (simp; done) | (simp; omega)) _)); exact Below.refl _ _)
    have hs := B1.size
    simp at hs
    have e0 : w1.heap[g]? = some (.cells #[.int .i64 M, .string D, .int .i64 N] 30 (0, 0)) := (B1.block _ (by simp; omega)).trans (by rw [← hgs]; exact heap_alloc_new _ _)
    have p1 : w1.cell? ⟨g, 1, none⟩ = some (.string D) := (cell_of_block e0 1).trans rfl
    have p2 : w1.cell? ⟨g, 2, none⟩ = some (.int .i64 N) := (cell_of_block e0 2).trans rfl
    clear B1 I e0 hr
    go_wp2_with (go_at_call 10; refine (IN _).mono ?_; rintro e w' ⟨rfl, hw⟩; obtain rfl := hw.symm)
    go_ret
    exact ⟨rfl, hB.out⟩

theorem goodHeap_walk (M : Int) (D : ByteArray) (N : Int) (wb : D.size ≤ maxLen) (_wn : (Lit.int .i64 N).wf = true) (w : World) :
    Calls Try.prog 3 #[hpV M D N] w fun e w' => e = .returned (.bool true) ∧ Below w.heap.size w w' := by
  unfold maxLen at wb
  clear _wn
  obtain ⟨g, hgs⟩ : ∃ g, w.heap.size = g := ⟨_, rfl⟩
  by_cases h : D.size ≤ 1048576
  · have Z := szHeap_yes M D N h
    have S := specGoodHeap M D N h
    have I := implGoodHeap M D N h
    have T := toHeap M D N
    have k : ¬ 1048576 - (D.size : Int) < 0 := by omega
    generalize (1048576 - (D.size : Int)) = n at *
    generalize goodH M D N = G at *
    clear h wb
    go_enter Try.func3, Try.ntmps3
    go_wp2_with fail
    refine (Z _).mono ?_
    rintro e w1 ⟨rfl, B1⟩
    have h1 := B1.size
    simp at h1
    have e0 : w1.heap[g]? = some (.cells #[.int .i64 M, .string D, .int .i64 N] 25 (0, 0)) := (B1.block _ (by simp; omega)).trans (by rw [← hgs]; exact heap_alloc_new _ _)
    have q0 : w1.cell? ⟨g, 0, none⟩ = some (.int .i64 M) := (cell_of_block e0 0).trans rfl
    have q1 : w1.cell? ⟨g, 1, none⟩ = some (.string D) := (cell_of_block e0 1).trans rfl
    have q2 : w1.cell? ⟨g, 2, none⟩ = some (.int .i64 N) := (cell_of_block e0 2).trans rfl
    have hB : Hid (Below w.heap.size w w1) := by unfold Hid; ((repeat (first | refine bel_alloc ?_ _ | refine bel_dN ?_ _ | refine Below.drew ?_ | refine Below.setCell ?_ (by first | (simp; done) | (simp; omega)) _)); refine bel_step ?_ B1; (repeat (first | refine bel_alloc ?_ _ | refine bel_dN ?_ _ | refine Below.drew ?_ | refine Below.setCell ?_ (by first | (simp; done) | (simp; omega)) _)); exact Below.refl _ _)
    clear Z B1 e0
    go_wp2_with fail
    refine (T _).mono ?_
    rintro e w2 ⟨rfl, B2⟩
    have h2 := B2.size
    replace q0 := keepCell B2 (by omega) q0
    replace q1 := keepCell B2 (by omega) q1
    replace q2 := keepCell B2 (by omega) q2
    replace hB : Hid (Below w.heap.size w w2) := bel_step hB.out B2
    clear B2
    go_wp2_with fail
    refine (S _).mono ?_
    rintro e w3 ⟨rfl, B3⟩
    have h3 := B3.size
    replace q0 := keepCell B3 (by omega) q0
    replace q1 := keepCell B3 (by omega) q1
    replace q2 := keepCell B3 (by omega) q2
    replace hB : Hid (Below w.heap.size w w3) := bel_step hB.out B3
    clear B3 S
    go_wp2_with fail
    refine (T _).mono ?_
    rintro e w4 ⟨rfl, B4⟩
    replace hB : Hid (Below w.heap.size w w4) := bel_step hB.out B4
    clear B4 T q0 q1 q2
    go_wp2_with fail
    refine (I _).mono ?_
    rintro e w5 ⟨rfl, B5⟩
    replace hB : Hid (Below w.heap.size w w5) := bel_step hB.out B5
    clear B5 I
    go_wp2
    go_ret
    exact ⟨rfl, hB.out⟩
  · have Z := szHeap_no M D N (by omega) wb
    clear h wb
    go_enter Try.func3, Try.ntmps3
    go_wp2_with fail
    refine (Z _).mono ?_
    rintro e w1 ⟨rfl, B1⟩
    go_wp2
    go_ret
    refine ⟨rfl, ?_⟩
    ((repeat (first | refine bel_alloc ?_ _ | refine bel_dN ?_ _ | refine Below.drew ?_ | refine Below.setCell ?_ (by first | (simp; done) | (simp; omega)) _)); refine bel_step ?_ B1; (repeat (first | refine bel_alloc ?_ _ | refine bel_dN ?_ _ | refine Below.drew ?_ | refine Below.setCell ?_ (by first | (simp; done) | (simp; omega)) _)); exact Below.refl _ _)

end Go.Proofs.Ytgepplddhmgifaa
