/-
  Good heaps: both sides, and the law.
-/
import Derived.Test.YthboenlfcolinaaDoorHB1
namespace Go.Proofs.YthboenlfcolinaaDoor
open Go.ChangeShapes Go.WideShapes Go.ChangeAt Go.RowKit Go.Deep

theorem goodH_no {M N : Int} {D : ByteArray} (h : good M D = false) : goodH M D N = false := by unfold goodH; rw [h]; rfl
theorem goodH_in {M N : Int} {D : ByteArray} (h : good M D = true) : goodH M D N = (decide (0 ≤ N) && decide (N ≤ (D.size : Int))) := by unfold goodH; rw [h]; rfl

theorem implGoodHeap (M : Int) (D : ByteArray) (N : Int) (h : D.size ≤ 1048576) (w : World) :
    Calls Tryd.prog 21 #[hpV M D N] w fun e w' => e = .returned (.bool (goodH M D N)) ∧ Below w.heap.size w w' := by
  have I := mGoodI M D h
  obtain ⟨g, hgs⟩ : ∃ g, w.heap.size = g := ⟨_, rfl⟩
  obtain ⟨n, hn⟩ : ∃ n : Int, (D.size : Int) = n := ⟨_, rfl⟩
  clear h
  cases hg : good M D with
  | false =>
    rw [hg] at I
    rw [goodH_no hg]
    clear hg
    go_enter Tryd.func21, Tryd.ntmps21
    go_wp2_with fail
    refine (I _).mono ?_
    rintro e w1 ⟨rfl, B1⟩
    have hB : Hid (Below w.heap.size w w1) := by unfold Hid; ((repeat (first | refine bel_alloc ?_ _ | refine bel_dN ?_ _ | refine Below.drew ?_ | refine Below.setCell ?_ (by first | (simp; done) | (simp; omega)) _)); refine bel_step ?_ B1; (repeat (first | refine bel_alloc ?_ _ | refine bel_dN ?_ _ | refine Below.drew ?_ | refine Below.setCell ?_ (by first | (simp; done) | (simp; omega)) _)); exact Below.refl _ _)
    clear B1 I
    go_wp2
    go_ret
    exact ⟨rfl, hB.out⟩
  | true =>
    rw [hg] at I
    rw [goodH_in hg, hn]
    clear hg
    go_enter Tryd.func21, Tryd.ntmps21
    go_wp2_with fail
    refine (I _).mono ?_
    rintro e w1 ⟨rfl, B1⟩
    have hB : Hid (Below w.heap.size w w1) := by unfold Hid; ((repeat (first | refine bel_alloc ?_ _ | refine bel_dN ?_ _ | refine Below.drew ?_ | refine Below.setCell ?_ (by first | (simp; done) | (simp; omega)) _)); refine bel_step ?_ B1; (repeat (first | refine bel_alloc ?_ _ | refine bel_dN ?_ _ | refine Below.drew ?_ | refine Below.setCell ?_ (by first | (simp; done) | (simp; omega)) _)); exact Below.refl _ _)
    have hs := B1.size
    simp at hs
    have e0 : w1.heap[g]? = some (.cells #[.int .i64 M, .string D, .int .i64 N] 32 (0, 0)) := (B1.block _ (by simp; omega)).trans (by rw [← hgs]; exact heap_alloc_new _ _)
    have p1 : w1.cell? ⟨g, 1, none⟩ = some (.string D) := (cell_of_block e0 1).trans rfl
    have p2 : w1.cell? ⟨g, 2, none⟩ = some (.int .i64 N) := (cell_of_block e0 2).trans rfl
    clear B1 I e0
    by_cases h0 : 0 ≤ N
    · have k0 : decide (0 ≤ N) = true := by simpa using h0
      go_wp2
      go_ret
      exact ⟨by rw [k0]; rfl, hB.out⟩
    · have k0 : decide (0 ≤ N) = false := by simpa using h0
      go_wp2
      go_ret
      exact ⟨by rw [k0]; rfl, hB.out⟩

theorem specGoodHeap (M : Int) (D : ByteArray) (N : Int) (h : D.size ≤ 1048576) (w : World) :
    Calls Tryd.prog 17 #[hpV M D N] w fun e w' => e = .returned (.bool (goodH M D N)) ∧ Below w.heap.size w w' := by
  have I := mGoodS M D h
  obtain ⟨g, hgs⟩ : ∃ g, w.heap.size = g := ⟨_, rfl⟩
  obtain ⟨n, hn⟩ : ∃ n : Int, (D.size : Int) = n := ⟨_, rfl⟩
  clear h
  cases hg : good M D with
  | false =>
    rw [hg] at I
    rw [goodH_no hg]
    clear hg
    go_enter Tryd.func17, Tryd.ntmps17
    go_wp2_with fail
    refine (I _).mono ?_
    rintro e w1 ⟨rfl, B1⟩
    have hB : Hid (Below w.heap.size w w1) := by unfold Hid; ((repeat (first | refine bel_alloc ?_ _ | refine bel_dN ?_ _ | refine Below.drew ?_ | refine Below.setCell ?_ (by first | (simp; done) | (simp; omega)) _)); refine bel_step ?_ B1; (repeat (first | refine bel_alloc ?_ _ | refine bel_dN ?_ _ | refine Below.drew ?_ | refine Below.setCell ?_ (by first | (simp; done) | (simp; omega)) _)); exact Below.refl _ _)
    clear B1 I
    go_wp2
    go_ret
    exact ⟨rfl, hB.out⟩
  | true =>
    rw [hg] at I
    rw [goodH_in hg, hn]
    obtain ⟨r, hr⟩ : ∃ r, Hid ((decide (0 ≤ N) && decide (N ≤ n)) = r) := ⟨_, rfl⟩
    rw [hr.out]
    have IN := in_eq N 0 n r hr
    clear hg
    go_enter Tryd.func17, Tryd.ntmps17
    go_wp2_with fail
    refine (I _).mono ?_
    rintro e w1 ⟨rfl, B1⟩
    have hB : Hid (Below w.heap.size w w1) := by unfold Hid; ((repeat (first | refine bel_alloc ?_ _ | refine bel_dN ?_ _ | refine Below.drew ?_ | refine Below.setCell ?_ (by first | (simp; done) | (simp; omega)) _)); refine bel_step ?_ B1; (repeat (first | refine bel_alloc ?_ _ | refine bel_dN ?_ _ | refine Below.drew ?_ | refine Below.setCell ?_ (by first | (simp; done) | (simp; omega)) _)); exact Below.refl _ _)
    have hs := B1.size
    simp at hs
    have e0 : w1.heap[g]? = some (.cells #[.int .i64 M, .string D, .int .i64 N] 32 (0, 0)) := (B1.block _ (by simp; omega)).trans (by rw [← hgs]; exact heap_alloc_new _ _)
    have p1 : w1.cell? ⟨g, 1, none⟩ = some (.string D) := (cell_of_block e0 1).trans rfl
    have p2 : w1.cell? ⟨g, 2, none⟩ = some (.int .i64 N) := (cell_of_block e0 2).trans rfl
    clear B1 I e0 hr
    go_wp2_with (go_at_call 26; refine (IN _).mono ?_; rintro e w' ⟨rfl, hw⟩; obtain rfl := hw.symm)
    go_ret
    exact ⟨rfl, hB.out⟩

end Go.Proofs.YthboenlfcolinaaDoor
