/-
  The laws on memories that are asked whether they are good, on bytes loaded and stored.
-/
import Derived.Test.YtalmgodakdjjcaaMSt
namespace Go.Proofs.Ytalmgodakdjjcaa
open Go.ChangeShapes Go.WideShapes Go.ChangeAt Go.RowKit

theorem wfI {a : Int} (h : (Lit.int .i64 a).wf = true) : -9223372036854775808 ≤ a ∧ a ≤ 9223372036854775807 := bounds_i64 h

theorem goodMemory_walk (M : Int) (D : ByteArray) (_wm : (Lit.int .i64 M).wf = true) (wb : D.size ≤ maxLen) (w : World) :
    Calls Try.prog 6 #[.agg #[.int .i64 M, .string D]] w fun e w' => e = .returned (.bool true) ∧ Below w.heap.size w w' := by
  unfold maxLen at wb
  clear _wm
  obtain ⟨g, hgs⟩ : ∃ g, w.heap.size = g := ⟨_, rfl⟩
  by_cases h : D.size ≤ 1048576
  · have Z := szMemory_yes M D h
    have S := mGoodS M D h
    have I := mGoodI M D h
    have T := toMemory M D
    have k : ¬ 1048576 - (D.size : Int) < 0 := by omega
    generalize (1048576 - (D.size : Int)) = n at *
    generalize good M D = G at *
    clear h wb
    go_enter Try.func6, Try.ntmps6
    go_wp2_with fail
    refine (Z _).mono ?_
    rintro e w1 ⟨rfl, B1⟩
    have h1 := B1.size
    simp at h1
    have q0 : w1.cell? ⟨g, 0, none⟩ = some (.int .i64 M) := keepCell B1 (by simp; omega) (by rw [← hgs]; simp)
    have q1 : w1.cell? ⟨g, 1, none⟩ = some (.string D) := keepCell B1 (by simp; omega) (by rw [← hgs]; simp)
    have hB : Hid (Below w.heap.size w w1) := by unfold Hid; ((repeat (first | refine bel_alloc ?_ _ | refine bel_dN ?_ _ | refine Below.drew ?_ | refine Below.setCell ?_ (by first | (simp; done) | (simp; omega)) _)); refine bel_step ?_ B1; (repeat (first | refine bel_alloc ?_ _ | refine bel_dN ?_ _ | refine Below.drew ?_ | refine Below.setCell ?_ (by first | (simp; done) | (simp; omega)) _)); exact Below.refl _ _)
    clear Z B1
    go_wp2_with fail
    refine (T _).mono ?_
    rintro e w2 ⟨rfl, B2⟩
    have h2 := B2.size
    replace q0 := keepCell B2 (by omega) q0
    replace q1 := keepCell B2 (by omega) q1
    replace hB : Hid (Below w.heap.size w w2) := bel_step hB.out B2
    clear B2
    go_wp2_with fail
    refine (S _).mono ?_
    rintro e w3 ⟨rfl, B3⟩
    have h3 := B3.size
    replace q0 := keepCell B3 (by omega) q0
    replace q1 := keepCell B3 (by omega) q1
    replace hB : Hid (Below w.heap.size w w3) := bel_step hB.out B3
    clear B3 S
    go_wp2_with fail
    refine (T _).mono ?_
    rintro e w4 ⟨rfl, B4⟩
    replace hB : Hid (Below w.heap.size w w4) := bel_step hB.out B4
    clear B4 T q0 q1
    go_wp2_with fail
    refine (I _).mono ?_
    rintro e w5 ⟨rfl, B5⟩
    replace hB : Hid (Below w.heap.size w w5) := bel_step hB.out B5
    clear B5 I
    go_wp2
    go_ret
    exact ⟨rfl, hB.out⟩
  · have Z := szMemory_no M D (by omega) wb
    clear h wb
    go_enter Try.func6, Try.ntmps6
    go_wp2_with fail
    refine (Z _).mono ?_
    rintro e w1 ⟨rfl, B1⟩
    go_wp2
    go_ret
    refine ⟨rfl, ?_⟩
    ((repeat (first | refine bel_alloc ?_ _ | refine bel_dN ?_ _ | refine Below.drew ?_ | refine Below.setCell ?_ (by first | (simp; done) | (simp; omega)) _)); refine bel_step ?_ B1; (repeat (first | refine bel_alloc ?_ _ | refine bel_dN ?_ _ | refine Below.drew ?_ | refine Below.setCell ?_ (by first | (simp; done) | (simp; omega)) _)); exact Below.refl _ _)

theorem loadBytes_walk (M : Int) (D : ByteArray) (a1 a2 : Int) (_wm : (Lit.int .i64 M).wf = true) (wb : D.size ≤ maxLen) (w1 : (Lit.int .i64 a1).wf = true) (w2 : (Lit.int .i64 a2).wf = true) (w : World) :
    Calls Try.prog 7 #[.agg #[.int .i64 M, .string D], .int .i64 a1, .int .i64 a2] w fun e w' => e = .returned (.bool true) ∧ Below w.heap.size w w' := by
  unfold maxLen at wb
  have k1 := wfI w1
  have k2 := wfI w2
  clear _wm w1 w2
  obtain ⟨g, hgs⟩ : ∃ g, w.heap.size = g := ⟨_, rfl⟩
  by_cases h : D.size ≤ 1048576
  · have Z := szMemory_yes M D h
    obtain ⟨X, c, S, I⟩ := loadBoth M D h a1 a2 k1.2 k2.2
    have T := toMemory M D
    have k : ¬ 1048576 - (D.size : Int) < 0 := by omega
    generalize (1048576 - (D.size : Int)) = n at *
    clear h wb k1 k2
    go_enter Try.func7, Try.ntmps7
    go_wp2_with fail
    refine (Z _).mono ?_
    rintro e w1 ⟨rfl, B1⟩
    have h1 := B1.size
    simp at h1
    have q0 : w1.cell? ⟨g, 0, none⟩ = some (.int .i64 M) := keepCell B1 (by simp; omega) (by rw [← hgs]; simp)
    have q1 : w1.cell? ⟨g, 1, none⟩ = some (.string D) := keepCell B1 (by simp; omega) (by rw [← hgs]; simp)
    have hB : Hid (Below w.heap.size w w1) := by unfold Hid; ((repeat (first | refine bel_alloc ?_ _ | refine bel_dN ?_ _ | refine Below.drew ?_ | refine Below.setCell ?_ (by first | (simp; done) | (simp; omega)) _)); refine bel_step ?_ B1; (repeat (first | refine bel_alloc ?_ _ | refine bel_dN ?_ _ | refine Below.drew ?_ | refine Below.setCell ?_ (by first | (simp; done) | (simp; omega)) _)); exact Below.refl _ _)
    clear Z B1
    go_wp2_with fail
    refine (T _).mono ?_
    rintro e w2 ⟨rfl, B2⟩
    have h2 := B2.size
    replace q0 := keepCell B2 (by omega) q0
    replace q1 := keepCell B2 (by omega) q1
    replace hB : Hid (Below w.heap.size w w2) := bel_step hB.out B2
    clear B2
    go_wp2_with fail
    refine (S _).mono ?_
    rintro e w3 ⟨rfl, B3⟩
    have h3 := B3.size
    replace q0 := keepCell B3 (by omega) q0
    replace q1 := keepCell B3 (by omega) q1
    replace hB : Hid (Below w.heap.size w w3) := bel_step hB.out B3
    clear B3 S
    go_wp2_with fail
    refine (T _).mono ?_
    rintro e w4 ⟨rfl, B4⟩
    replace hB : Hid (Below w.heap.size w w4) := bel_step hB.out B4
    clear B4 T q0 q1
    go_wp2_with fail
    refine (I _).mono ?_
    rintro e w5 ⟨rfl, B5⟩
    replace hB : Hid (Below w.heap.size w w5) := bel_step hB.out B5
    clear B5 I
    go_wp2
    go_ret
    exact ⟨rfl, hB.out⟩
  · have Z := szMemory_no M D (by omega) wb
    clear h wb
    go_enter Try.func7, Try.ntmps7
    go_wp2_with fail
    refine (Z _).mono ?_
    rintro e w1 ⟨rfl, B1⟩
    go_wp2
    go_ret
    refine ⟨rfl, ?_⟩
    ((repeat (first | refine bel_alloc ?_ _ | refine bel_dN ?_ _ | refine Below.drew ?_ | refine Below.setCell ?_ (by first | (simp; done) | (simp; omega)) _)); refine bel_step ?_ B1; (repeat (first | refine bel_alloc ?_ _ | refine bel_dN ?_ _ | refine Below.drew ?_ | refine Below.setCell ?_ (by first | (simp; done) | (simp; omega)) _)); exact Below.refl _ _)

theorem storeBytes_walk (M : Int) (D : ByteArray) (a1 : Int) (a2 : ByteArray) (_wm : (Lit.int .i64 M).wf = true) (wb : D.size ≤ maxLen) (w1 : (Lit.int .i64 a1).wf = true) (w2 : a2.size ≤ maxLen) (w : World) :
    Calls Try.prog 8 #[.agg #[.int .i64 M, .string D], .int .i64 a1, .string a2] w fun e w' => e = .returned (.bool true) ∧ Below w.heap.size w w' := by
  unfold maxLen at wb w2
  have k1 := wfI w1
  clear _wm w1
  obtain ⟨g, hgs⟩ : ∃ g, w.heap.size = g := ⟨_, rfl⟩
  by_cases hs : a2.size ≤ 1048576
  · have hs' : ¬ (1048576 : Int) < (a2.size : Int) := by omega
    by_cases h : D.size ≤ 1048576
    · have Z := szMemory_yes M D h
      obtain ⟨M', D', c, S, I⟩ := storeBoth M D h a1 a2 hs k1.2
      have T := toMemory M D
      have E := eqMemory M' D'
      have k : ¬ 1048576 - (D.size : Int) < 0 := by omega
      generalize (1048576 - (D.size : Int)) = n at *
      clear h wb k1 w2 hs
      go_enter Try.func8, Try.ntmps8
      go_wp2_with fail
      refine (Z _).mono ?_
      rintro e w1 ⟨rfl, B1⟩
      have h1 := B1.size
      simp at h1
      have q0 : w1.cell? ⟨g, 0, none⟩ = some (.int .i64 M) := keepCell B1 (by simp; omega) (by rw [← hgs]; simp)
      have q1 : w1.cell? ⟨g, 1, none⟩ = some (.string D) := keepCell B1 (by simp; omega) (by rw [← hgs]; simp)
      have hB : Hid (Below w.heap.size w w1) := by unfold Hid; ((repeat (first | refine bel_alloc ?_ _ | refine bel_dN ?_ _ | refine Below.drew ?_ | refine Below.setCell ?_ (by first | (simp; done) | (simp; omega)) _)); refine bel_step ?_ B1; (repeat (first | refine bel_alloc ?_ _ | refine bel_dN ?_ _ | refine Below.drew ?_ | refine Below.setCell ?_ (by first | (simp; done) | (simp; omega)) _)); exact Below.refl _ _)
      clear Z B1
      go_wp2_with fail
      refine (T _).mono ?_
      rintro e w2 ⟨rfl, B2⟩
      have h2 := B2.size
      replace q0 := keepCell B2 (by omega) q0
      replace q1 := keepCell B2 (by omega) q1
      replace hB : Hid (Below w.heap.size w w2) := bel_step hB.out B2
      clear B2
      go_wp2_with fail
      refine (S _).mono ?_
      rintro e w3 ⟨rfl, B3⟩
      have h3 := B3.size
      replace q0 := keepCell B3 (by omega) q0
      replace q1 := keepCell B3 (by omega) q1
      have hg3 : g < w3.heap.size := by omega
      replace hB : Hid (Below w.heap.size w w3) := bel_step hB.out B3
      clear B3 S h1 h2 h3
      go_wp2_with fail
      refine (T _).mono ?_
      rintro e w4 ⟨rfl, B4⟩
      have h4 := B4.size
      simp at h4
      have r0 : w4.cell? ⟨w3.heap.size, 0, none⟩ = some (.int .i64 M') := keepCell B4 (by simp) (by simp)
      have r1 : w4.cell? ⟨w3.heap.size, 1, none⟩ = some (.string D') := keepCell B4 (by simp) (by simp)
      replace hB : Hid (Below w.heap.size w w4) := by have := hB.out; unfold Hid; ((repeat (first | refine bel_alloc ?_ _ | refine bel_dN ?_ _ | refine Below.drew ?_ | refine Below.setCell ?_ (by first | (simp; done) | (simp; omega)) _)); refine bel_step ?_ B4; (repeat (first | refine bel_alloc ?_ _ | refine bel_dN ?_ _ | refine Below.drew ?_ | refine Below.setCell ?_ (by first | (simp; done) | (simp; omega)) _)); refine bel_step ?_ this; (repeat (first | refine bel_alloc ?_ _ | refine bel_dN ?_ _ | refine Below.drew ?_ | refine Below.setCell ?_ (by first | (simp; done) | (simp; omega)) _)); exact Below.refl _ _)
      clear B4 T q0 q1
      go_wp2_with fail
      refine (I _).mono ?_
      rintro e w5 ⟨rfl, B5⟩
      have h5 := B5.size
      replace r0 := keepCell B5 (by omega) r0
      replace r1 := keepCell B5 (by omega) r1
      have hl : w3.heap.size < w5.heap.size := by omega
      replace hB : Hid (Below w.heap.size w w5) := bel_step hB.out B5
      clear B5 I h4 h5
      go_wp2_with fail
      refine (E _).mono ?_
      rintro e w6 ⟨rfl, B6⟩
      replace hB : Hid (Below w.heap.size w w6) := by have := hB.out; unfold Hid; ((repeat (first | refine bel_alloc ?_ _ | refine bel_dN ?_ _ | refine Below.drew ?_ | refine Below.setCell ?_ (by first | (simp; done) | (simp; omega)) _)); refine bel_step ?_ B6; (repeat (first | refine bel_alloc ?_ _ | refine bel_dN ?_ _ | refine Below.drew ?_ | refine Below.setCell ?_ (by first | (simp; done) | (simp; omega)) _)); refine bel_step ?_ this; (repeat (first | refine bel_alloc ?_ _ | refine bel_dN ?_ _ | refine Below.drew ?_ | refine Below.setCell ?_ (by first | (simp; done) | (simp; omega)) _)); exact Below.refl _ _)
      clear B6 E r0 r1
      go_wp2
      go_ret
      exact ⟨rfl, hB.out⟩
    · have Z := szMemory_no M D (by omega) wb
      clear h wb w2 hs k1
      go_enter Try.func8, Try.ntmps8
      go_wp2_with fail
      refine (Z _).mono ?_
      rintro e w1 ⟨rfl, B1⟩
      go_wp2
      go_ret
      refine ⟨rfl, ?_⟩
      ((repeat (first | refine bel_alloc ?_ _ | refine bel_dN ?_ _ | refine Below.drew ?_ | refine Below.setCell ?_ (by first | (simp; done) | (simp; omega)) _)); refine bel_step ?_ B1; (repeat (first | refine bel_alloc ?_ _ | refine bel_dN ?_ _ | refine Below.drew ?_ | refine Below.setCell ?_ (by first | (simp; done) | (simp; omega)) _)); exact Below.refl _ _)
  · have hs' : (1048576 : Int) < (a2.size : Int) := by omega
    clear hs w2 wb k1
    go_enter Try.func8, Try.ntmps8
    go_wp2
    go_ret
    refine ⟨rfl, ?_⟩
    (repeat (first | refine Below.alloc ?_ (by first | (simp; done) | (simp; omega)) _ | refine Below.setCell ?_ (by first | (simp; done) | (simp; omega)) _ | refine bel_dN ?_ _ | refine Below.drew ?_ | exact Below.refl _ _))

end Go.Proofs.Ytalmgodakdjjcaa
