/-
  A part of one's own, guards, both sides of entering and leaving, and the two laws. (Made by a generator.)
-/
import Derived.Test.YthboenlfcolinaaDoorPT4
import Derived.Test.YthboenlfcolinaaDoorClone
import Derived.Test.YthboenlfcolinaaDoorQPick
namespace Go.Proofs.YthboenlfcolinaaDoor
open Go.ChangeShapes Go.WideShapes Go.ChangeAt Go.RowKit Go.Deep

abbrev ptZ : Value := .agg #[.string ⟨#[]⟩, .int .i64 0, .string ⟨#[]⟩, .int .i64 0, .int .i64 0, .bool false, .bool false]
theorem setP {W : World} {z : Nat} {t : TypeId} {a0 a1 a2 a3 a4 a5 a6 : Value} (h : W.heap[z]? = some (.cells #[a0, a1, a2, a3, a4, a5, a6] t (0, 0))) (b0 b1 b2 b3 b4 b5 b6 : Value) {G : World} (hG : ((((((W.setCell ⟨z, 0, none⟩ b0).setCell ⟨z, 1, none⟩ b1).setCell ⟨z, 2, none⟩ b2).setCell ⟨z, 3, none⟩ b3).setCell ⟨z, 4, none⟩ b4).setCell ⟨z, 5, none⟩ b5).setCell ⟨z, 6, none⟩ b6 = G) :
    G.heap[z]? = some (.cells #[b0, b1, b2, b3, b4, b5, b6] t (0, 0)) ∧ ∀ (B : Nat) (w : World), B ≤ z → Below B w W → Below B w G := by
  subst hG
  refine ⟨?_, fun B w hB hb => ((((((hb.setCell hB _).setCell hB _).setCell hB _).setCell hB _).setCell hB _).setCell hB _).setCell hB _⟩
  rw [heap_setCell_same _ _ _ _ _ _ (heap_setCell_same _ _ _ _ _ _ (heap_setCell_same _ _ _ _ _ _ (heap_setCell_same _ _ _ _ _ _ (heap_setCell_same _ _ _ _ _ _ (heap_setCell_same _ _ _ _ _ _ (heap_setCell_same _ _ _ _ _ _ h))))))]
  rfl
/-- The result's block is written last: what is handed back. -/
theorem goodKept {M : Int} {D : ByteArray} {N : Int} (h : goodH M D N = true) : kM M D N = M ∧ kD M D N = D ∧ kN M D N = N := by
  unfold kM kD kN
  simp [h]

set_option maxRecDepth 100000 in
set_option maxHeartbeats 1600000 in
theorem implOwn (A : ByteArray) (M : Int) (D : ByteArray) (N C : Int) (I L : Bool) (ha : A.size ≤ 1048576) (hd : D.size ≤ 1048576) (w : World) :
    Calls Tryd.prog 32 #[ptV A M D N C I L] w fun e w' => e = .returned (.tuple #[if gP A M D N C = true then ptV A M D N C I L else ptZ, .bool (gP A M D N C)]) ∧ Below w.heap.size w w' := by
  have J := implGoodPart A M D N C I L ha hd
  obtain ⟨g, hgs⟩ : ∃ g, w.heap.size = g := ⟨_, rfl⟩
  cases hp : gP A M D N C with
  | false =>
    rw [hp] at J
    simp only [Bool.false_eq_true, if_false]
    clear hp ha hd
    go_enter Tryd.func32, Tryd.ntmps32
    go_wp2_with fail
    refine (J _).mono ?_
    rintro e w1 ⟨rfl, B1⟩
    have hs := B1.size
    simp at hs
    have hB : Hid (Below w.heap.size w w1) := by unfold Hid; ((repeat (first | refine bel_alloc ?_ _ | refine bel_dN ?_ _ | refine Below.drew ?_ | refine Below.setCell ?_ (by first | (simp; done) | (simp; omega)) _)); refine bel_step ?_ B1; (repeat (first | refine bel_alloc ?_ _ | refine bel_dN ?_ _ | refine Below.drew ?_ | refine Below.setCell ?_ (by first | (simp; done) | (simp; omega)) _)); exact Below.refl _ _)
    have e1 : w1.heap[g + 1]? = some (.cells #[.string ⟨#[]⟩, .int .i64 0, .string ⟨#[]⟩, .int .i64 0, .int .i64 0, .bool false, .bool false] 34 (0, 0)) := by
      rw [← hgs]
      exact (B1.block _ (by simp)).trans (heap_blk (by simp))
    have hl : g + 1 < w1.heap.size := by omega
    have q0 := (cell_of_block e1 0).trans (show _ = some (.string ⟨#[]⟩ : Value) from rfl)
    have z0 := free_of_block e1 0
    have q1 := (cell_of_block e1 1).trans (show _ = some (.int .i64 0 : Value) from rfl)
    have z1 := free_of_block e1 1
    have q2 := (cell_of_block e1 2).trans (show _ = some (.string ⟨#[]⟩ : Value) from rfl)
    have z2 := free_of_block e1 2
    have q3 := (cell_of_block e1 3).trans (show _ = some (.int .i64 0 : Value) from rfl)
    have z3 := free_of_block e1 3
    have q4 := (cell_of_block e1 4).trans (show _ = some (.int .i64 0 : Value) from rfl)
    have z4 := free_of_block e1 4
    have q5 := (cell_of_block e1 5).trans (show _ = some (.bool false : Value) from rfl)
    have z5 := free_of_block e1 5
    have q6 := (cell_of_block e1 6).trans (show _ = some (.bool false : Value) from rfl)
    have z6 := free_of_block e1 6
    clear B1 J hs
    obtain ⟨F, FB⟩ := setP e1 (.string ⟨#[]⟩) (.int .i64 0) (.string ⟨#[]⟩) (.int .i64 0) (.int .i64 0) (.bool false) (.bool false) rfl
    have k0 := (cell_of_block F 0).trans (show _ = some (.string ⟨#[]⟩ : Value) from rfl)
    have k1 := (cell_of_block F 1).trans (show _ = some (.int .i64 0 : Value) from rfl)
    have k2 := (cell_of_block F 2).trans (show _ = some (.string ⟨#[]⟩ : Value) from rfl)
    have k3 := (cell_of_block F 3).trans (show _ = some (.int .i64 0 : Value) from rfl)
    have k4 := (cell_of_block F 4).trans (show _ = some (.int .i64 0 : Value) from rfl)
    have k5 := (cell_of_block F 5).trans (show _ = some (.bool false : Value) from rfl)
    have k6 := (cell_of_block F 6).trans (show _ = some (.bool false : Value) from rfl)
    clear F e1
    go_wp2
    refine bodyPost_ret (v := .tuple #[.agg #[.string ⟨#[]⟩, .int .i64 0, .string ⟨#[]⟩, .int .i64 0, .int .i64 0, .bool false, .bool false], .bool false]) (by simp [results, Tryd.results32, go_sem, k0, k1, k2, k3, k4, k5, k6]) rfl ⟨rfl, FB _ _ (by omega) hB.out⟩
  | true =>
    rw [hp] at J
    simp only [if_true]
    obtain ⟨hn, hh, _⟩ := gP_yes hp
    have HA := heapAsItWas M D N hd
    rw [(goodKept hh).1, (goodKept hh).2.1, (goodKept hh).2.2] at HA
    have CL := fun w => stringsClone A w (by omega)
    clear hp hn hh ha hd
    go_enter Tryd.func32, Tryd.ntmps32
    go_wp2_with fail
    refine (J _).mono ?_
    rintro e w1 ⟨rfl, B1⟩
    have hs := B1.size
    simp at hs
    have hB : Hid (Below w.heap.size w w1) := by unfold Hid; ((repeat (first | refine bel_alloc ?_ _ | refine bel_dN ?_ _ | refine Below.drew ?_ | refine Below.setCell ?_ (by first | (simp; done) | (simp; omega)) _)); refine bel_step ?_ B1; (repeat (first | refine bel_alloc ?_ _ | refine bel_dN ?_ _ | refine Below.drew ?_ | refine Below.setCell ?_ (by first | (simp; done) | (simp; omega)) _)); exact Below.refl _ _)
    have e0 : w1.heap[g]? = some (.cells #[.string A, .int .i64 M, .string D, .int .i64 N, .int .i64 C, .bool I, .bool L] 34 (0, 0)) := by
      rw [← hgs]
      exact (B1.block _ (by simp <;> omega)).trans (heap_old (heap_blk rfl))
    have e1 : w1.heap[g + 1]? = some (.cells #[.string ⟨#[]⟩, .int .i64 0, .string ⟨#[]⟩, .int .i64 0, .int .i64 0, .bool false, .bool false] 34 (0, 0)) := by
      rw [← hgs]
      exact (B1.block _ (by simp)).trans (heap_blk (by simp))
    have hl : g + 1 < w1.heap.size := by omega
    have k0 : ∀ w, Keeps w1 w → w.cell? ⟨g, 0, none⟩ = some (.string A) := fun wx h => h.cell (by omega) ((cell_of_block e0 0).trans rfl)
    have k1 : ∀ w, Keeps w1 w → w.cell? ⟨g, 1, none⟩ = some (.int .i64 M) := fun wx h => h.cell (by omega) ((cell_of_block e0 1).trans rfl)
    have k2 : ∀ w, Keeps w1 w → w.cell? ⟨g, 2, none⟩ = some (.string D) := fun wx h => h.cell (by omega) ((cell_of_block e0 2).trans rfl)
    have k3 : ∀ w, Keeps w1 w → w.cell? ⟨g, 3, none⟩ = some (.int .i64 N) := fun wx h => h.cell (by omega) ((cell_of_block e0 3).trans rfl)
    have E0 : Hid (∀ w, Keeps w1 w → w.heap[g]? = some (.cells #[.string A, .int .i64 M, .string D, .int .i64 N, .int .i64 C, .bool I, .bool L] 34 (0, 0)) ∧ w.heap[g + 1]? = some (.cells #[.string ⟨#[]⟩, .int .i64 0, .string ⟨#[]⟩, .int .i64 0, .int .i64 0, .bool false, .bool false] 34 (0, 0)) ∧ g + 1 < w.heap.size) := fun wx h => ⟨(h.below.block _ (by omega)).trans e0, (h.below.block _ (by omega)).trans e1, Nat.lt_of_lt_of_le hl h.below.size⟩
    clear B1 J hs e0 e1 hl
    go_wp2_with fail
    refine region_qtail (C := Keeps w1) 7 (by kernel_rfl) (by kernel_rfl) (Keeps.drew w1) ?_
    (iterate 7
    (apply wpQuiet_go _ (by rfl)
     · intro wq hq
       go_simp
       first
         | (go_at_call 39; exact qcall hq (CL _))
         | (go_at_call 40; exact qcall hq (HA _))
         | exact rfl
     simp only [Act.put, List.setIfInBounds_toArray, List.set_cons_succ, List.set_cons_zero]))
    refine wpQuiet_nil ?_
    intro w2 hk
    obtain ⟨e0, e1, hl⟩ := E0.out _ hk
    have p0 := (cell_of_block e0 0).trans (show _ = some (.string A : Value) from rfl)
    have y0 := free_of_block e0 0
    have p1 := (cell_of_block e0 1).trans (show _ = some (.int .i64 M : Value) from rfl)
    have y1 := free_of_block e0 1
    have p2 := (cell_of_block e0 2).trans (show _ = some (.string D : Value) from rfl)
    have y2 := free_of_block e0 2
    have p3 := (cell_of_block e0 3).trans (show _ = some (.int .i64 N : Value) from rfl)
    have y3 := free_of_block e0 3
    have p4 := (cell_of_block e0 4).trans (show _ = some (.int .i64 C : Value) from rfl)
    have y4 := free_of_block e0 4
    have p5 := (cell_of_block e0 5).trans (show _ = some (.bool I : Value) from rfl)
    have y5 := free_of_block e0 5
    have p6 := (cell_of_block e0 6).trans (show _ = some (.bool L : Value) from rfl)
    have y6 := free_of_block e0 6
    have q0 := (cell_of_block e1 0).trans (show _ = some (.string ⟨#[]⟩ : Value) from rfl)
    have z0 := free_of_block e1 0
    have q1 := (cell_of_block e1 1).trans (show _ = some (.int .i64 0 : Value) from rfl)
    have z1 := free_of_block e1 1
    have q2 := (cell_of_block e1 2).trans (show _ = some (.string ⟨#[]⟩ : Value) from rfl)
    have z2 := free_of_block e1 2
    have q3 := (cell_of_block e1 3).trans (show _ = some (.int .i64 0 : Value) from rfl)
    have z3 := free_of_block e1 3
    have q4 := (cell_of_block e1 4).trans (show _ = some (.int .i64 0 : Value) from rfl)
    have z4 := free_of_block e1 4
    have q5 := (cell_of_block e1 5).trans (show _ = some (.bool false : Value) from rfl)
    have z5 := free_of_block e1 5
    have q6 := (cell_of_block e1 6).trans (show _ = some (.bool false : Value) from rfl)
    have z6 := free_of_block e1 6
    obtain ⟨w3, hw3⟩ : ∃ W, ((((w2.setCell ⟨g, 0, none⟩ (.string A)).setCell ⟨g, 1, none⟩ (.int .i64 M)).setCell ⟨g, 2, none⟩ (.string D)).setCell ⟨g, 3, none⟩ (.int .i64 N)) = W := ⟨_, rfl⟩
    have f1 : w3.heap[g + 1]? = some (.cells #[.string ⟨#[]⟩, .int .i64 0, .string ⟨#[]⟩, .int .i64 0, .int .i64 0, .bool false, .bool false] 34 (0, 0)) := by
      rw [← hw3]
      refine Eq.trans (heap_setCell_other _ _ _ _ ?_) ?_
      · simp
      refine Eq.trans (heap_setCell_other _ _ _ _ ?_) ?_
      · simp
      refine Eq.trans (heap_setCell_other _ _ _ _ ?_) ?_
      · simp
      refine Eq.trans (heap_setCell_other _ _ _ _ ?_) ?_
      · simp
      exact e1
    have hb := hk.below
    have hB3 : Hid (Below w.heap.size w w3) := by
      unfold Hid; rw [← hw3]
      refine Below.setCell (Below.setCell (Below.setCell (Below.setCell (bel_step hB.out hb) ?_ _) ?_ _) ?_ _) ?_ _ <;> simp <;> omega
    subst hw3
    clear k0 k1 k2 k3 E0 HA CL hk hb e0 e1
    obtain ⟨F, FB⟩ := setP f1 (.string A) (.int .i64 M) (.string D) (.int .i64 N) (.int .i64 C) (.bool I) (.bool L) rfl
    have k0 := (cell_of_block F 0).trans (show _ = some (.string A : Value) from rfl)
    have k1 := (cell_of_block F 1).trans (show _ = some (.int .i64 M : Value) from rfl)
    have k2 := (cell_of_block F 2).trans (show _ = some (.string D : Value) from rfl)
    have k3 := (cell_of_block F 3).trans (show _ = some (.int .i64 N : Value) from rfl)
    have k4 := (cell_of_block F 4).trans (show _ = some (.int .i64 C : Value) from rfl)
    have k5 := (cell_of_block F 5).trans (show _ = some (.bool I : Value) from rfl)
    have k6 := (cell_of_block F 6).trans (show _ = some (.bool L : Value) from rfl)
    clear F f1
    go_wp2
    refine bodyPost_ret (v := .tuple #[.agg #[.string A, .int .i64 M, .string D, .int .i64 N, .int .i64 C, .bool I, .bool L], .bool true]) (by simp [results, Tryd.results32, go_sem, k0, k1, k2, k3, k4, k5, k6]) rfl ⟨rfl, FB _ _ (by omega) hB3.out⟩

/-- What is told by a guard that lets through who is on the side b. -/
def grV (A : ByteArray) (M : Int) (D : ByteArray) (N C : Int) (I L : Bool) (b : Bool) : Value := if gP A M D N C = true then (if I = b then .tuple #[ptV A M D N C (!b) b, .int .i64 0] else .tuple #[ptV A M D N C I L, .int .i64 4]) else .tuple #[ptZ, .int .i64 1]

set_option maxRecDepth 100000 in
set_option maxHeartbeats 1600000 in
theorem implGuarded (A : ByteArray) (M : Int) (D : ByteArray) (N C : Int) (I L : Bool) (b : Bool) (ha : A.size ≤ 1048576) (hd : D.size ≤ 1048576) (bb : Nat) (w : World) (hbl : Hid (bb < w.heap.size)) (hbc : Hid (w.cell? ⟨bb, 0, none⟩ = some (.bool b))) :
    Calls Tryd.prog 31 #[ptV A M D N C I L, .pointer (some ⟨bb, 0, none⟩)] w fun e w' => e = .returned (grV A M D N C I L b) ∧ Below w.heap.size w w' := by
  have J := implOwn A M D N C I L ha hd
  obtain ⟨g, hgs⟩ : ∃ g, w.heap.size = g := ⟨_, rfl⟩
  unfold grV
  cases hp : gP A M D N C with
  | false =>
    rw [hp] at J
    simp only [Bool.false_eq_true, if_false] at J ⊢
    clear hp ha hd
    go_enter Tryd.func31, Tryd.ntmps31
    go_wp2_with fail
    refine (J _).mono ?_
    rintro e w1 ⟨rfl, B1⟩
    have hs := B1.size
    simp at hs
    have hB : Hid (Below w.heap.size w w1) := by unfold Hid; ((repeat (first | refine bel_alloc ?_ _ | refine bel_dN ?_ _ | refine Below.drew ?_ | refine Below.setCell ?_ (by first | (simp; done) | (simp; omega)) _)); refine bel_step ?_ B1; (repeat (first | refine bel_alloc ?_ _ | refine bel_dN ?_ _ | refine Below.drew ?_ | refine Below.setCell ?_ (by first | (simp; done) | (simp; omega)) _)); exact Below.refl _ _)
    have e1 : w1.heap[g + 1]? = some (.cells #[.string ⟨#[]⟩, .int .i64 0, .string ⟨#[]⟩, .int .i64 0, .int .i64 0, .bool false, .bool false] 34 (0, 0)) := by
      rw [← hgs]
      exact (B1.block _ (by simp)).trans (heap_blk (by simp))
    have hl : g + 1 < w1.heap.size := by omega
    have q0 := (cell_of_block e1 0).trans (show _ = some (.string ⟨#[]⟩ : Value) from rfl)
    have z0 := free_of_block e1 0
    have q1 := (cell_of_block e1 1).trans (show _ = some (.int .i64 0 : Value) from rfl)
    have z1 := free_of_block e1 1
    have q2 := (cell_of_block e1 2).trans (show _ = some (.string ⟨#[]⟩ : Value) from rfl)
    have z2 := free_of_block e1 2
    have q3 := (cell_of_block e1 3).trans (show _ = some (.int .i64 0 : Value) from rfl)
    have z3 := free_of_block e1 3
    have q4 := (cell_of_block e1 4).trans (show _ = some (.int .i64 0 : Value) from rfl)
    have z4 := free_of_block e1 4
    have q5 := (cell_of_block e1 5).trans (show _ = some (.bool false : Value) from rfl)
    have z5 := free_of_block e1 5
    have q6 := (cell_of_block e1 6).trans (show _ = some (.bool false : Value) from rfl)
    have z6 := free_of_block e1 6
    clear B1 J hs
    obtain ⟨F, FB⟩ := setP e1 (.string ⟨#[]⟩) (.int .i64 0) (.string ⟨#[]⟩) (.int .i64 0) (.int .i64 0) (.bool false) (.bool false) rfl
    replace F := heap_old (o := .cells #[.string ⟨#[]⟩, .int .i64 0, .string ⟨#[]⟩, .int .i64 0, .int .i64 0, .bool false, .bool false] 34) F
    have hFB := FB _ _ (show w.heap.size ≤ g + 1 by omega) hB.out
    have k0 := (cell_of_block F 0).trans (show _ = some (.string ⟨#[]⟩ : Value) from rfl)
    have k1 := (cell_of_block F 1).trans (show _ = some (.int .i64 0 : Value) from rfl)
    have k2 := (cell_of_block F 2).trans (show _ = some (.string ⟨#[]⟩ : Value) from rfl)
    have k3 := (cell_of_block F 3).trans (show _ = some (.int .i64 0 : Value) from rfl)
    have k4 := (cell_of_block F 4).trans (show _ = some (.int .i64 0 : Value) from rfl)
    have k5 := (cell_of_block F 5).trans (show _ = some (.bool false : Value) from rfl)
    have k6 := (cell_of_block F 6).trans (show _ = some (.bool false : Value) from rfl)
    clear F e1
    go_wp2
    refine bodyPost_ret (v := .tuple #[.agg #[.string ⟨#[]⟩, .int .i64 0, .string ⟨#[]⟩, .int .i64 0, .int .i64 0, .bool false, .bool false], .int .i64 1]) (by simp [results, Tryd.results31, go_sem, k0, k1, k2, k3, k4, k5, k6]) rfl ⟨rfl, hFB.alloc hFB.size _⟩
  | true =>
    rw [hp] at J
    simp only [if_true] at J ⊢
    clear hp ha hd
    by_cases hib : I = b
    · subst hib
      rw [if_pos rfl]
      go_enter Tryd.func31, Tryd.ntmps31
      go_wp2_with fail
      refine (J _).mono ?_
      rintro e w1 ⟨rfl, B1⟩
      have hs := B1.size
      simp at hs
      have hB : Hid (Below w.heap.size w w1) := by unfold Hid; ((repeat (first | refine bel_alloc ?_ _ | refine bel_dN ?_ _ | refine Below.drew ?_ | refine Below.setCell ?_ (by first | (simp; done) | (simp; omega)) _)); refine bel_step ?_ B1; (repeat (first | refine bel_alloc ?_ _ | refine bel_dN ?_ _ | refine Below.drew ?_ | refine Below.setCell ?_ (by first | (simp; done) | (simp; omega)) _)); exact Below.refl _ _)
      have e1 : w1.heap[g + 1]? = some (.cells #[.string ⟨#[]⟩, .int .i64 0, .string ⟨#[]⟩, .int .i64 0, .int .i64 0, .bool false, .bool false] 34 (0, 0)) := by
        rw [← hgs]
        exact (B1.block _ (by simp)).trans (heap_blk (by simp))
      have hl : g + 1 < w1.heap.size := by omega
      have hcb : w1.cell? ⟨bb, 0, none⟩ = some (.bool I) := hB.out.cell hbl.out |>.trans hbc.out
      have hbg : bb < g := by rw [← hgs]; exact hbl.out
      have hbw : bb < w1.heap.size := by omega
      clear B1 J hs
      obtain ⟨y, hy⟩ : ∃ y, w1.heap.size = y := ⟨_, rfl⟩
      obtain ⟨W, hW⟩ : ∃ W, w1.alloc (.cells #[.string A, .int .i64 M, .string D, .int .i64 N, .int .i64 C, .bool I, .bool L] 34) = W := ⟨_, rfl⟩
      have e2 : W.heap[g + 1]? = some (.cells #[.string ⟨#[]⟩, .int .i64 0, .string ⟨#[]⟩, .int .i64 0, .int .i64 0, .bool false, .bool false] 34 (0, 0)) := by rw [← hW]; exact heap_old e1
      have e3 : W.heap[y]? = some (.cells #[.string A, .int .i64 M, .string D, .int .i64 N, .int .i64 C, .bool I, .bool L] 34 (0, 0)) := by rw [← hW]; exact heap_blk hy
      have hcW : W.cell? ⟨bb, 0, none⟩ = some (.bool I) := by rw [← hW]; exact ((Below.refl _ _).alloc (Nat.le_refl _) _ : Below w1.heap.size w1 _).cell hbw |>.trans hcb
      have hBW : Hid (Below w.heap.size w W) := by unfold Hid; rw [← hW]; exact hB.out.alloc hB.out.size _
      have hyl : Hid (g + 1 < y ∧ bb < y ∧ bb < g) := ⟨by omega, by omega, hbg⟩
      have hii : (I != I) = false := by cases I <;> rfl
      have hij : (!(I == I)) = false := by cases I <;> rfl
      have r5 := (cell_of_block e3 5).trans (show _ = some (Value.bool I) from rfl)
      have hS0 : Hid (W.heap[g + 1]? = some (.cells #[.string ⟨#[]⟩, .int .i64 0, .string ⟨#[]⟩, .int .i64 0, .int .i64 0, .bool false, .bool false] 34 (0, 0)) ∧ W.heap[y]? = some (.cells #[.string A, .int .i64 M, .string D, .int .i64 N, .int .i64 C, .bool I, .bool L] 34 (0, 0)) ∧ W.cell? ⟨bb, 0, none⟩ = some (.bool I)) := ⟨e2, e3, hcW⟩
      clear e1 hB hcb hbw hl hbg e2 e3
      go_wp2
      clear r5 hcW hW hii hij
      obtain ⟨D1, hD⟩ : ∃ G, W.drew = G := ⟨_, rfl⟩
      have hbD : Below W.heap.size W D1 := by rw [← hD]; exact (Below.refl _ _).drew
      have hS1 : D1.heap[g + 1]? = some (.cells #[.string ⟨#[]⟩, .int .i64 0, .string ⟨#[]⟩, .int .i64 0, .int .i64 0, .bool false, .bool false] 34 (0, 0)) ∧ D1.heap[y]? = some (.cells #[.string A, .int .i64 M, .string D, .int .i64 N, .int .i64 C, .bool I, .bool L] 34 (0, 0)) ∧ D1.cell? ⟨bb, 0, none⟩ = some (.bool I) := by rw [← hD]; exact hS0.out
      have hBD : Hid (Below w.heap.size w D1) := bel_step hBW.out hbD
      have hSC := hS1.2.2
      refine wh_begin (fun w' : World => w'.cell? ⟨bb, 0, none⟩ = some (.bool I)) (by kernel_rfl) ?_
      rw [hD]
      clear hbD hD hS0 hBW
      refine wh_take 0 (some 22) (.bool I) rfl rfl (by kernel_rfl) (by kernel_rfl) (by kernel_rfl) (fun _ _ _ h => h) hSC (by rfl) (fun w' hS => by go_simp) ?_
      simp only [Act.put, List.setIfInBounds_toArray, List.set_cons_zero, List.set_cons_succ]
      refine wh_take 2 (some 24) (.bool I) rfl rfl (by kernel_rfl) (by kernel_rfl) (by kernel_rfl) (fun _ _ _ h => h) hSC (by rfl) (fun w' hS => by go_simp) ?_
      simp only [Act.put, List.setIfInBounds_toArray, List.set_cons_zero, List.set_cons_succ]
      refine wh_take 1 (some 23) (.bool (!I)) rfl rfl (by kernel_rfl) (by kernel_rfl) (by kernel_rfl) (fun _ _ _ h => h) hSC (by rfl) (fun w' hS => by clear hS; go_simp) ?_
      simp only [Act.put, List.setIfInBounds_toArray, List.set_cons_zero, List.set_cons_succ]
      refine wh_take 3 (some 25) (.pointer (some ⟨y, 5, none⟩)) rfl rfl (by kernel_rfl) (by kernel_rfl) (by kernel_rfl) (fun _ _ _ h => h) hSC (by rfl) (fun w' hS => by kernel_rfl) ?_
      simp only [Act.put, List.setIfInBounds_toArray, List.set_cons_zero, List.set_cons_succ]
      have e3 := hS1.2.1
      have c5 := (cell_of_block e3 5).trans (show _ = some (Value.bool I) from rfl)
      have x5 := free_of_block e3 5
      obtain ⟨W2, hW2⟩ : ∃ G, D1.setCell ⟨y, 5, none⟩ (.bool (!I)) = G := ⟨_, rfl⟩
      have e4 : W2.heap[y]? = some (.cells #[.string A, .int .i64 M, .string D, .int .i64 N, .int .i64 C, .bool (!I), .bool L] 34 (0, 0)) := by rw [← hW2]; exact (heap_setCell_same _ _ _ _ _ _ e3).trans rfl
      have hSC2 : W2.cell? ⟨bb, 0, none⟩ = some (.bool I) := by rw [← hW2]; exact (((Below.refl y D1).setCell (p := ⟨y, 5, none⟩) (Nat.le_refl _) _).cell (p := ⟨bb, 0, none⟩) hyl.out.2.1).trans hSC
      have e5 : W2.heap[g + 1]? = some (.cells #[.string ⟨#[]⟩, .int .i64 0, .string ⟨#[]⟩, .int .i64 0, .int .i64 0, .bool false, .bool false] 34 (0, 0)) := by
        rw [← hW2]
        refine Eq.trans (heap_setCell_other _ _ _ _ ?_) hS1.1
        have := hyl.out
        simp
        omega
      have hB2 : Hid (Below w.heap.size w W2) := by unfold Hid; rw [← hW2]; exact hBD.out.setCell (by have := hyl.out; simp; omega) _
      refine wh_skip 4 none W2 (by kernel_rfl) rfl rfl (by rfl) (by rw [← hW2]; go_simp) hSC2 ?_
      simp only [Act.put]
      clear c5 x5 e3 hW2 hS1 hBD hSC
      have hSC := hSC2
      clear hSC2
      refine wh_val 5 (some 26) (.pointer (some ⟨y, 6, none⟩)) W2 (by kernel_rfl) rfl rfl (by rfl) (by go_simp) hSC ?_
      simp only [Act.put, List.setIfInBounds_toArray, List.set_cons_zero, List.set_cons_succ]
      have c6 := (cell_of_block e4 6).trans (show _ = some (Value.bool L) from rfl)
      have x6 := free_of_block e4 6
      obtain ⟨W3, hW3⟩ : ∃ G, W2.setCell ⟨y, 6, none⟩ (.bool I) = G := ⟨_, rfl⟩
      have e6 : W3.heap[y]? = some (.cells #[.string A, .int .i64 M, .string D, .int .i64 N, .int .i64 C, .bool (!I), .bool I] 34 (0, 0)) := by rw [← hW3]; exact (heap_setCell_same _ _ _ _ _ _ e4).trans rfl
      have hSC3 : W3.cell? ⟨bb, 0, none⟩ = some (.bool I) := by rw [← hW3]; exact (((Below.refl y W2).setCell (p := ⟨y, 6, none⟩) (Nat.le_refl _) _).cell (p := ⟨bb, 0, none⟩) hyl.out.2.1).trans hSC
      have e7 : W3.heap[g + 1]? = some (.cells #[.string ⟨#[]⟩, .int .i64 0, .string ⟨#[]⟩, .int .i64 0, .int .i64 0, .bool false, .bool false] 34 (0, 0)) := by
        rw [← hW3]
        refine Eq.trans (heap_setCell_other _ _ _ _ ?_) e5
        have := hyl.out
        simp
        omega
      have hB3 : Hid (Below w.heap.size w W3) := by unfold Hid; rw [← hW3]; exact hB2.out.setCell (by have := hyl.out; simp; omega) _
      refine wh_skip 6 none W3 (by kernel_rfl) rfl rfl (by rfl) (by rw [← hW3]; go_simp) hSC3 ?_
      simp only [Act.put]
      refine wh_done (by kernel_rfl) ?_
      clear c6 x6 e4 e5 hW3 hB2 hSC hSC3
      have r0 := (cell_of_block e6 0).trans (show _ = some (.string A : Value) from rfl)
      have r1 := (cell_of_block e6 1).trans (show _ = some (.int .i64 M : Value) from rfl)
      have r2 := (cell_of_block e6 2).trans (show _ = some (.string D : Value) from rfl)
      have r3 := (cell_of_block e6 3).trans (show _ = some (.int .i64 N : Value) from rfl)
      have r4 := (cell_of_block e6 4).trans (show _ = some (.int .i64 C : Value) from rfl)
      have r5 := (cell_of_block e6 5).trans (show _ = some (.bool (!I) : Value) from rfl)
      have r6 := (cell_of_block e6 6).trans (show _ = some (.bool I : Value) from rfl)
      have q0 := (cell_of_block e7 0).trans (show _ = some (.string ⟨#[]⟩ : Value) from rfl)
      have z0 := free_of_block e7 0
      have q1 := (cell_of_block e7 1).trans (show _ = some (.int .i64 0 : Value) from rfl)
      have z1 := free_of_block e7 1
      have q2 := (cell_of_block e7 2).trans (show _ = some (.string ⟨#[]⟩ : Value) from rfl)
      have z2 := free_of_block e7 2
      have q3 := (cell_of_block e7 3).trans (show _ = some (.int .i64 0 : Value) from rfl)
      have z3 := free_of_block e7 3
      have q4 := (cell_of_block e7 4).trans (show _ = some (.int .i64 0 : Value) from rfl)
      have z4 := free_of_block e7 4
      have q5 := (cell_of_block e7 5).trans (show _ = some (.bool false : Value) from rfl)
      have z5 := free_of_block e7 5
      have q6 := (cell_of_block e7 6).trans (show _ = some (.bool false : Value) from rfl)
      have z6 := free_of_block e7 6
      clear e6
      obtain ⟨F, FB⟩ := setP e7 (.string A) (.int .i64 M) (.string D) (.int .i64 N) (.int .i64 C) (.bool (!I)) (.bool I) rfl
      have k0 := (cell_of_block F 0).trans (show _ = some (.string A : Value) from rfl)
      have k1 := (cell_of_block F 1).trans (show _ = some (.int .i64 M : Value) from rfl)
      have k2 := (cell_of_block F 2).trans (show _ = some (.string D : Value) from rfl)
      have k3 := (cell_of_block F 3).trans (show _ = some (.int .i64 N : Value) from rfl)
      have k4 := (cell_of_block F 4).trans (show _ = some (.int .i64 C : Value) from rfl)
      have k5 := (cell_of_block F 5).trans (show _ = some (.bool (!I) : Value) from rfl)
      have k6 := (cell_of_block F 6).trans (show _ = some (.bool I : Value) from rfl)
      clear F e7
      go_wp2
      refine bodyPost_ret (v := .tuple #[.agg #[.string A, .int .i64 M, .string D, .int .i64 N, .int .i64 C, .bool (!I), .bool I], .int .i64 0]) (by simp [results, Tryd.results31, go_sem, k0, k1, k2, k3, k4, k5, k6]) rfl ⟨rfl, FB _ _ (by omega) hB3.out⟩
    · rw [if_neg hib]
      go_enter Tryd.func31, Tryd.ntmps31
      go_wp2_with fail
      refine (J _).mono ?_
      rintro e w1 ⟨rfl, B1⟩
      have hs := B1.size
      simp at hs
      have hB : Hid (Below w.heap.size w w1) := by unfold Hid; ((repeat (first | refine bel_alloc ?_ _ | refine bel_dN ?_ _ | refine Below.drew ?_ | refine Below.setCell ?_ (by first | (simp; done) | (simp; omega)) _)); refine bel_step ?_ B1; (repeat (first | refine bel_alloc ?_ _ | refine bel_dN ?_ _ | refine Below.drew ?_ | refine Below.setCell ?_ (by first | (simp; done) | (simp; omega)) _)); exact Below.refl _ _)
      have e1 : w1.heap[g + 1]? = some (.cells #[.string ⟨#[]⟩, .int .i64 0, .string ⟨#[]⟩, .int .i64 0, .int .i64 0, .bool false, .bool false] 34 (0, 0)) := by
        rw [← hgs]
        exact (B1.block _ (by simp)).trans (heap_blk (by simp))
      have hl : g + 1 < w1.heap.size := by omega
      have hcb : w1.cell? ⟨bb, 0, none⟩ = some (.bool b) := hB.out.cell hbl.out |>.trans hbc.out
      have hbg : bb < g := by rw [← hgs]; exact hbl.out
      have hbw : bb < w1.heap.size := by omega
      clear B1 J hs
      have hii : (I != b) = true := by simpa using hib
      have hij : (!(I == b)) = true := by simpa using hib
      have q0 := (cell_of_block e1 0).trans (show _ = some (.string ⟨#[]⟩ : Value) from rfl)
      have z0 := free_of_block e1 0
      have q1 := (cell_of_block e1 1).trans (show _ = some (.int .i64 0 : Value) from rfl)
      have z1 := free_of_block e1 1
      have q2 := (cell_of_block e1 2).trans (show _ = some (.string ⟨#[]⟩ : Value) from rfl)
      have z2 := free_of_block e1 2
      have q3 := (cell_of_block e1 3).trans (show _ = some (.int .i64 0 : Value) from rfl)
      have z3 := free_of_block e1 3
      have q4 := (cell_of_block e1 4).trans (show _ = some (.int .i64 0 : Value) from rfl)
      have z4 := free_of_block e1 4
      have q5 := (cell_of_block e1 5).trans (show _ = some (.bool false : Value) from rfl)
      have z5 := free_of_block e1 5
      have q6 := (cell_of_block e1 6).trans (show _ = some (.bool false : Value) from rfl)
      have z6 := free_of_block e1 6
      obtain ⟨F, FB⟩ := setP e1 (.string A) (.int .i64 M) (.string D) (.int .i64 N) (.int .i64 C) (.bool I) (.bool L) rfl
      replace F := heap_old (o := .cells #[.string A, .int .i64 M, .string D, .int .i64 N, .int .i64 C, .bool I, .bool L] 34) F
      have hFB := FB _ _ (show w.heap.size ≤ g + 1 by omega) hB.out
      have k0 := (cell_of_block F 0).trans (show _ = some (.string A : Value) from rfl)
      have k1 := (cell_of_block F 1).trans (show _ = some (.int .i64 M : Value) from rfl)
      have k2 := (cell_of_block F 2).trans (show _ = some (.string D : Value) from rfl)
      have k3 := (cell_of_block F 3).trans (show _ = some (.int .i64 N : Value) from rfl)
      have k4 := (cell_of_block F 4).trans (show _ = some (.int .i64 C : Value) from rfl)
      have k5 := (cell_of_block F 5).trans (show _ = some (.bool I : Value) from rfl)
      have k6 := (cell_of_block F 6).trans (show _ = some (.bool L : Value) from rfl)
      clear F e1
      go_wp2
      refine bodyPost_ret (v := .tuple #[.agg #[.string A, .int .i64 M, .string D, .int .i64 N, .int .i64 C, .bool I, .bool L], .int .i64 4]) (by simp [results, Tryd.results31, go_sem, k0, k1, k2, k3, k4, k5, k6]) rfl ⟨rfl, hFB.alloc hFB.size _⟩

end Go.Proofs.YthboenlfcolinaaDoor
