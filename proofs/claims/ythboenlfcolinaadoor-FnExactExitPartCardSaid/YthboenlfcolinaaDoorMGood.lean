/-
  What a good memory is: both sides.
-/
import Derived.Test.YthboenlfcolinaaDoorMBase
import Derived.Deep.QuietTactic
import Derived.Outline
namespace Go.Proofs.YthboenlfcolinaaDoor
open Go.RowKit

theorem mGoodI_maxLow (M : Int) (D : ByteArray) (h1 : M < 0) (w : World) :
    Calls Tryd.prog 30 #[.agg #[.int .i64 M, .string D]] w fun e w' => e = .returned (.bool false) ∧ Below w.heap.size w w' := by
  have c1 : decide (0 ≤ M) = false := by simp; omega
  obtain ⟨W, hW⟩ : ∃ W, w.alloc (.cells #[.int .i64 M, .string D] 30) = W := ⟨_, rfl⟩
  have H : Hid (Below w.heap.size w W) := by unfold Hid; rw [← hW]; (repeat (first | refine Below.alloc ?_ (by first | (simp; done) | (simp; omega)) _ | refine Below.setCell ?_ (by first | (simp; done) | (simp; omega)) _ | refine bel_dN ?_ _ | refine Below.drew ?_ | exact Below.refl _ _))
  have hs : W.heap.size = w.heap.size + 1 := by rw [← hW]; simp
  obtain ⟨g, hg⟩ : ∃ g, w.heap.size = g := ⟨_, rfl⟩
  have k0 : ∀ w, Keeps W w → w.cell? ⟨g, 0, none⟩ = some (.int .i64 M) := fun w h => h.cell (by omega) (by rw [← hW, ← hg]; simp)
  have k1 : ∀ w, Keeps W w → w.cell? ⟨g, 1, none⟩ = some (.string D) := fun w h => h.cell (by omega) (by rw [← hW, ← hg]; simp)
  clear h1
  go_enter Tryd.func30, Tryd.ntmps30
  go_wp2
  refine region_w (C := Keeps W) (by kernel_rfl) (by kernel_rfl) (Keeps.drew W) ?_
  (iterate 4
    (apply wq_go _ (by rfl)
     · intro wq hq
       go_simp
       first
         | exact rfl
     simp only [Act.put, List.setIfInBounds_toArray, List.set_cons_succ, List.set_cons_zero]))
  (iterate 3 (refine wq_no (by rfl) ?_; simp only [Act.put, List.setIfInBounds_toArray, List.set_cons_succ, List.set_cons_zero]))
  (iterate 2
    (apply wq_go _ (by rfl)
     · intro wq hq
       go_simp
       first
         | exact rfl
     simp only [Act.put, List.setIfInBounds_toArray, List.set_cons_succ, List.set_cons_zero]))
  (iterate 5 (refine wq_no (by rfl) ?_; simp only [Act.put, List.setIfInBounds_toArray, List.set_cons_succ, List.set_cons_zero]))
  (iterate 2
    (apply wq_go _ (by rfl)
     · intro wq hq
       go_simp
       first
         | exact rfl
     simp only [Act.put, List.setIfInBounds_toArray, List.set_cons_succ, List.set_cons_zero]))
  (iterate 5 (refine wq_no (by rfl) ?_; simp only [Act.put, List.setIfInBounds_toArray, List.set_cons_succ, List.set_cons_zero]))
  (iterate 2
    (apply wq_go _ (by rfl)
     · intro wq hq
       go_simp
       first
         | exact rfl
     simp only [Act.put, List.setIfInBounds_toArray, List.set_cons_succ, List.set_cons_zero]))
  refine wq_nil ?_
  intro w1 hk
  have H1 : Hid (Below w.heap.size w w1) := bel_step H.out hk.below
  clear k0 k1
  go_wp2
  go_ret
  exact ⟨rfl, H1.out⟩

theorem mGoodI_maxHigh (M : Int) (D : ByteArray) (h0 : 0 ≤ M) (h1 : 8 < M) (w : World) :
    Calls Tryd.prog 30 #[.agg #[.int .i64 M, .string D]] w fun e w' => e = .returned (.bool false) ∧ Below w.heap.size w w' := by
  have c0 : decide (0 ≤ M) = true := by simp; omega
  have c1 : decide (M ≤ 8) = false := by simp; omega
  obtain ⟨W, hW⟩ : ∃ W, w.alloc (.cells #[.int .i64 M, .string D] 30) = W := ⟨_, rfl⟩
  have H : Hid (Below w.heap.size w W) := by unfold Hid; rw [← hW]; (repeat (first | refine Below.alloc ?_ (by first | (simp; done) | (simp; omega)) _ | refine Below.setCell ?_ (by first | (simp; done) | (simp; omega)) _ | refine bel_dN ?_ _ | refine Below.drew ?_ | exact Below.refl _ _))
  have hs : W.heap.size = w.heap.size + 1 := by rw [← hW]; simp
  obtain ⟨g, hg⟩ : ∃ g, w.heap.size = g := ⟨_, rfl⟩
  have k0 : ∀ w, Keeps W w → w.cell? ⟨g, 0, none⟩ = some (.int .i64 M) := fun w h => h.cell (by omega) (by rw [← hW, ← hg]; simp)
  have k1 : ∀ w, Keeps W w → w.cell? ⟨g, 1, none⟩ = some (.string D) := fun w h => h.cell (by omega) (by rw [← hW, ← hg]; simp)
  clear h1 h0
  go_enter Tryd.func30, Tryd.ntmps30
  go_wp2
  refine region_w (C := Keeps W) (by kernel_rfl) (by kernel_rfl) (Keeps.drew W) ?_
  (iterate 9
    (apply wq_go _ (by rfl)
     · intro wq hq
       go_simp
       first
         | exact rfl
     simp only [Act.put, List.setIfInBounds_toArray, List.set_cons_succ, List.set_cons_zero]))
  (iterate 5 (refine wq_no (by rfl) ?_; simp only [Act.put, List.setIfInBounds_toArray, List.set_cons_succ, List.set_cons_zero]))
  (iterate 2
    (apply wq_go _ (by rfl)
     · intro wq hq
       go_simp
       first
         | exact rfl
     simp only [Act.put, List.setIfInBounds_toArray, List.set_cons_succ, List.set_cons_zero]))
  (iterate 5 (refine wq_no (by rfl) ?_; simp only [Act.put, List.setIfInBounds_toArray, List.set_cons_succ, List.set_cons_zero]))
  (iterate 2
    (apply wq_go _ (by rfl)
     · intro wq hq
       go_simp
       first
         | exact rfl
     simp only [Act.put, List.setIfInBounds_toArray, List.set_cons_succ, List.set_cons_zero]))
  refine wq_nil ?_
  intro w1 hk
  have H1 : Hid (Below w.heap.size w w1) := bel_step H.out hk.below
  clear k0 k1
  go_wp2
  go_ret
  exact ⟨rfl, H1.out⟩

theorem mGoodI_odd (M : Int) (D : ByteArray) (n : Int) (hn : (D.size : Int) = n) (hc : n ≤ 1048576) (h0 : 0 ≤ M) (h1 : M ≤ 8) (h2 : n % 256 ≠ 0) (w : World) :
    Calls Tryd.prog 30 #[.agg #[.int .i64 M, .string D]] w fun e w' => e = .returned (.bool false) ∧ Below w.heap.size w w' := by
  have c0 : decide (0 ≤ M) = true := by simp; omega
  have c1 : decide (M ≤ 8) = true := by simp; omega
  have c2 : n.tmod 256 = n % 256 := Int.tmod_eq_emod_of_nonneg (by omega)
  have c3 : (n % 256 == 0) = false := by simp; omega
  obtain ⟨W, hW⟩ : ∃ W, w.alloc (.cells #[.int .i64 M, .string D] 30) = W := ⟨_, rfl⟩
  have H : Hid (Below w.heap.size w W) := by unfold Hid; rw [← hW]; (repeat (first | refine Below.alloc ?_ (by first | (simp; done) | (simp; omega)) _ | refine Below.setCell ?_ (by first | (simp; done) | (simp; omega)) _ | refine bel_dN ?_ _ | refine Below.drew ?_ | exact Below.refl _ _))
  have hs : W.heap.size = w.heap.size + 1 := by rw [← hW]; simp
  obtain ⟨g, hg⟩ : ∃ g, w.heap.size = g := ⟨_, rfl⟩
  have k0 : ∀ w, Keeps W w → w.cell? ⟨g, 0, none⟩ = some (.int .i64 M) := fun w h => h.cell (by omega) (by rw [← hW, ← hg]; simp)
  have k1 : ∀ w, Keeps W w → w.cell? ⟨g, 1, none⟩ = some (.string D) := fun w h => h.cell (by omega) (by rw [← hW, ← hg]; simp)
  clear h1 h0 h2 hc
  go_enter Tryd.func30, Tryd.ntmps30
  go_wp2
  refine region_w (C := Keeps W) (by kernel_rfl) (by kernel_rfl) (Keeps.drew W) ?_
  (iterate 16
    (apply wq_go _ (by rfl)
     · intro wq hq
       go_simp
       first
         | exact rfl
     simp only [Act.put, List.setIfInBounds_toArray, List.set_cons_succ, List.set_cons_zero]))
  (iterate 5 (refine wq_no (by rfl) ?_; simp only [Act.put, List.setIfInBounds_toArray, List.set_cons_succ, List.set_cons_zero]))
  (iterate 2
    (apply wq_go _ (by rfl)
     · intro wq hq
       go_simp
       first
         | exact rfl
     simp only [Act.put, List.setIfInBounds_toArray, List.set_cons_succ, List.set_cons_zero]))
  refine wq_nil ?_
  intro w1 hk
  have H1 : Hid (Below w.heap.size w w1) := bel_step H.out hk.below
  clear k0 k1
  go_wp2
  go_ret
  exact ⟨rfl, H1.out⟩

theorem mGoodI_last (M : Int) (D : ByteArray) (n : Int) (hn : (D.size : Int) = n) (hc : n ≤ 1048576) (h0 : 0 ≤ M) (h1 : M ≤ 8) (h2 : n % 256 = 0) (r : Bool) (hr : decide (n / 256 ≤ M) = r) (w : World) :
    Calls Tryd.prog 30 #[.agg #[.int .i64 M, .string D]] w fun e w' => e = .returned (.bool r) ∧ Below w.heap.size w w' := by
  have c0 : decide (0 ≤ M) = true := by simp; omega
  have c1 : decide (M ≤ 8) = true := by simp; omega
  have c2 : n.tmod 256 = n % 256 := Int.tmod_eq_emod_of_nonneg (by omega)
  have c3 : (n % 256 == 0) = true := by simp; omega
  have PG := pagesOf M D (by omega)
  rw [hn] at PG
  obtain ⟨W, hW⟩ : ∃ W, w.alloc (.cells #[.int .i64 M, .string D] 30) = W := ⟨_, rfl⟩
  have H : Hid (Below w.heap.size w W) := by unfold Hid; rw [← hW]; (repeat (first | refine Below.alloc ?_ (by first | (simp; done) | (simp; omega)) _ | refine Below.setCell ?_ (by first | (simp; done) | (simp; omega)) _ | refine bel_dN ?_ _ | refine Below.drew ?_ | exact Below.refl _ _))
  have hs : W.heap.size = w.heap.size + 1 := by rw [← hW]; simp
  obtain ⟨g, hg⟩ : ∃ g, w.heap.size = g := ⟨_, rfl⟩
  have k0 : ∀ w, Keeps W w → w.cell? ⟨g, 0, none⟩ = some (.int .i64 M) := fun w h => h.cell (by omega) (by rw [← hW, ← hg]; simp)
  have k1 : ∀ w, Keeps W w → w.cell? ⟨g, 1, none⟩ = some (.string D) := fun w h => h.cell (by omega) (by rw [← hW, ← hg]; simp)
  clear h1 h0 h2 hc
  go_enter Tryd.func30, Tryd.ntmps30
  go_wp2
  refine region_w (C := Keeps W) (by kernel_rfl) (by kernel_rfl) (Keeps.drew W) ?_
  (iterate 23
    (apply wq_go _ (by rfl)
     · intro wq hq
       go_simp
       first
         | (go_at_call 38; exact qcall hq (PG _))
         | exact rfl
     simp only [Act.put, List.setIfInBounds_toArray, List.set_cons_succ, List.set_cons_zero]))
  refine wq_nil ?_
  intro w1 hk
  have H1 : Hid (Below w.heap.size w w1) := bel_step H.out hk.below
  clear k0 k1
  go_wp2
  go_ret
  exact ⟨rfl, H1.out⟩

theorem mGoodI (M : Int) (D : ByteArray) (h : D.size ≤ 1048576) (w : World) :
    Calls Tryd.prog 30 #[.agg #[.int .i64 M, .string D]] w fun e w' => e = .returned (.bool (good M D)) ∧ Below w.heap.size w w' := by
  by_cases h1 : M < 0
  · rw [show good M D = false by simp [good]; omega]; exact mGoodI_maxLow M D h1 w
  · by_cases h2 : 8 < M
    · rw [show good M D = false by simp [good]; omega]; exact mGoodI_maxHigh M D (by omega) h2 w
    · by_cases h3 : (D.size : Int) % 256 = 0
      · exact mGoodI_last M D _ rfl (by omega) (by omega) (by omega) h3 _ (by unfold good; simp only [← Bool.decide_and]; rw [decide_eq_decide]; omega) w
      · rw [show good M D = false by simp [good]; omega]; exact mGoodI_odd M D _ rfl (by omega) (by omega) (by omega) h3 w

theorem mGoodS (M : Int) (D : ByteArray) (h : D.size ≤ 1048576) (w : World) :
    Calls Tryd.prog 27 #[.agg #[.int .i64 M, .string D]] w fun e w' => e = .returned (.bool (good M D)) ∧ Below w.heap.size w w' := by
  obtain ⟨n, hn⟩ : ∃ n : Int, (D.size : Int) = n := ⟨_, rfl⟩
  have hn0 : 0 ≤ n := by omega
  have hn1 : n ≤ 1048576 := by omega
  have c2 : n.tmod 256 = n % 256 := Int.tmod_eq_emod_of_nonneg (by omega)
  by_cases h1 : 0 ≤ M ∧ M ≤ 8
  · have c1 : Hid ((decide (0 ≤ M) && decide (M ≤ 8)) = true) := by simp [Hid, h1]
    have c4 : wrap64 (M * 256) = M * 256 := by unfold wrap64; omega
    by_cases h3 : n % 256 = 0
    · have c3 : (n % 256 == 0) = true := by simp [h3]
      have hr : good M D = decide (n ≤ M * 256) := by unfold good; rw [hn]; simp [h1, h3]
      rw [hr]
      clear hn0 hn1 h1 h hr
      go_enter Tryd.func27, Tryd.ntmps27
      go_wp2_with (go_at_call 26; refine (in_eq M 0 8 true c1 _).mono ?_; rintro e w' ⟨rfl, hw⟩; obtain rfl := hw.symm)
      all_goals go_ret
      all_goals (refine ⟨rfl, ?_⟩; (repeat (first | refine Below.alloc ?_ (by first | (simp; done) | (simp; omega)) _ | refine Below.setCell ?_ (by first | (simp; done) | (simp; omega)) _ | refine bel_dN ?_ _ | refine Below.drew ?_ | exact Below.refl _ _)))
    · have c3 : (n % 256 == 0) = false := by simp [h3]
      rw [show good M D = false by unfold good; rw [hn]; simp [h3]]
      clear hn0 hn1 h1 h
      go_enter Tryd.func27, Tryd.ntmps27
      go_wp2_with (go_at_call 26; refine (in_eq M 0 8 true c1 _).mono ?_; rintro e w' ⟨rfl, hw⟩; obtain rfl := hw.symm)
      all_goals go_ret
      all_goals (refine ⟨rfl, ?_⟩; (repeat (first | refine Below.alloc ?_ (by first | (simp; done) | (simp; omega)) _ | refine Below.setCell ?_ (by first | (simp; done) | (simp; omega)) _ | refine bel_dN ?_ _ | refine Below.drew ?_ | exact Below.refl _ _)))
  · have c1 : Hid ((decide (0 ≤ M) && decide (M ≤ 8)) = false) := by unfold Hid; simp; omega
    rw [show good M D = false by unfold good; rw [hn]; simp; omega]
    clear hn0 hn1 h1 h
    go_enter Tryd.func27, Tryd.ntmps27
    go_wp2_with (go_at_call 26; refine (in_eq M 0 8 false c1 _).mono ?_; rintro e w' ⟨rfl, hw⟩; obtain rfl := hw.symm)
    all_goals go_ret
    all_goals (refine ⟨rfl, ?_⟩; (repeat (first | refine Below.alloc ?_ (by first | (simp; done) | (simp; omega)) _ | refine Below.setCell ?_ (by first | (simp; done) | (simp; omega)) _ | refine bel_dN ?_ _ | refine Below.drew ?_ | exact Below.refl _ _)))

end Go.Proofs.YthboenlfcolinaaDoor
