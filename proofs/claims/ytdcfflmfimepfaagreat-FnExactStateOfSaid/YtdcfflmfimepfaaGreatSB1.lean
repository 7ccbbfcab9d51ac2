/-
  Memories: what is told of them by small functions.
-/
import Derived.Test.YtdcfflmfimepfaaGreatJA2
import Derived.Test.YtdcfflmfimepfaaGreatJA1
import Derived.Test.YtdcfflmfimepfaaGreatJA5
import Derived.Deep.QuietTactic
import Derived.Outline
import Derived.Laws.CopyRow
import Derived.Laws.CopyOwn
import Derived.Laws.IdiomStrings
import Derived.Lib.BufferWrite
import Derived.Lib.Strings
import Derived.Laws.MakeOwn
import Derived.Shelf.LaysM
import Derived.Shelf.Strconv.Clone
import Derived.WalkKit
import Derived.Test.YtdcfflmfimepfaaGreatProg
import Derived.Laws.BytesString
namespace Go.Proofs.YtdcfflmfimepfaaGreat
open Go.RowKit

/-- A memory that is good. -/
def good (M : Int) (D : ByteArray) : Bool := decide (0 ≤ M) && decide (M ≤ 8) && decide ((D.size : Int) % 256 = 0) && decide ((D.size : Int) ≤ M * 256)
theorem good_yes {M : Int} {D : ByteArray} (h : good M D = true) : 0 ≤ M ∧ M ≤ 8 ∧ (D.size : Int) % 256 = 0 ∧ (D.size : Int) ≤ M * 256 := by
  simpa [good, and_assoc] using h
theorem good_small {M : Int} {D : ByteArray} (h : good M D = true) : D.size ≤ 2048 := by
  have := good_yes h; omega

theorem toMemory (M : Int) (D : ByteArray) (w : World) :
    Calls Tryz.prog 39 #[.agg #[.int .i64 M, .string D]] w fun e w' => e = .returned (.agg #[.int .i64 M, .string D]) ∧ Below w.heap.size w w' := by
  go_enter Tryz.func39, Tryz.ntmps39
  go_wp2
  refine bodyPost_ret (v := .agg #[.int .i64 M, .string D]) (by simp [results, Tryz.results39, go_sem]) rfl ⟨rfl, ?_⟩
  (repeat (first | refine Below.alloc ?_ (by first | (simp; done) | (simp; omega)) _ | refine Below.setCell ?_ (by first | (simp; done) | (simp; omega)) _ | refine bel_dN ?_ _ | refine Below.drew ?_ | exact Below.refl _ _))

theorem szMemory_no (M : Int) (D : ByteArray) (h : 1048576 < D.size) (hm : D.size ≤ 9223372036854775807) (w : World) :
    Calls Tryz.prog 32 #[.agg #[.int .i64 M, .string D], .int .i64 1048576] w fun e w' => e = .returned (.int .i64 (-1)) ∧ Below w.heap.size w w' := by
  obtain ⟨n, hn⟩ : ∃ n : Int, (D.size : Int) = n := ⟨_, rfl⟩
  have h1 : wrap64 (1048576 - n) = 1048576 - n := by unfold wrap64; omega
  have h2 : 1048576 - n < 0 := by omega
  clear h hm
  go_enter Tryz.func32, Tryz.ntmps32
  go_wp2
  go_ret
  refine ⟨rfl, ?_⟩
  (repeat (first | refine Below.alloc ?_ (by first | (simp; done) | (simp; omega)) _ | refine Below.setCell ?_ (by first | (simp; done) | (simp; omega)) _ | refine bel_dN ?_ _ | refine Below.drew ?_ | exact Below.refl _ _))

theorem szMemory_yes (M : Int) (D : ByteArray) (h : D.size ≤ 1048576) (w : World) :
    Calls Tryz.prog 32 #[.agg #[.int .i64 M, .string D], .int .i64 1048576] w fun e w' => e = .returned (.int .i64 (1048576 - (D.size : Int))) ∧ Below w.heap.size w w' := by
  obtain ⟨n, hn⟩ : ∃ n : Int, (D.size : Int) = n := ⟨_, rfl⟩
  have h1 : wrap64 (1048576 - n) = 1048576 - n := by unfold wrap64; omega
  have h2 : ¬ 1048576 - n < 0 := by omega
  rw [hn]
  clear h
  go_enter Tryz.func32, Tryz.ntmps32
  go_wp2
  go_ret
  refine ⟨rfl, ?_⟩
  (repeat (first | refine Below.alloc ?_ (by first | (simp; done) | (simp; omega)) _ | refine Below.setCell ?_ (by first | (simp; done) | (simp; omega)) _ | refine bel_dN ?_ _ | refine Below.drew ?_ | exact Below.refl _ _))

theorem eqMemory (M : Int) (D : ByteArray) (w : World) :
    Calls Tryz.prog 25 #[.agg #[.int .i64 M, .string D], .agg #[.int .i64 M, .string D]] w fun e w' => e = .returned (.bool true) ∧ Below w.heap.size w w' := by
  go_enter Tryz.func25, Tryz.ntmps25
  go_wp2
  go_ret
  refine ⟨rfl, ?_⟩
  (repeat (first | refine Below.alloc ?_ (by first | (simp; done) | (simp; omega)) _ | refine Below.setCell ?_ (by first | (simp; done) | (simp; omega)) _ | refine bel_dN ?_ _ | refine Below.drew ?_ | exact Below.refl _ _))

theorem pagesOf (M : Int) (D : ByteArray) (h : D.size ≤ 1048576) (w : World) :
    Calls Tryz.prog 66 #[.agg #[.int .i64 M, .string D]] w fun e w' => e = .returned (.int .i64 ((D.size : Int) / 256)) ∧ Below w.heap.size w w' := by
  obtain ⟨n, hn⟩ : ∃ n : Int, (D.size : Int) = n := ⟨_, rfl⟩
  have h1 : n.tdiv 256 = n / 256 := Int.tdiv_eq_ediv_of_nonneg (by omega)
  have h2 : wrap64 (n / 256) = n / 256 := by unfold wrap64; omega
  rw [hn]
  clear h
  go_enter Tryz.func66, Tryz.ntmps66
  go_wp2
  go_ret
  refine ⟨by show Ending.returned (.int .i64 (wrap64 (n / 256))) = _; rw [h2], ?_⟩
  (repeat (first | refine Below.alloc ?_ (by first | (simp; done) | (simp; omega)) _ | refine Below.setCell ?_ (by first | (simp; done) | (simp; omega)) _ | refine bel_dN ?_ _ | refine Below.drew ?_ | exact Below.refl _ _))

end Go.Proofs.YtdcfflmfimepfaaGreat

namespace Go.Proofs.YtdcfflmfimepfaaGreat
open Go.RowKit

theorem mGoodI_maxLow (M : Int) (D : ByteArray) (h1 : M < 0) (w : World) :
    Calls Tryz.prog 43 #[.agg #[.int .i64 M, .string D]] w fun e w' => e = .returned (.bool false) ∧ Below w.heap.size w w' := by
  have c1 : decide (0 ≤ M) = false := by simp; omega
  obtain ⟨W, hW⟩ : ∃ W, w.alloc (.cells #[.int .i64 M, .string D] 39) = W := ⟨_, rfl⟩
  have H : Hid (Below w.heap.size w W) := by unfold Hid; rw [← hW]; (repeat (first | refine Below.alloc ?_ (by first | (simp; done) | (simp; omega)) _ | refine Below.setCell ?_ (by first | (simp; done) | (simp; omega)) _ | refine bel_dN ?_ _ | refine Below.drew ?_ | exact Below.refl _ _))
  have hs : W.heap.size = w.heap.size + 1 := by rw [← hW]; simp
  obtain ⟨g, hg⟩ : ∃ g, w.heap.size = g := ⟨_, rfl⟩
  have k0 : ∀ w, Keeps W w → w.cell? ⟨g, 0, none⟩ = some (.int .i64 M) := fun w h => h.cell (by omega) (by rw [← hW, ← hg]; simp)
  have k1 : ∀ w, Keeps W w → w.cell? ⟨g, 1, none⟩ = some (.string D) := fun w h => h.cell (by omega) (by rw [← hW, ← hg]; simp)
  clear h1
  go_enter Tryz.func43, Tryz.ntmps43
  go_wp2
  refine region_w (C := Keeps W) (by kernel_rfl) (by kernel_rfl) (Keeps.drew W) ?_
  (iterate 4
    (apply wq_go _ (by rfl)
     · intro wq hq
       go_simp
       first
         | exact rfl
     simp only [Act.put, List.setIfInBounds_toArray, List.set_cons_succ, List.set_cons_zero]))
  (iterate 3 (refine wq_no (by rfl) ?_; simp only [Act.put, List.setIfInBounds_toArray, List.set_cons_succ, List.set_cons_zero]))
  (iterate 2
    (apply wq_go _ (by rfl)
     · intro wq hq
       go_simp
       first
         | exact rfl
     simp only [Act.put, List.setIfInBounds_toArray, List.set_cons_succ, List.set_cons_zero]))
  (iterate 5 (refine wq_no (by rfl) ?_; simp only [Act.put, List.setIfInBounds_toArray, List.set_cons_succ, List.set_cons_zero]))
  (iterate 2
    (apply wq_go _ (by rfl)
     · intro wq hq
       go_simp
       first
         | exact rfl
     simp only [Act.put, List.setIfInBounds_toArray, List.set_cons_succ, List.set_cons_zero]))
  (iterate 5 (refine wq_no (by rfl) ?_; simp only [Act.put, List.setIfInBounds_toArray, List.set_cons_succ, List.set_cons_zero]))
  (iterate 2
    (apply wq_go _ (by rfl)
     · intro wq hq
       go_simp
       first
         | exact rfl
     simp only [Act.put, List.setIfInBounds_toArray, List.set_cons_succ, List.set_cons_zero]))
  refine wq_nil ?_
  intro w1 hk
  have H1 : Hid (Below w.heap.size w w1) := bel_step H.out hk.below
  clear k0 k1
  go_wp2
  go_ret
  exact ⟨rfl, H1.out⟩

theorem mGoodI_maxHigh (M : Int) (D : ByteArray) (h0 : 0 ≤ M) (h1 : 8 < M) (w : World) :
    Calls Tryz.prog 43 #[.agg #[.int .i64 M, .string D]] w fun e w' => e = .returned (.bool false) ∧ Below w.heap.size w w' := by
  have c0 : decide (0 ≤ M) = true := by simp; omega
  have c1 : decide (M ≤ 8) = false := by simp; omega
  obtain ⟨W, hW⟩ : ∃ W, w.alloc (.cells #[.int .i64 M, .string D] 39) = W := ⟨_, rfl⟩
  have H : Hid (Below w.heap.size w W) := by unfold Hid; rw [← hW]; (repeat (first | refine Below.alloc ?_ (by first | (simp; done) | (simp; omega)) _ | refine Below.setCell ?_ (by first | (simp; done) | (simp; omega)) _ | refine bel_dN ?_ _ | refine Below.drew ?_ | exact Below.refl _ _))
  have hs : W.heap.size = w.heap.size + 1 := by rw [← hW]; simp
  obtain ⟨g, hg⟩ : ∃ g, w.heap.size = g := ⟨_, rfl⟩
  have k0 : ∀ w, Keeps W w → w.cell? ⟨g, 0, none⟩ = some (.int .i64 M) := fun w h => h.cell (by omega) (by rw [← hW, ← hg]; simp)
  have k1 : ∀ w, Keeps W w → w.cell? ⟨g, 1, none⟩ = some (.string D) := fun w h => h.cell (by omega) (by rw [← hW, ← hg]; simp)
  clear h1 h0
  go_enter Tryz.func43, Tryz.ntmps43
  go_wp2
  refine region_w (C := Keeps W) (by kernel_rfl) (by kernel_rfl) (Keeps.drew W) ?_
  (iterate 9
    (apply wq_go _ (by rfl)
     · intro wq hq
       go_simp
       first
         | exact rfl
     simp only [Act.put, List.setIfInBounds_toArray, List.set_cons_succ, List.set_cons_zero]))
  (iterate 5 (refine wq_no (by rfl) ?_; simp only [Act.put, List.setIfInBounds_toArray, List.set_cons_succ, List.set_cons_zero]))
  (iterate 2
    (apply wq_go _ (by rfl)
     · intro wq hq
       go_simp
       first
         | exact rfl
     simp only [Act.put, List.setIfInBounds_toArray, List.set_cons_succ, List.set_cons_zero]))
  (iterate 5 (refine wq_no (by rfl) ?_; simp only [Act.put, List.setIfInBounds_toArray, List.set_cons_succ, List.set_cons_zero]))
  (iterate 2
    (apply wq_go _ (by rfl)
     · intro wq hq
       go_simp
       first
         | exact rfl
     simp only [Act.put, List.setIfInBounds_toArray, List.set_cons_succ, List.set_cons_zero]))
  refine wq_nil ?_
  intro w1 hk
  have H1 : Hid (Below w.heap.size w w1) := bel_step H.out hk.below
  clear k0 k1
  go_wp2
  go_ret
  exact ⟨rfl, H1.out⟩

theorem mGoodI_odd (M : Int) (D : ByteArray) (n : Int) (hn : (D.size : Int) = n) (hc : n ≤ 1048576) (h0 : 0 ≤ M) (h1 : M ≤ 8) (h2 : n % 256 ≠ 0) (w : World) :
    Calls Tryz.prog 43 #[.agg #[.int .i64 M, .string D]] w fun e w' => e = .returned (.bool false) ∧ Below w.heap.size w w' := by
  have c0 : decide (0 ≤ M) = true := by simp; omega
  have c1 : decide (M ≤ 8) = true := by simp; omega
  have c2 : n.tmod 256 = n % 256 := Int.tmod_eq_emod_of_nonneg (by omega)
  have c3 : (n % 256 == 0) = false := by simp; omega
  obtain ⟨W, hW⟩ : ∃ W, w.alloc (.cells #[.int .i64 M, .string D] 39) = W := ⟨_, rfl⟩
  have H : Hid (Below w.heap.size w W) := by unfold Hid; rw [← hW]; (repeat (first | refine Below.alloc ?_ (by first | (simp; done) | (simp; omega)) _ | refine Below.setCell ?_ (by first | (simp; done) | (simp; omega)) _ | refine bel_dN ?_ _ | refine Below.drew ?_ | exact Below.refl _ _))
  have hs : W.heap.size = w.heap.size + 1 := by rw [← hW]; simp
  obtain ⟨g, hg⟩ : ∃ g, w.heap.size = g := ⟨_, rfl⟩
  have k0 : ∀ w, Keeps W w → w.cell? ⟨g, 0, none⟩ = some (.int .i64 M) := fun w h => h.cell (by omega) (by rw [← hW, ← hg]; simp)
  have k1 : ∀ w, Keeps W w → w.cell? ⟨g, 1, none⟩ = some (.string D) := fun w h => h.cell (by omega) (by rw [← hW, ← hg]; simp)
  clear h1 h0 h2 hc
  go_enter Tryz.func43, Tryz.ntmps43
  go_wp2
  refine region_w (C := Keeps W) (by kernel_rfl) (by kernel_rfl) (Keeps.drew W) ?_
  (iterate 16
    (apply wq_go _ (by rfl)
     · intro wq hq
       go_simp
       first
         | exact rfl
     simp only [Act.put, List.setIfInBounds_toArray, List.set_cons_succ, List.set_cons_zero]))
  (iterate 5 (refine wq_no (by rfl) ?_; simp only [Act.put, List.setIfInBounds_toArray, List.set_cons_succ, List.set_cons_zero]))
  (iterate 2
    (apply wq_go _ (by rfl)
     · intro wq hq
       go_simp
       first
         | exact rfl
     simp only [Act.put, List.setIfInBounds_toArray, List.set_cons_succ, List.set_cons_zero]))
  refine wq_nil ?_
  intro w1 hk
  have H1 : Hid (Below w.heap.size w w1) := bel_step H.out hk.below
  clear k0 k1
  go_wp2
  go_ret
  exact ⟨rfl, H1.out⟩

theorem mGoodI_last (M : Int) (D : ByteArray) (n : Int) (hn : (D.size : Int) = n) (hc : n ≤ 1048576) (h0 : 0 ≤ M) (h1 : M ≤ 8) (h2 : n % 256 = 0) (r : Bool) (hr : decide (n / 256 ≤ M) = r) (w : World) :
    Calls Tryz.prog 43 #[.agg #[.int .i64 M, .string D]] w fun e w' => e = .returned (.bool r) ∧ Below w.heap.size w w' := by
  have c0 : decide (0 ≤ M) = true := by simp; omega
  have c1 : decide (M ≤ 8) = true := by simp; omega
  have c2 : n.tmod 256 = n % 256 := Int.tmod_eq_emod_of_nonneg (by omega)
  have c3 : (n % 256 == 0) = true := by simp; omega
  have PG := pagesOf M D (by omega)
  rw [hn] at PG
  obtain ⟨W, hW⟩ : ∃ W, w.alloc (.cells #[.int .i64 M, .string D] 39) = W := ⟨_, rfl⟩
  have H : Hid (Below w.heap.size w W) := by unfold Hid; rw [← hW]; (repeat (first | refine Below.alloc ?_ (by first | (simp; done) | (simp; omega)) _ | refine Below.setCell ?_ (by first | (simp; done) | (simp; omega)) _ | refine bel_dN ?_ _ | refine Below.drew ?_ | exact Below.refl _ _))
  have hs : W.heap.size = w.heap.size + 1 := by rw [← hW]; simp
  obtain ⟨g, hg⟩ : ∃ g, w.heap.size = g := ⟨_, rfl⟩
  have k0 : ∀ w, Keeps W w → w.cell? ⟨g, 0, none⟩ = some (.int .i64 M) := fun w h => h.cell (by omega) (by rw [← hW, ← hg]; simp)
  have k1 : ∀ w, Keeps W w → w.cell? ⟨g, 1, none⟩ = some (.string D) := fun w h => h.cell (by omega) (by rw [← hW, ← hg]; simp)
  clear h1 h0 h2 hc
  go_enter Tryz.func43, Tryz.ntmps43
  go_wp2
  refine region_w (C := Keeps W) (by kernel_rfl) (by kernel_rfl) (Keeps.drew W) ?_
  (iterate 23
    (apply wq_go _ (by rfl)
     · intro wq hq
       go_simp
       first
         | (go_at_call 66; exact qcall hq (PG _))
         | exact rfl
     simp only [Act.put, List.setIfInBounds_toArray, List.set_cons_succ, List.set_cons_zero]))
  refine wq_nil ?_
  intro w1 hk
  have H1 : Hid (Below w.heap.size w w1) := bel_step H.out hk.below
  clear k0 k1
  go_wp2
  go_ret
  exact ⟨rfl, H1.out⟩

theorem mGoodI (M : Int) (D : ByteArray) (h : D.size ≤ 1048576) (w : World) :
    Calls Tryz.prog 43 #[.agg #[.int .i64 M, .string D]] w fun e w' => e = .returned (.bool (good M D)) ∧ Below w.heap.size w w' := by
  by_cases h1 : M < 0
  · rw [show good M D = false by simp [good]; omega]; exact mGoodI_maxLow M D h1 w
  · by_cases h2 : 8 < M
    · rw [show good M D = false by simp [good]; omega]; exact mGoodI_maxHigh M D (by omega) h2 w
    · by_cases h3 : (D.size : Int) % 256 = 0
      · exact mGoodI_last M D _ rfl (by omega) (by omega) (by omega) h3 _ (by unfold good; simp only [← Bool.decide_and]; rw [decide_eq_decide]; omega) w
      · rw [show good M D = false by simp [good]; omega]; exact mGoodI_odd M D _ rfl (by omega) (by omega) (by omega) h3 w

theorem mGoodS (M : Int) (D : ByteArray) (h : D.size ≤ 1048576) (w : World) :
    Calls Tryz.prog 57 #[.agg #[.int .i64 M, .string D]] w fun e w' => e = .returned (.bool (good M D)) ∧ Below w.heap.size w w' := by
  obtain ⟨n, hn⟩ : ∃ n : Int, (D.size : Int) = n := ⟨_, rfl⟩
  have hn0 : 0 ≤ n := by omega
  have hn1 : n ≤ 1048576 := by omega
  have c2 : n.tmod 256 = n % 256 := Int.tmod_eq_emod_of_nonneg (by omega)
  by_cases h1 : 0 ≤ M ∧ M ≤ 8
  · have c1 : Hid ((decide (0 ≤ M) && decide (M ≤ 8)) = true) := by simp [Hid, h1]
    have c4 : wrap64 (M * 256) = M * 256 := by unfold wrap64; omega
    by_cases h3 : n % 256 = 0
    · have c3 : (n % 256 == 0) = true := by simp [h3]
      have hr : good M D = decide (n ≤ M * 256) := by unfold good; rw [hn]; simp [h1, h3]
      rw [hr]
      clear hn0 hn1 h1 h hr
      go_enter Tryz.func57, Tryz.ntmps57
      go_wp2_with (go_at_call 36; refine (in_eq M 0 8 true c1 _).mono ?_; rintro e w' ⟨rfl, hw⟩; obtain rfl := hw.symm)
      all_goals go_ret
      all_goals (refine ⟨rfl, ?_⟩; (repeat (first | refine Below.alloc ?_ (by first | (simp; done) | (simp; omega)) _ | refine Below.setCell ?_ (by first | (simp; done) | (simp; omega)) _ | refine bel_dN ?_ _ | refine Below.drew ?_ | exact Below.refl _ _)))
    · have c3 : (n % 256 == 0) = false := by simp [h3]
      rw [show good M D = false by unfold good; rw [hn]; simp [h3]]
      clear hn0 hn1 h1 h
      go_enter Tryz.func57, Tryz.ntmps57
      go_wp2_with (go_at_call 36; refine (in_eq M 0 8 true c1 _).mono ?_; rintro e w' ⟨rfl, hw⟩; obtain rfl := hw.symm)
      all_goals go_ret
      all_goals (refine ⟨rfl, ?_⟩; (repeat (first | refine Below.alloc ?_ (by first | (simp; done) | (simp; omega)) _ | refine Below.setCell ?_ (by first | (simp; done) | (simp; omega)) _ | refine bel_dN ?_ _ | refine Below.drew ?_ | exact Below.refl _ _)))
  · have c1 : Hid ((decide (0 ≤ M) && decide (M ≤ 8)) = false) := by unfold Hid; simp; omega
    rw [show good M D = false by unfold good; rw [hn]; simp; omega]
    clear hn0 hn1 h1 h
    go_enter Tryz.func57, Tryz.ntmps57
    go_wp2_with (go_at_call 36; refine (in_eq M 0 8 false c1 _).mono ?_; rintro e w' ⟨rfl, hw⟩; obtain rfl := hw.symm)
    all_goals go_ret
    all_goals (refine ⟨rfl, ?_⟩; (repeat (first | refine Below.alloc ?_ (by first | (simp; done) | (simp; omega)) _ | refine Below.setCell ?_ (by first | (simp; done) | (simp; omega)) _ | refine bel_dN ?_ _ | refine Below.drew ?_ | exact Below.refl _ _)))

end Go.Proofs.YtdcfflmfimepfaaGreat

namespace Go.Proofs.YtdcfflmfimepfaaGreat
open Go.ChangeShapes Go.WideShapes Go.ChangeAt Go.RowKit

def spNone (p : Int × Int) : Bool := decide (p.1 < 0) || decide (p.2 < 0)
def spIn (n : Int) (p : Int × Int) : Bool := decide (p.2 ≤ n - p.1)
/-- The code of spans in a memory of n bytes that is good or not. -/
def codeOf (g : Bool) (n : Int) (L : List (Int × Int)) : Int := if g = false then 1 else if L.any spNone = true then 1 else if L.all (spIn n) = true then 0 else 2
def spanAt (w : World) (b : Nat) (L : List (Int × Int)) : Prop :=
  ∀ i (h : i < L.length), w.cell? ⟨b, i * 2, none⟩ = some (.int .i64 L[i].1) ∧ w.cell? ⟨b, i * 2 + 1, none⟩ = some (.int .i64 L[i].2)

end Go.Proofs.YtdcfflmfimepfaaGreat

namespace Go.Proofs.YtdcfflmfimepfaaGreat
open Go.RowKit

theorem stored_mark (P : Program) (g o : Nat) (t : TypeId) (lo hi : Nat) : ∀ (vs : List Value) (i : Nat) (cur : Array Value) (w : World),
    w.heap[g]? = some (.cells cur t (lo, hi)) → o + i + vs.length ≤ lo → lo ≤ cur.size → (∀ v ∈ vs, v.oneCell' = true) →
    (storeCells ⟨g, o, none⟩ vs i).run P w = .ok () (w.setRow g (cur.toList.take (o + i) ++ vs ++ cur.toList.drop (o + i + vs.length)).toArray) := by
  intro vs
  induction vs with
  | nil =>
    intro i cur w hg _ _ _
    simp only [storeCells, List.append_nil, List.length_nil, Nat.add_zero, List.take_append_drop, Array.toArray_toList, setRow_self w g cur t (lo, hi) hg]
    rfl
  | cons v rest ih =>
    intro i cur w hg hl hlo h1
    simp only [List.length_cons] at hl
    have ha : (⟨g, o, none⟩ : Addr).add i = ⟨g, o + i, none⟩ := by unfold Addr.add; split <;> simp_all
    have hc : w.cell? ⟨g, o + i, none⟩ = some cur[o + i] := by simp [World.cell?, hg, show o + i < cur.size by omega]
    have hf : w.frozen? ⟨g, o + i, none⟩ = false := by simp [World.frozen?, hg]; omega
    have hs : (store ((⟨g, o, none⟩ : Addr).add i) v).run P w = .ok () (w.setRow g (cur.setIfInBounds (o + i) v)) := by
      rw [ha, run_store P w _ v _ (h1 v (by simp)), hc]
      simp [hf, setCell_eq_setRow w g (o + i) cur t (lo, hi) v hg]
    have hn := ih (i + 1) (cur.setIfInBounds (o + i) v) (w.setRow g (cur.setIfInBounds (o + i) v)) (setRow_heap w g cur _ t _ hg) (by omega) (by simpa using hlo) (fun x hx => h1 x (by simp [hx]))
    simp only [storeCells, Sem.run_bind, hs, Result.andThen_ok, hn, setRow_setRow]
    have e := list_seg_step cur.toList (o + i) v rest (by simp; omega)
    congr 3
    simpa [Array.toList_setIfInBounds, Nat.add_assoc] using e

/-- A string's bytes copied into such a row. -/
theorem copied_mark {P : Program} (w : World) (dT sT ty elem : TypeId) (g o dLen dCap : Nat) (s : ByteArray) (cur : Array Value) (t : TypeId) (lo hi : Nat)
    (hu : P.underlying dT = some (.slice elem)) (hs : (P.info? elem).map (·.size) = some 1) (hg : w.heap[g]? = some (.cells cur t (lo, hi))) (hle : s.size ≤ dLen) (hfit : o + s.size ≤ lo) (hlo : lo ≤ cur.size) :
    (Builtin.copy_ #[dT, sT] ty #[.slice (some ⟨g, o, none⟩) dLen dCap, .string s]).run P w =
      .ok (goInt s.size) (w.setRow g (cur.toList.take o ++ Lib.byteCells s.data.toList ++ cur.toList.drop (o + s.size)).toArray) := by
  have hlen : (Lib.byteCells s.data.toList).length = s.size := by rw [Lib.byteCells_length, ← Lib.size_eq]
  have hst := stored_mark P g o t lo hi (Lib.byteCells s.data.toList) 0 cur w hg (by rw [hlen]; simpa using hfit) hlo (Lib.byteCells_one _)
  have hmin : Nat.min s.size dLen = s.size := Nat.min_eq_left hle
  have htk : List.take s.size (List.map (fun b : UInt8 => Value.int IntKind.u8 (b.toNat : Int)) s.data.toList) = Lib.byteCells s.data.toList := by
    rw [List.take_of_length_le (by rw [List.length_map, ← Lib.size_eq]; exact Nat.le_refl _)]
    rfl
  rw [hlen] at hst
  simp only [Nat.add_zero] at hst
  cases hq : P.info? elem with
  | none => simp [hq] at hs
  | some i =>
    simp [Builtin.copy_, run_underlying hu, Builtin.lenOf, Builtin.firstCells, sizeOf, typeInfo, hq, hmin]
    rw [htk, hst]
    simp [Result.andThen]

/-- Bytes with others laid over them from a place on. -/
def laidOver (D : ByteArray) (a : Nat) (s : ByteArray) : ByteArray := D.extract 0 a ++ s ++ D.extract (a + s.size) D.size
theorem size_laidOver (D : ByteArray) (a : Nat) (s : ByteArray) (h : a + s.size ≤ D.size) : (laidOver D a s).size = D.size := by
  simp [laidOver, ByteArray.size_extract]; omega
theorem data_laidOver (D : ByteArray) (a : Nat) (s : ByteArray) : (laidOver D a s).data.toList = D.data.toList.take a ++ s.data.toList ++ D.data.toList.drop (a + s.size) := by
  have e : ∀ x y, (D.extract x y).data.toList = (D.data.toList.drop x).take (y - x) := fun x y => Lib.extract_data D x y
  simp only [laidOver, ByteArray.data_append, Array.toList_append, e]
  have h2 : (List.drop (a + s.size) D.data.toList).take (D.size - (a + s.size)) = List.drop (a + s.size) D.data.toList :=
    List.take_of_length_le (by rw [List.length_drop, ← Lib.size_eq]; omega)
  rw [h2, List.drop_zero, Nat.sub_zero]
theorem bytesRow_list (s : ByteArray) (cap : Nat) : (bytesRow s cap).toList = Lib.byteCells s.data.toList ++ List.replicate (cap - s.size) (.int .u8 0) := by
  simp [bytesRow, Lib.byteCells]
/-- The row behind such a copy begins with these bytes. -/
theorem row_laidOver (D : ByteArray) (cap a : Nat) (s : ByteArray) (h : a + s.size ≤ D.size) (j : Nat) (hj : j < (laidOver D a s).data.toList.length) :
    ((bytesRow D cap).toList.take a ++ Lib.byteCells s.data.toList ++ (bytesRow D cap).toList.drop (a + s.size)).toArray[j]? = some (.int .u8 ((laidOver D a s).data.toList[j].toNat : Int)) := by
  have hl : (bytesRow D cap).toList.take a ++ Lib.byteCells s.data.toList ++ (bytesRow D cap).toList.drop (a + s.size) = Lib.byteCells (laidOver D a s).data.toList ++ List.replicate (cap - D.size) (.int .u8 0) := by
    rw [bytesRow_list, data_laidOver]
    have h1 : (Lib.byteCells D.data.toList).length = D.size := by rw [Lib.byteCells_length, ← Lib.size_eq]
    rw [List.take_append_of_le_length (by rw [h1]; omega), List.drop_append_of_le_length (by rw [h1]; omega)]
    simp [Lib.byteCells, List.map_take, List.map_drop]
  rw [hl]
  simp only [List.getElem?_toArray]
  rw [List.getElem?_append_left (by rw [Lib.byteCells_length]; exact hj)]
  unfold Lib.byteCells
  rw [List.getElem?_map, List.getElem?_eq_getElem hj]
  rfl

end Go.Proofs.YtdcfflmfimepfaaGreat

namespace Go.Proofs.YtdcfflmfimepfaaGreat
open Go.Shelf

def cloneRen : Go.Shelf.Ren := ⟨fun | 316 => 94 | n => n, fun | 9 => 9 | 3 => 3 | 4 => 4 | 37 => 171 | 0 => 0 | 127 => 172 | 5 => 5 | n => n, fun | n => n⟩
theorem cloneLaid : Go.Proofs.LaysM.n316 Tryz.prog cloneRen := {
  mixed := by kernel_rfl
  f316 := Tryz.func94.trans (congrArg some (by kernel_rfl))
  t0 := Tryz.underlying0
  a0 := Tryz.isAgg0
  z0 := Tryz.sizeOf0
  v0 := Tryz.zeroValue0
  t3 := Tryz.underlying3
  a3 := Tryz.isAgg3
  z3 := Tryz.sizeOf3
  v3 := Tryz.zeroValue3
  t4 := Tryz.underlying4
  a4 := Tryz.isAgg4
  z4 := Tryz.sizeOf4
  v4 := Tryz.zeroValue4
  t9 := Tryz.underlying9
  a9 := Tryz.isAgg9
  z9 := Tryz.sizeOf9
  v9 := Tryz.zeroValue9
  t37 := Tryz.underlying171
  a37 := Tryz.isAgg171
  z37 := Tryz.sizeOf171
  v37 := Tryz.zeroValue171
  t127 := Tryz.underlying172
  a127 := Tryz.isAgg172
  z127 := Tryz.sizeOf172
  v127 := Tryz.zeroValue172
  t5 := Tryz.underlying5
  a5 := Tryz.isAgg5
  z5 := Tryz.sizeOf5
  v5 := Tryz.zeroValue5
  i0 := by kernel_rfl
  i3 := by kernel_rfl
  i4 := by kernel_rfl
  i5 := by kernel_rfl
  i9 := by kernel_rfl
  i37 := by kernel_rfl
  i127 := by kernel_rfl }
theorem liteClone (s : ByteArray) (w : World) (hlim : s.size ≤ 281474976710656) :
    Calls Tryz.prog 94 #[.string s] w fun e w' => e = .returned (.string s) ∧ RowKit.Below w.heap.size w w' := Any.stringslite_Clone cloneLaid s w hlim

open Go.RowKit in
theorem stringsClone (s : ByteArray) (w : World) (hlim : s.size ≤ 281474976710656) :
    Calls Tryz.prog 70 #[.string s] w fun e w' => e = .returned (.string s) ∧ Below w.heap.size w w' := by
  have H := liteClone s
  go_enter Tryz.func70, Tryz.ntmps70
  go_wp2_with (go_at_call 94; refine (H _ hlim).mono ?_; rintro e w' ⟨rfl, hb⟩; clear H)
  go_ret
  exact ⟨rfl, by assumption⟩

end Go.Proofs.YtdcfflmfimepfaaGreat

namespace Go.Proofs.YtdcfflmfimepfaaGreat
open Go.ChangeShapes Go.WideShapes Go.ChangeAt Go.RowKit

theorem asItWas_no (M : Int) (D : ByteArray) (h : D.size ≤ 1048576) (hg : good M D = false) (w : World) :
    Calls Tryz.prog 48 #[.agg #[.int .i64 M, .string D]] w fun e w' => e = .returned (.agg #[.int .i64 0, .string ⟨#[]⟩]) ∧ Below w.heap.size w w' := by
  have HG := mGoodI M D h
  rw [hg] at HG
  obtain ⟨g, hgs⟩ : ∃ g, w.heap.size = g := ⟨_, rfl⟩
  go_enter Tryz.func48, Tryz.ntmps48
  go_wp2_with fail
  refine (HG _).mono ?_
  rintro e w1 ⟨rfl, B1⟩
  have hs := B1.size
  have q0 : w1.cell? ⟨g + 1, 0, none⟩ = some (.int .i64 0) := by rw [B1.cell (p := ⟨g + 1, 0, none⟩) (by simp; omega), ← hgs]; simp
  have q1 : w1.cell? ⟨g + 1, 1, none⟩ = some (.string ⟨#[]⟩) := by rw [B1.cell (p := ⟨g + 1, 1, none⟩) (by simp; omega), ← hgs]; simp
  have z : ∀ j, w1.frozen? ⟨g + 1, j, none⟩ = false := fun j => by rw [B1.frozen (p := ⟨g + 1, j, none⟩) (by simp; omega), ← hgs]; simp
  have z0 := z 0
  have z1 := z 1
  have hB : Hid (Below w.heap.size w w1) := by unfold Hid; ((repeat (first | refine bel_alloc ?_ _ | refine bel_dN ?_ _ | refine Below.drew ?_ | refine Below.setCell ?_ (by first | (simp; done) | (simp; omega)) _)); refine bel_step ?_ B1; (repeat (first | refine bel_alloc ?_ _ | refine bel_dN ?_ _ | refine Below.drew ?_ | refine Below.setCell ?_ (by first | (simp; done) | (simp; omega)) _)); exact Below.refl _ _)
  clear B1 HG z hs
  go_wp2
  refine bodyPost_ret (v := .agg #[.int .i64 0, .string ⟨#[]⟩]) (by simp [results, Tryz.results48, go_sem, q0, q1]) rfl ⟨rfl, ?_⟩
  refine Below.setCell (Below.setCell hB.out ?_ _) ?_ _ <;> simp <;> omega

theorem asItWas_yes (M : Int) (D : ByteArray) (h : D.size ≤ 1048576) (hg : good M D = true) (w : World) :
    Calls Tryz.prog 48 #[.agg #[.int .i64 M, .string D]] w fun e w' => e = .returned (.agg #[.int .i64 M, .string D]) ∧ Below w.heap.size w w' := by
  have HG := mGoodI M D h
  rw [hg] at HG
  have HC : Hid (∀ w, Calls Tryz.prog 70 #[.string D] w fun e w' => e = .returned (.string D) ∧ Below w.heap.size w w') := fun w => stringsClone D w (by omega)
  obtain ⟨g, hgs⟩ : ∃ g, w.heap.size = g := ⟨_, rfl⟩
  go_enter Tryz.func48, Tryz.ntmps48
  go_wp2_with fail
  refine (HG _).mono ?_
  rintro e w1 ⟨rfl, B1⟩
  have hs := B1.size
  simp at hs
  have hB : Hid (Below w.heap.size w w1) := by unfold Hid; ((repeat (first | refine bel_alloc ?_ _ | refine bel_dN ?_ _ | refine Below.drew ?_ | refine Below.setCell ?_ (by first | (simp; done) | (simp; omega)) _)); refine bel_step ?_ B1; (repeat (first | refine bel_alloc ?_ _ | refine bel_dN ?_ _ | refine Below.drew ?_ | refine Below.setCell ?_ (by first | (simp; done) | (simp; omega)) _)); exact Below.refl _ _)
  have k0 : ∀ w, Keeps w1 w → w.cell? ⟨g, 0, none⟩ = some (.int .i64 M) := fun wx h => h.cell (by omega) (by rw [B1.cell (p := ⟨g, 0, none⟩) (by simp; omega), ← hgs]; simp)
  have k1 : ∀ w, Keeps w1 w → w.cell? ⟨g, 1, none⟩ = some (.string D) := fun wx h => h.cell (by omega) (by rw [B1.cell (p := ⟨g, 1, none⟩) (by simp; omega), ← hgs]; simp)
  have k2 : ∀ w, Keeps w1 w → w.cell? ⟨g + 1, 0, none⟩ = some (.int .i64 0) := fun wx h => h.cell (by omega) (by rw [B1.cell (p := ⟨g + 1, 0, none⟩) (by simp; omega), ← hgs]; simp)
  have k3 : ∀ w, Keeps w1 w → w.cell? ⟨g + 1, 1, none⟩ = some (.string ⟨#[]⟩) := fun wx h => h.cell (by omega) (by rw [B1.cell (p := ⟨g + 1, 1, none⟩) (by simp; omega), ← hgs]; simp)
  have z : ∀ w, Keeps w1 w → ∀ j, w.frozen? ⟨g + 1, j, none⟩ = false := fun wx h j => h.frozen (by omega) (by rw [B1.frozen (p := ⟨g + 1, j, none⟩) (by simp; omega), ← hgs]; simp)
  clear B1 HG h hg
  go_wp2_with fail
  refine region_qtail (C := Keeps w1) 6 (by kernel_rfl) (by kernel_rfl) (Keeps.drew w1) ?_
  (iterate 6
    (apply wpQuiet_go _ (by rfl)
     · intro wq hq
       go_simp
       first
         | (go_at_call 70; exact qcall hq (HC.out _))
         | exact rfl
     simp only [Act.put, List.setIfInBounds_toArray, List.set_cons_succ, List.set_cons_zero]))
  refine wpQuiet_nil ?_
  intro w2 hk
  have q2 := k2 _ hk
  have q3 := k3 _ hk
  have z0 := z _ hk 0
  have z1 := z _ hk 1
  have hb := hk.below
  have hs2 := hb.size
  clear k0 k1 k2 k3 z HC hk
  go_wp2
  refine bodyPost_ret (v := .agg #[.int .i64 M, .string D]) (by simp [results, Tryz.results48, go_sem, q2, q3]) rfl ⟨rfl, ?_⟩
  refine Below.setCell (Below.setCell (bel_step hB.out hb) ?_ _) ?_ _ <;> simp <;> omega

end Go.Proofs.YtdcfflmfimepfaaGreat

namespace Go.Proofs.YtdcfflmfimepfaaGreat
open Go.ChangeShapes Go.WideShapes Go.ChangeAt Go.RowKit

/-- Where a cut of n bytes at a lies. -/
def cutAddr (g a n : Nat) : Addr := if n = 0 then ⟨g, 0, none⟩ else ⟨g, a, none⟩
set_option maxRecDepth 100000 in
theorem sliced_cut (g a n cap len : Nat) (h : a + n ≤ cap) (wx : World) :
    (Instr.slice 171 (.slice (some ⟨g, 0, none⟩) len cap) (some (.int .i64 (a : Int))) (some (.int .i64 ((a : Int) + (n : Int)))) (some (.int .i64 ((a : Int) + (n : Int))))).run Tryz.prog wx = .ok (.slice (some (cutAddr g a n)) n n) wx := by
  rw [run_slice_lhm wx 171 (some ⟨g, 0, none⟩) len cap Tryz.underlying171 .i64 .i64 .i64 (a : Int) ((a : Int) + n) ((a : Int) + n) (by omega) (by omega) (by omega) (by omega)]
  have e : ((a : Int) + (n : Int)).toNat = a + n := by omega
  simp only [e, Int.toNat_natCast]
  simp [go_sem, sliced, cutAddr]
  split <;> rfl

theorem infoU8 : (Tryz.prog.info? 5).map (·.size) = some 1 := by kernel_rfl

end Go.Proofs.YtdcfflmfimepfaaGreat

namespace Go.Proofs.YtdcfflmfimepfaaGreat
open Go.ChangeShapes Go.WideShapes Go.ChangeAt Go.RowKit

def zeros (n : Nat) : ByteArray := ⟨Array.replicate n 0⟩
theorem zeros_size (n : Nat) : (zeros n).size = n := by simp [zeros, ByteArray.size]
theorem made_cell (n j : Nat) (h : j < n) : (madeCells (Value.int .u8 0).cells n)[j]? = some (.int .u8 0) := by
  simp [madeCells, Value.cells, h, Nat.mod_one]
theorem made_list (n : Nat) : (madeCells (Value.int .u8 0).cells n).toList = List.replicate n (.int .u8 0) := by
  apply List.ext_getElem?
  intro j
  rw [Array.getElem?_toList]
  by_cases h : j < n
  · rw [made_cell n j h]; simp [h]
  · simp [h, madeCells]
theorem infoU8w : ∃ i0, Tryz.prog.info? 5 = some i0 ∧ i0.zero = some (.int .u8 0) ∧ i0.size = 1 ∧ i0.bytes = 1 := by
  have h : (Tryz.prog.info? 5).map (fun i => (i.zero, i.size, i.bytes)) = some (some (.int .u8 0), 1, 1) := by kernel_rfl
  exact info_parts h
theorem madeU8 (n : Nat) (h : n ≤ 1048576) (W : World) :
    (Instr.makeSlice 171 (.int .i64 (n : Int)) (.int .i64 (n : Int))).run Tryz.prog W = .ok (.slice (some ⟨W.heap.size, 0, none⟩) n n) (W.alloc (.cells (madeCells (Value.int .u8 0).cells n) 5)) := by
  obtain ⟨i0, hi, h0, h1, h2⟩ := infoU8w
  have H := run_make (P := Tryz.prog) W 171 5 i0 (.int .u8 0) Tryz.underlying171 hi h0 .i64 .i64 (n : Int) (n : Int) (by omega) (by omega) (by rw [h2]; omega) (by omega)
  rw [h1] at H
  simpa using H
/-- Such a row told as a string. -/
theorem madeTold (W : World) (g n : Nat) (hr : W.heap[g]? = some (.cells (madeCells (Value.int .u8 0).cells n) 5 (0, 0))) :
    (convert 171 9 (.slice (some ⟨g, 0, none⟩) n n)).run Tryz.prog W = .ok (.string (zeros n)) W := by
  have H := run_convert_bytes_back (P := Tryz.prog) W 171 9 5 ⟨g, 0, none⟩ n (List.replicate n 0) Tryz.underlying171 Tryz.underlying5 Tryz.underlying9 (fun j hj => by
    rw [Addr.add_lit, Nat.zero_add]
    simp only [List.length_replicate] at hj
    simp [World.cell?, hr, made_cell n j hj])
  simp only [List.length_replicate, List.toArray_replicate] at H
  exact H

end Go.Proofs.YtdcfflmfimepfaaGreat

namespace Go.Proofs.YtdcfflmfimepfaaGreat
open Go.ChangeShapes Go.WideShapes Go.ChangeAt Go.RowKit

end Go.Proofs.YtdcfflmfimepfaaGreat

namespace Go.Proofs.YtdcfflmfimepfaaGreat
open Go.ChangeShapes Go.WideShapes Go.ChangeAt Go.RowKit

theorem code1_bad (N a n : Int) : codeOf false N [(a, n)] = 1 := rfl
theorem code1_none (N a n : Int) (h : a < 0 ∨ n < 0) : codeOf true N [(a, n)] = 1 := by
  have : spNone (a, n) = true := by simp [spNone]; omega
  simp [codeOf, this]
theorem code1_out (N a n : Int) (h0 : 0 ≤ a) (h1 : 0 ≤ n) (h : N - a < n) : codeOf true N [(a, n)] = 2 := by
  have e1 : spNone (a, n) = false := by simp [spNone]; omega
  have e2 : spIn N (a, n) = false := by simp [spIn]; omega
  simp [codeOf, e1, e2]
theorem code1_in (N a n : Int) (h0 : 0 ≤ a) (h1 : 0 ≤ n) (h : n ≤ N - a) : codeOf true N [(a, n)] = 0 := by
  have e1 : spNone (a, n) = false := by simp [spNone]; omega
  have e2 : spIn N (a, n) = true := by simp [spIn]; omega
  simp [codeOf, e1, e2]

end Go.Proofs.YtdcfflmfimepfaaGreat

namespace Go.Proofs.YtdcfflmfimepfaaGreat
open Go.ChangeShapes Go.WideShapes Go.ChangeAt Go.RowKit

theorem slice_mem {P : Program} (T : TypeId) (hu : P.underlying T = some .string) (s : ByteArray) (t n : Nat) (h : t + n ≤ s.size) (wx : World) :
    (Instr.slice T (.string s) (some (.int .i64 (t : Int))) (some (.int .i64 ((t : Int) + (n : Int)))) none).run P wx = .ok (.string (s.extract t (t + n))) wx := by
  have H := run_slice_string (P := P) wx T s .i64 .i64 (t : Int) ((t : Int) + (n : Int)) hu (by omega) (by omega) (by omega)
  have e : ((t : Int) + (n : Int)).toNat = t + n := by omega
  rw [e] at H
  exact H

end Go.Proofs.YtdcfflmfimepfaaGreat

namespace Go.Proofs.YtdcfflmfimepfaaGreat
open Go.ChangeShapes Go.WideShapes Go.ChangeAt Go.RowKit

/-- What a refusal tells of a memory. -/
def kept (M : Int) (D : ByteArray) : Int × ByteArray := if good M D = true then (M, D) else (0, ⟨#[]⟩)
theorem asItWas (M : Int) (D : ByteArray) (h : D.size ≤ 1048576) (w : World) :
    Calls Tryz.prog 48 #[.agg #[.int .i64 M, .string D]] w fun e w' => e = .returned (.agg #[.int .i64 (kept M D).1, .string (kept M D).2]) ∧ Below w.heap.size w w' := by
  cases hg : good M D
  · simp only [kept, hg]; exact asItWas_no M D h hg w
  · simp only [kept, hg]; exact asItWas_yes M D h hg w

end Go.Proofs.YtdcfflmfimepfaaGreat

namespace Go.Proofs.YtdcfflmfimepfaaGreat
open Go.ChangeShapes Go.WideShapes Go.ChangeAt Go.RowKit

end Go.Proofs.YtdcfflmfimepfaaGreat
