/-
  Memories: what is told of them by small functions.
-/
import Derived.Test.YtbliopgdkphoaaaIn
import Derived.Test.YtbliopgdkphoaaaBel
import Derived.Test.YtbliopgdkphoaaaQHide
import Derived.Deep.QuietTactic
import Derived.Outline
import Derived.Laws.CopyRow
import Derived.Laws.CopyOwn
import Derived.Laws.IdiomStrings
import Derived.Lib.BufferWrite
import Derived.Lib.Strings
import Derived.Laws.MakeOwn
import Derived.Shelf.LaysM
import Derived.Shelf.Strconv.Clone
import Derived.WalkKit
import Derived.Test.YtbliopgdkphoaaaProg
import Derived.Laws.BytesString
import Derived.Test.YtbliopgdkphoaaaKeep
namespace Go.Proofs.Ytbliopgdkphoaaa
open Go.RowKit

/-- A memory that is good. -/
def good (M : Int) (D : ByteArray) : Bool := decide (0 ≤ M) && decide (M ≤ 8) && decide ((D.size : Int) % 256 = 0) && decide ((D.size : Int) ≤ M * 256)
theorem good_yes {M : Int} {D : ByteArray} (h : good M D = true) : 0 ≤ M ∧ M ≤ 8 ∧ (D.size : Int) % 256 = 0 ∧ (D.size : Int) ≤ M * 256 := by
  simpa [good, and_assoc] using h
theorem good_small {M : Int} {D : ByteArray} (h : good M D = true) : D.size ≤ 2048 := by
  have := good_yes h; omega

theorem toMemory (M : Int) (D : ByteArray) (w : World) :
    Calls Try.prog 58 #[.agg #[.int .i64 M, .string D]] w fun e w' => e = .returned (.agg #[.int .i64 M, .string D]) ∧ Below w.heap.size w w' := by
  go_enter Try.func58, Try.ntmps58
  go_wp2
  refine bodyPost_ret (v := .agg #[.int .i64 M, .string D]) (by simp [results, Try.results58, go_sem]) rfl ⟨rfl, ?_⟩
  (repeat (first | refine Below.alloc ?_ (by first | (simp; done) | (simp; omega)) _ | refine Below.setCell ?_ (by first | (simp; done) | (simp; omega)) _ | refine bel_dN ?_ _ | refine Below.drew ?_ | exact Below.refl _ _))

theorem szMemory_no (M : Int) (D : ByteArray) (h : 1048576 < D.size) (hm : D.size ≤ 9223372036854775807) (w : World) :
    Calls Try.prog 54 #[.agg #[.int .i64 M, .string D], .int .i64 1048576] w fun e w' => e = .returned (.int .i64 (-1)) ∧ Below w.heap.size w w' := by
  obtain ⟨n, hn⟩ : ∃ n : Int, (D.size : Int) = n := ⟨_, rfl⟩
  have h1 : wrap64 (1048576 - n) = 1048576 - n := by unfold wrap64; omega
  have h2 : 1048576 - n < 0 := by omega
  clear h hm
  go_enter Try.func54, Try.ntmps54
  go_wp2
  go_ret
  refine ⟨rfl, ?_⟩
  (repeat (first | refine Below.alloc ?_ (by first | (simp; done) | (simp; omega)) _ | refine Below.setCell ?_ (by first | (simp; done) | (simp; omega)) _ | refine bel_dN ?_ _ | refine Below.drew ?_ | exact Below.refl _ _))

theorem szMemory_yes (M : Int) (D : ByteArray) (h : D.size ≤ 1048576) (w : World) :
    Calls Try.prog 54 #[.agg #[.int .i64 M, .string D], .int .i64 1048576] w fun e w' => e = .returned (.int .i64 (1048576 - (D.size : Int))) ∧ Below w.heap.size w w' := by
  obtain ⟨n, hn⟩ : ∃ n : Int, (D.size : Int) = n := ⟨_, rfl⟩
  have h1 : wrap64 (1048576 - n) = 1048576 - n := by unfold wrap64; omega
  have h2 : ¬ 1048576 - n < 0 := by omega
  rw [hn]
  clear h
  go_enter Try.func54, Try.ntmps54
  go_wp2
  go_ret
  refine ⟨rfl, ?_⟩
  (repeat (first | refine Below.alloc ?_ (by first | (simp; done) | (simp; omega)) _ | refine Below.setCell ?_ (by first | (simp; done) | (simp; omega)) _ | refine bel_dN ?_ _ | refine Below.drew ?_ | exact Below.refl _ _))

theorem eqMemory (M : Int) (D : ByteArray) (w : World) :
    Calls Try.prog 48 #[.agg #[.int .i64 M, .string D], .agg #[.int .i64 M, .string D]] w fun e w' => e = .returned (.bool true) ∧ Below w.heap.size w w' := by
  go_enter Try.func48, Try.ntmps48
  go_wp2
  go_ret
  refine ⟨rfl, ?_⟩
  (repeat (first | refine Below.alloc ?_ (by first | (simp; done) | (simp; omega)) _ | refine Below.setCell ?_ (by first | (simp; done) | (simp; omega)) _ | refine bel_dN ?_ _ | refine Below.drew ?_ | exact Below.refl _ _))

theorem pagesOf (M : Int) (D : ByteArray) (h : D.size ≤ 1048576) (w : World) :
    Calls Try.prog 86 #[.agg #[.int .i64 M, .string D]] w fun e w' => e = .returned (.int .i64 ((D.size : Int) / 256)) ∧ Below w.heap.size w w' := by
  obtain ⟨n, hn⟩ : ∃ n : Int, (D.size : Int) = n := ⟨_, rfl⟩
  have h1 : n.tdiv 256 = n / 256 := Int.tdiv_eq_ediv_of_nonneg (by omega)
  have h2 : wrap64 (n / 256) = n / 256 := by unfold wrap64; omega
  rw [hn]
  clear h
  go_enter Try.func86, Try.ntmps86
  go_wp2
  go_ret
  refine ⟨by show Ending.returned (.int .i64 (wrap64 (n / 256))) = _; rw [h2], ?_⟩
  (repeat (first | refine Below.alloc ?_ (by first | (simp; done) | (simp; omega)) _ | refine Below.setCell ?_ (by first | (simp; done) | (simp; omega)) _ | refine bel_dN ?_ _ | refine Below.drew ?_ | exact Below.refl _ _))

end Go.Proofs.Ytbliopgdkphoaaa

namespace Go.Proofs.Ytbliopgdkphoaaa
open Go.RowKit

theorem mGoodI_maxLow (M : Int) (D : ByteArray) (h1 : M < 0) (w : World) :
    Calls Try.prog 60 #[.agg #[.int .i64 M, .string D]] w fun e w' => e = .returned (.bool false) ∧ Below w.heap.size w w' := by
  have c1 : decide (0 ≤ M) = false := by simp; omega
  obtain ⟨W, hW⟩ : ∃ W, w.alloc (.cells #[.int .i64 M, .string D] 43) = W := ⟨_, rfl⟩
  have H : Hid (Below w.heap.size w W) := by unfold Hid; rw [← hW]; (repeat (first | refine Below.alloc ?_ (by first | (simp; done) | (simp; omega)) _ | refine Below.setCell ?_ (by first | (simp; done) | (simp; omega)) _ | refine bel_dN ?_ _ | refine Below.drew ?_ | exact Below.refl _ _))
  have hs : W.heap.size = w.heap.size + 1 := by rw [← hW]; simp
  obtain ⟨g, hg⟩ : ∃ g, w.heap.size = g := ⟨_, rfl⟩
  have k0 : ∀ w, Keeps W w → w.cell? ⟨g, 0, none⟩ = some (.int .i64 M) := fun w h => h.cell (by omega) (by rw [← hW, ← hg]; simp)
  have k1 : ∀ w, Keeps W w → w.cell? ⟨g, 1, none⟩ = some (.string D) := fun w h => h.cell (by omega) (by rw [← hW, ← hg]; simp)
  clear h1
  go_enter Try.func60, Try.ntmps60
  go_wp2
  refine region_w (C := Keeps W) (by kernel_rfl) (by kernel_rfl) (Keeps.drew W) ?_
  (iterate 4
    (apply wq_go _ (by rfl)
     · intro wq hq
       go_simp
       first
         | exact rfl
     simp only [Act.put, List.setIfInBounds_toArray, List.set_cons_succ, List.set_cons_zero]))
  (iterate 3 (refine wq_no (by rfl) ?_; simp only [Act.put, List.setIfInBounds_toArray, List.set_cons_succ, List.set_cons_zero]))
  (iterate 2
    (apply wq_go _ (by rfl)
     · intro wq hq
       go_simp
       first
         | exact rfl
     simp only [Act.put, List.setIfInBounds_toArray, List.set_cons_succ, List.set_cons_zero]))
  (iterate 5 (refine wq_no (by rfl) ?_; simp only [Act.put, List.setIfInBounds_toArray, List.set_cons_succ, List.set_cons_zero]))
  (iterate 2
    (apply wq_go _ (by rfl)
     · intro wq hq
       go_simp
       first
         | exact rfl
     simp only [Act.put, List.setIfInBounds_toArray, List.set_cons_succ, List.set_cons_zero]))
  (iterate 5 (refine wq_no (by rfl) ?_; simp only [Act.put, List.setIfInBounds_toArray, List.set_cons_succ, List.set_cons_zero]))
  (iterate 2
    (apply wq_go _ (by rfl)
     · intro wq hq
       go_simp
       first
         | exact rfl
     simp only [Act.put, List.setIfInBounds_toArray, List.set_cons_succ, List.set_cons_zero]))
  refine wq_nil ?_
  intro w1 hk
  have H1 : Hid (Below w.heap.size w w1) := bel_step H.out hk.below
  clear k0 k1
  go_wp2
  go_ret
  exact ⟨rfl, H1.out⟩

theorem mGoodI_maxHigh (M : Int) (D : ByteArray) (h0 : 0 ≤ M) (h1 : 8 < M) (w : World) :
    Calls Try.prog 60 #[.agg #[.int .i64 M, .string D]] w fun e w' => e = .returned (.bool false) ∧ Below w.heap.size w w' := by
  have c0 : decide (0 ≤ M) = true := by simp; omega
  have c1 : decide (M ≤ 8) = false := by simp; omega
  obtain ⟨W, hW⟩ : ∃ W, w.alloc (.cells #[.int .i64 M, .string D] 43) = W := ⟨_, rfl⟩
  have H : Hid (Below w.heap.size w W) := by unfold Hid; rw [← hW]; (repeat (first | refine Below.alloc ?_ (by first | (simp; done) | (simp; omega)) _ | refine Below.setCell ?_ (by first | (simp; done) | (simp; omega)) _ | refine bel_dN ?_ _ | refine Below.drew ?_ | exact Below.refl _ _))
  have hs : W.heap.size = w.heap.size + 1 := by rw [← hW]; simp
  obtain ⟨g, hg⟩ : ∃ g, w.heap.size = g := ⟨_, rfl⟩
  have k0 : ∀ w, Keeps W w → w.cell? ⟨g, 0, none⟩ = some (.int .i64 M) := fun w h => h.cell (by omega) (by rw [← hW, ← hg]; simp)
  have k1 : ∀ w, Keeps W w → w.cell? ⟨g, 1, none⟩ = some (.string D) := fun w h => h.cell (by omega) (by rw [← hW, ← hg]; simp)
  clear h1 h0
  go_enter Try.func60, Try.ntmps60
  go_wp2
  refine region_w (C := Keeps W) (by kernel_rfl) (by kernel_rfl) (Keeps.drew W) ?_
  (iterate 9
    (apply wq_go _ (by rfl)
     · intro wq hq
       go_simp
       first
         | exact rfl
     simp only [Act.put, List.setIfInBounds_toArray, List.set_cons_succ, List.set_cons_zero]))
  (iterate 5 (refine wq_no (by rfl) ?_; simp only [Act.put, List.setIfInBounds_toArray, List.set_cons_succ, List.set_cons_zero]))
  (iterate 2
    (apply wq_go _ (by rfl)
     · intro wq hq
       go_simp
       first
         | exact rfl
     simp only [Act.put, List.setIfInBounds_toArray, List.set_cons_succ, List.set_cons_zero]))
  (iterate 5 (refine wq_no (by rfl) ?_; simp only [Act.put, List.setIfInBounds_toArray, List.set_cons_succ, List.set_cons_zero]))
  (iterate 2
    (apply wq_go _ (by rfl)
     · intro wq hq
       go_simp
       first
         | exact rfl
     simp only [Act.put, List.setIfInBounds_toArray, List.set_cons_succ, List.set_cons_zero]))
  refine wq_nil ?_
  intro w1 hk
  have H1 : Hid (Below w.heap.size w w1) := bel_step H.out hk.below
  clear k0 k1
  go_wp2
  go_ret
  exact ⟨rfl, H1.out⟩

theorem mGoodI_odd (M : Int) (D : ByteArray) (n : Int) (hn : (D.size : Int) = n) (hc : n ≤ 1048576) (h0 : 0 ≤ M) (h1 : M ≤ 8) (h2 : n % 256 ≠ 0) (w : World) :
    Calls Try.prog 60 #[.agg #[.int .i64 M, .string D]] w fun e w' => e = .returned (.bool false) ∧ Below w.heap.size w w' := by
  have c0 : decide (0 ≤ M) = true := by simp; omega
  have c1 : decide (M ≤ 8) = true := by simp; omega
  have c2 : n.tmod 256 = n % 256 := Int.tmod_eq_emod_of_nonneg (by omega)
  have c3 : (n % 256 == 0) = false := by simp; omega
  obtain ⟨W, hW⟩ : ∃ W, w.alloc (.cells #[.int .i64 M, .string D] 43) = W := ⟨_, rfl⟩
  have H : Hid (Below w.heap.size w W) := by unfold Hid; rw [← hW]; (repeat (first | refine Below.alloc ?_ (by first | (simp; done) | (simp; omega)) _ | refine Below.setCell ?_ (by first | (simp; done) | (simp; omega)) _ | refine bel_dN ?_ _ | refine Below.drew ?_ | exact Below.refl _ _))
  have hs : W.heap.size = w.heap.size + 1 := by rw [← hW]; simp
  obtain ⟨g, hg⟩ : ∃ g, w.heap.size = g := ⟨_, rfl⟩
  have k0 : ∀ w, Keeps W w → w.cell? ⟨g, 0, none⟩ = some (.int .i64 M) := fun w h => h.cell (by omega) (by rw [← hW, ← hg]; simp)
  have k1 : ∀ w, Keeps W w → w.cell? ⟨g, 1, none⟩ = some (.string D) := fun w h => h.cell (by omega) (by rw [← hW, ← hg]; simp)
  clear h1 h0 h2 hc
  go_enter Try.func60, Try.ntmps60
  go_wp2
  refine region_w (C := Keeps W) (by kernel_rfl) (by kernel_rfl) (Keeps.drew W) ?_
  (iterate 16
    (apply wq_go _ (by rfl)
     · intro wq hq
       go_simp
       first
         | exact rfl
     simp only [Act.put, List.setIfInBounds_toArray, List.set_cons_succ, List.set_cons_zero]))
  (iterate 5 (refine wq_no (by rfl) ?_; simp only [Act.put, List.setIfInBounds_toArray, List.set_cons_succ, List.set_cons_zero]))
  (iterate 2
    (apply wq_go _ (by rfl)
     · intro wq hq
       go_simp
       first
         | exact rfl
     simp only [Act.put, List.setIfInBounds_toArray, List.set_cons_succ, List.set_cons_zero]))
  refine wq_nil ?_
  intro w1 hk
  have H1 : Hid (Below w.heap.size w w1) := bel_step H.out hk.below
  clear k0 k1
  go_wp2
  go_ret
  exact ⟨rfl, H1.out⟩

theorem mGoodI_last (M : Int) (D : ByteArray) (n : Int) (hn : (D.size : Int) = n) (hc : n ≤ 1048576) (h0 : 0 ≤ M) (h1 : M ≤ 8) (h2 : n % 256 = 0) (r : Bool) (hr : decide (n / 256 ≤ M) = r) (w : World) :
    Calls Try.prog 60 #[.agg #[.int .i64 M, .string D]] w fun e w' => e = .returned (.bool r) ∧ Below w.heap.size w w' := by
  have c0 : decide (0 ≤ M) = true := by simp; omega
  have c1 : decide (M ≤ 8) = true := by simp; omega
  have c2 : n.tmod 256 = n % 256 := Int.tmod_eq_emod_of_nonneg (by omega)
  have c3 : (n % 256 == 0) = true := by simp; omega
  have PG := pagesOf M D (by omega)
  rw [hn] at PG
  obtain ⟨W, hW⟩ : ∃ W, w.alloc (.cells #[.int .i64 M, .string D] 43) = W := ⟨_, rfl⟩
  have H : Hid (Below w.heap.size w W) := by unfold Hid; rw [← hW]; (repeat (first | refine Below.alloc ?_ (by first | (simp; done) | (simp; omega)) _ | refine Below.setCell ?_ (by first | (simp; done) | (simp; omega)) _ | refine bel_dN ?_ _ | refine Below.drew ?_ | exact Below.refl _ _))
  have hs : W.heap.size = w.heap.size + 1 := by rw [← hW]; simp
  obtain ⟨g, hg⟩ : ∃ g, w.heap.size = g := ⟨_, rfl⟩
  have k0 : ∀ w, Keeps W w → w.cell? ⟨g, 0, none⟩ = some (.int .i64 M) := fun w h => h.cell (by omega) (by rw [← hW, ← hg]; simp)
  have k1 : ∀ w, Keeps W w → w.cell? ⟨g, 1, none⟩ = some (.string D) := fun w h => h.cell (by omega) (by rw [← hW, ← hg]; simp)
  clear h1 h0 h2 hc
  go_enter Try.func60, Try.ntmps60
  go_wp2
  refine region_w (C := Keeps W) (by kernel_rfl) (by kernel_rfl) (Keeps.drew W) ?_
  (iterate 23
    (apply wq_go _ (by rfl)
     · intro wq hq
       go_simp
       first
         | (go_at_call 86; exact qcall hq (PG _))
         | exact rfl
     simp only [Act.put, List.setIfInBounds_toArray, List.set_cons_succ, List.set_cons_zero]))
  refine wq_nil ?_
  intro w1 hk
  have H1 : Hid (Below w.heap.size w w1) := bel_step H.out hk.below
  clear k0 k1
  go_wp2
  go_ret
  exact ⟨rfl, H1.out⟩

theorem mGoodI (M : Int) (D : ByteArray) (h : D.size ≤ 1048576) (w : World) :
    Calls Try.prog 60 #[.agg #[.int .i64 M, .string D]] w fun e w' => e = .returned (.bool (good M D)) ∧ Below w.heap.size w w' := by
  by_cases h1 : M < 0
  · rw [show good M D = false by simp [good]; omega]; exact mGoodI_maxLow M D h1 w
  · by_cases h2 : 8 < M
    · rw [show good M D = false by simp [good]; omega]; exact mGoodI_maxHigh M D (by omega) h2 w
    · by_cases h3 : (D.size : Int) % 256 = 0
      · exact mGoodI_last M D _ rfl (by omega) (by omega) (by omega) h3 _ (by unfold good; simp only [← Bool.decide_and]; rw [decide_eq_decide]; omega) w
      · rw [show good M D = false by simp [good]; omega]; exact mGoodI_odd M D _ rfl (by omega) (by omega) (by omega) h3 w

theorem mGoodS (M : Int) (D : ByteArray) (h : D.size ≤ 1048576) (w : World) :
    Calls Try.prog 57 #[.agg #[.int .i64 M, .string D]] w fun e w' => e = .returned (.bool (good M D)) ∧ Below w.heap.size w w' := by
  obtain ⟨n, hn⟩ : ∃ n : Int, (D.size : Int) = n := ⟨_, rfl⟩
  have hn0 : 0 ≤ n := by omega
  have hn1 : n ≤ 1048576 := by omega
  have c2 : n.tmod 256 = n % 256 := Int.tmod_eq_emod_of_nonneg (by omega)
  by_cases h1 : 0 ≤ M ∧ M ≤ 8
  · have c1 : Hid ((decide (0 ≤ M) && decide (M ≤ 8)) = true) := by simp [Hid, h1]
    have c4 : wrap64 (M * 256) = M * 256 := by unfold wrap64; omega
    by_cases h3 : n % 256 = 0
    · have c3 : (n % 256 == 0) = true := by simp [h3]
      have hr : good M D = decide (n ≤ M * 256) := by unfold good; rw [hn]; simp [h1, h3]
      rw [hr]
      clear hn0 hn1 h1 h hr
      go_enter Try.func57, Try.ntmps57
      go_wp2_with (go_at_call 32; refine (in_eq M 0 8 true c1 _).mono ?_; rintro e w' ⟨rfl, hw⟩; obtain rfl := hw.symm)
      all_goals go_ret
      all_goals (refine ⟨rfl, ?_⟩; (repeat (first | refine Below.alloc ?_ (by first | (simp; done) | (simp; omega)) _ | refine Below.setCell ?_ (by first | (simp; done) | (simp; omega)) _ | refine bel_dN ?_ _ | refine Below.drew ?_ | exact Below.refl _ _)))
    · have c3 : (n % 256 == 0) = false := by simp [h3]
      rw [show good M D = false by unfold good; rw [hn]; simp [h3]]
      clear hn0 hn1 h1 h
      go_enter Try.func57, Try.ntmps57
      go_wp2_with (go_at_call 32; refine (in_eq M 0 8 true c1 _).mono ?_; rintro e w' ⟨rfl, hw⟩; obtain rfl := hw.symm)
      all_goals go_ret
      all_goals (refine ⟨rfl, ?_⟩; (repeat (first | refine Below.alloc ?_ (by first | (simp; done) | (simp; omega)) _ | refine Below.setCell ?_ (by first | (simp; done) | (simp; omega)) _ | refine bel_dN ?_ _ | refine Below.drew ?_ | exact Below.refl _ _)))
  · have c1 : Hid ((decide (0 ≤ M) && decide (M ≤ 8)) = false) := by unfold Hid; simp; omega
    rw [show good M D = false by unfold good; rw [hn]; simp; omega]
    clear hn0 hn1 h1 h
    go_enter Try.func57, Try.ntmps57
    go_wp2_with (go_at_call 32; refine (in_eq M 0 8 false c1 _).mono ?_; rintro e w' ⟨rfl, hw⟩; obtain rfl := hw.symm)
    all_goals go_ret
    all_goals (refine ⟨rfl, ?_⟩; (repeat (first | refine Below.alloc ?_ (by first | (simp; done) | (simp; omega)) _ | refine Below.setCell ?_ (by first | (simp; done) | (simp; omega)) _ | refine bel_dN ?_ _ | refine Below.drew ?_ | exact Below.refl _ _)))

end Go.Proofs.Ytbliopgdkphoaaa

namespace Go.Proofs.Ytbliopgdkphoaaa
open Go.ChangeShapes Go.WideShapes Go.ChangeAt Go.RowKit

def spNone (p : Int × Int) : Bool := decide (p.1 < 0) || decide (p.2 < 0)
def spIn (n : Int) (p : Int × Int) : Bool := decide (p.2 ≤ n - p.1)
/-- The code of spans in a memory of n bytes that is good or not. -/
def codeOf (g : Bool) (n : Int) (L : List (Int × Int)) : Int := if g = false then 1 else if L.any spNone = true then 1 else if L.all (spIn n) = true then 0 else 2
def spanAt (w : World) (b : Nat) (L : List (Int × Int)) : Prop :=
  ∀ i (h : i < L.length), w.cell? ⟨b, i * 2, none⟩ = some (.int .i64 L[i].1) ∧ w.cell? ⟨b, i * 2 + 1, none⟩ = some (.int .i64 L[i].2)

end Go.Proofs.Ytbliopgdkphoaaa

namespace Go.Proofs.Ytbliopgdkphoaaa
open Go.RowKit

theorem stored_mark (P : Program) (g o : Nat) (t : TypeId) (lo hi : Nat) : ∀ (vs : List Value) (i : Nat) (cur : Array Value) (w : World),
    w.heap[g]? = some (.cells cur t (lo, hi)) → o + i + vs.length ≤ lo → lo ≤ cur.size → (∀ v ∈ vs, v.oneCell' = true) →
    (storeCells ⟨g, o, none⟩ vs i).run P w = .ok () (w.setRow g (cur.toList.take (o + i) ++ vs ++ cur.toList.drop (o + i + vs.length)).toArray) := by
  intro vs
  induction vs with
  | nil =>
    intro i cur w hg _ _ _
    simp only [storeCells, List.append_nil, List.length_nil, Nat.add_zero, List.take_append_drop, Array.toArray_toList, setRow_self w g cur t (lo, hi) hg]
    rfl
  | cons v rest ih =>
    intro i cur w hg hl hlo h1
    simp only [List.length_cons] at hl
    have ha : (⟨g, o, none⟩ : Addr).add i = ⟨g, o + i, none⟩ := by unfold Addr.add; split <;> simp_all
    have hc : w.cell? ⟨g, o + i, none⟩ = some cur[o + i] := by simp [World.cell?, hg, show o + i < cur.size by omega]
    have hf : w.frozen? ⟨g, o + i, none⟩ = false := by simp [World.frozen?, hg]; omega
    have hs : (store ((⟨g, o, none⟩ : Addr).add i) v).run P w = .ok () (w.setRow g (cur.setIfInBounds (o + i) v)) := by
      rw [ha, run_store P w _ v _ (h1 v (by simp)), hc]
      simp [hf, setCell_eq_setRow w g (o + i) cur t (lo, hi) v hg]
    have hn := ih (i + 1) (cur.setIfInBounds (o + i) v) (w.setRow g (cur.setIfInBounds (o + i) v)) (setRow_heap w g cur _ t _ hg) (by omega) (by simpa using hlo) (fun x hx => h1 x (by simp [hx]))
    simp only [storeCells, Sem.run_bind, hs, Result.andThen_ok, hn, setRow_setRow]
    have e := list_seg_step cur.toList (o + i) v rest (by simp; omega)
    congr 3
    simpa [Array.toList_setIfInBounds, Nat.add_assoc] using e

/-- A string's bytes copied into such a row. -/
theorem copied_mark {P : Program} (w : World) (dT sT ty elem : TypeId) (g o dLen dCap : Nat) (s : ByteArray) (cur : Array Value) (t : TypeId) (lo hi : Nat)
    (hu : P.underlying dT = some (.slice elem)) (hs : (P.info? elem).map (·.size) = some 1) (hg : w.heap[g]? = some (.cells cur t (lo, hi))) (hle : s.size ≤ dLen) (hfit : o + s.size ≤ lo) (hlo : lo ≤ cur.size) :
    (Builtin.copy_ #[dT, sT] ty #[.slice (some ⟨g, o, none⟩) dLen dCap, .string s]).run P w =
      .ok (goInt s.size) (w.setRow g (cur.toList.take o ++ Lib.byteCells s.data.toList ++ cur.toList.drop (o + s.size)).toArray) := by
  have hlen : (Lib.byteCells s.data.toList).length = s.size := by rw [Lib.byteCells_length, ← Lib.size_eq]
  have hst := stored_mark P g o t lo hi (Lib.byteCells s.data.toList) 0 cur w hg (by rw [hlen]; simpa using hfit) hlo (Lib.byteCells_one _)
  have hmin : Nat.min s.size dLen = s.size := Nat.min_eq_left hle
  have htk : List.take s.size (List.map (fun b : UInt8 => Value.int IntKind.u8 (b.toNat : Int)) s.data.toList) = Lib.byteCells s.data.toList := by
    rw [List.take_of_length_le (by rw [List.length_map, ← Lib.size_eq]; exact Nat.le_refl _)]
    rfl
  rw [hlen] at hst
  simp only [Nat.add_zero] at hst
  cases hq : P.info? elem with
  | none => simp [hq] at hs
  | some i =>
    simp [Builtin.copy_, run_underlying hu, Builtin.lenOf, Builtin.firstCells, sizeOf, typeInfo, hq, hmin]
    rw [htk, hst]
    simp [Result.andThen]

/-- Bytes with others laid over them from a place on. -/
def laidOver (D : ByteArray) (a : Nat) (s : ByteArray) : ByteArray := D.extract 0 a ++ s ++ D.extract (a + s.size) D.size
theorem size_laidOver (D : ByteArray) (a : Nat) (s : ByteArray) (h : a + s.size ≤ D.size) : (laidOver D a s).size = D.size := by
  simp [laidOver, ByteArray.size_extract]; omega
theorem data_laidOver (D : ByteArray) (a : Nat) (s : ByteArray) : (laidOver D a s).data.toList = D.data.toList.take a ++ s.data.toList ++ D.data.toList.drop (a + s.size) := by
  have e : ∀ x y, (D.extract x y).data.toList = (D.data.toList.drop x).take (y - x) := fun x y => Lib.extract_data D x y
  simp only [laidOver, ByteArray.data_append, Array.toList_append, e]
  have h2 : (List.drop (a + s.size) D.data.toList).take (D.size - (a + s.size)) = List.drop (a + s.size) D.data.toList :=
    List.take_of_length_le (by rw [List.length_drop, ← Lib.size_eq]; omega)
  rw [h2, List.drop_zero, Nat.sub_zero]
theorem bytesRow_list (s : ByteArray) (cap : Nat) : (bytesRow s cap).toList = Lib.byteCells s.data.toList ++ List.replicate (cap - s.size) (.int .u8 0) := by
  simp [bytesRow, Lib.byteCells]
/-- The row behind such a copy begins with these bytes. -/
theorem row_laidOver (D : ByteArray) (cap a : Nat) (s : ByteArray) (h : a + s.size ≤ D.size) (j : Nat) (hj : j < (laidOver D a s).data.toList.length) :
    ((bytesRow D cap).toList.take a ++ Lib.byteCells s.data.toList ++ (bytesRow D cap).toList.drop (a + s.size)).toArray[j]? = some (.int .u8 ((laidOver D a s).data.toList[j].toNat : Int)) := by
  have hl : (bytesRow D cap).toList.take a ++ Lib.byteCells s.data.toList ++ (bytesRow D cap).toList.drop (a + s.size) = Lib.byteCells (laidOver D a s).data.toList ++ List.replicate (cap - D.size) (.int .u8 0) := by
    rw [bytesRow_list, data_laidOver]
    have h1 : (Lib.byteCells D.data.toList).length = D.size := by rw [Lib.byteCells_length, ← Lib.size_eq]
    rw [List.take_append_of_le_length (by rw [h1]; omega), List.drop_append_of_le_length (by rw [h1]; omega)]
    simp [Lib.byteCells, List.map_take, List.map_drop]
  rw [hl]
  simp only [List.getElem?_toArray]
  rw [List.getElem?_append_left (by rw [Lib.byteCells_length]; exact hj)]
  unfold Lib.byteCells
  rw [List.getElem?_map, List.getElem?_eq_getElem hj]
  rfl

end Go.Proofs.Ytbliopgdkphoaaa

namespace Go.Proofs.Ytbliopgdkphoaaa
open Go.Shelf

end Go.Proofs.Ytbliopgdkphoaaa

namespace Go.Proofs.Ytbliopgdkphoaaa
open Go.ChangeShapes Go.WideShapes Go.ChangeAt Go.RowKit

end Go.Proofs.Ytbliopgdkphoaaa

namespace Go.Proofs.Ytbliopgdkphoaaa
open Go.ChangeShapes Go.WideShapes Go.ChangeAt Go.RowKit

/-- Where a cut of n bytes at a lies. -/
def cutAddr (g a n : Nat) : Addr := if n = 0 then ⟨g, 0, none⟩ else ⟨g, a, none⟩
set_option maxRecDepth 100000 in
theorem sliced_cut (g a n cap len : Nat) (h : a + n ≤ cap) (wx : World) :
    (Instr.slice 165 (.slice (some ⟨g, 0, none⟩) len cap) (some (.int .i64 (a : Int))) (some (.int .i64 ((a : Int) + (n : Int)))) (some (.int .i64 ((a : Int) + (n : Int))))).run Try.prog wx = .ok (.slice (some (cutAddr g a n)) n n) wx := by
  rw [run_slice_lhm wx 165 (some ⟨g, 0, none⟩) len cap Try.underlying165 .i64 .i64 .i64 (a : Int) ((a : Int) + n) ((a : Int) + n) (by omega) (by omega) (by omega) (by omega)]
  have e : ((a : Int) + (n : Int)).toNat = a + n := by omega
  simp only [e, Int.toNat_natCast]
  simp [go_sem, sliced, cutAddr]
  split <;> rfl

theorem infoU8 : (Try.prog.info? 5).map (·.size) = some 1 := by kernel_rfl

end Go.Proofs.Ytbliopgdkphoaaa

namespace Go.Proofs.Ytbliopgdkphoaaa
open Go.ChangeShapes Go.WideShapes Go.ChangeAt Go.RowKit

def zeros (n : Nat) : ByteArray := ⟨Array.replicate n 0⟩
theorem zeros_size (n : Nat) : (zeros n).size = n := by simp [zeros, ByteArray.size]
theorem made_cell (n j : Nat) (h : j < n) : (madeCells (Value.int .u8 0).cells n)[j]? = some (.int .u8 0) := by
  simp [madeCells, Value.cells, h, Nat.mod_one]
theorem made_list (n : Nat) : (madeCells (Value.int .u8 0).cells n).toList = List.replicate n (.int .u8 0) := by
  apply List.ext_getElem?
  intro j
  rw [Array.getElem?_toList]
  by_cases h : j < n
  · rw [made_cell n j h]; simp [h]
  · simp [h, madeCells]
theorem infoU8w : ∃ i0, Try.prog.info? 5 = some i0 ∧ i0.zero = some (.int .u8 0) ∧ i0.size = 1 ∧ i0.bytes = 1 := by
  have h : (Try.prog.info? 5).map (fun i => (i.zero, i.size, i.bytes)) = some (some (.int .u8 0), 1, 1) := by kernel_rfl
  exact info_parts h
theorem madeU8 (n : Nat) (h : n ≤ 1048576) (W : World) :
    (Instr.makeSlice 165 (.int .i64 (n : Int)) (.int .i64 (n : Int))).run Try.prog W = .ok (.slice (some ⟨W.heap.size, 0, none⟩) n n) (W.alloc (.cells (madeCells (Value.int .u8 0).cells n) 5)) := by
  obtain ⟨i0, hi, h0, h1, h2⟩ := infoU8w
  have H := run_make (P := Try.prog) W 165 5 i0 (.int .u8 0) Try.underlying165 hi h0 .i64 .i64 (n : Int) (n : Int) (by omega) (by omega) (by rw [h2]; omega) (by omega)
  rw [h1] at H
  simpa using H
/-- Such a row told as a string. -/
theorem madeTold (W : World) (g n : Nat) (hr : W.heap[g]? = some (.cells (madeCells (Value.int .u8 0).cells n) 5 (0, 0))) :
    (convert 165 9 (.slice (some ⟨g, 0, none⟩) n n)).run Try.prog W = .ok (.string (zeros n)) W := by
  have H := run_convert_bytes_back (P := Try.prog) W 165 9 5 ⟨g, 0, none⟩ n (List.replicate n 0) Try.underlying165 Try.underlying5 Try.underlying9 (fun j hj => by
    rw [Addr.add_lit, Nat.zero_add]
    simp only [List.length_replicate] at hj
    simp [World.cell?, hr, made_cell n j hj])
  simp only [List.length_replicate, List.toArray_replicate] at H
  exact H

end Go.Proofs.Ytbliopgdkphoaaa

namespace Go.Proofs.Ytbliopgdkphoaaa
open Go.ChangeShapes Go.WideShapes Go.ChangeAt Go.RowKit

set_option maxHeartbeats 1000000 in
theorem grownM (M : Int) (D : ByteArray) (b : Nat) (h : D.size + b * 256 ≤ 1048576) (w : World) :
    Calls Try.prog 81 #[.agg #[.int .i64 M, .string D], .int .i64 (b : Int)] w fun e w' => e = .returned (.agg #[.int .i64 M, .string (D ++ zeros (b * 256))]) ∧ Below w.heap.size w w' := by
  obtain ⟨g, hg⟩ : ∃ g, w.heap.size = g := ⟨_, rfl⟩
  obtain ⟨n, hn⟩ : ∃ n, D.size + b * 256 = n := ⟨_, rfl⟩
  have hD : D.size ≤ n := by omega
  have v1 : wrap64 ((b : Int) * 256) = (b : Int) * 256 := by unfold wrap64; omega
  have v2 : wrap64 ((D.size : Int) + (b : Int) * 256) = (n : Int) := by unfold wrap64; omega
  have hmk := madeU8 n (by omega)
  obtain ⟨R, hR⟩ : ∃ R, madeCells (Value.int .u8 0).cells n = R := ⟨_, rfl⟩
  have hRs : R.size = n := by rw [← hR]; exact size_madeCells _ _
  have hRl : R.toList = List.replicate n (.int .u8 0) := by rw [← hR]; exact made_list n
  rw [hR] at hmk
  obtain ⟨V, hV⟩ : ∃ V, (w.alloc (.cells #[.int .i64 M, .string D] 43)).alloc (.cells #[.int .i64 0, .string ⟨#[]⟩] 43) = V := ⟨_, rfl⟩
  have hBv : Below w.heap.size w V := by rw [← hV]; (repeat (first | refine Below.alloc ?_ (by first | (simp; done) | (simp; omega)) _ | refine Below.setCell ?_ (by first | (simp; done) | (simp; omega)) _ | refine bel_dN ?_ _ | refine Below.drew ?_ | exact Below.refl _ _))
  have hsv : V.heap.size = g + 2 := by rw [← hV, ← hg]; simp
  have c0 : V.cell? ⟨g, 0, none⟩ = some (.int .i64 M) := by rw [← hV, ← hg]; simp
  have c1 : V.cell? ⟨g, 1, none⟩ = some (.string D) := by rw [← hV, ← hg]; simp
  have d0 : V.cell? ⟨g + 1, 0, none⟩ = some (.int .i64 0) := by rw [← hV, ← hg]; simp
  have d1 : V.cell? ⟨g + 1, 1, none⟩ = some (.string ⟨#[]⟩) := by rw [← hV, ← hg]; simp
  have z : ∀ j, V.frozen? ⟨g + 1, j, none⟩ = false := fun j => by rw [← hV, ← hg]; simp
  replace hmk := hmk V
  obtain ⟨W0, hW0⟩ : ∃ W0, V.alloc (.cells R 5) = W0 := ⟨_, rfl⟩
  rw [hW0, hsv] at hmk
  have hBd : Below V.heap.size V W0 := by rw [← hW0]; exact (Below.refl _ _).alloc (Nat.le_refl _) _
  have hB0 : Hid (Below w.heap.size w W0) := bel_step hBv hBd
  have hs0 : W0.heap.size = g + 3 := by rw [← hW0]; simp; omega
  have hr0 : W0.heap[g + 2]? = some (.cells R 5 (0, 0)) := by rw [← hW0, ← hsv]; exact heap_alloc_new _ _
  replace c0 := (hBd.cell (p := ⟨g, 0, none⟩) (by show g < _; omega)).trans c0
  have b1 := c1
  replace c1 := (hBd.cell (p := ⟨g, 1, none⟩) (by show g < _; omega)).trans c1
  replace d0 := (hBd.cell (p := ⟨g + 1, 0, none⟩) (by show g + 1 < _; omega)).trans d0
  replace d1 := (hBd.cell (p := ⟨g + 1, 1, none⟩) (by show g + 1 < _; omega)).trans d1
  replace z : ∀ j, W0.frozen? ⟨g + 1, j, none⟩ = false := fun j => (hBd.frozen (p := ⟨g + 1, j, none⟩) (by show g + 1 < _; omega)).trans (z j)
  clear hBd hBv
  have hcp := Lib.run_copy_row_string (P := Try.prog) W0 165 9 3 5 (g + 2) 0 n n D R 5 Try.underlying165 infoU8 hr0 hD (by omega)
  obtain ⟨Y, hY⟩ : ∃ Y, (R.toList.take 0 ++ Lib.byteCells D.data.toList ++ R.toList.drop (0 + D.size)).toArray = Y := ⟨_, rfl⟩
  rw [hY] at hcp
  obtain ⟨X, hX⟩ : ∃ X, D ++ zeros (b * 256) = X := ⟨_, rfl⟩
  have hXd : X.data.toList = D.data.toList ++ List.replicate (b * 256) 0 := by rw [← hX]; simp [zeros, ByteArray.data_append]
  have hXs : X.data.toList.length = n := by rw [hXd]; simp; exact hn
  have hYc : ∀ j (hj : j < X.data.toList.length), Y[j]? = some (.int .u8 (X.data.toList[j].toNat : Int)) := fun j hj => by
    have e : Y.toList = Lib.byteCells X.data.toList := by
      rw [← hY, hXd, hRl]
      simp only [Lib.byteCells, List.take_zero, List.nil_append, List.drop_replicate, List.map_append, List.map_replicate]
      have : n - (0 + D.size) = b * 256 := by omega
      rw [this]; rfl
    rw [← Array.getElem?_toList, e]
    unfold Lib.byteCells
    rw [List.getElem?_map, List.getElem?_eq_getElem hj]
    rfl
  obtain ⟨W3, hW3⟩ : ∃ W3, W0.setRow (g + 2) Y = W3 := ⟨_, rfl⟩
  have hB3 : Hid (Below w.heap.size w W3) := by unfold Hid; rw [← hW3]; exact below_setRow hB0.out (by omega) _
  have hcb := run_convert_bytes_back (P := Try.prog) W3 165 9 5 ⟨g + 2, 0, none⟩ n X.data.toList Try.underlying165 Try.underlying5 Try.underlying9 (fun j hj => by
    rw [Addr.add_lit, Nat.zero_add, ← hW3, cell_setRow_same W0 (g + 2) j R _ 5 (0, 0) hr0]; exact hYc j hj)
  rw [Lib.mk_data, hXs] at hcb
  have e3 : ∀ b o, b < g + 2 → W3.cell? ⟨b, o, none⟩ = W0.cell? ⟨b, o, none⟩ := fun b o hb => by rw [← hW3]; exact cell_setRow_other W0 (g + 2) _ ⟨b, o, none⟩ (by show b ≠ _; omega)
  have p0 : W3.cell? ⟨g, 0, none⟩ = some (.int .i64 M) := by rw [e3 _ _ (by omega)]; exact c0
  have r0 : W3.cell? ⟨g + 1, 0, none⟩ = some (.int .i64 0) := by rw [e3 _ _ (by omega)]; exact d0
  have r1 : W3.cell? ⟨g + 1, 1, none⟩ = some (.string ⟨#[]⟩) := by rw [e3 _ _ (by omega)]; exact d1
  have f3 : ∀ j, W3.frozen? ⟨g + 1, j, none⟩ = false := fun j => by
    rw [← z j, ← hW3]; unfold World.frozen?; simp only [setRow_other W0 (g + 2) (g + 1) _ (by omega)]
  have y0 := f3 0
  have y1 := f3 1
  have hs3 : W3.heap.size = g + 3 := by rw [← hW3, ← hs0]; simp
  rw [hW3] at hcp
  rw [hX]
  clear e3 f3 hYc hXd hX hY hRl hR d0 d1 z hB0 hXs hn hD h hr0 hW3 hRs hs0 hW0 hsv
  go_enter Try.func81, Try.ntmps81
  go_wp2
  refine bodyPost_ret (v := .agg #[.int .i64 M, .string X]) (by simp [results, Try.results81, go_sem, r0, r1]) rfl ⟨rfl, ?_⟩
  refine Below.setCell (Below.setCell hB3.out ?_ _) ?_ _ <;> simp <;> omega

end Go.Proofs.Ytbliopgdkphoaaa

namespace Go.Proofs.Ytbliopgdkphoaaa
open Go.ChangeShapes Go.WideShapes Go.ChangeAt Go.RowKit

theorem code1_bad (N a n : Int) : codeOf false N [(a, n)] = 1 := rfl
theorem code1_none (N a n : Int) (h : a < 0 ∨ n < 0) : codeOf true N [(a, n)] = 1 := by
  have : spNone (a, n) = true := by simp [spNone]; omega
  simp [codeOf, this]
theorem code1_out (N a n : Int) (h0 : 0 ≤ a) (h1 : 0 ≤ n) (h : N - a < n) : codeOf true N [(a, n)] = 2 := by
  have e1 : spNone (a, n) = false := by simp [spNone]; omega
  have e2 : spIn N (a, n) = false := by simp [spIn]; omega
  simp [codeOf, e1, e2]
theorem code1_in (N a n : Int) (h0 : 0 ≤ a) (h1 : 0 ≤ n) (h : n ≤ N - a) : codeOf true N [(a, n)] = 0 := by
  have e1 : spNone (a, n) = false := by simp [spNone]; omega
  have e2 : spIn N (a, n) = true := by simp [spIn]; omega
  simp [codeOf, e1, e2]

end Go.Proofs.Ytbliopgdkphoaaa

namespace Go.Proofs.Ytbliopgdkphoaaa
open Go.ChangeShapes Go.WideShapes Go.ChangeAt Go.RowKit

theorem slice_mem {P : Program} (T : TypeId) (hu : P.underlying T = some .string) (s : ByteArray) (t n : Nat) (h : t + n ≤ s.size) (wx : World) :
    (Instr.slice T (.string s) (some (.int .i64 (t : Int))) (some (.int .i64 ((t : Int) + (n : Int)))) none).run P wx = .ok (.string (s.extract t (t + n))) wx := by
  have H := run_slice_string (P := P) wx T s .i64 .i64 (t : Int) ((t : Int) + (n : Int)) hu (by omega) (by omega) (by omega)
  have e : ((t : Int) + (n : Int)).toNat = t + n := by omega
  rw [e] at H
  exact H

end Go.Proofs.Ytbliopgdkphoaaa

namespace Go.Proofs.Ytbliopgdkphoaaa
open Go.ChangeShapes Go.WideShapes Go.ChangeAt Go.RowKit

end Go.Proofs.Ytbliopgdkphoaaa

namespace Go.Proofs.Ytbliopgdkphoaaa
open Go.ChangeShapes Go.WideShapes Go.ChangeAt Go.RowKit

theorem newS_no (p m : Int) (h : ¬ (0 ≤ m ∧ m ≤ 8 ∧ 0 ≤ p ∧ p ≤ m)) (w : World) :
    Calls Try.prog 80 #[.int .i64 p, .int .i64 m] w fun e w' => e = .returned (.tuple #[.agg #[.int .i64 0, .string ⟨#[]⟩], .bool false]) ∧ Below w.heap.size w w' := by
  by_cases h1 : 0 ≤ m ∧ m ≤ 8
  · have I1 := fun w => in_eq m 0 8 true (by simp [Hid, h1]) w
    have I2 := fun w => in_eq p 0 m false (by simp [Hid]; omega) w
    clear h h1
    go_enter Try.func80, Try.ntmps80
    go_wp2_with fail
    refine (I1 _).mono ?_
    rintro e w' ⟨rfl, hw⟩
    obtain rfl := hw.symm
    go_wp2_with fail
    refine (I2 _).mono ?_
    rintro e w' ⟨rfl, hw⟩
    obtain rfl := hw.symm
    go_wp2
    refine bodyPost_ret (v := .tuple #[.agg #[.int .i64 0, .string ⟨#[]⟩], .bool false]) (by simp [results, Try.results80, go_sem]) rfl ⟨rfl, ?_⟩
    (repeat (first | refine Below.alloc ?_ (by first | (simp; done) | (simp; omega)) _ | refine Below.setCell ?_ (by first | (simp; done) | (simp; omega)) _ | refine bel_dN ?_ _ | refine Below.drew ?_ | exact Below.refl _ _))
  · have I1 := fun w => in_eq m 0 8 false (by simp [Hid]; omega) w
    clear h h1
    go_enter Try.func80, Try.ntmps80
    go_wp2_with fail
    refine (I1 _).mono ?_
    rintro e w' ⟨rfl, hw⟩
    obtain rfl := hw.symm
    go_wp2
    refine bodyPost_ret (v := .tuple #[.agg #[.int .i64 0, .string ⟨#[]⟩], .bool false]) (by simp [results, Try.results80, go_sem]) rfl ⟨rfl, ?_⟩
    (repeat (first | refine Below.alloc ?_ (by first | (simp; done) | (simp; omega)) _ | refine Below.setCell ?_ (by first | (simp; done) | (simp; omega)) _ | refine bel_dN ?_ _ | refine Below.drew ?_ | exact Below.refl _ _))

theorem newS_yes (p m : Nat) (h : m ≤ 8) (h1 : p ≤ m) (w : World) :
    Calls Try.prog 80 #[.int .i64 (p : Int), .int .i64 (m : Int)] w fun e w' => e = .returned (.tuple #[.agg #[.int .i64 (m : Int), .string (zeros (p * 256))], .bool true]) ∧ Below w.heap.size w w' := by
  have I1 := fun w => in_eq (m : Int) 0 8 true (by simp [Hid]; omega) w
  have I2 := fun w => in_eq (p : Int) 0 m true (by simp [Hid]; omega) w
  obtain ⟨n, hn⟩ : ∃ n, p * 256 = n := ⟨_, rfl⟩
  have v : wrap64 ((p : Int) * 256) = (n : Int) := by unfold wrap64; omega
  have hmk := madeU8 n (by omega)
  rw [hn]
  obtain ⟨g, hg⟩ : ∃ g, w.heap.size = g := ⟨_, rfl⟩
  have hct := fun W h => madeTold W (g + 1) n h
  obtain ⟨R, hR⟩ : ∃ R, madeCells (Value.int .u8 0).cells n = R := ⟨_, rfl⟩
  rw [hR] at hmk hct
  have hct1 := hct ((w.alloc (.cells #[.int .i64 0, .string ⟨#[]⟩] 43)).alloc (.cells R 5)) (by
    have e : (w.alloc (.cells #[.int .i64 0, .string ⟨#[]⟩] 43)).heap.size = g + 1 := by simp; omega
    rw [← e]; exact heap_alloc_new _ _)
  clear h h1 hn hct hR
  go_enter Try.func80, Try.ntmps80
  go_wp2_with fail
  refine (I1 _).mono ?_
  rintro e w' ⟨rfl, hw⟩
  obtain rfl := hw.symm
  go_wp2_with fail
  refine (I2 _).mono ?_
  rintro e w' ⟨rfl, hw⟩
  obtain rfl := hw.symm
  go_wp2
  refine bodyPost_ret (v := .tuple #[.agg #[.int .i64 (m : Int), .string (zeros n)], .bool true]) (by simp [results, Try.results80, go_sem, ← hg]) rfl ⟨rfl, ?_⟩
  (repeat (first | refine Below.alloc ?_ (by first | (simp; done) | (simp; omega)) _ | refine Below.setCell ?_ (by first | (simp; done) | (simp; omega)) _ | refine bel_dN ?_ _ | refine Below.drew ?_ | exact Below.refl _ _))

theorem newI_no (p m : Int) (h : ¬ (0 ≤ m ∧ m ≤ 8 ∧ 0 ≤ p ∧ p ≤ m)) (w : World) :
    Calls Try.prog 47 #[.int .i64 p, .int .i64 m] w fun e w' => e = .returned (.tuple #[.agg #[.int .i64 0, .string ⟨#[]⟩], .bool false]) ∧ Below w.heap.size w w' := by
  by_cases h1 : 8 < m
  · clear h
    go_enter Try.func47, Try.ntmps47
    go_wp2
    refine bodyPost_ret (v := .tuple #[.agg #[.int .i64 0, .string ⟨#[]⟩], .bool false]) (by simp [results, Try.results47, go_sem]) rfl ⟨rfl, ?_⟩
    (repeat (first | refine Below.alloc ?_ (by first | (simp; done) | (simp; omega)) _ | refine Below.setCell ?_ (by first | (simp; done) | (simp; omega)) _ | refine bel_dN ?_ _ | refine Below.drew ?_ | exact Below.refl _ _))
  · by_cases h2 : p < 0
    · clear h
      go_enter Try.func47, Try.ntmps47
      go_wp2
      refine bodyPost_ret (v := .tuple #[.agg #[.int .i64 0, .string ⟨#[]⟩], .bool false]) (by simp [results, Try.results47, go_sem]) rfl ⟨rfl, ?_⟩
      (repeat (first | refine Below.alloc ?_ (by first | (simp; done) | (simp; omega)) _ | refine Below.setCell ?_ (by first | (simp; done) | (simp; omega)) _ | refine bel_dN ?_ _ | refine Below.drew ?_ | exact Below.refl _ _))
    · have h3 : m < p := by omega
      clear h
      go_enter Try.func47, Try.ntmps47
      go_wp2
      refine bodyPost_ret (v := .tuple #[.agg #[.int .i64 0, .string ⟨#[]⟩], .bool false]) (by simp [results, Try.results47, go_sem]) rfl ⟨rfl, ?_⟩
      (repeat (first | refine Below.alloc ?_ (by first | (simp; done) | (simp; omega)) _ | refine Below.setCell ?_ (by first | (simp; done) | (simp; omega)) _ | refine bel_dN ?_ _ | refine Below.drew ?_ | exact Below.refl _ _))

theorem newI_yes (p m : Nat) (h : m ≤ 8) (h1 : p ≤ m) (w : World) :
    Calls Try.prog 47 #[.int .i64 (p : Int), .int .i64 (m : Int)] w fun e w' => e = .returned (.tuple #[.agg #[.int .i64 (m : Int), .string (zeros (p * 256))], .bool true]) ∧ Below w.heap.size w w' := by
  have GR := grownM (m : Int) ⟨#[]⟩ p (by show 0 + _ ≤ _; omega)
  rw [show (⟨#[]⟩ : ByteArray) ++ zeros (p * 256) = zeros (p * 256) by apply ByteArray.ext; simp [ByteArray.data_append]] at GR
  generalize zeros (p * 256) = X at *
  obtain ⟨q, hq⟩ : ∃ q : Int, (p : Int) = q := ⟨_, rfl⟩
  obtain ⟨M, hM⟩ : ∃ M : Int, (m : Int) = M := ⟨_, rfl⟩
  rw [hq, hM] at GR ⊢
  have k1 : ¬ 8 < M := by omega
  have k2 : ¬ q < 0 := by omega
  have k3 : ¬ M < q := by omega
  clear h h1 hq hM
  obtain ⟨g, hgs⟩ : ∃ g, w.heap.size = g := ⟨_, rfl⟩
  go_enter Try.func47, Try.ntmps47
  go_wp2_with fail
  refine (GR _).mono ?_
  rintro e w1 ⟨rfl, B1⟩
  have hs := B1.size
  simp at hs
  have hB : Hid (Below w.heap.size w w1) := by unfold Hid; ((repeat (first | refine bel_alloc ?_ _ | refine bel_dN ?_ _ | refine Below.drew ?_ | refine Below.setCell ?_ (by first | (simp; done) | (simp; omega)) _)); refine bel_step ?_ B1; (repeat (first | refine bel_alloc ?_ _ | refine bel_dN ?_ _ | refine Below.drew ?_ | refine Below.setCell ?_ (by first | (simp; done) | (simp; omega)) _)); exact Below.refl _ _)
  have q0 : w1.cell? ⟨g, 0, none⟩ = some (.int .i64 0) := keepCell B1 (by simp; omega) (by rw [← hgs]; simp)
  have q1 : w1.cell? ⟨g, 1, none⟩ = some (.string ⟨#[]⟩) := keepCell B1 (by simp; omega) (by rw [← hgs]; simp)
  have z0 : w1.frozen? ⟨g, 0, none⟩ = false := keepFree B1 (by simp; omega) (by rw [← hgs]; simp)
  have z1 : w1.frozen? ⟨g, 1, none⟩ = false := keepFree B1 (by simp; omega) (by rw [← hgs]; simp)
  clear B1 GR
  go_wp2
  refine bodyPost_ret (v := .tuple #[.agg #[.int .i64 M, .string X], .bool true]) (by simp [results, Try.results47, go_sem, q0, q1]) rfl ⟨rfl, ?_⟩
  refine Below.setCell (Below.setCell hB.out ?_ _) ?_ _ <;> simp <;> omega

theorem newBoth (p m : Int) : ∃ M D r, (∀ w, Calls Try.prog 80 #[.int .i64 p, .int .i64 m] w fun e w' => e = .returned (.tuple #[.agg #[.int .i64 M, .string D], .bool r]) ∧ Below w.heap.size w w') ∧
    (∀ w, Calls Try.prog 47 #[.int .i64 p, .int .i64 m] w fun e w' => e = .returned (.tuple #[.agg #[.int .i64 M, .string D], .bool r]) ∧ Below w.heap.size w w') := by
  by_cases h : 0 ≤ m ∧ m ≤ 8 ∧ 0 ≤ p ∧ p ≤ m
  · obtain ⟨m, rfl⟩ : ∃ k : Nat, m = (k : Int) := ⟨m.toNat, by omega⟩
    obtain ⟨p, rfl⟩ : ∃ k : Nat, p = (k : Int) := ⟨p.toNat, by omega⟩
    exact ⟨_, _, _, newS_yes p m (by omega) (by omega), newI_yes p m (by omega) (by omega)⟩
  · exact ⟨_, _, _, newS_no p m h, newI_no p m h⟩

end Go.Proofs.Ytbliopgdkphoaaa
