/-
  Sums of finite floats: impl's side. (Made by a generator.)
-/
import Derived.Test.YteniijmnpgdpcaaFRndS
import Derived.Test.YteniijmnpgdpcaaFRoundT
import Derived.Test.YteniijmnpgdpcaaFFv
namespace Go.Proofs.Yteniijmnpgdpcaa
open Go.RowKit

set_option maxRecDepth 100000 in
set_option maxHeartbeats 1000000 in
theorem addO1s16 (sv more : Bool) (mv mw ev A B M E r : Int) (k1 : ¬ mv < mw) (k3 : (mv == mw) = false)  (v1 : IntKind.u64.wrap (mv * 1073741824) = A) (v2 : IntKind.u64.wrap (mw * 1073741824) = B)  (v4 : IntKind.u64.wrap (A + B) = M) (v7 : IntKind.i64.wrap (ev - 30) = E)
    (LT : Hid (∀ w, Calls Try.prog 67 #[.int .u64 B, .int .i64 0] w fun e w' => e = .returned (.bool more) ∧ w' = w))
    (RR : Hid (∀ w, Calls Try.prog 33 #[(.agg #[.int .i64 10, .int .i64 15, .int .u32 31]), .bool sv, .int .u64 M, .int .i64 E, .bool more] w fun e w' => e = .returned (.int .u32 r) ∧ Below w.heap.size w w')) (w : World) :
    Calls Try.prog 50 #[(.agg #[.int .i64 10, .int .i64 15, .int .u32 31]), (.agg #[.int .i64 0, .bool sv, .int .u64 mv, .int .i64 ev]), (.agg #[.int .i64 0, .bool sv, .int .u64 mw, .int .i64 ev])] w fun e w' => e = .returned (.int .u32 r) ∧ Below w.heap.size w w' := by
  obtain ⟨g, hg⟩ : ∃ g, w.heap.size = g := ⟨_, rfl⟩
  obtain ⟨V, hV⟩ : ∃ V, ((w.alloc (.cells #[.int .i64 10, .int .i64 15, .int .u32 31] 45)).alloc (.cells #[.int .i64 0, .bool sv, .int .u64 mv, .int .i64 ev] 50)).alloc (.cells #[.int .i64 0, .bool sv, .int .u64 mw, .int .i64 ev] 50) = V := ⟨_, rfl⟩
  have hB : Hid (Below w.heap.size w V) := by unfold Hid; rw [← hV]; (repeat (first | refine Below.alloc ?_ (by first | (simp; done) | (simp; omega)) _ | refine Below.setCell ?_ (by first | (simp; done) | (simp; omega)) _ | refine bel_dN ?_ _ | refine Below.drew ?_ | exact Below.refl _ _))
  have hs : V.heap.size = g + 3 := by rw [← hV, ← hg]; simp
  have z : ∀ j, V.frozen? ⟨g + 1, j, none⟩ = false ∧ V.frozen? ⟨g + 2, j, none⟩ = false := fun j => by
    rw [← hV, ← hg]
    exact ⟨(World.frozen?_alloc_old _ _ ⟨w.heap.size + 1, j, none⟩ (by simp)).trans (by simp), World.frozen?_alloc_at _ _ _ _ (by simp)⟩
  have f0 : V.cell? ⟨g, 0, none⟩ = some (.int .i64 10) := by rw [← hV, ← hg]; rw [World.cell?_alloc_past _ _ _ (by first | (simp; done) | (simp; omega))]; simp
  have f1 : V.cell? ⟨g, 1, none⟩ = some (.int .i64 15) := by rw [← hV, ← hg]; rw [World.cell?_alloc_past _ _ _ (by first | (simp; done) | (simp; omega))]; simp
  have f2 : V.cell? ⟨g, 2, none⟩ = some (.int .u32 31) := by rw [← hV, ← hg]; rw [World.cell?_alloc_past _ _ _ (by first | (simp; done) | (simp; omega))]; simp
  have a0 : V.cell? ⟨g + 1, 0, none⟩ = some (.int .i64 0) := by rw [← hV, ← hg]; rw [World.cell?_alloc_past _ _ _ (by first | (simp; done) | (simp; omega))]; simp
  have a1 : V.cell? ⟨g + 1, 1, none⟩ = some (.bool sv) := by rw [← hV, ← hg]; rw [World.cell?_alloc_past _ _ _ (by first | (simp; done) | (simp; omega))]; simp
  have a2 : V.cell? ⟨g + 1, 2, none⟩ = some (.int .u64 mv) := by rw [← hV, ← hg]; rw [World.cell?_alloc_past _ _ _ (by first | (simp; done) | (simp; omega))]; simp
  have a3 : V.cell? ⟨g + 1, 3, none⟩ = some (.int .i64 ev) := by rw [← hV, ← hg]; rw [World.cell?_alloc_past _ _ _ (by first | (simp; done) | (simp; omega))]; simp
  have b0 : V.cell? ⟨g + 2, 0, none⟩ = some (.int .i64 0) := by rw [← hV, ← hg]; rw [World.cell?_alloc_at _ _ _ _ (by simp)]; rfl
  have b1 : V.cell? ⟨g + 2, 1, none⟩ = some (.bool sv) := by rw [← hV, ← hg]; rw [World.cell?_alloc_at _ _ _ _ (by simp)]; rfl
  have b2 : V.cell? ⟨g + 2, 2, none⟩ = some (.int .u64 mw) := by rw [← hV, ← hg]; rw [World.cell?_alloc_at _ _ _ _ (by simp)]; rfl
  have b3 : V.cell? ⟨g + 2, 3, none⟩ = some (.int .i64 ev) := by rw [← hV, ← hg]; rw [World.cell?_alloc_at _ _ _ _ (by simp)]; rfl
  have kf0 : ∀ w, Keeps V w → w.cell? ⟨g, 0, none⟩ = some (.int .i64 10) := fun w h => h.cell (by omega) f0
  have kf1 : ∀ w, Keeps V w → w.cell? ⟨g, 1, none⟩ = some (.int .i64 15) := fun w h => h.cell (by omega) f1
  have kf2 : ∀ w, Keeps V w → w.cell? ⟨g, 2, none⟩ = some (.int .u32 31) := fun w h => h.cell (by omega) f2
  have ka0 : ∀ w, Keeps V w → w.cell? ⟨g + 1, 0, none⟩ = some (.int .i64 0) := fun w h => h.cell (by omega) a0
  have ka1 : ∀ w, Keeps V w → w.cell? ⟨g + 1, 1, none⟩ = some (.bool sv) := fun w h => h.cell (by omega) a1
  have ka2 : ∀ w, Keeps V w → w.cell? ⟨g + 1, 2, none⟩ = some (.int .u64 mv) := fun w h => h.cell (by omega) a2
  have ka3 : ∀ w, Keeps V w → w.cell? ⟨g + 1, 3, none⟩ = some (.int .i64 ev) := fun w h => h.cell (by omega) a3
  have kb0 : ∀ w, Keeps V w → w.cell? ⟨g + 2, 0, none⟩ = some (.int .i64 0) := fun w h => h.cell (by omega) b0
  have kb1 : ∀ w, Keeps V w → w.cell? ⟨g + 2, 1, none⟩ = some (.bool sv) := fun w h => h.cell (by omega) b1
  have kb2 : ∀ w, Keeps V w → w.cell? ⟨g + 2, 2, none⟩ = some (.int .u64 mw) := fun w h => h.cell (by omega) b2
  have kb3 : ∀ w, Keeps V w → w.cell? ⟨g + 2, 3, none⟩ = some (.int .i64 ev) := fun w h => h.cell (by omega) b3
  have LQ := LT.out
  have RQ := RR.out
  clear LT RR z
  go_enter Try.func50, Try.ntmps50
  go_wp2_with fail
  refine region_q (C := Keeps V) (by kernel_rfl) (by kernel_rfl) (Keeps.drew V) ?_
  (iterate 10
    (apply wpQuiet_go _ (by rfl)
     · intro wq hq
       go_simp
       first
         | exact rfl
     simp only [Act.put, List.setIfInBounds_toArray, List.set_cons_succ, List.set_cons_zero]))
  refine wpQuiet_nil ?_
  intro w1 hk
  have qf0 := kf0 _ hk
  have qf1 := kf1 _ hk
  have qf2 := kf2 _ hk
  have qa0 := ka0 _ hk
  have qa1 := ka1 _ hk
  have qa2 := ka2 _ hk
  have qa3 := ka3 _ hk
  have qb0 := kb0 _ hk
  have qb1 := kb1 _ hk
  have qb2 := kb2 _ hk
  have qb3 := kb3 _ hk
  have hb := hk.below
  have H1 : Hid (Below w.heap.size w w1) := bel_step hB.out hb
  clear kf0 kf1 kf2 ka0 ka1 ka2 ka3 kb0 kb1 kb2 kb3 f0 f1 f2 a0 a1 a2 a3 b0 b1 b2 b3 hk hb
  go_wp2_with fail
  refine (LQ _).mono ?_
  rintro e w2 ⟨rfl, hw⟩
  obtain rfl := hw.symm
  go_wp2_with fail
  refine (RQ _).mono ?_
  rintro e w3 ⟨rfl, B3⟩
  have H3 : Hid (Below w.heap.size w w3) := bel_step H1.out B3
  clear B3 qf0 qf1 qf2 qa0 qa1 qa2 qa3 qb0 qb1 qb2 qb3
  go_wp2
  go_ret
  exact ⟨rfl, by first | exact H3.out | (rw [← hg]; exact H3.out)⟩

set_option maxRecDepth 100000 in
set_option maxHeartbeats 1000000 in
theorem addO1s32 (sv more : Bool) (mv mw ev A B M E r : Int) (k1 : ¬ mv < mw) (k3 : (mv == mw) = false)  (v1 : IntKind.u64.wrap (mv * 1073741824) = A) (v2 : IntKind.u64.wrap (mw * 1073741824) = B)  (v4 : IntKind.u64.wrap (A + B) = M) (v7 : IntKind.i64.wrap (ev - 30) = E)
    (LT : Hid (∀ w, Calls Try.prog 67 #[.int .u64 B, .int .i64 0] w fun e w' => e = .returned (.bool more) ∧ w' = w))
    (RR : Hid (∀ w, Calls Try.prog 33 #[(.agg #[.int .i64 23, .int .i64 127, .int .u32 255]), .bool sv, .int .u64 M, .int .i64 E, .bool more] w fun e w' => e = .returned (.int .u32 r) ∧ Below w.heap.size w w')) (w : World) :
    Calls Try.prog 50 #[(.agg #[.int .i64 23, .int .i64 127, .int .u32 255]), (.agg #[.int .i64 0, .bool sv, .int .u64 mv, .int .i64 ev]), (.agg #[.int .i64 0, .bool sv, .int .u64 mw, .int .i64 ev])] w fun e w' => e = .returned (.int .u32 r) ∧ Below w.heap.size w w' := by
  obtain ⟨g, hg⟩ : ∃ g, w.heap.size = g := ⟨_, rfl⟩
  obtain ⟨V, hV⟩ : ∃ V, ((w.alloc (.cells #[.int .i64 23, .int .i64 127, .int .u32 255] 45)).alloc (.cells #[.int .i64 0, .bool sv, .int .u64 mv, .int .i64 ev] 50)).alloc (.cells #[.int .i64 0, .bool sv, .int .u64 mw, .int .i64 ev] 50) = V := ⟨_, rfl⟩
  have hB : Hid (Below w.heap.size w V) := by unfold Hid; rw [← hV]; (repeat (first | refine Below.alloc ?_ (by first | (simp; done) | (simp; omega)) _ | refine Below.setCell ?_ (by first | (simp; done) | (simp; omega)) _ | refine bel_dN ?_ _ | refine Below.drew ?_ | exact Below.refl _ _))
  have hs : V.heap.size = g + 3 := by rw [← hV, ← hg]; simp
  have z : ∀ j, V.frozen? ⟨g + 1, j, none⟩ = false ∧ V.frozen? ⟨g + 2, j, none⟩ = false := fun j => by
    rw [← hV, ← hg]
    exact ⟨(World.frozen?_alloc_old _ _ ⟨w.heap.size + 1, j, none⟩ (by simp)).trans (by simp), World.frozen?_alloc_at _ _ _ _ (by simp)⟩
  have f0 : V.cell? ⟨g, 0, none⟩ = some (.int .i64 23) := by rw [← hV, ← hg]; rw [World.cell?_alloc_past _ _ _ (by first | (simp; done) | (simp; omega))]; simp
  have f1 : V.cell? ⟨g, 1, none⟩ = some (.int .i64 127) := by rw [← hV, ← hg]; rw [World.cell?_alloc_past _ _ _ (by first | (simp; done) | (simp; omega))]; simp
  have f2 : V.cell? ⟨g, 2, none⟩ = some (.int .u32 255) := by rw [← hV, ← hg]; rw [World.cell?_alloc_past _ _ _ (by first | (simp; done) | (simp; omega))]; simp
  have a0 : V.cell? ⟨g + 1, 0, none⟩ = some (.int .i64 0) := by rw [← hV, ← hg]; rw [World.cell?_alloc_past _ _ _ (by first | (simp; done) | (simp; omega))]; simp
  have a1 : V.cell? ⟨g + 1, 1, none⟩ = some (.bool sv) := by rw [← hV, ← hg]; rw [World.cell?_alloc_past _ _ _ (by first | (simp; done) | (simp; omega))]; simp
  have a2 : V.cell? ⟨g + 1, 2, none⟩ = some (.int .u64 mv) := by rw [← hV, ← hg]; rw [World.cell?_alloc_past _ _ _ (by first | (simp; done) | (simp; omega))]; simp
  have a3 : V.cell? ⟨g + 1, 3, none⟩ = some (.int .i64 ev) := by rw [← hV, ← hg]; rw [World.cell?_alloc_past _ _ _ (by first | (simp; done) | (simp; omega))]; simp
  have b0 : V.cell? ⟨g + 2, 0, none⟩ = some (.int .i64 0) := by rw [← hV, ← hg]; rw [World.cell?_alloc_at _ _ _ _ (by simp)]; rfl
  have b1 : V.cell? ⟨g + 2, 1, none⟩ = some (.bool sv) := by rw [← hV, ← hg]; rw [World.cell?_alloc_at _ _ _ _ (by simp)]; rfl
  have b2 : V.cell? ⟨g + 2, 2, none⟩ = some (.int .u64 mw) := by rw [← hV, ← hg]; rw [World.cell?_alloc_at _ _ _ _ (by simp)]; rfl
  have b3 : V.cell? ⟨g + 2, 3, none⟩ = some (.int .i64 ev) := by rw [← hV, ← hg]; rw [World.cell?_alloc_at _ _ _ _ (by simp)]; rfl
  have kf0 : ∀ w, Keeps V w → w.cell? ⟨g, 0, none⟩ = some (.int .i64 23) := fun w h => h.cell (by omega) f0
  have kf1 : ∀ w, Keeps V w → w.cell? ⟨g, 1, none⟩ = some (.int .i64 127) := fun w h => h.cell (by omega) f1
  have kf2 : ∀ w, Keeps V w → w.cell? ⟨g, 2, none⟩ = some (.int .u32 255) := fun w h => h.cell (by omega) f2
  have ka0 : ∀ w, Keeps V w → w.cell? ⟨g + 1, 0, none⟩ = some (.int .i64 0) := fun w h => h.cell (by omega) a0
  have ka1 : ∀ w, Keeps V w → w.cell? ⟨g + 1, 1, none⟩ = some (.bool sv) := fun w h => h.cell (by omega) a1
  have ka2 : ∀ w, Keeps V w → w.cell? ⟨g + 1, 2, none⟩ = some (.int .u64 mv) := fun w h => h.cell (by omega) a2
  have ka3 : ∀ w, Keeps V w → w.cell? ⟨g + 1, 3, none⟩ = some (.int .i64 ev) := fun w h => h.cell (by omega) a3
  have kb0 : ∀ w, Keeps V w → w.cell? ⟨g + 2, 0, none⟩ = some (.int .i64 0) := fun w h => h.cell (by omega) b0
  have kb1 : ∀ w, Keeps V w → w.cell? ⟨g + 2, 1, none⟩ = some (.bool sv) := fun w h => h.cell (by omega) b1
  have kb2 : ∀ w, Keeps V w → w.cell? ⟨g + 2, 2, none⟩ = some (.int .u64 mw) := fun w h => h.cell (by omega) b2
  have kb3 : ∀ w, Keeps V w → w.cell? ⟨g + 2, 3, none⟩ = some (.int .i64 ev) := fun w h => h.cell (by omega) b3
  have LQ := LT.out
  have RQ := RR.out
  clear LT RR z
  go_enter Try.func50, Try.ntmps50
  go_wp2_with fail
  refine region_q (C := Keeps V) (by kernel_rfl) (by kernel_rfl) (Keeps.drew V) ?_
  (iterate 10
    (apply wpQuiet_go _ (by rfl)
     · intro wq hq
       go_simp
       first
         | exact rfl
     simp only [Act.put, List.setIfInBounds_toArray, List.set_cons_succ, List.set_cons_zero]))
  refine wpQuiet_nil ?_
  intro w1 hk
  have qf0 := kf0 _ hk
  have qf1 := kf1 _ hk
  have qf2 := kf2 _ hk
  have qa0 := ka0 _ hk
  have qa1 := ka1 _ hk
  have qa2 := ka2 _ hk
  have qa3 := ka3 _ hk
  have qb0 := kb0 _ hk
  have qb1 := kb1 _ hk
  have qb2 := kb2 _ hk
  have qb3 := kb3 _ hk
  have hb := hk.below
  have H1 : Hid (Below w.heap.size w w1) := bel_step hB.out hb
  clear kf0 kf1 kf2 ka0 ka1 ka2 ka3 kb0 kb1 kb2 kb3 f0 f1 f2 a0 a1 a2 a3 b0 b1 b2 b3 hk hb
  go_wp2_with fail
  refine (LQ _).mono ?_
  rintro e w2 ⟨rfl, hw⟩
  obtain rfl := hw.symm
  go_wp2_with fail
  refine (RQ _).mono ?_
  rintro e w3 ⟨rfl, B3⟩
  have H3 : Hid (Below w.heap.size w w3) := bel_step H1.out B3
  clear B3 qf0 qf1 qf2 qa0 qa1 qa2 qa3 qb0 qb1 qb2 qb3
  go_wp2
  go_ret
  exact ⟨rfl, by first | exact H3.out | (rw [← hg]; exact H3.out)⟩


set_option maxRecDepth 100000 in
set_option maxHeartbeats 1000000 in
theorem addO1d16 (sv more : Bool) (mv mw ev A B M E r : Int) (k1 : ¬ mv < mw) (k3 : (mv == mw) = false)  (v1 : IntKind.u64.wrap (mv * 1073741824) = A) (v2 : IntKind.u64.wrap (mw * 1073741824) = B)  (X : Int) (v4 : IntKind.u64.wrap (A - B) = X) (v5 : IntKind.u64.wrap (X - (more.toNat : Int)) = M) (v7 : IntKind.i64.wrap (ev - 30) = E)
    (LT : Hid (∀ w, Calls Try.prog 67 #[.int .u64 B, .int .i64 0] w fun e w' => e = .returned (.bool more) ∧ w' = w))
    (RR : Hid (∀ w, Calls Try.prog 33 #[(.agg #[.int .i64 10, .int .i64 15, .int .u32 31]), .bool sv, .int .u64 M, .int .i64 E, .bool more] w fun e w' => e = .returned (.int .u32 r) ∧ Below w.heap.size w w')) (w : World) :
    Calls Try.prog 50 #[(.agg #[.int .i64 10, .int .i64 15, .int .u32 31]), (.agg #[.int .i64 0, .bool sv, .int .u64 mv, .int .i64 ev]), (.agg #[.int .i64 0, .bool (!sv), .int .u64 mw, .int .i64 ev])] w fun e w' => e = .returned (.int .u32 r) ∧ Below w.heap.size w w' := by
  obtain ⟨g, hg⟩ : ∃ g, w.heap.size = g := ⟨_, rfl⟩
  obtain ⟨V, hV⟩ : ∃ V, ((w.alloc (.cells #[.int .i64 10, .int .i64 15, .int .u32 31] 45)).alloc (.cells #[.int .i64 0, .bool sv, .int .u64 mv, .int .i64 ev] 50)).alloc (.cells #[.int .i64 0, .bool (!sv), .int .u64 mw, .int .i64 ev] 50) = V := ⟨_, rfl⟩
  have hB : Hid (Below w.heap.size w V) := by unfold Hid; rw [← hV]; (repeat (first | refine Below.alloc ?_ (by first | (simp; done) | (simp; omega)) _ | refine Below.setCell ?_ (by first | (simp; done) | (simp; omega)) _ | refine bel_dN ?_ _ | refine Below.drew ?_ | exact Below.refl _ _))
  have hs : V.heap.size = g + 3 := by rw [← hV, ← hg]; simp
  have z : ∀ j, V.frozen? ⟨g + 1, j, none⟩ = false ∧ V.frozen? ⟨g + 2, j, none⟩ = false := fun j => by
    rw [← hV, ← hg]
    exact ⟨(World.frozen?_alloc_old _ _ ⟨w.heap.size + 1, j, none⟩ (by simp)).trans (by simp), World.frozen?_alloc_at _ _ _ _ (by simp)⟩
  have f0 : V.cell? ⟨g, 0, none⟩ = some (.int .i64 10) := by rw [← hV, ← hg]; rw [World.cell?_alloc_past _ _ _ (by first | (simp; done) | (simp; omega))]; simp
  have f1 : V.cell? ⟨g, 1, none⟩ = some (.int .i64 15) := by rw [← hV, ← hg]; rw [World.cell?_alloc_past _ _ _ (by first | (simp; done) | (simp; omega))]; simp
  have f2 : V.cell? ⟨g, 2, none⟩ = some (.int .u32 31) := by rw [← hV, ← hg]; rw [World.cell?_alloc_past _ _ _ (by first | (simp; done) | (simp; omega))]; simp
  have a0 : V.cell? ⟨g + 1, 0, none⟩ = some (.int .i64 0) := by rw [← hV, ← hg]; rw [World.cell?_alloc_past _ _ _ (by first | (simp; done) | (simp; omega))]; simp
  have a1 : V.cell? ⟨g + 1, 1, none⟩ = some (.bool sv) := by rw [← hV, ← hg]; rw [World.cell?_alloc_past _ _ _ (by first | (simp; done) | (simp; omega))]; simp
  have a2 : V.cell? ⟨g + 1, 2, none⟩ = some (.int .u64 mv) := by rw [← hV, ← hg]; rw [World.cell?_alloc_past _ _ _ (by first | (simp; done) | (simp; omega))]; simp
  have a3 : V.cell? ⟨g + 1, 3, none⟩ = some (.int .i64 ev) := by rw [← hV, ← hg]; rw [World.cell?_alloc_past _ _ _ (by first | (simp; done) | (simp; omega))]; simp
  have b0 : V.cell? ⟨g + 2, 0, none⟩ = some (.int .i64 0) := by rw [← hV, ← hg]; rw [World.cell?_alloc_at _ _ _ _ (by simp)]; rfl
  have b1 : V.cell? ⟨g + 2, 1, none⟩ = some (.bool (!sv)) := by rw [← hV, ← hg]; rw [World.cell?_alloc_at _ _ _ _ (by simp)]; rfl
  have b2 : V.cell? ⟨g + 2, 2, none⟩ = some (.int .u64 mw) := by rw [← hV, ← hg]; rw [World.cell?_alloc_at _ _ _ _ (by simp)]; rfl
  have b3 : V.cell? ⟨g + 2, 3, none⟩ = some (.int .i64 ev) := by rw [← hV, ← hg]; rw [World.cell?_alloc_at _ _ _ _ (by simp)]; rfl
  have kf0 : ∀ w, Keeps V w → w.cell? ⟨g, 0, none⟩ = some (.int .i64 10) := fun w h => h.cell (by omega) f0
  have kf1 : ∀ w, Keeps V w → w.cell? ⟨g, 1, none⟩ = some (.int .i64 15) := fun w h => h.cell (by omega) f1
  have kf2 : ∀ w, Keeps V w → w.cell? ⟨g, 2, none⟩ = some (.int .u32 31) := fun w h => h.cell (by omega) f2
  have ka0 : ∀ w, Keeps V w → w.cell? ⟨g + 1, 0, none⟩ = some (.int .i64 0) := fun w h => h.cell (by omega) a0
  have ka1 : ∀ w, Keeps V w → w.cell? ⟨g + 1, 1, none⟩ = some (.bool sv) := fun w h => h.cell (by omega) a1
  have ka2 : ∀ w, Keeps V w → w.cell? ⟨g + 1, 2, none⟩ = some (.int .u64 mv) := fun w h => h.cell (by omega) a2
  have ka3 : ∀ w, Keeps V w → w.cell? ⟨g + 1, 3, none⟩ = some (.int .i64 ev) := fun w h => h.cell (by omega) a3
  have kb0 : ∀ w, Keeps V w → w.cell? ⟨g + 2, 0, none⟩ = some (.int .i64 0) := fun w h => h.cell (by omega) b0
  have kb1 : ∀ w, Keeps V w → w.cell? ⟨g + 2, 1, none⟩ = some (.bool (!sv)) := fun w h => h.cell (by omega) b1
  have kb2 : ∀ w, Keeps V w → w.cell? ⟨g + 2, 2, none⟩ = some (.int .u64 mw) := fun w h => h.cell (by omega) b2
  have kb3 : ∀ w, Keeps V w → w.cell? ⟨g + 2, 3, none⟩ = some (.int .i64 ev) := fun w h => h.cell (by omega) b3
  have LQ := LT.out
  have RQ := RR.out
  clear LT RR z
  go_enter Try.func50, Try.ntmps50
  go_wp2_with fail
  refine region_q (C := Keeps V) (by kernel_rfl) (by kernel_rfl) (Keeps.drew V) ?_
  (iterate 10
    (apply wpQuiet_go _ (by rfl)
     · intro wq hq
       go_simp
       first
         | exact rfl
     simp only [Act.put, List.setIfInBounds_toArray, List.set_cons_succ, List.set_cons_zero]))
  refine wpQuiet_nil ?_
  intro w1 hk
  have qf0 := kf0 _ hk
  have qf1 := kf1 _ hk
  have qf2 := kf2 _ hk
  have qa0 := ka0 _ hk
  have qa1 := ka1 _ hk
  have qa2 := ka2 _ hk
  have qa3 := ka3 _ hk
  have qb0 := kb0 _ hk
  have qb1 := kb1 _ hk
  have qb2 := kb2 _ hk
  have qb3 := kb3 _ hk
  have hb := hk.below
  have H1 : Hid (Below w.heap.size w w1) := bel_step hB.out hb
  clear kf0 kf1 kf2 ka0 ka1 ka2 ka3 kb0 kb1 kb2 kb3 f0 f1 f2 a0 a1 a2 a3 b0 b1 b2 b3 hb
  have cf0 : ∀ w, Keeps w1 w → w.cell? ⟨g, 0, none⟩ = some (.int .i64 10) := fun w h => h.cell (by have := hk.below.size; omega) qf0
  have cf1 : ∀ w, Keeps w1 w → w.cell? ⟨g, 1, none⟩ = some (.int .i64 15) := fun w h => h.cell (by have := hk.below.size; omega) qf1
  have cf2 : ∀ w, Keeps w1 w → w.cell? ⟨g, 2, none⟩ = some (.int .u32 31) := fun w h => h.cell (by have := hk.below.size; omega) qf2
  have ca0 : ∀ w, Keeps w1 w → w.cell? ⟨g + 1, 0, none⟩ = some (.int .i64 0) := fun w h => h.cell (by have := hk.below.size; omega) qa0
  have ca1 : ∀ w, Keeps w1 w → w.cell? ⟨g + 1, 1, none⟩ = some (.bool sv) := fun w h => h.cell (by have := hk.below.size; omega) qa1
  have ca2 : ∀ w, Keeps w1 w → w.cell? ⟨g + 1, 2, none⟩ = some (.int .u64 mv) := fun w h => h.cell (by have := hk.below.size; omega) qa2
  have ca3 : ∀ w, Keeps w1 w → w.cell? ⟨g + 1, 3, none⟩ = some (.int .i64 ev) := fun w h => h.cell (by have := hk.below.size; omega) qa3
  have ON := oneOf more
  clear hk
  go_wp2_with fail
  refine (LQ _).mono ?_
  rintro e w2 ⟨rfl, hw⟩
  obtain rfl := hw.symm
  clear LQ
  go_wp2_with fail
  refine region_q (C := Keeps w1) (by kernel_rfl) (by kernel_rfl) (Keeps.drew w1) ?_
  (iterate 15
    (apply wpQuiet_go _ (by rfl)
     · intro wq hq
       go_simp
       first
         | (go_at_call 54; exact qsame hq (ON _))
         | (go_at_call 33; exact qcall hq (RQ _))
         | exact rfl
     simp only [Act.put, List.setIfInBounds_toArray, List.set_cons_succ, List.set_cons_zero]))
  refine wpQuiet_nil ?_
  intro w3 hk3
  have H3 : Hid (Below w.heap.size w w3) := bel_step H1.out hk3.below
  clear cf0 cf1 cf2 ca0 ca1 ca2 ca3 qf0 qf1 qf2 qa0 qa1 qa2 qa3 qb0 qb1 qb2 qb3 hk3
  go_wp2
  go_ret
  exact ⟨rfl, by first | exact H3.out | (rw [← hg]; exact H3.out)⟩


set_option maxRecDepth 100000 in
set_option maxHeartbeats 1000000 in
theorem addO1d32 (sv more : Bool) (mv mw ev A B M E r : Int) (k1 : ¬ mv < mw) (k3 : (mv == mw) = false)  (v1 : IntKind.u64.wrap (mv * 1073741824) = A) (v2 : IntKind.u64.wrap (mw * 1073741824) = B)  (X : Int) (v4 : IntKind.u64.wrap (A - B) = X) (v5 : IntKind.u64.wrap (X - (more.toNat : Int)) = M) (v7 : IntKind.i64.wrap (ev - 30) = E)
    (LT : Hid (∀ w, Calls Try.prog 67 #[.int .u64 B, .int .i64 0] w fun e w' => e = .returned (.bool more) ∧ w' = w))
    (RR : Hid (∀ w, Calls Try.prog 33 #[(.agg #[.int .i64 23, .int .i64 127, .int .u32 255]), .bool sv, .int .u64 M, .int .i64 E, .bool more] w fun e w' => e = .returned (.int .u32 r) ∧ Below w.heap.size w w')) (w : World) :
    Calls Try.prog 50 #[(.agg #[.int .i64 23, .int .i64 127, .int .u32 255]), (.agg #[.int .i64 0, .bool sv, .int .u64 mv, .int .i64 ev]), (.agg #[.int .i64 0, .bool (!sv), .int .u64 mw, .int .i64 ev])] w fun e w' => e = .returned (.int .u32 r) ∧ Below w.heap.size w w' := by
  obtain ⟨g, hg⟩ : ∃ g, w.heap.size = g := ⟨_, rfl⟩
  obtain ⟨V, hV⟩ : ∃ V, ((w.alloc (.cells #[.int .i64 23, .int .i64 127, .int .u32 255] 45)).alloc (.cells #[.int .i64 0, .bool sv, .int .u64 mv, .int .i64 ev] 50)).alloc (.cells #[.int .i64 0, .bool (!sv), .int .u64 mw, .int .i64 ev] 50) = V := ⟨_, rfl⟩
  have hB : Hid (Below w.heap.size w V) := by unfold Hid; rw [← hV]; (repeat (first | refine Below.alloc ?_ (by first | (simp; done) | (simp; omega)) _ | refine Below.setCell ?_ (by first | (simp; done) | (simp; omega)) _ | refine bel_dN ?_ _ | refine Below.drew ?_ | exact Below.refl _ _))
  have hs : V.heap.size = g + 3 := by rw [← hV, ← hg]; simp
  have z : ∀ j, V.frozen? ⟨g + 1, j, none⟩ = false ∧ V.frozen? ⟨g + 2, j, none⟩ = false := fun j => by
    rw [← hV, ← hg]
    exact ⟨(World.frozen?_alloc_old _ _ ⟨w.heap.size + 1, j, none⟩ (by simp)).trans (by simp), World.frozen?_alloc_at _ _ _ _ (by simp)⟩
  have f0 : V.cell? ⟨g, 0, none⟩ = some (.int .i64 23) := by rw [← hV, ← hg]; rw [World.cell?_alloc_past _ _ _ (by first | (simp; done) | (simp; omega))]; simp
  have f1 : V.cell? ⟨g, 1, none⟩ = some (.int .i64 127) := by rw [← hV, ← hg]; rw [World.cell?_alloc_past _ _ _ (by first | (simp; done) | (simp; omega))]; simp
  have f2 : V.cell? ⟨g, 2, none⟩ = some (.int .u32 255) := by rw [← hV, ← hg]; rw [World.cell?_alloc_past _ _ _ (by first | (simp; done) | (simp; omega))]; simp
  have a0 : V.cell? ⟨g + 1, 0, none⟩ = some (.int .i64 0) := by rw [← hV, ← hg]; rw [World.cell?_alloc_past _ _ _ (by first | (simp; done) | (simp; omega))]; simp
  have a1 : V.cell? ⟨g + 1, 1, none⟩ = some (.bool sv) := by rw [← hV, ← hg]; rw [World.cell?_alloc_past _ _ _ (by first | (simp; done) | (simp; omega))]; simp
  have a2 : V.cell? ⟨g + 1, 2, none⟩ = some (.int .u64 mv) := by rw [← hV, ← hg]; rw [World.cell?_alloc_past _ _ _ (by first | (simp; done) | (simp; omega))]; simp
  have a3 : V.cell? ⟨g + 1, 3, none⟩ = some (.int .i64 ev) := by rw [← hV, ← hg]; rw [World.cell?_alloc_past _ _ _ (by first | (simp; done) | (simp; omega))]; simp
  have b0 : V.cell? ⟨g + 2, 0, none⟩ = some (.int .i64 0) := by rw [← hV, ← hg]; rw [World.cell?_alloc_at _ _ _ _ (by simp)]; rfl
  have b1 : V.cell? ⟨g + 2, 1, none⟩ = some (.bool (!sv)) := by rw [← hV, ← hg]; rw [World.cell?_alloc_at _ _ _ _ (by simp)]; rfl
  have b2 : V.cell? ⟨g + 2, 2, none⟩ = some (.int .u64 mw) := by rw [← hV, ← hg]; rw [World.cell?_alloc_at _ _ _ _ (by simp)]; rfl
  have b3 : V.cell? ⟨g + 2, 3, none⟩ = some (.int .i64 ev) := by rw [← hV, ← hg]; rw [World.cell?_alloc_at _ _ _ _ (by simp)]; rfl
  have kf0 : ∀ w, Keeps V w → w.cell? ⟨g, 0, none⟩ = some (.int .i64 23) := fun w h => h.cell (by omega) f0
  have kf1 : ∀ w, Keeps V w → w.cell? ⟨g, 1, none⟩ = some (.int .i64 127) := fun w h => h.cell (by omega) f1
  have kf2 : ∀ w, Keeps V w → w.cell? ⟨g, 2, none⟩ = some (.int .u32 255) := fun w h => h.cell (by omega) f2
  have ka0 : ∀ w, Keeps V w → w.cell? ⟨g + 1, 0, none⟩ = some (.int .i64 0) := fun w h => h.cell (by omega) a0
  have ka1 : ∀ w, Keeps V w → w.cell? ⟨g + 1, 1, none⟩ = some (.bool sv) := fun w h => h.cell (by omega) a1
  have ka2 : ∀ w, Keeps V w → w.cell? ⟨g + 1, 2, none⟩ = some (.int .u64 mv) := fun w h => h.cell (by omega) a2
  have ka3 : ∀ w, Keeps V w → w.cell? ⟨g + 1, 3, none⟩ = some (.int .i64 ev) := fun w h => h.cell (by omega) a3
  have kb0 : ∀ w, Keeps V w → w.cell? ⟨g + 2, 0, none⟩ = some (.int .i64 0) := fun w h => h.cell (by omega) b0
  have kb1 : ∀ w, Keeps V w → w.cell? ⟨g + 2, 1, none⟩ = some (.bool (!sv)) := fun w h => h.cell (by omega) b1
  have kb2 : ∀ w, Keeps V w → w.cell? ⟨g + 2, 2, none⟩ = some (.int .u64 mw) := fun w h => h.cell (by omega) b2
  have kb3 : ∀ w, Keeps V w → w.cell? ⟨g + 2, 3, none⟩ = some (.int .i64 ev) := fun w h => h.cell (by omega) b3
  have LQ := LT.out
  have RQ := RR.out
  clear LT RR z
  go_enter Try.func50, Try.ntmps50
  go_wp2_with fail
  refine region_q (C := Keeps V) (by kernel_rfl) (by kernel_rfl) (Keeps.drew V) ?_
  (iterate 10
    (apply wpQuiet_go _ (by rfl)
     · intro wq hq
       go_simp
       first
         | exact rfl
     simp only [Act.put, List.setIfInBounds_toArray, List.set_cons_succ, List.set_cons_zero]))
  refine wpQuiet_nil ?_
  intro w1 hk
  have qf0 := kf0 _ hk
  have qf1 := kf1 _ hk
  have qf2 := kf2 _ hk
  have qa0 := ka0 _ hk
  have qa1 := ka1 _ hk
  have qa2 := ka2 _ hk
  have qa3 := ka3 _ hk
  have qb0 := kb0 _ hk
  have qb1 := kb1 _ hk
  have qb2 := kb2 _ hk
  have qb3 := kb3 _ hk
  have hb := hk.below
  have H1 : Hid (Below w.heap.size w w1) := bel_step hB.out hb
  clear kf0 kf1 kf2 ka0 ka1 ka2 ka3 kb0 kb1 kb2 kb3 f0 f1 f2 a0 a1 a2 a3 b0 b1 b2 b3 hb
  have cf0 : ∀ w, Keeps w1 w → w.cell? ⟨g, 0, none⟩ = some (.int .i64 23) := fun w h => h.cell (by have := hk.below.size; omega) qf0
  have cf1 : ∀ w, Keeps w1 w → w.cell? ⟨g, 1, none⟩ = some (.int .i64 127) := fun w h => h.cell (by have := hk.below.size; omega) qf1
  have cf2 : ∀ w, Keeps w1 w → w.cell? ⟨g, 2, none⟩ = some (.int .u32 255) := fun w h => h.cell (by have := hk.below.size; omega) qf2
  have ca0 : ∀ w, Keeps w1 w → w.cell? ⟨g + 1, 0, none⟩ = some (.int .i64 0) := fun w h => h.cell (by have := hk.below.size; omega) qa0
  have ca1 : ∀ w, Keeps w1 w → w.cell? ⟨g + 1, 1, none⟩ = some (.bool sv) := fun w h => h.cell (by have := hk.below.size; omega) qa1
  have ca2 : ∀ w, Keeps w1 w → w.cell? ⟨g + 1, 2, none⟩ = some (.int .u64 mv) := fun w h => h.cell (by have := hk.below.size; omega) qa2
  have ca3 : ∀ w, Keeps w1 w → w.cell? ⟨g + 1, 3, none⟩ = some (.int .i64 ev) := fun w h => h.cell (by have := hk.below.size; omega) qa3
  have ON := oneOf more
  clear hk
  go_wp2_with fail
  refine (LQ _).mono ?_
  rintro e w2 ⟨rfl, hw⟩
  obtain rfl := hw.symm
  clear LQ
  go_wp2_with fail
  refine region_q (C := Keeps w1) (by kernel_rfl) (by kernel_rfl) (Keeps.drew w1) ?_
  (iterate 15
    (apply wpQuiet_go _ (by rfl)
     · intro wq hq
       go_simp
       first
         | (go_at_call 54; exact qsame hq (ON _))
         | (go_at_call 33; exact qcall hq (RQ _))
         | exact rfl
     simp only [Act.put, List.setIfInBounds_toArray, List.set_cons_succ, List.set_cons_zero]))
  refine wpQuiet_nil ?_
  intro w3 hk3
  have H3 : Hid (Below w.heap.size w w3) := bel_step H1.out hk3.below
  clear cf0 cf1 cf2 ca0 ca1 ca2 ca3 qf0 qf1 qf2 qa0 qa1 qa2 qa3 qb0 qb1 qb2 qb3 hk3
  go_wp2
  go_ret
  exact ⟨rfl, by first | exact H3.out | (rw [← hg]; exact H3.out)⟩


set_option maxRecDepth 100000 in
set_option maxHeartbeats 1000000 in
theorem addW1s16 (sv more : Bool) (mv mw ev A B M E r : Int) (k1 : mw < mv) (k3 : (mv == mw) = false)  (v1 : IntKind.u64.wrap (mv * 1073741824) = A) (v2 : IntKind.u64.wrap (mw * 1073741824) = B)  (v4 : IntKind.u64.wrap (A + B) = M) (v7 : IntKind.i64.wrap (ev - 30) = E)
    (LT : Hid (∀ w, Calls Try.prog 67 #[.int .u64 B, .int .i64 0] w fun e w' => e = .returned (.bool more) ∧ w' = w))
    (RR : Hid (∀ w, Calls Try.prog 33 #[(.agg #[.int .i64 10, .int .i64 15, .int .u32 31]), .bool sv, .int .u64 M, .int .i64 E, .bool more] w fun e w' => e = .returned (.int .u32 r) ∧ Below w.heap.size w w')) (w : World) :
    Calls Try.prog 50 #[(.agg #[.int .i64 10, .int .i64 15, .int .u32 31]), (.agg #[.int .i64 0, .bool sv, .int .u64 mw, .int .i64 ev]), (.agg #[.int .i64 0, .bool sv, .int .u64 mv, .int .i64 ev])] w fun e w' => e = .returned (.int .u32 r) ∧ Below w.heap.size w w' := by
  obtain ⟨g, hg⟩ : ∃ g, w.heap.size = g := ⟨_, rfl⟩
  obtain ⟨V, hV⟩ : ∃ V, ((w.alloc (.cells #[.int .i64 10, .int .i64 15, .int .u32 31] 45)).alloc (.cells #[.int .i64 0, .bool sv, .int .u64 mw, .int .i64 ev] 50)).alloc (.cells #[.int .i64 0, .bool sv, .int .u64 mv, .int .i64 ev] 50) = V := ⟨_, rfl⟩
  have hB : Hid (Below w.heap.size w V) := by unfold Hid; rw [← hV]; (repeat (first | refine Below.alloc ?_ (by first | (simp; done) | (simp; omega)) _ | refine Below.setCell ?_ (by first | (simp; done) | (simp; omega)) _ | refine bel_dN ?_ _ | refine Below.drew ?_ | exact Below.refl _ _))
  have hs : V.heap.size = g + 3 := by rw [← hV, ← hg]; simp
  have z : ∀ j, V.frozen? ⟨g + 1, j, none⟩ = false ∧ V.frozen? ⟨g + 2, j, none⟩ = false := fun j => by
    rw [← hV, ← hg]
    exact ⟨(World.frozen?_alloc_old _ _ ⟨w.heap.size + 1, j, none⟩ (by simp)).trans (by simp), World.frozen?_alloc_at _ _ _ _ (by simp)⟩
  have f0 : V.cell? ⟨g, 0, none⟩ = some (.int .i64 10) := by rw [← hV, ← hg]; rw [World.cell?_alloc_past _ _ _ (by first | (simp; done) | (simp; omega))]; simp
  have f1 : V.cell? ⟨g, 1, none⟩ = some (.int .i64 15) := by rw [← hV, ← hg]; rw [World.cell?_alloc_past _ _ _ (by first | (simp; done) | (simp; omega))]; simp
  have f2 : V.cell? ⟨g, 2, none⟩ = some (.int .u32 31) := by rw [← hV, ← hg]; rw [World.cell?_alloc_past _ _ _ (by first | (simp; done) | (simp; omega))]; simp
  have a0 : V.cell? ⟨g + 1, 0, none⟩ = some (.int .i64 0) := by rw [← hV, ← hg]; rw [World.cell?_alloc_past _ _ _ (by first | (simp; done) | (simp; omega))]; simp
  have a1 : V.cell? ⟨g + 1, 1, none⟩ = some (.bool sv) := by rw [← hV, ← hg]; rw [World.cell?_alloc_past _ _ _ (by first | (simp; done) | (simp; omega))]; simp
  have a2 : V.cell? ⟨g + 1, 2, none⟩ = some (.int .u64 mw) := by rw [← hV, ← hg]; rw [World.cell?_alloc_past _ _ _ (by first | (simp; done) | (simp; omega))]; simp
  have a3 : V.cell? ⟨g + 1, 3, none⟩ = some (.int .i64 ev) := by rw [← hV, ← hg]; rw [World.cell?_alloc_past _ _ _ (by first | (simp; done) | (simp; omega))]; simp
  have b0 : V.cell? ⟨g + 2, 0, none⟩ = some (.int .i64 0) := by rw [← hV, ← hg]; rw [World.cell?_alloc_at _ _ _ _ (by simp)]; rfl
  have b1 : V.cell? ⟨g + 2, 1, none⟩ = some (.bool sv) := by rw [← hV, ← hg]; rw [World.cell?_alloc_at _ _ _ _ (by simp)]; rfl
  have b2 : V.cell? ⟨g + 2, 2, none⟩ = some (.int .u64 mv) := by rw [← hV, ← hg]; rw [World.cell?_alloc_at _ _ _ _ (by simp)]; rfl
  have b3 : V.cell? ⟨g + 2, 3, none⟩ = some (.int .i64 ev) := by rw [← hV, ← hg]; rw [World.cell?_alloc_at _ _ _ _ (by simp)]; rfl
  have y0 := z 0
  have y1 := z 1
  have y2 := z 2
  have y3 := z 3
  obtain ⟨U, hU⟩ : ∃ U, ((((((((V.setCell ⟨g + 1, 0, none⟩ (.int .i64 0)).setCell ⟨g + 1, 1, none⟩ (.bool sv)).setCell ⟨g + 1, 2, none⟩ (.int .u64 mv)).setCell ⟨g + 1, 3, none⟩ (.int .i64 ev)).setCell ⟨g + 2, 0, none⟩ (.int .i64 0)).setCell ⟨g + 2, 1, none⟩ (.bool sv)).setCell ⟨g + 2, 2, none⟩ (.int .u64 mw)).setCell ⟨g + 2, 3, none⟩ (.int .i64 ev)) = U := ⟨_, rfl⟩
  have hBU : Hid (Below w.heap.size w U) := by
    unfold Hid; rw [← hU]
    have := hB.out
    repeat (refine Below.setCell ?_ (by simp; omega) _)
    exact this
  have hsU : U.heap.size = g + 3 := by rw [← hU]; simp; exact hs
  have F0 : U.cell? ⟨g, 0, none⟩ = V.cell? ⟨g, 0, none⟩ := by rw [← hU]; simp [World.cell?_setCell_other]
  have F1 : U.cell? ⟨g, 1, none⟩ = V.cell? ⟨g, 1, none⟩ := by rw [← hU]; simp [World.cell?_setCell_other]
  have F2 : U.cell? ⟨g, 2, none⟩ = V.cell? ⟨g, 2, none⟩ := by rw [← hU]; simp [World.cell?_setCell_other]
  have A0 : U.cell? ⟨g + 1, 0, none⟩ = some (.int .i64 0) := by rw [← hU]; simp [go_sem, a0]
  have A1 : U.cell? ⟨g + 1, 1, none⟩ = some (.bool sv) := by rw [← hU]; simp [go_sem, a1]
  have A2 : U.cell? ⟨g + 1, 2, none⟩ = some (.int .u64 mv) := by rw [← hU]; simp [go_sem, a2]
  have A3 : U.cell? ⟨g + 1, 3, none⟩ = some (.int .i64 ev) := by rw [← hU]; simp [go_sem, a3]
  have B0 : U.cell? ⟨g + 2, 0, none⟩ = some (.int .i64 0) := by rw [← hU]; simp [go_sem, b0]
  have B1 : U.cell? ⟨g + 2, 1, none⟩ = some (.bool sv) := by rw [← hU]; simp [go_sem, b1]
  have B2 : U.cell? ⟨g + 2, 2, none⟩ = some (.int .u64 mw) := by rw [← hU]; simp [go_sem, b2]
  have B3 : U.cell? ⟨g + 2, 3, none⟩ = some (.int .i64 ev) := by rw [← hU]; simp [go_sem, b3]
  have kf0 : ∀ w, Keeps U w → w.cell? ⟨g, 0, none⟩ = some (.int .i64 10) := fun w h => h.cell (by omega) (F0.trans f0)
  have kf1 : ∀ w, Keeps U w → w.cell? ⟨g, 1, none⟩ = some (.int .i64 15) := fun w h => h.cell (by omega) (F1.trans f1)
  have kf2 : ∀ w, Keeps U w → w.cell? ⟨g, 2, none⟩ = some (.int .u32 31) := fun w h => h.cell (by omega) (F2.trans f2)
  have ka0 : ∀ w, Keeps U w → w.cell? ⟨g + 1, 0, none⟩ = some (.int .i64 0) := fun w h => h.cell (by omega) A0
  have ka1 : ∀ w, Keeps U w → w.cell? ⟨g + 1, 1, none⟩ = some (.bool sv) := fun w h => h.cell (by omega) A1
  have ka2 : ∀ w, Keeps U w → w.cell? ⟨g + 1, 2, none⟩ = some (.int .u64 mv) := fun w h => h.cell (by omega) A2
  have ka3 : ∀ w, Keeps U w → w.cell? ⟨g + 1, 3, none⟩ = some (.int .i64 ev) := fun w h => h.cell (by omega) A3
  have kb0 : ∀ w, Keeps U w → w.cell? ⟨g + 2, 0, none⟩ = some (.int .i64 0) := fun w h => h.cell (by omega) B0
  have kb1 : ∀ w, Keeps U w → w.cell? ⟨g + 2, 1, none⟩ = some (.bool sv) := fun w h => h.cell (by omega) B1
  have kb2 : ∀ w, Keeps U w → w.cell? ⟨g + 2, 2, none⟩ = some (.int .u64 mw) := fun w h => h.cell (by omega) B2
  have kb3 : ∀ w, Keeps U w → w.cell? ⟨g + 2, 3, none⟩ = some (.int .i64 ev) := fun w h => h.cell (by omega) B3
  have LQ := LT.out
  have RQ := RR.out
  clear LT RR z
  go_enter Try.func50, Try.ntmps50
  go_wp2_with fail
  refine region_q (C := Keeps U) (by kernel_rfl) (by kernel_rfl) (Keeps.drew U) ?_
  (iterate 10
    (apply wpQuiet_go _ (by rfl)
     · intro wq hq
       go_simp
       first
         | exact rfl
     simp only [Act.put, List.setIfInBounds_toArray, List.set_cons_succ, List.set_cons_zero]))
  refine wpQuiet_nil ?_
  intro w1 hk
  have qf0 := kf0 _ hk
  have qf1 := kf1 _ hk
  have qf2 := kf2 _ hk
  have qa0 := ka0 _ hk
  have qa1 := ka1 _ hk
  have qa2 := ka2 _ hk
  have qa3 := ka3 _ hk
  have qb0 := kb0 _ hk
  have qb1 := kb1 _ hk
  have qb2 := kb2 _ hk
  have qb3 := kb3 _ hk
  have hb := hk.below
  have H1 : Hid (Below w.heap.size w w1) := bel_step hBU.out hb
  clear kf0 kf1 kf2 ka0 ka1 ka2 ka3 kb0 kb1 kb2 kb3 f0 f1 f2 a0 a1 a2 a3 b0 b1 b2 b3 F0 F1 F2 A0 A1 A2 A3 B0 B1 B2 B3 y0 y1 y2 y3 hk hb
  go_wp2_with fail
  refine (LQ _).mono ?_
  rintro e w2 ⟨rfl, hw⟩
  obtain rfl := hw.symm
  go_wp2_with fail
  refine (RQ _).mono ?_
  rintro e w3 ⟨rfl, B3⟩
  have H3 : Hid (Below w.heap.size w w3) := bel_step H1.out B3
  clear B3 qf0 qf1 qf2 qa0 qa1 qa2 qa3 qb0 qb1 qb2 qb3
  go_wp2
  go_ret
  exact ⟨rfl, by first | exact H3.out | (rw [← hg]; exact H3.out)⟩


set_option maxRecDepth 100000 in
set_option maxHeartbeats 1000000 in
theorem addW1s32 (sv more : Bool) (mv mw ev A B M E r : Int) (k1 : mw < mv) (k3 : (mv == mw) = false)  (v1 : IntKind.u64.wrap (mv * 1073741824) = A) (v2 : IntKind.u64.wrap (mw * 1073741824) = B)  (v4 : IntKind.u64.wrap (A + B) = M) (v7 : IntKind.i64.wrap (ev - 30) = E)
    (LT : Hid (∀ w, Calls Try.prog 67 #[.int .u64 B, .int .i64 0] w fun e w' => e = .returned (.bool more) ∧ w' = w))
    (RR : Hid (∀ w, Calls Try.prog 33 #[(.agg #[.int .i64 23, .int .i64 127, .int .u32 255]), .bool sv, .int .u64 M, .int .i64 E, .bool more] w fun e w' => e = .returned (.int .u32 r) ∧ Below w.heap.size w w')) (w : World) :
    Calls Try.prog 50 #[(.agg #[.int .i64 23, .int .i64 127, .int .u32 255]), (.agg #[.int .i64 0, .bool sv, .int .u64 mw, .int .i64 ev]), (.agg #[.int .i64 0, .bool sv, .int .u64 mv, .int .i64 ev])] w fun e w' => e = .returned (.int .u32 r) ∧ Below w.heap.size w w' := by
  obtain ⟨g, hg⟩ : ∃ g, w.heap.size = g := ⟨_, rfl⟩
  obtain ⟨V, hV⟩ : ∃ V, ((w.alloc (.cells #[.int .i64 23, .int .i64 127, .int .u32 255] 45)).alloc (.cells #[.int .i64 0, .bool sv, .int .u64 mw, .int .i64 ev] 50)).alloc (.cells #[.int .i64 0, .bool sv, .int .u64 mv, .int .i64 ev] 50) = V := ⟨_, rfl⟩
  have hB : Hid (Below w.heap.size w V) := by unfold Hid; rw [← hV]; (repeat (first | refine Below.alloc ?_ (by first | (simp; done) | (simp; omega)) _ | refine Below.setCell ?_ (by first | (simp; done) | (simp; omega)) _ | refine bel_dN ?_ _ | refine Below.drew ?_ | exact Below.refl _ _))
  have hs : V.heap.size = g + 3 := by rw [← hV, ← hg]; simp
  have z : ∀ j, V.frozen? ⟨g + 1, j, none⟩ = false ∧ V.frozen? ⟨g + 2, j, none⟩ = false := fun j => by
    rw [← hV, ← hg]
    exact ⟨(World.frozen?_alloc_old _ _ ⟨w.heap.size + 1, j, none⟩ (by simp)).trans (by simp), World.frozen?_alloc_at _ _ _ _ (by simp)⟩
  have f0 : V.cell? ⟨g, 0, none⟩ = some (.int .i64 23) := by rw [← hV, ← hg]; rw [World.cell?_alloc_past _ _ _ (by first | (simp; done) | (simp; omega))]; simp
  have f1 : V.cell? ⟨g, 1, none⟩ = some (.int .i64 127) := by rw [← hV, ← hg]; rw [World.cell?_alloc_past _ _ _ (by first | (simp; done) | (simp; omega))]; simp
  have f2 : V.cell? ⟨g, 2, none⟩ = some (.int .u32 255) := by rw [← hV, ← hg]; rw [World.cell?_alloc_past _ _ _ (by first | (simp; done) | (simp; omega))]; simp
  have a0 : V.cell? ⟨g + 1, 0, none⟩ = some (.int .i64 0) := by rw [← hV, ← hg]; rw [World.cell?_alloc_past _ _ _ (by first | (simp; done) | (simp; omega))]; simp
  have a1 : V.cell? ⟨g + 1, 1, none⟩ = some (.bool sv) := by rw [← hV, ← hg]; rw [World.cell?_alloc_past _ _ _ (by first | (simp; done) | (simp; omega))]; simp
  have a2 : V.cell? ⟨g + 1, 2, none⟩ = some (.int .u64 mw) := by rw [← hV, ← hg]; rw [World.cell?_alloc_past _ _ _ (by first | (simp; done) | (simp; omega))]; simp
  have a3 : V.cell? ⟨g + 1, 3, none⟩ = some (.int .i64 ev) := by rw [← hV, ← hg]; rw [World.cell?_alloc_past _ _ _ (by first | (simp; done) | (simp; omega))]; simp
  have b0 : V.cell? ⟨g + 2, 0, none⟩ = some (.int .i64 0) := by rw [← hV, ← hg]; rw [World.cell?_alloc_at _ _ _ _ (by simp)]; rfl
  have b1 : V.cell? ⟨g + 2, 1, none⟩ = some (.bool sv) := by rw [← hV, ← hg]; rw [World.cell?_alloc_at _ _ _ _ (by simp)]; rfl
  have b2 : V.cell? ⟨g + 2, 2, none⟩ = some (.int .u64 mv) := by rw [← hV, ← hg]; rw [World.cell?_alloc_at _ _ _ _ (by simp)]; rfl
  have b3 : V.cell? ⟨g + 2, 3, none⟩ = some (.int .i64 ev) := by rw [← hV, ← hg]; rw [World.cell?_alloc_at _ _ _ _ (by simp)]; rfl
  have y0 := z 0
  have y1 := z 1
  have y2 := z 2
  have y3 := z 3
  obtain ⟨U, hU⟩ : ∃ U, ((((((((V.setCell ⟨g + 1, 0, none⟩ (.int .i64 0)).setCell ⟨g + 1, 1, none⟩ (.bool sv)).setCell ⟨g + 1, 2, none⟩ (.int .u64 mv)).setCell ⟨g + 1, 3, none⟩ (.int .i64 ev)).setCell ⟨g + 2, 0, none⟩ (.int .i64 0)).setCell ⟨g + 2, 1, none⟩ (.bool sv)).setCell ⟨g + 2, 2, none⟩ (.int .u64 mw)).setCell ⟨g + 2, 3, none⟩ (.int .i64 ev)) = U := ⟨_, rfl⟩
  have hBU : Hid (Below w.heap.size w U) := by
    unfold Hid; rw [← hU]
    have := hB.out
    repeat (refine Below.setCell ?_ (by simp; omega) _)
    exact this
  have hsU : U.heap.size = g + 3 := by rw [← hU]; simp; exact hs
  have F0 : U.cell? ⟨g, 0, none⟩ = V.cell? ⟨g, 0, none⟩ := by rw [← hU]; simp [World.cell?_setCell_other]
  have F1 : U.cell? ⟨g, 1, none⟩ = V.cell? ⟨g, 1, none⟩ := by rw [← hU]; simp [World.cell?_setCell_other]
  have F2 : U.cell? ⟨g, 2, none⟩ = V.cell? ⟨g, 2, none⟩ := by rw [← hU]; simp [World.cell?_setCell_other]
  have A0 : U.cell? ⟨g + 1, 0, none⟩ = some (.int .i64 0) := by rw [← hU]; simp [go_sem, a0]
  have A1 : U.cell? ⟨g + 1, 1, none⟩ = some (.bool sv) := by rw [← hU]; simp [go_sem, a1]
  have A2 : U.cell? ⟨g + 1, 2, none⟩ = some (.int .u64 mv) := by rw [← hU]; simp [go_sem, a2]
  have A3 : U.cell? ⟨g + 1, 3, none⟩ = some (.int .i64 ev) := by rw [← hU]; simp [go_sem, a3]
  have B0 : U.cell? ⟨g + 2, 0, none⟩ = some (.int .i64 0) := by rw [← hU]; simp [go_sem, b0]
  have B1 : U.cell? ⟨g + 2, 1, none⟩ = some (.bool sv) := by rw [← hU]; simp [go_sem, b1]
  have B2 : U.cell? ⟨g + 2, 2, none⟩ = some (.int .u64 mw) := by rw [← hU]; simp [go_sem, b2]
  have B3 : U.cell? ⟨g + 2, 3, none⟩ = some (.int .i64 ev) := by rw [← hU]; simp [go_sem, b3]
  have kf0 : ∀ w, Keeps U w → w.cell? ⟨g, 0, none⟩ = some (.int .i64 23) := fun w h => h.cell (by omega) (F0.trans f0)
  have kf1 : ∀ w, Keeps U w → w.cell? ⟨g, 1, none⟩ = some (.int .i64 127) := fun w h => h.cell (by omega) (F1.trans f1)
  have kf2 : ∀ w, Keeps U w → w.cell? ⟨g, 2, none⟩ = some (.int .u32 255) := fun w h => h.cell (by omega) (F2.trans f2)
  have ka0 : ∀ w, Keeps U w → w.cell? ⟨g + 1, 0, none⟩ = some (.int .i64 0) := fun w h => h.cell (by omega) A0
  have ka1 : ∀ w, Keeps U w → w.cell? ⟨g + 1, 1, none⟩ = some (.bool sv) := fun w h => h.cell (by omega) A1
  have ka2 : ∀ w, Keeps U w → w.cell? ⟨g + 1, 2, none⟩ = some (.int .u64 mv) := fun w h => h.cell (by omega) A2
  have ka3 : ∀ w, Keeps U w → w.cell? ⟨g + 1, 3, none⟩ = some (.int .i64 ev) := fun w h => h.cell (by omega) A3
  have kb0 : ∀ w, Keeps U w → w.cell? ⟨g + 2, 0, none⟩ = some (.int .i64 0) := fun w h => h.cell (by omega) B0
  have kb1 : ∀ w, Keeps U w → w.cell? ⟨g + 2, 1, none⟩ = some (.bool sv) := fun w h => h.cell (by omega) B1
  have kb2 : ∀ w, Keeps U w → w.cell? ⟨g + 2, 2, none⟩ = some (.int .u64 mw) := fun w h => h.cell (by omega) B2
  have kb3 : ∀ w, Keeps U w → w.cell? ⟨g + 2, 3, none⟩ = some (.int .i64 ev) := fun w h => h.cell (by omega) B3
  have LQ := LT.out
  have RQ := RR.out
  clear LT RR z
  go_enter Try.func50, Try.ntmps50
  go_wp2_with fail
  refine region_q (C := Keeps U) (by kernel_rfl) (by kernel_rfl) (Keeps.drew U) ?_
  (iterate 10
    (apply wpQuiet_go _ (by rfl)
     · intro wq hq
       go_simp
       first
         | exact rfl
     simp only [Act.put, List.setIfInBounds_toArray, List.set_cons_succ, List.set_cons_zero]))
  refine wpQuiet_nil ?_
  intro w1 hk
  have qf0 := kf0 _ hk
  have qf1 := kf1 _ hk
  have qf2 := kf2 _ hk
  have qa0 := ka0 _ hk
  have qa1 := ka1 _ hk
  have qa2 := ka2 _ hk
  have qa3 := ka3 _ hk
  have qb0 := kb0 _ hk
  have qb1 := kb1 _ hk
  have qb2 := kb2 _ hk
  have qb3 := kb3 _ hk
  have hb := hk.below
  have H1 : Hid (Below w.heap.size w w1) := bel_step hBU.out hb
  clear kf0 kf1 kf2 ka0 ka1 ka2 ka3 kb0 kb1 kb2 kb3 f0 f1 f2 a0 a1 a2 a3 b0 b1 b2 b3 F0 F1 F2 A0 A1 A2 A3 B0 B1 B2 B3 y0 y1 y2 y3 hk hb
  go_wp2_with fail
  refine (LQ _).mono ?_
  rintro e w2 ⟨rfl, hw⟩
  obtain rfl := hw.symm
  go_wp2_with fail
  refine (RQ _).mono ?_
  rintro e w3 ⟨rfl, B3⟩
  have H3 : Hid (Below w.heap.size w w3) := bel_step H1.out B3
  clear B3 qf0 qf1 qf2 qa0 qa1 qa2 qa3 qb0 qb1 qb2 qb3
  go_wp2
  go_ret
  exact ⟨rfl, by first | exact H3.out | (rw [← hg]; exact H3.out)⟩


set_option maxRecDepth 100000 in
set_option maxHeartbeats 1000000 in
theorem addW1d16 (sv more : Bool) (mv mw ev A B M E r : Int) (k1 : mw < mv) (k3 : (mv == mw) = false)  (v1 : IntKind.u64.wrap (mv * 1073741824) = A) (v2 : IntKind.u64.wrap (mw * 1073741824) = B)  (X : Int) (v4 : IntKind.u64.wrap (A - B) = X) (v5 : IntKind.u64.wrap (X - (more.toNat : Int)) = M) (v7 : IntKind.i64.wrap (ev - 30) = E)
    (LT : Hid (∀ w, Calls Try.prog 67 #[.int .u64 B, .int .i64 0] w fun e w' => e = .returned (.bool more) ∧ w' = w))
    (RR : Hid (∀ w, Calls Try.prog 33 #[(.agg #[.int .i64 10, .int .i64 15, .int .u32 31]), .bool sv, .int .u64 M, .int .i64 E, .bool more] w fun e w' => e = .returned (.int .u32 r) ∧ Below w.heap.size w w')) (w : World) :
    Calls Try.prog 50 #[(.agg #[.int .i64 10, .int .i64 15, .int .u32 31]), (.agg #[.int .i64 0, .bool (!sv), .int .u64 mw, .int .i64 ev]), (.agg #[.int .i64 0, .bool sv, .int .u64 mv, .int .i64 ev])] w fun e w' => e = .returned (.int .u32 r) ∧ Below w.heap.size w w' := by
  obtain ⟨g, hg⟩ : ∃ g, w.heap.size = g := ⟨_, rfl⟩
  obtain ⟨V, hV⟩ : ∃ V, ((w.alloc (.cells #[.int .i64 10, .int .i64 15, .int .u32 31] 45)).alloc (.cells #[.int .i64 0, .bool (!sv), .int .u64 mw, .int .i64 ev] 50)).alloc (.cells #[.int .i64 0, .bool sv, .int .u64 mv, .int .i64 ev] 50) = V := ⟨_, rfl⟩
  have hB : Hid (Below w.heap.size w V) := by unfold Hid; rw [← hV]; (repeat (first | refine Below.alloc ?_ (by first | (simp; done) | (simp; omega)) _ | refine Below.setCell ?_ (by first | (simp; done) | (simp; omega)) _ | refine bel_dN ?_ _ | refine Below.drew ?_ | exact Below.refl _ _))
  have hs : V.heap.size = g + 3 := by rw [← hV, ← hg]; simp
  have z : ∀ j, V.frozen? ⟨g + 1, j, none⟩ = false ∧ V.frozen? ⟨g + 2, j, none⟩ = false := fun j => by
    rw [← hV, ← hg]
    exact ⟨(World.frozen?_alloc_old _ _ ⟨w.heap.size + 1, j, none⟩ (by simp)).trans (by simp), World.frozen?_alloc_at _ _ _ _ (by simp)⟩
  have f0 : V.cell? ⟨g, 0, none⟩ = some (.int .i64 10) := by rw [← hV, ← hg]; rw [World.cell?_alloc_past _ _ _ (by first | (simp; done) | (simp; omega))]; simp
  have f1 : V.cell? ⟨g, 1, none⟩ = some (.int .i64 15) := by rw [← hV, ← hg]; rw [World.cell?_alloc_past _ _ _ (by first | (simp; done) | (simp; omega))]; simp
  have f2 : V.cell? ⟨g, 2, none⟩ = some (.int .u32 31) := by rw [← hV, ← hg]; rw [World.cell?_alloc_past _ _ _ (by first | (simp; done) | (simp; omega))]; simp
  have a0 : V.cell? ⟨g + 1, 0, none⟩ = some (.int .i64 0) := by rw [← hV, ← hg]; rw [World.cell?_alloc_past _ _ _ (by first | (simp; done) | (simp; omega))]; simp
  have a1 : V.cell? ⟨g + 1, 1, none⟩ = some (.bool (!sv)) := by rw [← hV, ← hg]; rw [World.cell?_alloc_past _ _ _ (by first | (simp; done) | (simp; omega))]; simp
  have a2 : V.cell? ⟨g + 1, 2, none⟩ = some (.int .u64 mw) := by rw [← hV, ← hg]; rw [World.cell?_alloc_past _ _ _ (by first | (simp; done) | (simp; omega))]; simp
  have a3 : V.cell? ⟨g + 1, 3, none⟩ = some (.int .i64 ev) := by rw [← hV, ← hg]; rw [World.cell?_alloc_past _ _ _ (by first | (simp; done) | (simp; omega))]; simp
  have b0 : V.cell? ⟨g + 2, 0, none⟩ = some (.int .i64 0) := by rw [← hV, ← hg]; rw [World.cell?_alloc_at _ _ _ _ (by simp)]; rfl
  have b1 : V.cell? ⟨g + 2, 1, none⟩ = some (.bool sv) := by rw [← hV, ← hg]; rw [World.cell?_alloc_at _ _ _ _ (by simp)]; rfl
  have b2 : V.cell? ⟨g + 2, 2, none⟩ = some (.int .u64 mv) := by rw [← hV, ← hg]; rw [World.cell?_alloc_at _ _ _ _ (by simp)]; rfl
  have b3 : V.cell? ⟨g + 2, 3, none⟩ = some (.int .i64 ev) := by rw [← hV, ← hg]; rw [World.cell?_alloc_at _ _ _ _ (by simp)]; rfl
  have y0 := z 0
  have y1 := z 1
  have y2 := z 2
  have y3 := z 3
  obtain ⟨U, hU⟩ : ∃ U, ((((((((V.setCell ⟨g + 1, 0, none⟩ (.int .i64 0)).setCell ⟨g + 1, 1, none⟩ (.bool sv)).setCell ⟨g + 1, 2, none⟩ (.int .u64 mv)).setCell ⟨g + 1, 3, none⟩ (.int .i64 ev)).setCell ⟨g + 2, 0, none⟩ (.int .i64 0)).setCell ⟨g + 2, 1, none⟩ (.bool (!sv))).setCell ⟨g + 2, 2, none⟩ (.int .u64 mw)).setCell ⟨g + 2, 3, none⟩ (.int .i64 ev)) = U := ⟨_, rfl⟩
  have hBU : Hid (Below w.heap.size w U) := by
    unfold Hid; rw [← hU]
    have := hB.out
    repeat (refine Below.setCell ?_ (by simp; omega) _)
    exact this
  have hsU : U.heap.size = g + 3 := by rw [← hU]; simp; exact hs
  have F0 : U.cell? ⟨g, 0, none⟩ = V.cell? ⟨g, 0, none⟩ := by rw [← hU]; simp [World.cell?_setCell_other]
  have F1 : U.cell? ⟨g, 1, none⟩ = V.cell? ⟨g, 1, none⟩ := by rw [← hU]; simp [World.cell?_setCell_other]
  have F2 : U.cell? ⟨g, 2, none⟩ = V.cell? ⟨g, 2, none⟩ := by rw [← hU]; simp [World.cell?_setCell_other]
  have A0 : U.cell? ⟨g + 1, 0, none⟩ = some (.int .i64 0) := by rw [← hU]; simp [go_sem, a0]
  have A1 : U.cell? ⟨g + 1, 1, none⟩ = some (.bool sv) := by rw [← hU]; simp [go_sem, a1]
  have A2 : U.cell? ⟨g + 1, 2, none⟩ = some (.int .u64 mv) := by rw [← hU]; simp [go_sem, a2]
  have A3 : U.cell? ⟨g + 1, 3, none⟩ = some (.int .i64 ev) := by rw [← hU]; simp [go_sem, a3]
  have B0 : U.cell? ⟨g + 2, 0, none⟩ = some (.int .i64 0) := by rw [← hU]; simp [go_sem, b0]
  have B1 : U.cell? ⟨g + 2, 1, none⟩ = some (.bool (!sv)) := by rw [← hU]; simp [go_sem, b1]
  have B2 : U.cell? ⟨g + 2, 2, none⟩ = some (.int .u64 mw) := by rw [← hU]; simp [go_sem, b2]
  have B3 : U.cell? ⟨g + 2, 3, none⟩ = some (.int .i64 ev) := by rw [← hU]; simp [go_sem, b3]
  have kf0 : ∀ w, Keeps U w → w.cell? ⟨g, 0, none⟩ = some (.int .i64 10) := fun w h => h.cell (by omega) (F0.trans f0)
  have kf1 : ∀ w, Keeps U w → w.cell? ⟨g, 1, none⟩ = some (.int .i64 15) := fun w h => h.cell (by omega) (F1.trans f1)
  have kf2 : ∀ w, Keeps U w → w.cell? ⟨g, 2, none⟩ = some (.int .u32 31) := fun w h => h.cell (by omega) (F2.trans f2)
  have ka0 : ∀ w, Keeps U w → w.cell? ⟨g + 1, 0, none⟩ = some (.int .i64 0) := fun w h => h.cell (by omega) A0
  have ka1 : ∀ w, Keeps U w → w.cell? ⟨g + 1, 1, none⟩ = some (.bool sv) := fun w h => h.cell (by omega) A1
  have ka2 : ∀ w, Keeps U w → w.cell? ⟨g + 1, 2, none⟩ = some (.int .u64 mv) := fun w h => h.cell (by omega) A2
  have ka3 : ∀ w, Keeps U w → w.cell? ⟨g + 1, 3, none⟩ = some (.int .i64 ev) := fun w h => h.cell (by omega) A3
  have kb0 : ∀ w, Keeps U w → w.cell? ⟨g + 2, 0, none⟩ = some (.int .i64 0) := fun w h => h.cell (by omega) B0
  have kb1 : ∀ w, Keeps U w → w.cell? ⟨g + 2, 1, none⟩ = some (.bool (!sv)) := fun w h => h.cell (by omega) B1
  have kb2 : ∀ w, Keeps U w → w.cell? ⟨g + 2, 2, none⟩ = some (.int .u64 mw) := fun w h => h.cell (by omega) B2
  have kb3 : ∀ w, Keeps U w → w.cell? ⟨g + 2, 3, none⟩ = some (.int .i64 ev) := fun w h => h.cell (by omega) B3
  have LQ := LT.out
  have RQ := RR.out
  clear LT RR z
  go_enter Try.func50, Try.ntmps50
  go_wp2_with fail
  refine region_q (C := Keeps U) (by kernel_rfl) (by kernel_rfl) (Keeps.drew U) ?_
  (iterate 10
    (apply wpQuiet_go _ (by rfl)
     · intro wq hq
       go_simp
       first
         | exact rfl
     simp only [Act.put, List.setIfInBounds_toArray, List.set_cons_succ, List.set_cons_zero]))
  refine wpQuiet_nil ?_
  intro w1 hk
  have qf0 := kf0 _ hk
  have qf1 := kf1 _ hk
  have qf2 := kf2 _ hk
  have qa0 := ka0 _ hk
  have qa1 := ka1 _ hk
  have qa2 := ka2 _ hk
  have qa3 := ka3 _ hk
  have qb0 := kb0 _ hk
  have qb1 := kb1 _ hk
  have qb2 := kb2 _ hk
  have qb3 := kb3 _ hk
  have hb := hk.below
  have H1 : Hid (Below w.heap.size w w1) := bel_step hBU.out hb
  clear kf0 kf1 kf2 ka0 ka1 ka2 ka3 kb0 kb1 kb2 kb3 f0 f1 f2 a0 a1 a2 a3 b0 b1 b2 b3 F0 F1 F2 A0 A1 A2 A3 B0 B1 B2 B3 y0 y1 y2 y3 hb
  have cf0 : ∀ w, Keeps w1 w → w.cell? ⟨g, 0, none⟩ = some (.int .i64 10) := fun w h => h.cell (by have := hk.below.size; omega) qf0
  have cf1 : ∀ w, Keeps w1 w → w.cell? ⟨g, 1, none⟩ = some (.int .i64 15) := fun w h => h.cell (by have := hk.below.size; omega) qf1
  have cf2 : ∀ w, Keeps w1 w → w.cell? ⟨g, 2, none⟩ = some (.int .u32 31) := fun w h => h.cell (by have := hk.below.size; omega) qf2
  have ca0 : ∀ w, Keeps w1 w → w.cell? ⟨g + 1, 0, none⟩ = some (.int .i64 0) := fun w h => h.cell (by have := hk.below.size; omega) qa0
  have ca1 : ∀ w, Keeps w1 w → w.cell? ⟨g + 1, 1, none⟩ = some (.bool sv) := fun w h => h.cell (by have := hk.below.size; omega) qa1
  have ca2 : ∀ w, Keeps w1 w → w.cell? ⟨g + 1, 2, none⟩ = some (.int .u64 mv) := fun w h => h.cell (by have := hk.below.size; omega) qa2
  have ca3 : ∀ w, Keeps w1 w → w.cell? ⟨g + 1, 3, none⟩ = some (.int .i64 ev) := fun w h => h.cell (by have := hk.below.size; omega) qa3
  have ON := oneOf more
  clear hk
  go_wp2_with fail
  refine (LQ _).mono ?_
  rintro e w2 ⟨rfl, hw⟩
  obtain rfl := hw.symm
  clear LQ
  go_wp2_with fail
  refine region_q (C := Keeps w1) (by kernel_rfl) (by kernel_rfl) (Keeps.drew w1) ?_
  (iterate 15
    (apply wpQuiet_go _ (by rfl)
     · intro wq hq
       go_simp
       first
         | (go_at_call 54; exact qsame hq (ON _))
         | (go_at_call 33; exact qcall hq (RQ _))
         | exact rfl
     simp only [Act.put, List.setIfInBounds_toArray, List.set_cons_succ, List.set_cons_zero]))
  refine wpQuiet_nil ?_
  intro w3 hk3
  have H3 : Hid (Below w.heap.size w w3) := bel_step H1.out hk3.below
  clear cf0 cf1 cf2 ca0 ca1 ca2 ca3 qf0 qf1 qf2 qa0 qa1 qa2 qa3 qb0 qb1 qb2 qb3 hk3
  go_wp2
  go_ret
  exact ⟨rfl, by first | exact H3.out | (rw [← hg]; exact H3.out)⟩


set_option maxRecDepth 100000 in
set_option maxHeartbeats 1000000 in
theorem addW1d32 (sv more : Bool) (mv mw ev A B M E r : Int) (k1 : mw < mv) (k3 : (mv == mw) = false)  (v1 : IntKind.u64.wrap (mv * 1073741824) = A) (v2 : IntKind.u64.wrap (mw * 1073741824) = B)  (X : Int) (v4 : IntKind.u64.wrap (A - B) = X) (v5 : IntKind.u64.wrap (X - (more.toNat : Int)) = M) (v7 : IntKind.i64.wrap (ev - 30) = E)
    (LT : Hid (∀ w, Calls Try.prog 67 #[.int .u64 B, .int .i64 0] w fun e w' => e = .returned (.bool more) ∧ w' = w))
    (RR : Hid (∀ w, Calls Try.prog 33 #[(.agg #[.int .i64 23, .int .i64 127, .int .u32 255]), .bool sv, .int .u64 M, .int .i64 E, .bool more] w fun e w' => e = .returned (.int .u32 r) ∧ Below w.heap.size w w')) (w : World) :
    Calls Try.prog 50 #[(.agg #[.int .i64 23, .int .i64 127, .int .u32 255]), (.agg #[.int .i64 0, .bool (!sv), .int .u64 mw, .int .i64 ev]), (.agg #[.int .i64 0, .bool sv, .int .u64 mv, .int .i64 ev])] w fun e w' => e = .returned (.int .u32 r) ∧ Below w.heap.size w w' := by
  obtain ⟨g, hg⟩ : ∃ g, w.heap.size = g := ⟨_, rfl⟩
  obtain ⟨V, hV⟩ : ∃ V, ((w.alloc (.cells #[.int .i64 23, .int .i64 127, .int .u32 255] 45)).alloc (.cells #[.int .i64 0, .bool (!sv), .int .u64 mw, .int .i64 ev] 50)).alloc (.cells #[.int .i64 0, .bool sv, .int .u64 mv, .int .i64 ev] 50) = V := ⟨_, rfl⟩
  have hB : Hid (Below w.heap.size w V) := by unfold Hid; rw [← hV]; (repeat (first | refine Below.alloc ?_ (by first | (simp; done) | (simp; omega)) _ | refine Below.setCell ?_ (by first | (simp; done) | (simp; omega)) _ | refine bel_dN ?_ _ | refine Below.drew ?_ | exact Below.refl _ _))
  have hs : V.heap.size = g + 3 := by rw [← hV, ← hg]; simp
  have z : ∀ j, V.frozen? ⟨g + 1, j, none⟩ = false ∧ V.frozen? ⟨g + 2, j, none⟩ = false := fun j => by
    rw [← hV, ← hg]
    exact ⟨(World.frozen?_alloc_old _ _ ⟨w.heap.size + 1, j, none⟩ (by simp)).trans (by simp), World.frozen?_alloc_at _ _ _ _ (by simp)⟩
  have f0 : V.cell? ⟨g, 0, none⟩ = some (.int .i64 23) := by rw [← hV, ← hg]; rw [World.cell?_alloc_past _ _ _ (by first | (simp; done) | (simp; omega))]; simp
  have f1 : V.cell? ⟨g, 1, none⟩ = some (.int .i64 127) := by rw [← hV, ← hg]; rw [World.cell?_alloc_past _ _ _ (by first | (simp; done) | (simp; omega))]; simp
  have f2 : V.cell? ⟨g, 2, none⟩ = some (.int .u32 255) := by rw [← hV, ← hg]; rw [World.cell?_alloc_past _ _ _ (by first | (simp; done) | (simp; omega))]; simp
  have a0 : V.cell? ⟨g + 1, 0, none⟩ = some (.int .i64 0) := by rw [← hV, ← hg]; rw [World.cell?_alloc_past _ _ _ (by first | (simp; done) | (simp; omega))]; simp
  have a1 : V.cell? ⟨g + 1, 1, none⟩ = some (.bool (!sv)) := by rw [← hV, ← hg]; rw [World.cell?_alloc_past _ _ _ (by first | (simp; done) | (simp; omega))]; simp
  have a2 : V.cell? ⟨g + 1, 2, none⟩ = some (.int .u64 mw) := by rw [← hV, ← hg]; rw [World.cell?_alloc_past _ _ _ (by first | (simp; done) | (simp; omega))]; simp
  have a3 : V.cell? ⟨g + 1, 3, none⟩ = some (.int .i64 ev) := by rw [← hV, ← hg]; rw [World.cell?_alloc_past _ _ _ (by first | (simp; done) | (simp; omega))]; simp
  have b0 : V.cell? ⟨g + 2, 0, none⟩ = some (.int .i64 0) := by rw [← hV, ← hg]; rw [World.cell?_alloc_at _ _ _ _ (by simp)]; rfl
  have b1 : V.cell? ⟨g + 2, 1, none⟩ = some (.bool sv) := by rw [← hV, ← hg]; rw [World.cell?_alloc_at _ _ _ _ (by simp)]; rfl
  have b2 : V.cell? ⟨g + 2, 2, none⟩ = some (.int .u64 mv) := by rw [← hV, ← hg]; rw [World.cell?_alloc_at _ _ _ _ (by simp)]; rfl
  have b3 : V.cell? ⟨g + 2, 3, none⟩ = some (.int .i64 ev) := by rw [← hV, ← hg]; rw [World.cell?_alloc_at _ _ _ _ (by simp)]; rfl
  have y0 := z 0
  have y1 := z 1
  have y2 := z 2
  have y3 := z 3
  obtain ⟨U, hU⟩ : ∃ U, ((((((((V.setCell ⟨g + 1, 0, none⟩ (.int .i64 0)).setCell ⟨g + 1, 1, none⟩ (.bool sv)).setCell ⟨g + 1, 2, none⟩ (.int .u64 mv)).setCell ⟨g + 1, 3, none⟩ (.int .i64 ev)).setCell ⟨g + 2, 0, none⟩ (.int .i64 0)).setCell ⟨g + 2, 1, none⟩ (.bool (!sv))).setCell ⟨g + 2, 2, none⟩ (.int .u64 mw)).setCell ⟨g + 2, 3, none⟩ (.int .i64 ev)) = U := ⟨_, rfl⟩
  have hBU : Hid (Below w.heap.size w U) := by
    unfold Hid; rw [← hU]
    have := hB.out
    repeat (refine Below.setCell ?_ (by simp; omega) _)
    exact this
  have hsU : U.heap.size = g + 3 := by rw [← hU]; simp; exact hs
  have F0 : U.cell? ⟨g, 0, none⟩ = V.cell? ⟨g, 0, none⟩ := by rw [← hU]; simp [World.cell?_setCell_other]
  have F1 : U.cell? ⟨g, 1, none⟩ = V.cell? ⟨g, 1, none⟩ := by rw [← hU]; simp [World.cell?_setCell_other]
  have F2 : U.cell? ⟨g, 2, none⟩ = V.cell? ⟨g, 2, none⟩ := by rw [← hU]; simp [World.cell?_setCell_other]
  have A0 : U.cell? ⟨g + 1, 0, none⟩ = some (.int .i64 0) := by rw [← hU]; simp [go_sem, a0]
  have A1 : U.cell? ⟨g + 1, 1, none⟩ = some (.bool sv) := by rw [← hU]; simp [go_sem, a1]
  have A2 : U.cell? ⟨g + 1, 2, none⟩ = some (.int .u64 mv) := by rw [← hU]; simp [go_sem, a2]
  have A3 : U.cell? ⟨g + 1, 3, none⟩ = some (.int .i64 ev) := by rw [← hU]; simp [go_sem, a3]
  have B0 : U.cell? ⟨g + 2, 0, none⟩ = some (.int .i64 0) := by rw [← hU]; simp [go_sem, b0]
  have B1 : U.cell? ⟨g + 2, 1, none⟩ = some (.bool (!sv)) := by rw [← hU]; simp [go_sem, b1]
  have B2 : U.cell? ⟨g + 2, 2, none⟩ = some (.int .u64 mw) := by rw [← hU]; simp [go_sem, b2]
  have B3 : U.cell? ⟨g + 2, 3, none⟩ = some (.int .i64 ev) := by rw [← hU]; simp [go_sem, b3]
  have kf0 : ∀ w, Keeps U w → w.cell? ⟨g, 0, none⟩ = some (.int .i64 23) := fun w h => h.cell (by omega) (F0.trans f0)
  have kf1 : ∀ w, Keeps U w → w.cell? ⟨g, 1, none⟩ = some (.int .i64 127) := fun w h => h.cell (by omega) (F1.trans f1)
  have kf2 : ∀ w, Keeps U w → w.cell? ⟨g, 2, none⟩ = some (.int .u32 255) := fun w h => h.cell (by omega) (F2.trans f2)
  have ka0 : ∀ w, Keeps U w → w.cell? ⟨g + 1, 0, none⟩ = some (.int .i64 0) := fun w h => h.cell (by omega) A0
  have ka1 : ∀ w, Keeps U w → w.cell? ⟨g + 1, 1, none⟩ = some (.bool sv) := fun w h => h.cell (by omega) A1
  have ka2 : ∀ w, Keeps U w → w.cell? ⟨g + 1, 2, none⟩ = some (.int .u64 mv) := fun w h => h.cell (by omega) A2
  have ka3 : ∀ w, Keeps U w → w.cell? ⟨g + 1, 3, none⟩ = some (.int .i64 ev) := fun w h => h.cell (by omega) A3
  have kb0 : ∀ w, Keeps U w → w.cell? ⟨g + 2, 0, none⟩ = some (.int .i64 0) := fun w h => h.cell (by omega) B0
  have kb1 : ∀ w, Keeps U w → w.cell? ⟨g + 2, 1, none⟩ = some (.bool (!sv)) := fun w h => h.cell (by omega) B1
  have kb2 : ∀ w, Keeps U w → w.cell? ⟨g + 2, 2, none⟩ = some (.int .u64 mw) := fun w h => h.cell (by omega) B2
  have kb3 : ∀ w, Keeps U w → w.cell? ⟨g + 2, 3, none⟩ = some (.int .i64 ev) := fun w h => h.cell (by omega) B3
  have LQ := LT.out
  have RQ := RR.out
  clear LT RR z
  go_enter Try.func50, Try.ntmps50
  go_wp2_with fail
  refine region_q (C := Keeps U) (by kernel_rfl) (by kernel_rfl) (Keeps.drew U) ?_
  (iterate 10
    (apply wpQuiet_go _ (by rfl)
     · intro wq hq
       go_simp
       first
         | exact rfl
     simp only [Act.put, List.setIfInBounds_toArray, List.set_cons_succ, List.set_cons_zero]))
  refine wpQuiet_nil ?_
  intro w1 hk
  have qf0 := kf0 _ hk
  have qf1 := kf1 _ hk
  have qf2 := kf2 _ hk
  have qa0 := ka0 _ hk
  have qa1 := ka1 _ hk
  have qa2 := ka2 _ hk
  have qa3 := ka3 _ hk
  have qb0 := kb0 _ hk
  have qb1 := kb1 _ hk
  have qb2 := kb2 _ hk
  have qb3 := kb3 _ hk
  have hb := hk.below
  have H1 : Hid (Below w.heap.size w w1) := bel_step hBU.out hb
  clear kf0 kf1 kf2 ka0 ka1 ka2 ka3 kb0 kb1 kb2 kb3 f0 f1 f2 a0 a1 a2 a3 b0 b1 b2 b3 F0 F1 F2 A0 A1 A2 A3 B0 B1 B2 B3 y0 y1 y2 y3 hb
  have cf0 : ∀ w, Keeps w1 w → w.cell? ⟨g, 0, none⟩ = some (.int .i64 23) := fun w h => h.cell (by have := hk.below.size; omega) qf0
  have cf1 : ∀ w, Keeps w1 w → w.cell? ⟨g, 1, none⟩ = some (.int .i64 127) := fun w h => h.cell (by have := hk.below.size; omega) qf1
  have cf2 : ∀ w, Keeps w1 w → w.cell? ⟨g, 2, none⟩ = some (.int .u32 255) := fun w h => h.cell (by have := hk.below.size; omega) qf2
  have ca0 : ∀ w, Keeps w1 w → w.cell? ⟨g + 1, 0, none⟩ = some (.int .i64 0) := fun w h => h.cell (by have := hk.below.size; omega) qa0
  have ca1 : ∀ w, Keeps w1 w → w.cell? ⟨g + 1, 1, none⟩ = some (.bool sv) := fun w h => h.cell (by have := hk.below.size; omega) qa1
  have ca2 : ∀ w, Keeps w1 w → w.cell? ⟨g + 1, 2, none⟩ = some (.int .u64 mv) := fun w h => h.cell (by have := hk.below.size; omega) qa2
  have ca3 : ∀ w, Keeps w1 w → w.cell? ⟨g + 1, 3, none⟩ = some (.int .i64 ev) := fun w h => h.cell (by have := hk.below.size; omega) qa3
  have ON := oneOf more
  clear hk
  go_wp2_with fail
  refine (LQ _).mono ?_
  rintro e w2 ⟨rfl, hw⟩
  obtain rfl := hw.symm
  clear LQ
  go_wp2_with fail
  refine region_q (C := Keeps w1) (by kernel_rfl) (by kernel_rfl) (Keeps.drew w1) ?_
  (iterate 15
    (apply wpQuiet_go _ (by rfl)
     · intro wq hq
       go_simp
       first
         | (go_at_call 54; exact qsame hq (ON _))
         | (go_at_call 33; exact qcall hq (RQ _))
         | exact rfl
     simp only [Act.put, List.setIfInBounds_toArray, List.set_cons_succ, List.set_cons_zero]))
  refine wpQuiet_nil ?_
  intro w3 hk3
  have H3 : Hid (Below w.heap.size w w3) := bel_step H1.out hk3.below
  clear cf0 cf1 cf2 ca0 ca1 ca2 ca3 qf0 qf1 qf2 qa0 qa1 qa2 qa3 qb0 qb1 qb2 qb3 hk3
  go_wp2
  go_ret
  exact ⟨rfl, by first | exact H3.out | (rw [← hg]; exact H3.out)⟩


set_option maxRecDepth 100000 in
set_option maxHeartbeats 1000000 in
theorem addE1s16 (sv more : Bool) (mv ev A M E r : Int)   (v1 : IntKind.u64.wrap (mv * 1073741824) = A)  (v4 : IntKind.u64.wrap (A + A) = M) (v7 : IntKind.i64.wrap (ev - 30) = E)
    (LT : Hid (∀ w, Calls Try.prog 67 #[.int .u64 A, .int .i64 0] w fun e w' => e = .returned (.bool more) ∧ w' = w))
    (RR : Hid (∀ w, Calls Try.prog 33 #[(.agg #[.int .i64 10, .int .i64 15, .int .u32 31]), .bool sv, .int .u64 M, .int .i64 E, .bool more] w fun e w' => e = .returned (.int .u32 r) ∧ Below w.heap.size w w')) (w : World) :
    Calls Try.prog 50 #[(.agg #[.int .i64 10, .int .i64 15, .int .u32 31]), (.agg #[.int .i64 0, .bool sv, .int .u64 mv, .int .i64 ev]), (.agg #[.int .i64 0, .bool sv, .int .u64 mv, .int .i64 ev])] w fun e w' => e = .returned (.int .u32 r) ∧ Below w.heap.size w w' := by
  obtain ⟨g, hg⟩ : ∃ g, w.heap.size = g := ⟨_, rfl⟩
  obtain ⟨V, hV⟩ : ∃ V, ((w.alloc (.cells #[.int .i64 10, .int .i64 15, .int .u32 31] 45)).alloc (.cells #[.int .i64 0, .bool sv, .int .u64 mv, .int .i64 ev] 50)).alloc (.cells #[.int .i64 0, .bool sv, .int .u64 mv, .int .i64 ev] 50) = V := ⟨_, rfl⟩
  have hB : Hid (Below w.heap.size w V) := by unfold Hid; rw [← hV]; (repeat (first | refine Below.alloc ?_ (by first | (simp; done) | (simp; omega)) _ | refine Below.setCell ?_ (by first | (simp; done) | (simp; omega)) _ | refine bel_dN ?_ _ | refine Below.drew ?_ | exact Below.refl _ _))
  have hs : V.heap.size = g + 3 := by rw [← hV, ← hg]; simp
  have z : ∀ j, V.frozen? ⟨g + 1, j, none⟩ = false ∧ V.frozen? ⟨g + 2, j, none⟩ = false := fun j => by
    rw [← hV, ← hg]
    exact ⟨(World.frozen?_alloc_old _ _ ⟨w.heap.size + 1, j, none⟩ (by simp)).trans (by simp), World.frozen?_alloc_at _ _ _ _ (by simp)⟩
  have f0 : V.cell? ⟨g, 0, none⟩ = some (.int .i64 10) := by rw [← hV, ← hg]; rw [World.cell?_alloc_past _ _ _ (by first | (simp; done) | (simp; omega))]; simp
  have f1 : V.cell? ⟨g, 1, none⟩ = some (.int .i64 15) := by rw [← hV, ← hg]; rw [World.cell?_alloc_past _ _ _ (by first | (simp; done) | (simp; omega))]; simp
  have f2 : V.cell? ⟨g, 2, none⟩ = some (.int .u32 31) := by rw [← hV, ← hg]; rw [World.cell?_alloc_past _ _ _ (by first | (simp; done) | (simp; omega))]; simp
  have a0 : V.cell? ⟨g + 1, 0, none⟩ = some (.int .i64 0) := by rw [← hV, ← hg]; rw [World.cell?_alloc_past _ _ _ (by first | (simp; done) | (simp; omega))]; simp
  have a1 : V.cell? ⟨g + 1, 1, none⟩ = some (.bool sv) := by rw [← hV, ← hg]; rw [World.cell?_alloc_past _ _ _ (by first | (simp; done) | (simp; omega))]; simp
  have a2 : V.cell? ⟨g + 1, 2, none⟩ = some (.int .u64 mv) := by rw [← hV, ← hg]; rw [World.cell?_alloc_past _ _ _ (by first | (simp; done) | (simp; omega))]; simp
  have a3 : V.cell? ⟨g + 1, 3, none⟩ = some (.int .i64 ev) := by rw [← hV, ← hg]; rw [World.cell?_alloc_past _ _ _ (by first | (simp; done) | (simp; omega))]; simp
  have b0 : V.cell? ⟨g + 2, 0, none⟩ = some (.int .i64 0) := by rw [← hV, ← hg]; rw [World.cell?_alloc_at _ _ _ _ (by simp)]; rfl
  have b1 : V.cell? ⟨g + 2, 1, none⟩ = some (.bool sv) := by rw [← hV, ← hg]; rw [World.cell?_alloc_at _ _ _ _ (by simp)]; rfl
  have b2 : V.cell? ⟨g + 2, 2, none⟩ = some (.int .u64 mv) := by rw [← hV, ← hg]; rw [World.cell?_alloc_at _ _ _ _ (by simp)]; rfl
  have b3 : V.cell? ⟨g + 2, 3, none⟩ = some (.int .i64 ev) := by rw [← hV, ← hg]; rw [World.cell?_alloc_at _ _ _ _ (by simp)]; rfl
  have kf0 : ∀ w, Keeps V w → w.cell? ⟨g, 0, none⟩ = some (.int .i64 10) := fun w h => h.cell (by omega) f0
  have kf1 : ∀ w, Keeps V w → w.cell? ⟨g, 1, none⟩ = some (.int .i64 15) := fun w h => h.cell (by omega) f1
  have kf2 : ∀ w, Keeps V w → w.cell? ⟨g, 2, none⟩ = some (.int .u32 31) := fun w h => h.cell (by omega) f2
  have ka0 : ∀ w, Keeps V w → w.cell? ⟨g + 1, 0, none⟩ = some (.int .i64 0) := fun w h => h.cell (by omega) a0
  have ka1 : ∀ w, Keeps V w → w.cell? ⟨g + 1, 1, none⟩ = some (.bool sv) := fun w h => h.cell (by omega) a1
  have ka2 : ∀ w, Keeps V w → w.cell? ⟨g + 1, 2, none⟩ = some (.int .u64 mv) := fun w h => h.cell (by omega) a2
  have ka3 : ∀ w, Keeps V w → w.cell? ⟨g + 1, 3, none⟩ = some (.int .i64 ev) := fun w h => h.cell (by omega) a3
  have kb0 : ∀ w, Keeps V w → w.cell? ⟨g + 2, 0, none⟩ = some (.int .i64 0) := fun w h => h.cell (by omega) b0
  have kb1 : ∀ w, Keeps V w → w.cell? ⟨g + 2, 1, none⟩ = some (.bool sv) := fun w h => h.cell (by omega) b1
  have kb2 : ∀ w, Keeps V w → w.cell? ⟨g + 2, 2, none⟩ = some (.int .u64 mv) := fun w h => h.cell (by omega) b2
  have kb3 : ∀ w, Keeps V w → w.cell? ⟨g + 2, 3, none⟩ = some (.int .i64 ev) := fun w h => h.cell (by omega) b3
  have LQ := LT.out
  have RQ := RR.out
  clear LT RR z
  go_enter Try.func50, Try.ntmps50
  go_wp2_with fail
  refine region_q (C := Keeps V) (by kernel_rfl) (by kernel_rfl) (Keeps.drew V) ?_
  (iterate 10
    (apply wpQuiet_go _ (by rfl)
     · intro wq hq
       go_simp
       first
         | exact rfl
     simp only [Act.put, List.setIfInBounds_toArray, List.set_cons_succ, List.set_cons_zero]))
  refine wpQuiet_nil ?_
  intro w1 hk
  have qf0 := kf0 _ hk
  have qf1 := kf1 _ hk
  have qf2 := kf2 _ hk
  have qa0 := ka0 _ hk
  have qa1 := ka1 _ hk
  have qa2 := ka2 _ hk
  have qa3 := ka3 _ hk
  have qb0 := kb0 _ hk
  have qb1 := kb1 _ hk
  have qb2 := kb2 _ hk
  have qb3 := kb3 _ hk
  have hb := hk.below
  have H1 : Hid (Below w.heap.size w w1) := bel_step hB.out hb
  clear kf0 kf1 kf2 ka0 ka1 ka2 ka3 kb0 kb1 kb2 kb3 f0 f1 f2 a0 a1 a2 a3 b0 b1 b2 b3 hk hb
  go_wp2_with fail
  refine (LQ _).mono ?_
  rintro e w2 ⟨rfl, hw⟩
  obtain rfl := hw.symm
  go_wp2_with fail
  refine (RQ _).mono ?_
  rintro e w3 ⟨rfl, B3⟩
  have H3 : Hid (Below w.heap.size w w3) := bel_step H1.out B3
  clear B3 qf0 qf1 qf2 qa0 qa1 qa2 qa3 qb0 qb1 qb2 qb3
  go_wp2
  go_ret
  exact ⟨rfl, by first | exact H3.out | (rw [← hg]; exact H3.out)⟩


set_option maxRecDepth 100000 in
set_option maxHeartbeats 1000000 in
theorem addE1s32 (sv more : Bool) (mv ev A M E r : Int)   (v1 : IntKind.u64.wrap (mv * 1073741824) = A)  (v4 : IntKind.u64.wrap (A + A) = M) (v7 : IntKind.i64.wrap (ev - 30) = E)
    (LT : Hid (∀ w, Calls Try.prog 67 #[.int .u64 A, .int .i64 0] w fun e w' => e = .returned (.bool more) ∧ w' = w))
    (RR : Hid (∀ w, Calls Try.prog 33 #[(.agg #[.int .i64 23, .int .i64 127, .int .u32 255]), .bool sv, .int .u64 M, .int .i64 E, .bool more] w fun e w' => e = .returned (.int .u32 r) ∧ Below w.heap.size w w')) (w : World) :
    Calls Try.prog 50 #[(.agg #[.int .i64 23, .int .i64 127, .int .u32 255]), (.agg #[.int .i64 0, .bool sv, .int .u64 mv, .int .i64 ev]), (.agg #[.int .i64 0, .bool sv, .int .u64 mv, .int .i64 ev])] w fun e w' => e = .returned (.int .u32 r) ∧ Below w.heap.size w w' := by
  obtain ⟨g, hg⟩ : ∃ g, w.heap.size = g := ⟨_, rfl⟩
  obtain ⟨V, hV⟩ : ∃ V, ((w.alloc (.cells #[.int .i64 23, .int .i64 127, .int .u32 255] 45)).alloc (.cells #[.int .i64 0, .bool sv, .int .u64 mv, .int .i64 ev] 50)).alloc (.cells #[.int .i64 0, .bool sv, .int .u64 mv, .int .i64 ev] 50) = V := ⟨_, rfl⟩
  have hB : Hid (Below w.heap.size w V) := by unfold Hid; rw [← hV]; (repeat (first | refine Below.alloc ?_ (by first | (simp; done) | (simp; omega)) _ | refine Below.setCell ?_ (by first | (simp; done) | (simp; omega)) _ | refine bel_dN ?_ _ | refine Below.drew ?_ | exact Below.refl _ _))
  have hs : V.heap.size = g + 3 := by rw [← hV, ← hg]; simp
  have z : ∀ j, V.frozen? ⟨g + 1, j, none⟩ = false ∧ V.frozen? ⟨g + 2, j, none⟩ = false := fun j => by
    rw [← hV, ← hg]
    exact ⟨(World.frozen?_alloc_old _ _ ⟨w.heap.size + 1, j, none⟩ (by simp)).trans (by simp), World.frozen?_alloc_at _ _ _ _ (by simp)⟩
  have f0 : V.cell? ⟨g, 0, none⟩ = some (.int .i64 23) := by rw [← hV, ← hg]; rw [World.cell?_alloc_past _ _ _ (by first | (simp; done) | (simp; omega))]; simp
  have f1 : V.cell? ⟨g, 1, none⟩ = some (.int .i64 127) := by rw [← hV, ← hg]; rw [World.cell?_alloc_past _ _ _ (by first | (simp; done) | (simp; omega))]; simp
  have f2 : V.cell? ⟨g, 2, none⟩ = some (.int .u32 255) := by rw [← hV, ← hg]; rw [World.cell?_alloc_past _ _ _ (by first | (simp; done) | (simp; omega))]; simp
  have a0 : V.cell? ⟨g + 1, 0, none⟩ = some (.int .i64 0) := by rw [← hV, ← hg]; rw [World.cell?_alloc_past _ _ _ (by first | (simp; done) | (simp; omega))]; simp
  have a1 : V.cell? ⟨g + 1, 1, none⟩ = some (.bool sv) := by rw [← hV, ← hg]; rw [World.cell?_alloc_past _ _ _ (by first | (simp; done) | (simp; omega))]; simp
  have a2 : V.cell? ⟨g + 1, 2, none⟩ = some (.int .u64 mv) := by rw [← hV, ← hg]; rw [World.cell?_alloc_past _ _ _ (by first | (simp; done) | (simp; omega))]; simp
  have a3 : V.cell? ⟨g + 1, 3, none⟩ = some (.int .i64 ev) := by rw [← hV, ← hg]; rw [World.cell?_alloc_past _ _ _ (by first | (simp; done) | (simp; omega))]; simp
  have b0 : V.cell? ⟨g + 2, 0, none⟩ = some (.int .i64 0) := by rw [← hV, ← hg]; rw [World.cell?_alloc_at _ _ _ _ (by simp)]; rfl
  have b1 : V.cell? ⟨g + 2, 1, none⟩ = some (.bool sv) := by rw [← hV, ← hg]; rw [World.cell?_alloc_at _ _ _ _ (by simp)]; rfl
  have b2 : V.cell? ⟨g + 2, 2, none⟩ = some (.int .u64 mv) := by rw [← hV, ← hg]; rw [World.cell?_alloc_at _ _ _ _ (by simp)]; rfl
  have b3 : V.cell? ⟨g + 2, 3, none⟩ = some (.int .i64 ev) := by rw [← hV, ← hg]; rw [World.cell?_alloc_at _ _ _ _ (by simp)]; rfl
  have kf0 : ∀ w, Keeps V w → w.cell? ⟨g, 0, none⟩ = some (.int .i64 23) := fun w h => h.cell (by omega) f0
  have kf1 : ∀ w, Keeps V w → w.cell? ⟨g, 1, none⟩ = some (.int .i64 127) := fun w h => h.cell (by omega) f1
  have kf2 : ∀ w, Keeps V w → w.cell? ⟨g, 2, none⟩ = some (.int .u32 255) := fun w h => h.cell (by omega) f2
  have ka0 : ∀ w, Keeps V w → w.cell? ⟨g + 1, 0, none⟩ = some (.int .i64 0) := fun w h => h.cell (by omega) a0
  have ka1 : ∀ w, Keeps V w → w.cell? ⟨g + 1, 1, none⟩ = some (.bool sv) := fun w h => h.cell (by omega) a1
  have ka2 : ∀ w, Keeps V w → w.cell? ⟨g + 1, 2, none⟩ = some (.int .u64 mv) := fun w h => h.cell (by omega) a2
  have ka3 : ∀ w, Keeps V w → w.cell? ⟨g + 1, 3, none⟩ = some (.int .i64 ev) := fun w h => h.cell (by omega) a3
  have kb0 : ∀ w, Keeps V w → w.cell? ⟨g + 2, 0, none⟩ = some (.int .i64 0) := fun w h => h.cell (by omega) b0
  have kb1 : ∀ w, Keeps V w → w.cell? ⟨g + 2, 1, none⟩ = some (.bool sv) := fun w h => h.cell (by omega) b1
  have kb2 : ∀ w, Keeps V w → w.cell? ⟨g + 2, 2, none⟩ = some (.int .u64 mv) := fun w h => h.cell (by omega) b2
  have kb3 : ∀ w, Keeps V w → w.cell? ⟨g + 2, 3, none⟩ = some (.int .i64 ev) := fun w h => h.cell (by omega) b3
  have LQ := LT.out
  have RQ := RR.out
  clear LT RR z
  go_enter Try.func50, Try.ntmps50
  go_wp2_with fail
  refine region_q (C := Keeps V) (by kernel_rfl) (by kernel_rfl) (Keeps.drew V) ?_
  (iterate 10
    (apply wpQuiet_go _ (by rfl)
     · intro wq hq
       go_simp
       first
         | exact rfl
     simp only [Act.put, List.setIfInBounds_toArray, List.set_cons_succ, List.set_cons_zero]))
  refine wpQuiet_nil ?_
  intro w1 hk
  have qf0 := kf0 _ hk
  have qf1 := kf1 _ hk
  have qf2 := kf2 _ hk
  have qa0 := ka0 _ hk
  have qa1 := ka1 _ hk
  have qa2 := ka2 _ hk
  have qa3 := ka3 _ hk
  have qb0 := kb0 _ hk
  have qb1 := kb1 _ hk
  have qb2 := kb2 _ hk
  have qb3 := kb3 _ hk
  have hb := hk.below
  have H1 : Hid (Below w.heap.size w w1) := bel_step hB.out hb
  clear kf0 kf1 kf2 ka0 ka1 ka2 ka3 kb0 kb1 kb2 kb3 f0 f1 f2 a0 a1 a2 a3 b0 b1 b2 b3 hk hb
  go_wp2_with fail
  refine (LQ _).mono ?_
  rintro e w2 ⟨rfl, hw⟩
  obtain rfl := hw.symm
  go_wp2_with fail
  refine (RQ _).mono ?_
  rintro e w3 ⟨rfl, B3⟩
  have H3 : Hid (Below w.heap.size w w3) := bel_step H1.out B3
  clear B3 qf0 qf1 qf2 qa0 qa1 qa2 qa3 qb0 qb1 qb2 qb3
  go_wp2
  go_ret
  exact ⟨rfl, by first | exact H3.out | (rw [← hg]; exact H3.out)⟩


set_option maxRecDepth 100000 in
set_option maxHeartbeats 1000000 in
theorem addO1z16 (sv : Bool) (mv ev : Int) (w : World) :
    Calls Try.prog 50 #[(.agg #[.int .i64 10, .int .i64 15, .int .u32 31]), (.agg #[.int .i64 0, .bool sv, .int .u64 mv, .int .i64 ev]), (.agg #[.int .i64 0, .bool (!sv), .int .u64 mv, .int .i64 ev])] w fun e w' => e = .returned (.int .u32 0) ∧ Below w.heap.size w w' := by
  have Z := zero16 false
  rw [show ((false.toNat : Nat) : Int) * 32768 = 0 by decide] at Z
  have hn : (sv == !sv) = false := by cases sv <;> rfl
  go_enter Try.func50, Try.ntmps50
  go_wp2_with fail
  refine (Z _).mono ?_
  rintro e w1 ⟨rfl, B1⟩
  go_wp2
  go_ret
  refine ⟨rfl, ?_⟩
  ((repeat (first | refine bel_alloc ?_ _ | refine bel_dN ?_ _ | refine Below.drew ?_ | refine Below.setCell ?_ (by first | (simp; done) | (simp; omega)) _)); refine bel_step ?_ B1; (repeat (first | refine bel_alloc ?_ _ | refine bel_dN ?_ _ | refine Below.drew ?_ | refine Below.setCell ?_ (by first | (simp; done) | (simp; omega)) _)); exact Below.refl _ _)


set_option maxRecDepth 100000 in
set_option maxHeartbeats 1000000 in
theorem addO1z32 (sv : Bool) (mv ev : Int) (w : World) :
    Calls Try.prog 50 #[(.agg #[.int .i64 23, .int .i64 127, .int .u32 255]), (.agg #[.int .i64 0, .bool sv, .int .u64 mv, .int .i64 ev]), (.agg #[.int .i64 0, .bool (!sv), .int .u64 mv, .int .i64 ev])] w fun e w' => e = .returned (.int .u32 0) ∧ Below w.heap.size w w' := by
  have Z := zero32 false
  rw [show ((false.toNat : Nat) : Int) * 2147483648 = 0 by decide] at Z
  have hn : (sv == !sv) = false := by cases sv <;> rfl
  go_enter Try.func50, Try.ntmps50
  go_wp2_with fail
  refine (Z _).mono ?_
  rintro e w1 ⟨rfl, B1⟩
  go_wp2
  go_ret
  refine ⟨rfl, ?_⟩
  ((repeat (first | refine bel_alloc ?_ _ | refine bel_dN ?_ _ | refine Below.drew ?_ | refine Below.setCell ?_ (by first | (simp; done) | (simp; omega)) _)); refine bel_step ?_ B1; (repeat (first | refine bel_alloc ?_ _ | refine bel_dN ?_ _ | refine Below.drew ?_ | refine Below.setCell ?_ (by first | (simp; done) | (simp; omega)) _)); exact Below.refl _ _)

end Go.Proofs.Yteniijmnpgdpcaa
