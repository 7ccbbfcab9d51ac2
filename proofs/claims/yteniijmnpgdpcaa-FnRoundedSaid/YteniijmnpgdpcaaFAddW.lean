/-
  FAdd and FSub: both sides, and their laws. (Made by a generator.)
-/
import Derived.Test.YteniijmnpgdpcaaFAddC
namespace Go.Proofs.Yteniijmnpgdpcaa
open Go.RowKit

set_option maxHeartbeats 1000000 in
theorem wSFSub16 (a b r : Int) (v1 : Value) (s2 i2 n2 : Bool) (m2 e2 : Int) (O1 : Hid (∀ w, Calls Try.prog 38 #[(.agg #[.int .u64 5, .int .u64 10]), .int .u32 a] w fun x w' => x = .returned v1 ∧ Below w.heap.size w w')) (O2 : Hid (∀ w, Calls Try.prog 38 #[(.agg #[.int .u64 5, .int .u64 10]), .int .u32 b] w fun x w' => x = .returned (.agg #[.bool s2, .bool i2, .bool n2, .int .u64 m2, .int .i64 e2]) ∧ Below w.heap.size w w'))
    (PP : Hid (∀ w, Calls Try.prog 37 #[(.agg #[.int .u64 5, .int .u64 10]), v1, .agg #[.bool (!s2), .bool i2, .bool n2, .int .u64 m2, .int .i64 e2]] w fun x w' => x = .returned (.int .u32 r) ∧ Below w.heap.size w w')) (w : World) :
    Calls Try.prog 13 #[.int .i64 16, .int .u32 a, .int .u32 b] w fun x w' => x = .returned (.int .u32 r) ∧ Below w.heap.size w w' := by
  go_enter Try.func13, Try.ntmps13
  go_wp2_with fail
  refine (l4Kind16 _).mono ?_
  rintro x w1 ⟨rfl, B1⟩
  go_wp2_with fail
  refine (O2.out _).mono ?_
  rintro x w2 ⟨rfl, B2⟩
  obtain ⟨g, hg⟩ : ∃ g, w1.heap.size = g := ⟨_, rfl⟩
  obtain ⟨G, hG⟩ : ∃ G, w2.heap.size = G := ⟨_, rfl⟩
  have hlt : g < G := by have := B2.size; simp at this; omega
  have f0 : w2.cell? ⟨g, 0, none⟩ = some (.int .u64 5) := by rw [B2.cell (p := ⟨g, 0, none⟩) (by simp; omega), ← hg]; simp
  have f1 : w2.cell? ⟨g, 1, none⟩ = some (.int .u64 10) := by rw [B2.cell (p := ⟨g, 1, none⟩) (by simp; omega), ← hg]; simp
  have hB : Hid (Below w.heap.size w w2) := by unfold Hid; ((repeat (first | refine bel_alloc ?_ _ | refine bel_dN ?_ _ | refine Below.drew ?_ | refine Below.setCell ?_ (by first | (simp; done) | (simp; omega)) _)); refine bel_step ?_ B2; (repeat (first | refine bel_alloc ?_ _ | refine bel_dN ?_ _ | refine Below.drew ?_ | refine Below.setCell ?_ (by first | (simp; done) | (simp; omega)) _)); refine bel_step ?_ B1; (repeat (first | refine bel_alloc ?_ _ | refine bel_dN ?_ _ | refine Below.drew ?_ | refine Below.setCell ?_ (by first | (simp; done) | (simp; omega)) _)); exact Below.refl _ _)
  obtain ⟨W, hW⟩ : ∃ W, w2.alloc (.cells #[.bool (!s2), .bool i2, .bool n2, .int .u64 m2, .int .i64 e2] 63) = W := ⟨_, rfl⟩
  have hs : W.heap.size = G + 1 := by rw [← hW, ← hG]; simp
  have hBW : Hid (Below w.heap.size w W) := by unfold Hid; rw [← hW]; exact bel_alloc hB.out _
  replace f0 : W.cell? ⟨g, 0, none⟩ = some (.int .u64 5) := by rw [← hW]; exact (World.cell?_alloc_past _ _ _ (by omega)).trans f0
  replace f1 : W.cell? ⟨g, 1, none⟩ = some (.int .u64 10) := by rw [← hW]; exact (World.cell?_alloc_past _ _ _ (by omega)).trans f1
  have k0 : ∀ w, Keeps W w → w.cell? ⟨g, 0, none⟩ = some (.int .u64 5) := fun w h => h.cell (by omega) f0
  have k1 : ∀ w, Keeps W w → w.cell? ⟨g, 1, none⟩ = some (.int .u64 10) := fun w h => h.cell (by omega) f1
  have y0 : ∀ w, Keeps W w → w.cell? ⟨G, 0, none⟩ = some (.bool (!s2)) := fun w h => h.cell (by omega) (by rw [← hW, ← hG]; simp)
  have y1 : ∀ w, Keeps W w → w.cell? ⟨G, 1, none⟩ = some (.bool i2) := fun w h => h.cell (by omega) (by rw [← hW, ← hG]; simp)
  have y2 : ∀ w, Keeps W w → w.cell? ⟨G, 2, none⟩ = some (.bool n2) := fun w h => h.cell (by omega) (by rw [← hW, ← hG]; simp)
  have y3 : ∀ w, Keeps W w → w.cell? ⟨G, 3, none⟩ = some (.int .u64 m2) := fun w h => h.cell (by omega) (by rw [← hW, ← hG]; simp)
  have y4 : ∀ w, Keeps W w → w.cell? ⟨G, 4, none⟩ = some (.int .i64 e2) := fun w h => h.cell (by omega) (by rw [← hW, ← hG]; simp)
  clear B1 B2 O2
  go_wp2_with fail
  refine region_q (C := Keeps W) (by kernel_rfl) (by kernel_rfl) (Keeps.drew W) ?_
  (iterate 7
    (apply wpQuiet_go _ (by rfl)
     · intro wq hq
       go_simp
       first
         | (go_at_call 38; exact qcall hq (O1.out _))
         | (go_at_call 37; exact qcall hq (PP.out _))
         | exact rfl
     simp only [Act.put, List.setIfInBounds_toArray, List.set_cons_succ, List.set_cons_zero]))
  refine wpQuiet_nil ?_
  intro w3 hk
  have H3 : Hid (Below w.heap.size w w3) := bel_step hBW.out hk.below
  clear k0 k1 y0 y1 y2 y3 y4 hk
  go_wp2
  go_ret
  exact ⟨rfl, H3.out⟩

set_option maxHeartbeats 1000000 in
theorem wSFSub32 (a b r : Int) (v1 : Value) (s2 i2 n2 : Bool) (m2 e2 : Int) (O1 : Hid (∀ w, Calls Try.prog 38 #[(.agg #[.int .u64 8, .int .u64 23]), .int .u32 a] w fun x w' => x = .returned v1 ∧ Below w.heap.size w w')) (O2 : Hid (∀ w, Calls Try.prog 38 #[(.agg #[.int .u64 8, .int .u64 23]), .int .u32 b] w fun x w' => x = .returned (.agg #[.bool s2, .bool i2, .bool n2, .int .u64 m2, .int .i64 e2]) ∧ Below w.heap.size w w'))
    (PP : Hid (∀ w, Calls Try.prog 37 #[(.agg #[.int .u64 8, .int .u64 23]), v1, .agg #[.bool (!s2), .bool i2, .bool n2, .int .u64 m2, .int .i64 e2]] w fun x w' => x = .returned (.int .u32 r) ∧ Below w.heap.size w w')) (w : World) :
    Calls Try.prog 13 #[.int .i64 32, .int .u32 a, .int .u32 b] w fun x w' => x = .returned (.int .u32 r) ∧ Below w.heap.size w w' := by
  go_enter Try.func13, Try.ntmps13
  go_wp2_with fail
  refine (l4Kind32 _).mono ?_
  rintro x w1 ⟨rfl, B1⟩
  go_wp2_with fail
  refine (O2.out _).mono ?_
  rintro x w2 ⟨rfl, B2⟩
  obtain ⟨g, hg⟩ : ∃ g, w1.heap.size = g := ⟨_, rfl⟩
  obtain ⟨G, hG⟩ : ∃ G, w2.heap.size = G := ⟨_, rfl⟩
  have hlt : g < G := by have := B2.size; simp at this; omega
  have f0 : w2.cell? ⟨g, 0, none⟩ = some (.int .u64 8) := by rw [B2.cell (p := ⟨g, 0, none⟩) (by simp; omega), ← hg]; simp
  have f1 : w2.cell? ⟨g, 1, none⟩ = some (.int .u64 23) := by rw [B2.cell (p := ⟨g, 1, none⟩) (by simp; omega), ← hg]; simp
  have hB : Hid (Below w.heap.size w w2) := by unfold Hid; ((repeat (first | refine bel_alloc ?_ _ | refine bel_dN ?_ _ | refine Below.drew ?_ | refine Below.setCell ?_ (by first | (simp; done) | (simp; omega)) _)); refine bel_step ?_ B2; (repeat (first | refine bel_alloc ?_ _ | refine bel_dN ?_ _ | refine Below.drew ?_ | refine Below.setCell ?_ (by first | (simp; done) | (simp; omega)) _)); refine bel_step ?_ B1; (repeat (first | refine bel_alloc ?_ _ | refine bel_dN ?_ _ | refine Below.drew ?_ | refine Below.setCell ?_ (by first | (simp; done) | (simp; omega)) _)); exact Below.refl _ _)
  obtain ⟨W, hW⟩ : ∃ W, w2.alloc (.cells #[.bool (!s2), .bool i2, .bool n2, .int .u64 m2, .int .i64 e2] 63) = W := ⟨_, rfl⟩
  have hs : W.heap.size = G + 1 := by rw [← hW, ← hG]; simp
  have hBW : Hid (Below w.heap.size w W) := by unfold Hid; rw [← hW]; exact bel_alloc hB.out _
  replace f0 : W.cell? ⟨g, 0, none⟩ = some (.int .u64 8) := by rw [← hW]; exact (World.cell?_alloc_past _ _ _ (by omega)).trans f0
  replace f1 : W.cell? ⟨g, 1, none⟩ = some (.int .u64 23) := by rw [← hW]; exact (World.cell?_alloc_past _ _ _ (by omega)).trans f1
  have k0 : ∀ w, Keeps W w → w.cell? ⟨g, 0, none⟩ = some (.int .u64 8) := fun w h => h.cell (by omega) f0
  have k1 : ∀ w, Keeps W w → w.cell? ⟨g, 1, none⟩ = some (.int .u64 23) := fun w h => h.cell (by omega) f1
  have y0 : ∀ w, Keeps W w → w.cell? ⟨G, 0, none⟩ = some (.bool (!s2)) := fun w h => h.cell (by omega) (by rw [← hW, ← hG]; simp)
  have y1 : ∀ w, Keeps W w → w.cell? ⟨G, 1, none⟩ = some (.bool i2) := fun w h => h.cell (by omega) (by rw [← hW, ← hG]; simp)
  have y2 : ∀ w, Keeps W w → w.cell? ⟨G, 2, none⟩ = some (.bool n2) := fun w h => h.cell (by omega) (by rw [← hW, ← hG]; simp)
  have y3 : ∀ w, Keeps W w → w.cell? ⟨G, 3, none⟩ = some (.int .u64 m2) := fun w h => h.cell (by omega) (by rw [← hW, ← hG]; simp)
  have y4 : ∀ w, Keeps W w → w.cell? ⟨G, 4, none⟩ = some (.int .i64 e2) := fun w h => h.cell (by omega) (by rw [← hW, ← hG]; simp)
  clear B1 B2 O2
  go_wp2_with fail
  refine region_q (C := Keeps W) (by kernel_rfl) (by kernel_rfl) (Keeps.drew W) ?_
  (iterate 7
    (apply wpQuiet_go _ (by rfl)
     · intro wq hq
       go_simp
       first
         | (go_at_call 38; exact qcall hq (O1.out _))
         | (go_at_call 37; exact qcall hq (PP.out _))
         | exact rfl
     simp only [Act.put, List.setIfInBounds_toArray, List.set_cons_succ, List.set_cons_zero]))
  refine wpQuiet_nil ?_
  intro w3 hk
  have H3 : Hid (Below w.heap.size w w3) := bel_step hBW.out hk.below
  clear k0 k1 y0 y1 y2 y3 y4 hk
  go_wp2
  go_ret
  exact ⟨rfl, H3.out⟩

set_option maxHeartbeats 1000000 in
theorem wIFSub16 (a b r : Int) (v1 : Value) (s2 : Bool) (c2 m2 e2 : Int) (O1 : Hid (∀ w, Calls Try.prog 29 #[(.agg #[.int .i64 10, .int .i64 15, .int .u32 31]), .int .u32 a] w fun x w' => x = .returned v1 ∧ Below w.heap.size w w')) (O2 : Hid (∀ w, Calls Try.prog 29 #[(.agg #[.int .i64 10, .int .i64 15, .int .u32 31]), .int .u32 b] w fun x w' => x = .returned (.agg #[.int .i64 c2, .bool s2, .int .u64 m2, .int .i64 e2]) ∧ Below w.heap.size w w'))
    (PP : Hid (∀ w, Calls Try.prog 28 #[(.agg #[.int .i64 10, .int .i64 15, .int .u32 31]), v1, .agg #[.int .i64 c2, .bool (!s2), .int .u64 m2, .int .i64 e2]] w fun x w' => x = .returned (.int .u32 r) ∧ Below w.heap.size w w')) (w : World) :
    Calls Try.prog 9 #[.int .i64 16, .int .u32 a, .int .u32 b] w fun x w' => x = .returned (.int .u32 r) ∧ Below w.heap.size w w' := by
  go_enter Try.func9, Try.ntmps9
  go_wp2_with fail
  refine (form16 _).mono ?_
  rintro x w1 ⟨rfl, B1⟩
  go_wp2_with fail
  refine (O2.out _).mono ?_
  rintro x w2 ⟨rfl, B2⟩
  obtain ⟨g, hg⟩ : ∃ g, w1.heap.size = g := ⟨_, rfl⟩
  obtain ⟨G, hG⟩ : ∃ G, w2.heap.size = G := ⟨_, rfl⟩
  have hlt : g < G := by have := B2.size; simp at this; omega
  have f0 : w2.cell? ⟨g, 0, none⟩ = some (.int .i64 10) := by rw [B2.cell (p := ⟨g, 0, none⟩) (by simp; omega), ← hg]; simp
  have f1 : w2.cell? ⟨g, 1, none⟩ = some (.int .i64 15) := by rw [B2.cell (p := ⟨g, 1, none⟩) (by simp; omega), ← hg]; simp
  have f2 : w2.cell? ⟨g, 2, none⟩ = some (.int .u32 31) := by rw [B2.cell (p := ⟨g, 2, none⟩) (by simp; omega), ← hg]; simp
  have hB : Hid (Below w.heap.size w w2) := by unfold Hid; ((repeat (first | refine bel_alloc ?_ _ | refine bel_dN ?_ _ | refine Below.drew ?_ | refine Below.setCell ?_ (by first | (simp; done) | (simp; omega)) _)); refine bel_step ?_ B2; (repeat (first | refine bel_alloc ?_ _ | refine bel_dN ?_ _ | refine Below.drew ?_ | refine Below.setCell ?_ (by first | (simp; done) | (simp; omega)) _)); refine bel_step ?_ B1; (repeat (first | refine bel_alloc ?_ _ | refine bel_dN ?_ _ | refine Below.drew ?_ | refine Below.setCell ?_ (by first | (simp; done) | (simp; omega)) _)); exact Below.refl _ _)
  obtain ⟨W, hW⟩ : ∃ W, w2.alloc (.cells #[.int .i64 c2, .bool (!s2), .int .u64 m2, .int .i64 e2] 50) = W := ⟨_, rfl⟩
  have hs : W.heap.size = G + 1 := by rw [← hW, ← hG]; simp
  have hBW : Hid (Below w.heap.size w W) := by unfold Hid; rw [← hW]; exact bel_alloc hB.out _
  replace f0 : W.cell? ⟨g, 0, none⟩ = some (.int .i64 10) := by rw [← hW]; exact (World.cell?_alloc_past _ _ _ (by omega)).trans f0
  replace f1 : W.cell? ⟨g, 1, none⟩ = some (.int .i64 15) := by rw [← hW]; exact (World.cell?_alloc_past _ _ _ (by omega)).trans f1
  replace f2 : W.cell? ⟨g, 2, none⟩ = some (.int .u32 31) := by rw [← hW]; exact (World.cell?_alloc_past _ _ _ (by omega)).trans f2
  have k0 : ∀ w, Keeps W w → w.cell? ⟨g, 0, none⟩ = some (.int .i64 10) := fun w h => h.cell (by omega) f0
  have k1 : ∀ w, Keeps W w → w.cell? ⟨g, 1, none⟩ = some (.int .i64 15) := fun w h => h.cell (by omega) f1
  have k2 : ∀ w, Keeps W w → w.cell? ⟨g, 2, none⟩ = some (.int .u32 31) := fun w h => h.cell (by omega) f2
  have y0 : ∀ w, Keeps W w → w.cell? ⟨G, 0, none⟩ = some (.int .i64 c2) := fun w h => h.cell (by omega) (by rw [← hW, ← hG]; simp)
  have y1 : ∀ w, Keeps W w → w.cell? ⟨G, 1, none⟩ = some (.bool (!s2)) := fun w h => h.cell (by omega) (by rw [← hW, ← hG]; simp)
  have y2 : ∀ w, Keeps W w → w.cell? ⟨G, 2, none⟩ = some (.int .u64 m2) := fun w h => h.cell (by omega) (by rw [← hW, ← hG]; simp)
  have y3 : ∀ w, Keeps W w → w.cell? ⟨G, 3, none⟩ = some (.int .i64 e2) := fun w h => h.cell (by omega) (by rw [← hW, ← hG]; simp)
  clear B1 B2 O2
  go_wp2_with fail
  refine region_q (C := Keeps W) (by kernel_rfl) (by kernel_rfl) (Keeps.drew W) ?_
  (iterate 7
    (apply wpQuiet_go _ (by rfl)
     · intro wq hq
       go_simp
       first
         | (go_at_call 29; exact qcall hq (O1.out _))
         | (go_at_call 28; exact qcall hq (PP.out _))
         | exact rfl
     simp only [Act.put, List.setIfInBounds_toArray, List.set_cons_succ, List.set_cons_zero]))
  refine wpQuiet_nil ?_
  intro w3 hk
  have H3 : Hid (Below w.heap.size w w3) := bel_step hBW.out hk.below
  clear k0 k1 k2 y0 y1 y2 y3 hk
  go_wp2
  go_ret
  exact ⟨rfl, H3.out⟩

set_option maxHeartbeats 1000000 in
theorem wIFSub32 (a b r : Int) (v1 : Value) (s2 : Bool) (c2 m2 e2 : Int) (O1 : Hid (∀ w, Calls Try.prog 29 #[(.agg #[.int .i64 23, .int .i64 127, .int .u32 255]), .int .u32 a] w fun x w' => x = .returned v1 ∧ Below w.heap.size w w')) (O2 : Hid (∀ w, Calls Try.prog 29 #[(.agg #[.int .i64 23, .int .i64 127, .int .u32 255]), .int .u32 b] w fun x w' => x = .returned (.agg #[.int .i64 c2, .bool s2, .int .u64 m2, .int .i64 e2]) ∧ Below w.heap.size w w'))
    (PP : Hid (∀ w, Calls Try.prog 28 #[(.agg #[.int .i64 23, .int .i64 127, .int .u32 255]), v1, .agg #[.int .i64 c2, .bool (!s2), .int .u64 m2, .int .i64 e2]] w fun x w' => x = .returned (.int .u32 r) ∧ Below w.heap.size w w')) (w : World) :
    Calls Try.prog 9 #[.int .i64 32, .int .u32 a, .int .u32 b] w fun x w' => x = .returned (.int .u32 r) ∧ Below w.heap.size w w' := by
  go_enter Try.func9, Try.ntmps9
  go_wp2_with fail
  refine (form32 _).mono ?_
  rintro x w1 ⟨rfl, B1⟩
  go_wp2_with fail
  refine (O2.out _).mono ?_
  rintro x w2 ⟨rfl, B2⟩
  obtain ⟨g, hg⟩ : ∃ g, w1.heap.size = g := ⟨_, rfl⟩
  obtain ⟨G, hG⟩ : ∃ G, w2.heap.size = G := ⟨_, rfl⟩
  have hlt : g < G := by have := B2.size; simp at this; omega
  have f0 : w2.cell? ⟨g, 0, none⟩ = some (.int .i64 23) := by rw [B2.cell (p := ⟨g, 0, none⟩) (by simp; omega), ← hg]; simp
  have f1 : w2.cell? ⟨g, 1, none⟩ = some (.int .i64 127) := by rw [B2.cell (p := ⟨g, 1, none⟩) (by simp; omega), ← hg]; simp
  have f2 : w2.cell? ⟨g, 2, none⟩ = some (.int .u32 255) := by rw [B2.cell (p := ⟨g, 2, none⟩) (by simp; omega), ← hg]; simp
  have hB : Hid (Below w.heap.size w w2) := by unfold Hid; ((repeat (first | refine bel_alloc ?_ _ | refine bel_dN ?_ _ | refine Below.drew ?_ | refine Below.setCell ?_ (by first | (simp; done) | (simp; omega)) _)); refine bel_step ?_ B2; (repeat (first | refine bel_alloc ?_ _ | refine bel_dN ?_ _ | refine Below.drew ?_ | refine Below.setCell ?_ (by first | (simp; done) | (simp; omega)) _)); refine bel_step ?_ B1; (repeat (first | refine bel_alloc ?_ _ | refine bel_dN ?_ _ | refine Below.drew ?_ | refine Below.setCell ?_ (by first | (simp; done) | (simp; omega)) _)); exact Below.refl _ _)
  obtain ⟨W, hW⟩ : ∃ W, w2.alloc (.cells #[.int .i64 c2, .bool (!s2), .int .u64 m2, .int .i64 e2] 50) = W := ⟨_, rfl⟩
  have hs : W.heap.size = G + 1 := by rw [← hW, ← hG]; simp
  have hBW : Hid (Below w.heap.size w W) := by unfold Hid; rw [← hW]; exact bel_alloc hB.out _
  replace f0 : W.cell? ⟨g, 0, none⟩ = some (.int .i64 23) := by rw [← hW]; exact (World.cell?_alloc_past _ _ _ (by omega)).trans f0
  replace f1 : W.cell? ⟨g, 1, none⟩ = some (.int .i64 127) := by rw [← hW]; exact (World.cell?_alloc_past _ _ _ (by omega)).trans f1
  replace f2 : W.cell? ⟨g, 2, none⟩ = some (.int .u32 255) := by rw [← hW]; exact (World.cell?_alloc_past _ _ _ (by omega)).trans f2
  have k0 : ∀ w, Keeps W w → w.cell? ⟨g, 0, none⟩ = some (.int .i64 23) := fun w h => h.cell (by omega) f0
  have k1 : ∀ w, Keeps W w → w.cell? ⟨g, 1, none⟩ = some (.int .i64 127) := fun w h => h.cell (by omega) f1
  have k2 : ∀ w, Keeps W w → w.cell? ⟨g, 2, none⟩ = some (.int .u32 255) := fun w h => h.cell (by omega) f2
  have y0 : ∀ w, Keeps W w → w.cell? ⟨G, 0, none⟩ = some (.int .i64 c2) := fun w h => h.cell (by omega) (by rw [← hW, ← hG]; simp)
  have y1 : ∀ w, Keeps W w → w.cell? ⟨G, 1, none⟩ = some (.bool (!s2)) := fun w h => h.cell (by omega) (by rw [← hW, ← hG]; simp)
  have y2 : ∀ w, Keeps W w → w.cell? ⟨G, 2, none⟩ = some (.int .u64 m2) := fun w h => h.cell (by omega) (by rw [← hW, ← hG]; simp)
  have y3 : ∀ w, Keeps W w → w.cell? ⟨G, 3, none⟩ = some (.int .i64 e2) := fun w h => h.cell (by omega) (by rw [← hW, ← hG]; simp)
  clear B1 B2 O2
  go_wp2_with fail
  refine region_q (C := Keeps W) (by kernel_rfl) (by kernel_rfl) (Keeps.drew W) ?_
  (iterate 7
    (apply wpQuiet_go _ (by rfl)
     · intro wq hq
       go_simp
       first
         | (go_at_call 29; exact qcall hq (O1.out _))
         | (go_at_call 28; exact qcall hq (PP.out _))
         | exact rfl
     simp only [Act.put, List.setIfInBounds_toArray, List.set_cons_succ, List.set_cons_zero]))
  refine wpQuiet_nil ?_
  intro w3 hk
  have H3 : Hid (Below w.heap.size w w3) := bel_step hBW.out hk.below
  clear k0 k1 k2 y0 y1 y2 y3 hk
  go_wp2
  go_ret
  exact ⟨rfl, H3.out⟩

theorem bothFSub16 (a b : Int) (a0 : 0 ≤ a) (a1 : a ≤ 4294967295) (b0 : 0 ≤ b) (b1 : b ≤ 4294967295) : ∃ r : Int,
    (∀ w, Calls Try.prog 13 #[.int .i64 16, .int .u32 a, .int .u32 b] w fun x w' => x = .returned (.int .u32 r) ∧ Below w.heap.size w w') ∧
    (∀ w, Calls Try.prog 9 #[.int .i64 16, .int .u32 a, .int .u32 b] w fun x w' => x = .returned (.int .u32 r) ∧ Below w.heap.size w w') := by
  obtain ⟨r, S, I⟩ := addBoth16 (a / 32768 % 2 == 1) (!(b / 32768 % 2 == 1)) _ _ _ _ _ _ (fv16 a) (fv16 b)
  exact ⟨r, wSFSub16 a b r _ _ _ _ _ _ (open16 a a0 a1) (open16 b b0 b1) S, wIFSub16 a b r _ _ _ _ _ (value16 a a0 a1) (value16 b b0 b1) I⟩

theorem bothFSub32 (a b : Int) (a0 : 0 ≤ a) (a1 : a ≤ 4294967295) (b0 : 0 ≤ b) (b1 : b ≤ 4294967295) : ∃ r : Int,
    (∀ w, Calls Try.prog 13 #[.int .i64 32, .int .u32 a, .int .u32 b] w fun x w' => x = .returned (.int .u32 r) ∧ Below w.heap.size w w') ∧
    (∀ w, Calls Try.prog 9 #[.int .i64 32, .int .u32 a, .int .u32 b] w fun x w' => x = .returned (.int .u32 r) ∧ Below w.heap.size w w') := by
  obtain ⟨r, S, I⟩ := addBoth32 (a / 2147483648 % 2 == 1) (!(b / 2147483648 % 2 == 1)) _ _ _ _ _ _ (fv32 a) (fv32 b)
  exact ⟨r, wSFSub32 a b r _ _ _ _ _ _ (open32 a a0 a1) (open32 b b0 b1) S, wIFSub32 a b r _ _ _ _ _ (value32 a a0 a1) (value32 b b0 b1) I⟩

theorem noFSub (kind a b : Int) (h1 : kind ≠ 16) (h2 : kind ≠ 32) :
    (∀ w, Calls Try.prog 13 #[.int .i64 kind, .int .u32 a, .int .u32 b] w fun x w' => x = .returned (.int .u32 0) ∧ Below w.heap.size w w') ∧
    (∀ w, Calls Try.prog 9 #[.int .i64 kind, .int .u32 a, .int .u32 b] w fun x w' => x = .returned (.int .u32 0) ∧ Below w.heap.size w w') := by
  refine ⟨fun w => ?_, fun w => ?_⟩
  · go_enter Try.func13, Try.ntmps13
    go_wp2_with fail
    refine (l4KindNo kind h1 h2 _).mono ?_
    rintro x w1 ⟨rfl, B1⟩
    go_wp2
    go_ret
    refine ⟨rfl, ?_⟩
    ((repeat (first | refine bel_alloc ?_ _ | refine bel_dN ?_ _ | refine Below.drew ?_ | refine Below.setCell ?_ (by first | (simp; done) | (simp; omega)) _)); refine bel_step ?_ B1; (repeat (first | refine bel_alloc ?_ _ | refine bel_dN ?_ _ | refine Below.drew ?_ | refine Below.setCell ?_ (by first | (simp; done) | (simp; omega)) _)); exact Below.refl _ _)
  · go_enter Try.func9, Try.ntmps9
    go_wp2_with fail
    refine (formNo kind h1 h2 _).mono ?_
    rintro x w1 ⟨rfl, B1⟩
    go_wp2
    go_ret
    refine ⟨rfl, ?_⟩
    ((repeat (first | refine bel_alloc ?_ _ | refine bel_dN ?_ _ | refine Below.drew ?_ | refine Below.setCell ?_ (by first | (simp; done) | (simp; omega)) _)); refine bel_step ?_ B1; (repeat (first | refine bel_alloc ?_ _ | refine bel_dN ?_ _ | refine Below.drew ?_ | refine Below.setCell ?_ (by first | (simp; done) | (simp; omega)) _)); exact Below.refl _ _)

set_option maxHeartbeats 1000000 in
theorem wSFAdd16 (a b r : Int) (v1 v2 : Value) (O1 : Hid (∀ w, Calls Try.prog 38 #[(.agg #[.int .u64 5, .int .u64 10]), .int .u32 a] w fun x w' => x = .returned v1 ∧ Below w.heap.size w w')) (O2 : Hid (∀ w, Calls Try.prog 38 #[(.agg #[.int .u64 5, .int .u64 10]), .int .u32 b] w fun x w' => x = .returned v2 ∧ Below w.heap.size w w'))
    (PP : Hid (∀ w, Calls Try.prog 37 #[(.agg #[.int .u64 5, .int .u64 10]), v1, v2] w fun x w' => x = .returned (.int .u32 r) ∧ Below w.heap.size w w')) (w : World) :
    Calls Try.prog 12 #[.int .i64 16, .int .u32 a, .int .u32 b] w fun x w' => x = .returned (.int .u32 r) ∧ Below w.heap.size w w' := by
  go_enter Try.func12, Try.ntmps12
  go_wp2_with fail
  refine (l4Kind16 _).mono ?_
  rintro x w1 ⟨rfl, B1⟩
  go_wp2_with fail
  have k0 : ∀ w, Keeps (w1.alloc (.cells #[.int .u64 5, .int .u64 10] 58)) w → w.cell? ⟨w1.heap.size, 0, none⟩ = some (.int .u64 5) := fun w h => h.cell (by simp) (by simp)
  have k1 : ∀ w, Keeps (w1.alloc (.cells #[.int .u64 5, .int .u64 10] 58)) w → w.cell? ⟨w1.heap.size, 1, none⟩ = some (.int .u64 10) := fun w h => h.cell (by simp) (by simp)
  refine region_q (C := Keeps (w1.alloc (.cells #[.int .u64 5, .int .u64 10] 58))) (by kernel_rfl) (by kernel_rfl) (Keeps.drew _) ?_
  (iterate 9
    (apply wpQuiet_go _ (by rfl)
     · intro wq hq
       go_simp
       first
         | (go_at_call_of 38 a; exact qcall hq (O1.out _))
         | (go_at_call_of 38 b; exact qcall hq (O2.out _))
         | (go_at_call 37; exact qcall hq (PP.out _))
         | exact rfl
     simp only [Act.put, List.setIfInBounds_toArray, List.set_cons_succ, List.set_cons_zero]))
  refine wpQuiet_nil ?_
  intro w3 hk
  have hb := hk.below
  clear k0 k1 hk
  go_wp2
  go_ret
  refine ⟨rfl, ?_⟩
  ((repeat (first | refine bel_alloc ?_ _ | refine bel_dN ?_ _ | refine Below.drew ?_ | refine Below.setCell ?_ (by first | (simp; done) | (simp; omega)) _)); refine bel_step ?_ hb; (repeat (first | refine bel_alloc ?_ _ | refine bel_dN ?_ _ | refine Below.drew ?_ | refine Below.setCell ?_ (by first | (simp; done) | (simp; omega)) _)); refine bel_step ?_ B1; (repeat (first | refine bel_alloc ?_ _ | refine bel_dN ?_ _ | refine Below.drew ?_ | refine Below.setCell ?_ (by first | (simp; done) | (simp; omega)) _)); exact Below.refl _ _)

set_option maxHeartbeats 1000000 in
theorem wSFAdd32 (a b r : Int) (v1 v2 : Value) (O1 : Hid (∀ w, Calls Try.prog 38 #[(.agg #[.int .u64 8, .int .u64 23]), .int .u32 a] w fun x w' => x = .returned v1 ∧ Below w.heap.size w w')) (O2 : Hid (∀ w, Calls Try.prog 38 #[(.agg #[.int .u64 8, .int .u64 23]), .int .u32 b] w fun x w' => x = .returned v2 ∧ Below w.heap.size w w'))
    (PP : Hid (∀ w, Calls Try.prog 37 #[(.agg #[.int .u64 8, .int .u64 23]), v1, v2] w fun x w' => x = .returned (.int .u32 r) ∧ Below w.heap.size w w')) (w : World) :
    Calls Try.prog 12 #[.int .i64 32, .int .u32 a, .int .u32 b] w fun x w' => x = .returned (.int .u32 r) ∧ Below w.heap.size w w' := by
  go_enter Try.func12, Try.ntmps12
  go_wp2_with fail
  refine (l4Kind32 _).mono ?_
  rintro x w1 ⟨rfl, B1⟩
  go_wp2_with fail
  have k0 : ∀ w, Keeps (w1.alloc (.cells #[.int .u64 8, .int .u64 23] 58)) w → w.cell? ⟨w1.heap.size, 0, none⟩ = some (.int .u64 8) := fun w h => h.cell (by simp) (by simp)
  have k1 : ∀ w, Keeps (w1.alloc (.cells #[.int .u64 8, .int .u64 23] 58)) w → w.cell? ⟨w1.heap.size, 1, none⟩ = some (.int .u64 23) := fun w h => h.cell (by simp) (by simp)
  refine region_q (C := Keeps (w1.alloc (.cells #[.int .u64 8, .int .u64 23] 58))) (by kernel_rfl) (by kernel_rfl) (Keeps.drew _) ?_
  (iterate 9
    (apply wpQuiet_go _ (by rfl)
     · intro wq hq
       go_simp
       first
         | (go_at_call_of 38 a; exact qcall hq (O1.out _))
         | (go_at_call_of 38 b; exact qcall hq (O2.out _))
         | (go_at_call 37; exact qcall hq (PP.out _))
         | exact rfl
     simp only [Act.put, List.setIfInBounds_toArray, List.set_cons_succ, List.set_cons_zero]))
  refine wpQuiet_nil ?_
  intro w3 hk
  have hb := hk.below
  clear k0 k1 hk
  go_wp2
  go_ret
  refine ⟨rfl, ?_⟩
  ((repeat (first | refine bel_alloc ?_ _ | refine bel_dN ?_ _ | refine Below.drew ?_ | refine Below.setCell ?_ (by first | (simp; done) | (simp; omega)) _)); refine bel_step ?_ hb; (repeat (first | refine bel_alloc ?_ _ | refine bel_dN ?_ _ | refine Below.drew ?_ | refine Below.setCell ?_ (by first | (simp; done) | (simp; omega)) _)); refine bel_step ?_ B1; (repeat (first | refine bel_alloc ?_ _ | refine bel_dN ?_ _ | refine Below.drew ?_ | refine Below.setCell ?_ (by first | (simp; done) | (simp; omega)) _)); exact Below.refl _ _)

set_option maxHeartbeats 1000000 in
theorem wIFAdd16 (a b r : Int) (v1 v2 : Value) (O1 : Hid (∀ w, Calls Try.prog 29 #[(.agg #[.int .i64 10, .int .i64 15, .int .u32 31]), .int .u32 a] w fun x w' => x = .returned v1 ∧ Below w.heap.size w w')) (O2 : Hid (∀ w, Calls Try.prog 29 #[(.agg #[.int .i64 10, .int .i64 15, .int .u32 31]), .int .u32 b] w fun x w' => x = .returned v2 ∧ Below w.heap.size w w'))
    (PP : Hid (∀ w, Calls Try.prog 28 #[(.agg #[.int .i64 10, .int .i64 15, .int .u32 31]), v1, v2] w fun x w' => x = .returned (.int .u32 r) ∧ Below w.heap.size w w')) (w : World) :
    Calls Try.prog 8 #[.int .i64 16, .int .u32 a, .int .u32 b] w fun x w' => x = .returned (.int .u32 r) ∧ Below w.heap.size w w' := by
  go_enter Try.func8, Try.ntmps8
  go_wp2_with fail
  refine (form16 _).mono ?_
  rintro x w1 ⟨rfl, B1⟩
  go_wp2_with fail
  have k0 : ∀ w, Keeps (w1.alloc (.cells #[.int .i64 10, .int .i64 15, .int .u32 31] 45)) w → w.cell? ⟨w1.heap.size, 0, none⟩ = some (.int .i64 10) := fun w h => h.cell (by simp) (by simp)
  have k1 : ∀ w, Keeps (w1.alloc (.cells #[.int .i64 10, .int .i64 15, .int .u32 31] 45)) w → w.cell? ⟨w1.heap.size, 1, none⟩ = some (.int .i64 15) := fun w h => h.cell (by simp) (by simp)
  have k2 : ∀ w, Keeps (w1.alloc (.cells #[.int .i64 10, .int .i64 15, .int .u32 31] 45)) w → w.cell? ⟨w1.heap.size, 2, none⟩ = some (.int .u32 31) := fun w h => h.cell (by simp) (by simp)
  refine region_q (C := Keeps (w1.alloc (.cells #[.int .i64 10, .int .i64 15, .int .u32 31] 45))) (by kernel_rfl) (by kernel_rfl) (Keeps.drew _) ?_
  (iterate 9
    (apply wpQuiet_go _ (by rfl)
     · intro wq hq
       go_simp
       first
         | (go_at_call_of 29 a; exact qcall hq (O1.out _))
         | (go_at_call_of 29 b; exact qcall hq (O2.out _))
         | (go_at_call 28; exact qcall hq (PP.out _))
         | exact rfl
     simp only [Act.put, List.setIfInBounds_toArray, List.set_cons_succ, List.set_cons_zero]))
  refine wpQuiet_nil ?_
  intro w3 hk
  have hb := hk.below
  clear k0 k1 k2 hk
  go_wp2
  go_ret
  refine ⟨rfl, ?_⟩
  ((repeat (first | refine bel_alloc ?_ _ | refine bel_dN ?_ _ | refine Below.drew ?_ | refine Below.setCell ?_ (by first | (simp; done) | (simp; omega)) _)); refine bel_step ?_ hb; (repeat (first | refine bel_alloc ?_ _ | refine bel_dN ?_ _ | refine Below.drew ?_ | refine Below.setCell ?_ (by first | (simp; done) | (simp; omega)) _)); refine bel_step ?_ B1; (repeat (first | refine bel_alloc ?_ _ | refine bel_dN ?_ _ | refine Below.drew ?_ | refine Below.setCell ?_ (by first | (simp; done) | (simp; omega)) _)); exact Below.refl _ _)

set_option maxHeartbeats 1000000 in
theorem wIFAdd32 (a b r : Int) (v1 v2 : Value) (O1 : Hid (∀ w, Calls Try.prog 29 #[(.agg #[.int .i64 23, .int .i64 127, .int .u32 255]), .int .u32 a] w fun x w' => x = .returned v1 ∧ Below w.heap.size w w')) (O2 : Hid (∀ w, Calls Try.prog 29 #[(.agg #[.int .i64 23, .int .i64 127, .int .u32 255]), .int .u32 b] w fun x w' => x = .returned v2 ∧ Below w.heap.size w w'))
    (PP : Hid (∀ w, Calls Try.prog 28 #[(.agg #[.int .i64 23, .int .i64 127, .int .u32 255]), v1, v2] w fun x w' => x = .returned (.int .u32 r) ∧ Below w.heap.size w w')) (w : World) :
    Calls Try.prog 8 #[.int .i64 32, .int .u32 a, .int .u32 b] w fun x w' => x = .returned (.int .u32 r) ∧ Below w.heap.size w w' := by
  go_enter Try.func8, Try.ntmps8
  go_wp2_with fail
  refine (form32 _).mono ?_
  rintro x w1 ⟨rfl, B1⟩
  go_wp2_with fail
  have k0 : ∀ w, Keeps (w1.alloc (.cells #[.int .i64 23, .int .i64 127, .int .u32 255] 45)) w → w.cell? ⟨w1.heap.size, 0, none⟩ = some (.int .i64 23) := fun w h => h.cell (by simp) (by simp)
  have k1 : ∀ w, Keeps (w1.alloc (.cells #[.int .i64 23, .int .i64 127, .int .u32 255] 45)) w → w.cell? ⟨w1.heap.size, 1, none⟩ = some (.int .i64 127) := fun w h => h.cell (by simp) (by simp)
  have k2 : ∀ w, Keeps (w1.alloc (.cells #[.int .i64 23, .int .i64 127, .int .u32 255] 45)) w → w.cell? ⟨w1.heap.size, 2, none⟩ = some (.int .u32 255) := fun w h => h.cell (by simp) (by simp)
  refine region_q (C := Keeps (w1.alloc (.cells #[.int .i64 23, .int .i64 127, .int .u32 255] 45))) (by kernel_rfl) (by kernel_rfl) (Keeps.drew _) ?_
  (iterate 9
    (apply wpQuiet_go _ (by rfl)
     · intro wq hq
       go_simp
       first
         | (go_at_call_of 29 a; exact qcall hq (O1.out _))
         | (go_at_call_of 29 b; exact qcall hq (O2.out _))
         | (go_at_call 28; exact qcall hq (PP.out _))
         | exact rfl
     simp only [Act.put, List.setIfInBounds_toArray, List.set_cons_succ, List.set_cons_zero]))
  refine wpQuiet_nil ?_
  intro w3 hk
  have hb := hk.below
  clear k0 k1 k2 hk
  go_wp2
  go_ret
  refine ⟨rfl, ?_⟩
  ((repeat (first | refine bel_alloc ?_ _ | refine bel_dN ?_ _ | refine Below.drew ?_ | refine Below.setCell ?_ (by first | (simp; done) | (simp; omega)) _)); refine bel_step ?_ hb; (repeat (first | refine bel_alloc ?_ _ | refine bel_dN ?_ _ | refine Below.drew ?_ | refine Below.setCell ?_ (by first | (simp; done) | (simp; omega)) _)); refine bel_step ?_ B1; (repeat (first | refine bel_alloc ?_ _ | refine bel_dN ?_ _ | refine Below.drew ?_ | refine Below.setCell ?_ (by first | (simp; done) | (simp; omega)) _)); exact Below.refl _ _)

theorem bothFAdd16 (a b : Int) (a0 : 0 ≤ a) (a1 : a ≤ 4294967295) (b0 : 0 ≤ b) (b1 : b ≤ 4294967295) : ∃ r : Int,
    (∀ w, Calls Try.prog 12 #[.int .i64 16, .int .u32 a, .int .u32 b] w fun x w' => x = .returned (.int .u32 r) ∧ Below w.heap.size w w') ∧
    (∀ w, Calls Try.prog 8 #[.int .i64 16, .int .u32 a, .int .u32 b] w fun x w' => x = .returned (.int .u32 r) ∧ Below w.heap.size w w') := by
  obtain ⟨r, S, I⟩ := addBoth16 (a / 32768 % 2 == 1) (b / 32768 % 2 == 1) _ _ _ _ _ _ (fv16 a) (fv16 b)
  exact ⟨r, wSFAdd16 a b r _ _ (open16 a a0 a1) (open16 b b0 b1) S, wIFAdd16 a b r _ _ (value16 a a0 a1) (value16 b b0 b1) I⟩

theorem bothFAdd32 (a b : Int) (a0 : 0 ≤ a) (a1 : a ≤ 4294967295) (b0 : 0 ≤ b) (b1 : b ≤ 4294967295) : ∃ r : Int,
    (∀ w, Calls Try.prog 12 #[.int .i64 32, .int .u32 a, .int .u32 b] w fun x w' => x = .returned (.int .u32 r) ∧ Below w.heap.size w w') ∧
    (∀ w, Calls Try.prog 8 #[.int .i64 32, .int .u32 a, .int .u32 b] w fun x w' => x = .returned (.int .u32 r) ∧ Below w.heap.size w w') := by
  obtain ⟨r, S, I⟩ := addBoth32 (a / 2147483648 % 2 == 1) (b / 2147483648 % 2 == 1) _ _ _ _ _ _ (fv32 a) (fv32 b)
  exact ⟨r, wSFAdd32 a b r _ _ (open32 a a0 a1) (open32 b b0 b1) S, wIFAdd32 a b r _ _ (value32 a a0 a1) (value32 b b0 b1) I⟩

theorem noFAdd (kind a b : Int) (h1 : kind ≠ 16) (h2 : kind ≠ 32) :
    (∀ w, Calls Try.prog 12 #[.int .i64 kind, .int .u32 a, .int .u32 b] w fun x w' => x = .returned (.int .u32 0) ∧ Below w.heap.size w w') ∧
    (∀ w, Calls Try.prog 8 #[.int .i64 kind, .int .u32 a, .int .u32 b] w fun x w' => x = .returned (.int .u32 0) ∧ Below w.heap.size w w') := by
  refine ⟨fun w => ?_, fun w => ?_⟩
  · go_enter Try.func12, Try.ntmps12
    go_wp2_with fail
    refine (l4KindNo kind h1 h2 _).mono ?_
    rintro x w1 ⟨rfl, B1⟩
    go_wp2
    go_ret
    refine ⟨rfl, ?_⟩
    ((repeat (first | refine bel_alloc ?_ _ | refine bel_dN ?_ _ | refine Below.drew ?_ | refine Below.setCell ?_ (by first | (simp; done) | (simp; omega)) _)); refine bel_step ?_ B1; (repeat (first | refine bel_alloc ?_ _ | refine bel_dN ?_ _ | refine Below.drew ?_ | refine Below.setCell ?_ (by first | (simp; done) | (simp; omega)) _)); exact Below.refl _ _)
  · go_enter Try.func8, Try.ntmps8
    go_wp2_with fail
    refine (formNo kind h1 h2 _).mono ?_
    rintro x w1 ⟨rfl, B1⟩
    go_wp2
    go_ret
    refine ⟨rfl, ?_⟩
    ((repeat (first | refine bel_alloc ?_ _ | refine bel_dN ?_ _ | refine Below.drew ?_ | refine Below.setCell ?_ (by first | (simp; done) | (simp; omega)) _)); refine bel_step ?_ B1; (repeat (first | refine bel_alloc ?_ _ | refine bel_dN ?_ _ | refine Below.drew ?_ | refine Below.setCell ?_ (by first | (simp; done) | (simp; omega)) _)); exact Below.refl _ _)

end Go.Proofs.Yteniijmnpgdpcaa
