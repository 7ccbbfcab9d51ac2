/-
  The program's checks, exported: of a func.
-/
import Derived.Test.YtcgnefgdfgikdaaGreatKA7
import Derived.Test.YtcgnefgdfgikdaaGreatKA13
namespace Go.Proofs.YtcgnefgdfgikdaaGreat
open Go.ChangeShapes Go.WideShapes Go.ChangeAt Go.RowKit

theorem isT_iff {t : Int} (h : isT t = true) : 125 ≤ t ∧ t ≤ 127 := by unfold isT at h; simpa using h
theorem mayK1 {t : Int} (h : mayK 1 t = true) : t = 64 ∨ (125 ≤ t ∧ t ≤ 127) := by unfold mayK at h; simp at h; omega
theorem shaped_of {M : Mod7} (h : shape M = true) : Shaped M ∧ ∀ f ∈ M.fs, ∀ t ∈ f.ps, 125 ≤ t ∧ t ≤ 127 := by
  unfold shape at h
  simp only [Bool.and_eq_true, decide_eq_true_eq, List.all_eq_true] at h
  obtain ⟨⟨⟨⟨⟨h1, h2⟩, h3⟩, h4⟩, _⟩, _⟩ := h
  have hf : ∀ f ∈ M.fs, (eo f.body).isSome = true ∧ (∀ t ∈ f.ps, 125 ≤ t ∧ t ≤ 127) ∧ f.ps.length ≤ 6 ∧ (∀ t ∈ f.ls, 125 ≤ t ∧ t ≤ 127) ∧ f.ls.length ≤ 20 ∧ (f.res = 64 ∨ (125 ≤ f.res ∧ f.res ≤ 127)) := fun f hf => by
    have h := h3 f hf
    unfold goodF allT at h
    simp only [Bool.and_eq_true, decide_eq_true_eq, List.all_eq_true] at h
    obtain ⟨⟨⟨a, b, c⟩, d, e⟩, g⟩ := h
    exact ⟨a, fun t ht => isT_iff (b t ht), c, fun t ht => isT_iff (d t ht), e, mayK1 g⟩
  have hg : ∀ g ∈ M.gs, 125 ≤ g.ty ∧ g.ty ≤ 127 := fun g hg => by
    have h := h4 g hg
    unfold goodG at h
    simp only [Bool.and_eq_true] at h
    exact isT_iff h.1
  refine ⟨⟨⟨by omega, by omega⟩, fun f hm => ?_⟩, fun f hm => (hf f hm).2.1⟩
  obtain ⟨a, b, c, d, e, g⟩ := hf f hm
  refine ⟨by omega, by omega, a, fun t ht => ?_, g, fun f' hm' => (hf f' hm').2.2.2.2.2, hg⟩
  rcases List.mem_append.1 ht with ht | ht
  · exact b t ht
  · exact d t ht

/-- What is told of the k-th func. -/
def told7 (M : Mod7) (k : Int) : Int × Int × Int := if (0 ≤ k ∧ k < (M.fs.length : Int)) ∧ shape M = true then (match M.fs[k.toNat]? with | some f => checkS M f | none => (1, 0, 0)) else (1, 0, 0)

set_option maxRecDepth 100000 in
set_option maxHeartbeats 1600000 in
theorem implCheckFunc (l : Loc7) (M : Mod7) (k : Int) (w : World) (hM : Hid (ModAt w l M)) (hs : Hid (smM M)) :
    Calls Tryz.prog 5 #[.agg #[.slice l.fa M.fs.length l.fc, .slice l.ga M.gs.length l.gc, .bool M.mem, .int .i64 M.pages, .int .i64 M.most, .int .i64 M.start], .int .i64 k] w fun e w' => e = .returned (.tuple #[.int .i64 (told7 M k).1, .int .i64 (told7 M k).2.1]) ∧ Below w.heap.size w w' := by
  obtain ⟨W, hW⟩ : ∃ W, w.alloc (.cells #[.slice l.fa M.fs.length l.fc, .slice l.ga M.gs.length l.gc, .bool M.mem, .int .i64 M.pages, .int .i64 M.most, .int .i64 M.start] 26) = W := ⟨_, rfl⟩
  obtain ⟨z, hz⟩ : ∃ z, w.heap.size = z := ⟨_, rfl⟩
  have hbW : Below w.heap.size w W := by rw [← hW]; exact (Below.refl _ _).alloc (Nat.le_refl _) _
  have hZ : W.heap[z]? = some (.cells #[.slice l.fa M.fs.length l.fc, .slice l.ga M.gs.length l.gc, .bool M.mem, .int .i64 M.pages, .int .i64 M.most, .int .i64 M.start] 26 (0, 0)) := by rw [← hW, ← hz]; exact heap_alloc_new _ _
  have HW : Hid (w.alloc (.cells #[.slice l.fa M.fs.length l.fc, .slice l.ga M.gs.length l.gc, .bool M.mem, .int .i64 M.pages, .int .i64 M.most, .int .i64 M.start] 26) = W ∧ w.heap.size = z) := ⟨hW, hz⟩
  have HB : Hid (Below w.heap.size w W) := hbW
  have HZ : Hid (W.heap[z]? = some (.cells #[.slice l.fa M.fs.length l.fc, .slice l.ga M.gs.length l.gc, .bool M.mem, .int .i64 M.pages, .int .i64 M.most, .int .i64 M.start] 26 (0, 0))) := hZ
  have T1 := implHas l M k W
  obtain ⟨hb, hhb⟩ : ∃ x, (decide (0 ≤ k) && decide (k < (M.fs.length : Int))) = x := ⟨_, rfl⟩
  rw [hhb] at T1
  have HHB : Hid ((decide (0 ≤ k) && decide (k < (M.fs.length : Int))) = hb) := hhb
  clear hW hz hbW hZ hhb
  go_enter Tryz.func5, Tryz.ntmps5
  go_wp2_with fail
  rw [HW.out.2, HW.out.1]
  refine T1.mono ?_
  rintro e w1 ⟨rfl, hb1⟩
  have HB1 : Hid (Below w.heap.size w w1) := bel_step HB.out hb1
  have hz1 := (hb1.block z (lt_of_block HZ.out)).trans HZ.out
  have HZ1 : Hid (w1.heap[z]? = some (.cells #[.slice l.fa M.fs.length l.fc, .slice l.ga M.gs.length l.gc, .bool M.mem, .int .i64 M.pages, .int .i64 M.most, .int .i64 M.start] 26 (0, 0))) := hz1
  have d0 : w1.cell? ⟨z, 0, none⟩ = some (.slice l.fa M.fs.length l.fc) := (cell_of_block hz1 0).trans rfl
  have d1 : w1.cell? ⟨z, 1, none⟩ = some (.slice l.ga M.gs.length l.gc) := (cell_of_block hz1 1).trans rfl
  have d2 : w1.cell? ⟨z, 2, none⟩ = some (.bool M.mem) := (cell_of_block hz1 2).trans rfl
  have d3 : w1.cell? ⟨z, 3, none⟩ = some (.int .i64 M.pages) := (cell_of_block hz1 3).trans rfl
  have d4 : w1.cell? ⟨z, 4, none⟩ = some (.int .i64 M.most) := (cell_of_block hz1 4).trans rfl
  have d5 : w1.cell? ⟨z, 5, none⟩ = some (.int .i64 M.start) := (cell_of_block hz1 5).trans rfl
  have T2 := implShape l M w1 (hM.out.below HB1.out) hs
  obtain ⟨sh, hsh⟩ : ∃ x, shape M = x := ⟨_, rfl⟩
  rw [hsh] at T2
  have HSH : Hid (shape M = sh) := hsh
  clear hb1 hz1 hsh T1
  cases hb
  · have HR : Hid (told7 M k = (1, 0, 0)) := by
      have h := HHB.out
      unfold Hid told7
      rw [if_neg]
      rintro ⟨⟨h1, h2⟩, _⟩
      simp [h1, h2] at h
    clear T2
    go_wp2
    go_ret2
    exact ⟨by rw [HR.out]; rfl, HB1.out⟩
  · go_wp2_with fail
    refine T2.mono ?_
    rintro e w2 ⟨rfl, hb2⟩
    have HB2 : Hid (Below w.heap.size w w2) := bel_step HB1.out hb2
    have hz2 := (hb2.block z (lt_of_block HZ1.out)).trans HZ1.out
    have e0 : w2.cell? ⟨z, 0, none⟩ = some (.slice l.fa M.fs.length l.fc) := (cell_of_block hz2 0).trans rfl
    have e1 : w2.cell? ⟨z, 1, none⟩ = some (.slice l.ga M.gs.length l.gc) := (cell_of_block hz2 1).trans rfl
    have e2 : w2.cell? ⟨z, 2, none⟩ = some (.bool M.mem) := (cell_of_block hz2 2).trans rfl
    have e3 : w2.cell? ⟨z, 3, none⟩ = some (.int .i64 M.pages) := (cell_of_block hz2 3).trans rfl
    have e4 : w2.cell? ⟨z, 4, none⟩ = some (.int .i64 M.most) := (cell_of_block hz2 4).trans rfl
    have e5 : w2.cell? ⟨z, 5, none⟩ = some (.int .i64 M.start) := (cell_of_block hz2 5).trans rfl
    clear T2 hb2 hz2 d0 d1 d2 d3 d4 d5
    cases sh
    · have HR : Hid (told7 M k = (1, 0, 0)) := by
        unfold Hid told7
        rw [if_neg]
        rintro ⟨_, h⟩
        rw [HSH.out] at h; simp at h
      go_wp2
      go_ret2
      exact ⟨by rw [HR.out]; rfl, HB2.out⟩
    · have hr : (0 ≤ k) ∧ k < (M.fs.length : Int) := by have h := HHB.out; simpa using h
      obtain ⟨n, rfl⟩ : ∃ n : Nat, k = n := ⟨k.toNat, by omega⟩
      have hn : n < M.fs.length := by omega
      have HR : Hid (told7 M (n : Int) = checkS M M.fs[n]) := by
        unfold Hid told7
        rw [if_pos ⟨hr, HSH.out⟩, Int.toNat_natCast, List.getElem?_eq_getElem hn]
      have T3 := verdictI l M n M.fs[n] w2 (hM.out.below HB2.out) hn rfl (shaped_of HSH.out).1
      obtain ⟨⟨v1, v2, v3⟩, hv⟩ : ∃ v, checkS M M.fs[n] = v := ⟨_, rfl⟩
      rw [hv] at T3 HR
      clear hv hr hn
      go_wp2_with fail
      refine T3.mono ?_
      rintro e w3 ⟨rfl, hb3⟩
      have HB3 : Hid (Below w.heap.size w w3) := bel_step HB2.out hb3
      clear T3 hb3 e0 e1 e2 e3 e4 e5
      simp only [verdV]
      obtain ⟨W5, hW5⟩ : ∃ W5, w3.alloc (.cells #[.int .i64 v1, .int .i64 v2, .int .i64 v3] 51) = W5 := ⟨_, rfl⟩
      obtain ⟨y, hy⟩ : ∃ y, w3.heap.size = y := ⟨_, rfl⟩
      have hY : W5.heap[y]? = some (.cells #[.int .i64 v1, .int .i64 v2, .int .i64 v3] 51 (0, 0)) := by rw [← hW5, ← hy]; exact heap_alloc_new _ _
      have HB5 : Hid (Below w.heap.size w W5) := by unfold Hid; rw [← hW5]; exact HB3.out.alloc HB3.out.size _
      have HW5 : Hid (w3.alloc (.cells #[.int .i64 v1, .int .i64 v2, .int .i64 v3] 51) = W5 ∧ w3.heap.size = y) := ⟨hW5, hy⟩
      have hyl := lt_of_block hY
      have j0 : ∀ w', Keeps W5 w' → w'.cell? ⟨y, 0, none⟩ = some (.int .i64 v1) := fun w' h => h.cell hyl ((cell_of_block hY 0).trans rfl)
      have j1 : ∀ w', Keeps W5 w' → w'.cell? ⟨y, 1, none⟩ = some (.int .i64 v2) := fun w' h => h.cell hyl ((cell_of_block hY 1).trans rfl)
      clear hW5 hy hY hyl
      go_wp2_with fail
      rw [HW5.out.2, HW5.out.1]
      refine region_q (C := Keeps W5) (by kernel_rfl) (by kernel_rfl) (Keeps.drew W5) ?_
      (iterate 6
    (apply wpQuiet_go _ (by rfl)
     · intro wq hq
       go_simp
       first
         | exact rfl
     simp only [Act.put, List.setIfInBounds_toArray, List.set_cons_succ, List.set_cons_zero]))
      refine wpQuiet_nil ?_
      intro wz hk
      have HBz : Hid (Below w.heap.size w wz) := bel_step HB5.out hk.below
      clear hk j0 j1
      go_wp2
      go_ret2
      exact ⟨by rw [HR.out]; rfl, HBz.out⟩

set_option maxRecDepth 100000 in
set_option maxHeartbeats 1600000 in
theorem implHighest (l : Loc7) (M : Mod7) (k : Int) (w : World) (hM : Hid (ModAt w l M)) (hs : Hid (smM M)) :
    Calls Tryz.prog 11 #[.agg #[.slice l.fa M.fs.length l.fc, .slice l.ga M.gs.length l.gc, .bool M.mem, .int .i64 M.pages, .int .i64 M.most, .int .i64 M.start], .int .i64 k] w fun e w' => e = .returned (.tuple #[.int .i64 (told7 M k).2.2, .bool ((told7 M k).1 == 0)]) ∧ Below w.heap.size w w' := by
  obtain ⟨W, hW⟩ : ∃ W, w.alloc (.cells #[.slice l.fa M.fs.length l.fc, .slice l.ga M.gs.length l.gc, .bool M.mem, .int .i64 M.pages, .int .i64 M.most, .int .i64 M.start] 26) = W := ⟨_, rfl⟩
  obtain ⟨z, hz⟩ : ∃ z, w.heap.size = z := ⟨_, rfl⟩
  have hbW : Below w.heap.size w W := by rw [← hW]; exact (Below.refl _ _).alloc (Nat.le_refl _) _
  have hZ : W.heap[z]? = some (.cells #[.slice l.fa M.fs.length l.fc, .slice l.ga M.gs.length l.gc, .bool M.mem, .int .i64 M.pages, .int .i64 M.most, .int .i64 M.start] 26 (0, 0)) := by rw [← hW, ← hz]; exact heap_alloc_new _ _
  have HW : Hid (w.alloc (.cells #[.slice l.fa M.fs.length l.fc, .slice l.ga M.gs.length l.gc, .bool M.mem, .int .i64 M.pages, .int .i64 M.most, .int .i64 M.start] 26) = W ∧ w.heap.size = z) := ⟨hW, hz⟩
  have HB : Hid (Below w.heap.size w W) := hbW
  have HZ : Hid (W.heap[z]? = some (.cells #[.slice l.fa M.fs.length l.fc, .slice l.ga M.gs.length l.gc, .bool M.mem, .int .i64 M.pages, .int .i64 M.most, .int .i64 M.start] 26 (0, 0))) := hZ
  have T1 := implHas l M k W
  obtain ⟨hb, hhb⟩ : ∃ x, (decide (0 ≤ k) && decide (k < (M.fs.length : Int))) = x := ⟨_, rfl⟩
  rw [hhb] at T1
  have HHB : Hid ((decide (0 ≤ k) && decide (k < (M.fs.length : Int))) = hb) := hhb
  clear hW hz hbW hZ hhb
  go_enter Tryz.func11, Tryz.ntmps11
  go_wp2_with fail
  rw [HW.out.2, HW.out.1]
  refine T1.mono ?_
  rintro e w1 ⟨rfl, hb1⟩
  have HB1 : Hid (Below w.heap.size w w1) := bel_step HB.out hb1
  have hz1 := (hb1.block z (lt_of_block HZ.out)).trans HZ.out
  have HZ1 : Hid (w1.heap[z]? = some (.cells #[.slice l.fa M.fs.length l.fc, .slice l.ga M.gs.length l.gc, .bool M.mem, .int .i64 M.pages, .int .i64 M.most, .int .i64 M.start] 26 (0, 0))) := hz1
  have d0 : w1.cell? ⟨z, 0, none⟩ = some (.slice l.fa M.fs.length l.fc) := (cell_of_block hz1 0).trans rfl
  have d1 : w1.cell? ⟨z, 1, none⟩ = some (.slice l.ga M.gs.length l.gc) := (cell_of_block hz1 1).trans rfl
  have d2 : w1.cell? ⟨z, 2, none⟩ = some (.bool M.mem) := (cell_of_block hz1 2).trans rfl
  have d3 : w1.cell? ⟨z, 3, none⟩ = some (.int .i64 M.pages) := (cell_of_block hz1 3).trans rfl
  have d4 : w1.cell? ⟨z, 4, none⟩ = some (.int .i64 M.most) := (cell_of_block hz1 4).trans rfl
  have d5 : w1.cell? ⟨z, 5, none⟩ = some (.int .i64 M.start) := (cell_of_block hz1 5).trans rfl
  have T2 := implShape l M w1 (hM.out.below HB1.out) hs
  obtain ⟨sh, hsh⟩ : ∃ x, shape M = x := ⟨_, rfl⟩
  rw [hsh] at T2
  have HSH : Hid (shape M = sh) := hsh
  clear hb1 hz1 hsh T1
  cases hb
  · have HR : Hid (told7 M k = (1, 0, 0)) := by
      have h := HHB.out
      unfold Hid told7
      rw [if_neg]
      rintro ⟨⟨h1, h2⟩, _⟩
      simp [h1, h2] at h
    clear T2
    go_wp2
    go_ret2
    exact ⟨by rw [HR.out]; rfl, HB1.out⟩
  · go_wp2_with fail
    refine T2.mono ?_
    rintro e w2 ⟨rfl, hb2⟩
    have HB2 : Hid (Below w.heap.size w w2) := bel_step HB1.out hb2
    have hz2 := (hb2.block z (lt_of_block HZ1.out)).trans HZ1.out
    have e0 : w2.cell? ⟨z, 0, none⟩ = some (.slice l.fa M.fs.length l.fc) := (cell_of_block hz2 0).trans rfl
    have e1 : w2.cell? ⟨z, 1, none⟩ = some (.slice l.ga M.gs.length l.gc) := (cell_of_block hz2 1).trans rfl
    have e2 : w2.cell? ⟨z, 2, none⟩ = some (.bool M.mem) := (cell_of_block hz2 2).trans rfl
    have e3 : w2.cell? ⟨z, 3, none⟩ = some (.int .i64 M.pages) := (cell_of_block hz2 3).trans rfl
    have e4 : w2.cell? ⟨z, 4, none⟩ = some (.int .i64 M.most) := (cell_of_block hz2 4).trans rfl
    have e5 : w2.cell? ⟨z, 5, none⟩ = some (.int .i64 M.start) := (cell_of_block hz2 5).trans rfl
    clear T2 hb2 hz2 d0 d1 d2 d3 d4 d5
    cases sh
    · have HR : Hid (told7 M k = (1, 0, 0)) := by
        unfold Hid told7
        rw [if_neg]
        rintro ⟨_, h⟩
        rw [HSH.out] at h; simp at h
      go_wp2
      go_ret2
      exact ⟨by rw [HR.out]; rfl, HB2.out⟩
    · have hr : (0 ≤ k) ∧ k < (M.fs.length : Int) := by have h := HHB.out; simpa using h
      obtain ⟨n, rfl⟩ : ∃ n : Nat, k = n := ⟨k.toNat, by omega⟩
      have hn : n < M.fs.length := by omega
      have HR : Hid (told7 M (n : Int) = checkS M M.fs[n]) := by
        unfold Hid told7
        rw [if_pos ⟨hr, HSH.out⟩, Int.toNat_natCast, List.getElem?_eq_getElem hn]
      have T3 := verdictI l M n M.fs[n] w2 (hM.out.below HB2.out) hn rfl (shaped_of HSH.out).1
      obtain ⟨⟨v1, v2, v3⟩, hv⟩ : ∃ v, checkS M M.fs[n] = v := ⟨_, rfl⟩
      rw [hv] at T3 HR
      clear hv hr hn
      go_wp2_with fail
      refine T3.mono ?_
      rintro e w3 ⟨rfl, hb3⟩
      have HB3 : Hid (Below w.heap.size w w3) := bel_step HB2.out hb3
      clear T3 hb3 e0 e1 e2 e3 e4 e5
      simp only [verdV]
      obtain ⟨W5, hW5⟩ : ∃ W5, w3.alloc (.cells #[.int .i64 v1, .int .i64 v2, .int .i64 v3] 51) = W5 := ⟨_, rfl⟩
      obtain ⟨y, hy⟩ : ∃ y, w3.heap.size = y := ⟨_, rfl⟩
      have hY : W5.heap[y]? = some (.cells #[.int .i64 v1, .int .i64 v2, .int .i64 v3] 51 (0, 0)) := by rw [← hW5, ← hy]; exact heap_alloc_new _ _
      have HB5 : Hid (Below w.heap.size w W5) := by unfold Hid; rw [← hW5]; exact HB3.out.alloc HB3.out.size _
      have HW5 : Hid (w3.alloc (.cells #[.int .i64 v1, .int .i64 v2, .int .i64 v3] 51) = W5 ∧ w3.heap.size = y) := ⟨hW5, hy⟩
      have hyl := lt_of_block hY
      have j0 : ∀ w', Keeps W5 w' → w'.cell? ⟨y, 0, none⟩ = some (.int .i64 v1) := fun w' h => h.cell hyl ((cell_of_block hY 0).trans rfl)
      have j1 : ∀ w', Keeps W5 w' → w'.cell? ⟨y, 2, none⟩ = some (.int .i64 v3) := fun w' h => h.cell hyl ((cell_of_block hY 2).trans rfl)
      clear hW5 hy hY hyl
      go_wp2_with fail
      rw [HW5.out.2, HW5.out.1]
      refine region_q (C := Keeps W5) (by kernel_rfl) (by kernel_rfl) (Keeps.drew W5) ?_
      (iterate 7
    (apply wpQuiet_go _ (by rfl)
     · intro wq hq
       go_simp
       first
         | exact rfl
     simp only [Act.put, List.setIfInBounds_toArray, List.set_cons_succ, List.set_cons_zero]))
      refine wpQuiet_nil ?_
      intro wz hk
      have HBz : Hid (Below w.heap.size w wz) := bel_step HB5.out hk.below
      clear hk j0 j1
      go_wp2
      go_ret2
      exact ⟨by rw [HR.out]; rfl, HBz.out⟩


/-- What is told of a module: the first func with a fault. -/
def firstBad (M : Mod7) : Nat → List Fun7 → Int × Int × Int
  | _, [] => (0, 0, 0)
  | k, f :: L => if (checkS M f).1 = 0 then firstBad M (k + 1) L else ((checkS M f).1, (k : Int), (checkS M f).2.1)
def toldM (M : Mod7) : Int × Int × Int := if shape M = true then firstBad M 0 M.fs else (1, 0, 0)

end Go.Proofs.YtcgnefgdfgikdaaGreat

namespace Go.Proofs.YtcgnefgdfgikdaaGreat
open Go.ChangeShapes Go.WideShapes Go.ChangeAt Go.RowKit

theorem w64q7 (j : Nat) (h : j ≤ 400) : wrap64 ((j : Int) + 1) = (j : Int) + 1 := by unfold wrap64; omega
theorem firstBad_cons (M : Mod7) (k : Nat) (f : Fun7) (L : List Fun7) : firstBad M k (f :: L) = if (checkS M f).1 = 0 then firstBad M (k + 1) L else ((checkS M f).1, (k : Int), (checkS M f).2.1) := rfl

set_option maxRecDepth 100000 in
set_option maxHeartbeats 3200000 in
theorem implCheckModule (l : Loc7) (M : Mod7) (w : World) (hM : Hid (ModAt w l M)) (hs : Hid (smM M)) :
    Calls Tryz.prog 7 #[.agg #[.slice l.fa M.fs.length l.fc, .slice l.ga M.gs.length l.gc, .bool M.mem, .int .i64 M.pages, .int .i64 M.most, .int .i64 M.start]] w fun e w' => e = .returned (.tuple #[.int .i64 (toldM M).1, .int .i64 (toldM M).2.1, .int .i64 (toldM M).2.2]) ∧ Below w.heap.size w w' := by
  obtain ⟨W, hW⟩ : ∃ W, w.alloc (.cells #[.slice l.fa M.fs.length l.fc, .slice l.ga M.gs.length l.gc, .bool M.mem, .int .i64 M.pages, .int .i64 M.most, .int .i64 M.start] 26) = W := ⟨_, rfl⟩
  obtain ⟨z, hz⟩ : ∃ z, w.heap.size = z := ⟨_, rfl⟩
  have hbW : Below w.heap.size w W := by rw [← hW]; exact (Below.refl _ _).alloc (Nat.le_refl _) _
  have hZ : W.heap[z]? = some (.cells #[.slice l.fa M.fs.length l.fc, .slice l.ga M.gs.length l.gc, .bool M.mem, .int .i64 M.pages, .int .i64 M.most, .int .i64 M.start] 26 (0, 0)) := by rw [← hW, ← hz]; exact heap_alloc_new _ _
  have HW : Hid (w.alloc (.cells #[.slice l.fa M.fs.length l.fc, .slice l.ga M.gs.length l.gc, .bool M.mem, .int .i64 M.pages, .int .i64 M.most, .int .i64 M.start] 26) = W ∧ w.heap.size = z) := ⟨hW, hz⟩
  have HB : Hid (Below w.heap.size w W) := hbW
  have HZ : Hid (W.heap[z]? = some (.cells #[.slice l.fa M.fs.length l.fc, .slice l.ga M.gs.length l.gc, .bool M.mem, .int .i64 M.pages, .int .i64 M.most, .int .i64 M.start] 26 (0, 0))) := hZ
  have T2 := implShape l M W (hM.out.below hbW) hs
  obtain ⟨sh, hsh⟩ : ∃ x, shape M = x := ⟨_, rfl⟩
  rw [hsh] at T2
  have HSH : Hid (shape M = sh) := hsh
  clear hW hz hbW hZ hsh
  go_enter Tryz.func7, Tryz.ntmps7
  go_wp2_with fail
  rw [HW.out.2, HW.out.1]
  refine T2.mono ?_
  rintro e w2 ⟨rfl, hb2⟩
  have HB2 : Hid (Below w.heap.size w w2) := bel_step HB.out hb2
  have hz2 := (hb2.block z (lt_of_block HZ.out)).trans HZ.out
  have HZ2 : Hid (w2.heap[z]? = some (.cells #[.slice l.fa M.fs.length l.fc, .slice l.ga M.gs.length l.gc, .bool M.mem, .int .i64 M.pages, .int .i64 M.most, .int .i64 M.start] 26 (0, 0))) := hz2
  have e0 : w2.cell? ⟨z, 0, none⟩ = some (.slice l.fa M.fs.length l.fc) := (cell_of_block hz2 0).trans rfl
  clear T2 hb2 hz2
  cases sh
  · have HR : Hid (toldM M = (1, 0, 0)) := by unfold Hid toldM; rw [HSH.out]; rfl
    go_wp2
    go_ret3
    exact ⟨by rw [HR.out]; rfl, HB2.out⟩
  · have HR : Hid (toldM M = firstBad M 0 M.fs) := by unfold Hid toldM; rw [HSH.out]; rfl
    have HSP : Hid (Shaped M) := (shaped_of HSH.out).1
    obtain ⟨n, hn⟩ : ∃ n, M.fs.length = n := ⟨_, rfl⟩
    have HN : Hid (M.fs.length = n ∧ n ≤ 20) := ⟨hn, by have := HSP.out.ns.1; omega⟩
    rw [hn] at e0 ⊢
    clear hn
    go_wp2
    clear e0
    go_loopw [13] (fun i wr => ∃ j : Nat, j ≤ n ∧ i = .int .i64 (j : Int) ∧ Hid (firstBad M 0 M.fs = firstBad M j (M.fs.drop j)) ∧ Hid (Below w2.heap.size w2 wr)) (fun i _ => n - (intOf i).toNat)
    case atStart => exact ⟨0, by omega, rfl, rfl, Below.refl _ _⟩
    case round =>
      obtain ⟨j, hj, rfl, hG, hB⟩ := hrel
      by_cases hlt : j < n
      · have hjL : j < M.fs.length := by have := HN.out.1; omega
        have hdr : M.fs.drop j = M.fs[j] :: M.fs.drop (j + 1) := List.drop_eq_getElem_cons hjL
        have hzr := (hB.out.block z (lt_of_block HZ2.out)).trans HZ2.out
        have d0 : wr.cell? ⟨z, 0, none⟩ = some (.slice l.fa n l.fc) := by rw [cell_of_block hzr, ← HN.out.1]; rfl
        have d1 : wr.cell? ⟨z, 1, none⟩ = some (.slice l.ga M.gs.length l.gc) := (cell_of_block hzr 1).trans rfl
        have d2 : wr.cell? ⟨z, 2, none⟩ = some (.bool M.mem) := (cell_of_block hzr 2).trans rfl
        have d3 : wr.cell? ⟨z, 3, none⟩ = some (.int .i64 M.pages) := (cell_of_block hzr 3).trans rfl
        have d4 : wr.cell? ⟨z, 4, none⟩ = some (.int .i64 M.most) := (cell_of_block hzr 4).trans rfl
        have d5 : wr.cell? ⟨z, 5, none⟩ = some (.int .i64 M.start) := (cell_of_block hzr 5).trans rfl
        have T3 := verdictI l M j M.fs[j] wr (hM.out.below (bel_step HB2.out hB.out)) hjL rfl HSP
        rw [HN.out.1] at T3
        have hst := hG.out
        rw [hdr] at hst
        obtain ⟨⟨v1, v2, v3⟩, hv⟩ : ∃ v, checkS M M.fs[j] = v := ⟨_, rfl⟩
        rw [hv] at T3
        have HST : Hid (firstBad M 0 M.fs = if v1 = 0 then firstBad M (j + 1) (M.fs.drop (j + 1)) else (v1, (j : Int), v2)) := by unfold Hid; rw [hst, firstBad_cons, hv]
        have HLT : Hid (j < n) := hlt
        clear hst hv hdr hjL hzr hG
        go_wp2_with fail
        refine T3.mono ?_
        rintro e w3 ⟨rfl, hb3⟩
        have HB3 : Hid (Below w2.heap.size w2 w3) := bel_step hB.out hb3
        clear T3 hb3 d0 d1 d2 d3 d4 d5
        simp only [verdV]
        by_cases h0 : v1 = 0
        · subst h0
          have HST2 : Hid (firstBad M 0 M.fs = firstBad M (j + 1) (M.fs.drop (j + 1))) := by unfold Hid; rw [HST.out, if_pos rfl]
          have HB4 : Hid (Below w2.heap.size w2 (w3.alloc (.cells #[.int .i64 0, .int .i64 v2, .int .i64 v3] 51))) := HB3.out.alloc HB3.out.size _
          have HWP : Hid (wrap64 ((j : Int) + 1) = (j : Int) + 1) := w64q7 j (by have := HLT.out; have := HN.out.2; omega)
          go_wp2
          rw [HWP.out]
          go_roundw
          case rel => exact ⟨j + 1, by have := HLT.out; omega, by go_num, HST2, HB4⟩
          case measure => have := HLT.out; simp [intOf]; omega
        · have h0b : (v1 != 0) = true := by simpa using h0
          have h0c : (v1 == 0) = false := by simpa using h0
          have HST2 : Hid (firstBad M 0 M.fs = (v1, (j : Int), v2)) := by unfold Hid; rw [HST.out, if_neg h0]
          obtain ⟨W5, hW5⟩ : ∃ W5, w3.alloc (.cells #[.int .i64 v1, .int .i64 v2, .int .i64 v3] 51) = W5 := ⟨_, rfl⟩
          obtain ⟨y, hy⟩ : ∃ y, w3.heap.size = y := ⟨_, rfl⟩
          have hY : W5.heap[y]? = some (.cells #[.int .i64 v1, .int .i64 v2, .int .i64 v3] 51 (0, 0)) := by rw [← hW5, ← hy]; exact heap_alloc_new _ _
          have HB5 : Hid (Below w.heap.size w W5) := by unfold Hid; rw [← hW5]; exact bel_step HB2.out (HB3.out.alloc HB3.out.size _)
          have HW5 : Hid (w3.alloc (.cells #[.int .i64 v1, .int .i64 v2, .int .i64 v3] 51) = W5 ∧ w3.heap.size = y) := ⟨hW5, hy⟩
          have hyl := lt_of_block hY
          have j0 : ∀ w', Keeps W5 w' → w'.cell? ⟨y, 0, none⟩ = some (.int .i64 v1) := fun w' h => h.cell hyl ((cell_of_block hY 0).trans rfl)
          have j1 : ∀ w', Keeps W5 w' → w'.cell? ⟨y, 1, none⟩ = some (.int .i64 v2) := fun w' h => h.cell hyl ((cell_of_block hY 1).trans rfl)
          clear hW5 hy hY hyl h0
          go_wp2_with fail
          rw [HW5.out.2, HW5.out.1]
          refine region_q (C := Keeps W5) (by kernel_rfl) (by kernel_rfl) (Keeps.drew W5) ?_
          (iterate 8
    (apply wpQuiet_go _ (by rfl)
     · intro wq hq
       go_simp
       first
         | exact rfl
     simp only [Act.put, List.setIfInBounds_toArray, List.set_cons_succ, List.set_cons_zero]))
          refine wpQuiet_nil ?_
          intro wz hk
          have HBz : Hid (Below w.heap.size w wz) := bel_step HB5.out hk.below
          clear hk j0 j1
          go_wp2
          go_ret3
          exact ⟨by rw [HR.out, HST2.out]; rfl, HBz.out⟩
      · have hdr : M.fs.drop j = [] := List.drop_of_length_le (by have := HN.out.1; omega)
        have HST2 : Hid (firstBad M 0 M.fs = (0, 0, 0)) := by unfold Hid; rw [hG.out, hdr]; rfl
        have HBz : Hid (Below w.heap.size w wr) := bel_step HB2.out hB.out
        clear hdr hG
        go_wp2
        go_ret3
        exact ⟨by rw [HR.out, HST2.out]; rfl, HBz.out⟩

end Go.Proofs.YtcgnefgdfgikdaaGreat
