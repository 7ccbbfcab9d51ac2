/-
  The law on modules held against each other: whole. (Made by a generator.)
-/
import Derived.Test.YtokaljglaholnaaUSame5
namespace Go.Proofs.Ytokaljglaholnaa
open Go.ChangeShapes Go.WideShapes Go.ChangeAt Go.RowKit

set_option maxRecDepth 100000 in
set_option maxHeartbeats 1600000 in
theorem szModL (l : Loc7) (M : Mod7) (r0 : Int) (w : World) (hM : Hid (ModAt w l M)) (hok : Hid (okM M)) (h0 : 0 ≤ r0) (h1 : r0 ≤ 1048576) :
    Calls Try.prog 6 #[modV l M, .int .i64 r0] w fun e w' => ∃ r : Int, e = .returned (.int .i64 r) ∧ (0 ≤ r → smM M ∧ r ≤ 1048576) ∧ Below w.heap.size w w' := by
  obtain ⟨fa, fc, ga, gc⟩ := l
  obtain ⟨fs, gs, mem, pages, most, start⟩ := M
  unfold modV
  simp only
  go_enter Try.func6, Try.ntmps6
  go_wp2_with fail
  refine (szFuns fa fc fs r0 _ (hM.out.1.below ((Below.refl _ _).alloc (Nat.le_refl _) _)) ⟨hok.out.1, hok.out.2.2.1⟩ h0 h1).mono ?_
  rintro e w1 ⟨r, rfl, hr, hb1⟩
  have HB1 : Hid (Below w.heap.size w w1) := below2 ((Below.refl _ _).alloc (Nat.le_refl _) _) hb1
  have hc1 : w1.cell? ⟨w.heap.size, 1, none⟩ = some (.slice ga gs.length gc) := (hb1.cell (p := ⟨w.heap.size, 1, none⟩) (by simp)).trans (newCell rfl rfl)
  clear hb1
  by_cases hr0 : r < 0
  · clear hr
    go_wp2
    go_ret
    exact ⟨-1, rfl, fun h => absurd h (by omega), HB1.out⟩
  · obtain ⟨q1, q2⟩ := hr (by omega)
    have Q1 : Hid (fs.length ≤ 1048576 ∧ ∀ f ∈ fs, smF f) := q1
    have q3 : 0 ≤ r := by omega
    clear hr q1 hr0
    go_wp2_with fail
    refine (szGlo1 ga gc gs.length r _ hok.out.2.1 q3 q2).mono ?_
    rintro e w2 ⟨r2, rfl, hr, rfl⟩
    by_cases hr0 : r2 < 0
    · clear hr
      go_wp2
      go_ret
      exact ⟨-1, rfl, fun h => absurd h (by omega), HB1.out⟩
    · obtain ⟨q1, q4⟩ := hr (by omega)
      have Q2 : Hid (gs.length ≤ 1048576) := q1
      clear hr q1
      go_wp2
      go_ret
      exact ⟨r2, rfl, fun _ => ⟨⟨Q1.out.1, Q2.out, Q1.out.2, hok.out.2.2.2⟩, q4⟩, HB1.out⟩

theorem sameRes_form (A B : Mod7) : ∃ x y, sameRes A B = .tuple #[.bool x, .bool y] := by
  unfold sameRes
  split
  · exact ⟨_, _, rfl⟩
  · exact ⟨_, _, rfl⟩

set_option maxRecDepth 100000 in
set_option maxHeartbeats 6400000 in
theorem sameModule_walk (l : Loc7) (A : Mod7) (l' : Loc7) (B : Mod7) (w : World) (hI : IsMod w l A) (hJ : IsMod w l' B) :
    Calls Try.prog 5 #[modV l A, modV l' B] w fun e w' => e = .returned (.bool true) ∧ Below w.heap.size w w' := by
  have hA : Hid (ModAt w l A) := hI.1
  have hB : Hid (ModAt w l' B) := hJ.1
  have okA : Hid (okM A) := hI.2.1
  have okB : Hid (okM B) := hJ.2.1
  clear hI hJ
  obtain ⟨x, y, hR⟩ := sameRes_form A B
  have ZA : Hid (∀ w', Below w.heap.size w w' → Calls Try.prog 6 #[modV l A, .int .i64 1048576] w' fun e w'' => ∃ r : Int, e = .returned (.int .i64 r) ∧ (0 ≤ r → smM A ∧ r ≤ 1048576) ∧ Below w'.heap.size w' w'') := fun w' hb => szModL l A 1048576 w' (hA.out.below hb) okA.out (by omega) (by omega)
  have ZB : Hid (∀ r0 w', 0 ≤ r0 → r0 ≤ 1048576 → Below w.heap.size w w' → Calls Try.prog 6 #[modV l' B, .int .i64 r0] w' fun e w'' => ∃ r : Int, e = .returned (.int .i64 r) ∧ (0 ≤ r → smM B ∧ r ≤ 1048576) ∧ Below w'.heap.size w' w'') := fun r0 w' h0 h1 hb => szModL l' B r0 w' (hB.out.below hb) okB.out h0 h1
  have TA : Hid (smM A → ∀ w', Below w.heap.size w w' → Calls Try.prog 8 #[modV l A] w' fun e w'' => ∃ l', e = .returned (modV l' A) ∧ Hid (ModAt w'' l' A) ∧ Below w'.heap.size w' w'') := fun hs w' hb => toMod l A w' (hA.out.below hb) hs
  have TB : Hid (smM B → ∀ w', Below w.heap.size w w' → Calls Try.prog 8 #[modV l' B] w' fun e w'' => ∃ l', e = .returned (modV l' B) ∧ Hid (ModAt w'' l' B) ∧ Below w'.heap.size w' w'') := fun hs w' hb => toMod l' B w' (hB.out.below hb) hs
  have S : Hid (smM A → smM B → ∀ l1 l2 w', ModAt w' l1 A → ModAt w' l2 B → Calls Try.prog 16 #[modV l1 A, modV l2 B] w' fun e w'' => e = .returned (.tuple #[.bool x, .bool y]) ∧ Below w'.heap.size w' w'') := fun hs hs' l1 l2 w' h h' => by rw [← hR]; exact specSameM l1 l2 A B w' h h' hs hs'
  have I : Hid (smM A → smM B → ∀ l1 l2 w', ModAt w' l1 A → ModAt w' l2 B → Calls Try.prog 17 #[modV l1 A, modV l2 B] w' fun e w'' => e = .returned (.tuple #[.bool x, .bool y]) ∧ Below w'.heap.size w' w'') := fun hs hs' l1 l2 w' h h' => by rw [← hR]; exact implSameM l1 l2 A B w' h h' hs hs'
  clear hR hA hB okA okB
  obtain ⟨fa, fc, ga, gc⟩ := l
  obtain ⟨fa', fc', ga', gc'⟩ := l'
  obtain ⟨nf, hnf⟩ : ∃ n, A.fs.length = n := ⟨_, rfl⟩
  obtain ⟨ng, hng⟩ : ∃ n, A.gs.length = n := ⟨_, rfl⟩
  obtain ⟨nf', hnf'⟩ : ∃ n, B.fs.length = n := ⟨_, rfl⟩
  obtain ⟨ng', hng'⟩ : ∃ n, B.gs.length = n := ⟨_, rfl⟩
  have VA : Hid (∀ l, modV l A = .agg #[.slice l.fa nf l.fc, .slice l.ga ng l.gc, .bool A.mem, .int .i64 A.pages, .int .i64 A.most, .int .i64 A.start]) := fun l => by unfold modV; rw [hnf, hng]
  have VB : Hid (∀ l, modV l B = .agg #[.slice l.fa nf' l.fc, .slice l.ga ng' l.gc, .bool B.mem, .int .i64 B.pages, .int .i64 B.most, .int .i64 B.start]) := fun l => by unfold modV; rw [hnf', hng']
  rw [VA.out] at ZA TA
  rw [VB.out] at ZB TB
  rw [VA.out, VB.out]
  simp only at ZA TA ZB TB ⊢
  clear hnf hng hnf' hng'
  obtain ⟨W0, z, hW0, hz, hb0, hx0, hy0⟩ := boxes (w := w) #[.slice fa nf fc, .slice ga ng gc, .bool A.mem, .int .i64 A.pages, .int .i64 A.most, .int .i64 A.start] #[.slice fa' nf' fc', .slice ga' ng' gc', .bool B.mem, .int .i64 B.pages, .int .i64 B.most, .int .i64 B.start] 25
  have HB0 : Hid (Below w.heap.size w W0) := hb0
  have hW0' := hW0.symm
  have hz' := hz.symm
  clear hb0 hW0 hz
  have x0 := (cell_of_block hx0 0).trans rfl
  have x1 := (cell_of_block hx0 1).trans rfl
  have x2 := (cell_of_block hx0 2).trans rfl
  have x3 := (cell_of_block hx0 3).trans rfl
  have x4 := (cell_of_block hx0 4).trans rfl
  have x5 := (cell_of_block hx0 5).trans rfl
  go_enter Try.func5, Try.ntmps5
  go_wp2_with fail
  refine (ZA.out W0 HB0.out).mono ?_
  rintro e w1 ⟨r, rfl, hr, hb1⟩
  have HB1 : Hid (Below w.heap.size w w1) := bel_step HB0.out hb1
  have hx1 := (hb1.block z (lt_of_block hx0)).trans hx0
  have hy1 := (hb1.block (z + 1) (lt_of_block hy0)).trans hy0
  clear hb1 ZA hx0 hy0 x0 x1 x2 x3 x4 x5 hW0' hz' HB0
  by_cases hr0 : r < 0
  · clear hr hx1 hy1
    go_wp2
    go_ret
    exact ⟨rfl, HB1.out⟩
  have sA : Hid (smM A) := (hr (by omega)).1
  have hr1 : r ≤ 1048576 := (hr (by omega)).2
  have hr2 : 0 ≤ r := by omega
  clear hr hr0
  have y0 := (cell_of_block hy1 0).trans rfl
  have y1 := (cell_of_block hy1 1).trans rfl
  have y2 := (cell_of_block hy1 2).trans rfl
  have y3 := (cell_of_block hy1 3).trans rfl
  have y4 := (cell_of_block hy1 4).trans rfl
  have y5 := (cell_of_block hy1 5).trans rfl
  go_wp2_with fail
  refine (ZB.out r w1 hr2 hr1 HB1.out).mono ?_
  rintro e w2 ⟨r2, rfl, hr, hb2⟩
  have HB2 : Hid (Below w.heap.size w w2) := bel_step HB1.out hb2
  have hx2 := (hb2.block z (lt_of_block hx1)).trans hx1
  have hy2 := (hb2.block (z + 1) (lt_of_block hy1)).trans hy1
  clear hb2 ZB hx1 hy1 y0 y1 y2 y3 y4 y5 HB1
  by_cases hr0 : r2 < 0
  · clear hr hx2 hy2
    go_wp2
    go_ret
    exact ⟨rfl, HB2.out⟩
  have sB : Hid (smM B) := (hr (by omega)).1
  clear hr
  have KX : ∀ w', Keeps w2 w' → w'.heap[z]? = some (.cells #[.slice fa nf fc, .slice ga ng gc, .bool A.mem, .int .i64 A.pages, .int .i64 A.most, .int .i64 A.start] 25 (0, 0)) := fun w' h => keeps_blockM h hx2
  have KY : ∀ w', Keeps w2 w' → w'.heap[z + 1]? = some (.cells #[.slice fa' nf' fc', .slice ga' ng' gc', .bool B.mem, .int .i64 B.pages, .int .i64 B.most, .int .i64 B.start] 25 (0, 0)) := fun w' h => keeps_blockM h hy2
  go_wp2_with fail
  refine wh_begin (Keeps w2) (by kernel_rfl) ?_
  have hS0 : Keeps w2 w2.drew := Keeps.drew w2
  refine wh_take 0 (some 23) (.agg #[.slice fa nf fc, .slice ga ng gc, .bool A.mem, .int .i64 A.pages, .int .i64 A.most, .int .i64 A.start]) rfl rfl (by kernel_rfl) (by kernel_rfl) (by kernel_rfl) (fun _ _ _ h => h) hS0 (by rfl) (fun w' hS => by have hq := KX _ hS; have q0 := (cell_of_block hq 0).trans rfl; have q1 := (cell_of_block hq 1).trans rfl; have q2 := (cell_of_block hq 2).trans rfl; have q3 := (cell_of_block hq 3).trans rfl; have q4 := (cell_of_block hq 4).trans rfl; have q5 := (cell_of_block hq 5).trans rfl; clear hq; go_simp) ?_
  simp only [Act.put, List.setIfInBounds_toArray, List.set_cons_zero, List.set_cons_succ]
  refine wh_take 2 (some 25) (.agg #[.slice fa' nf' fc', .slice ga' ng' gc', .bool B.mem, .int .i64 B.pages, .int .i64 B.most, .int .i64 B.start]) rfl rfl (by kernel_rfl) (by kernel_rfl) (by kernel_rfl) (fun _ _ _ h => h) hS0 (by rfl) (fun w' hS => by have hq := KY _ hS; have q0 := (cell_of_block hq 0).trans rfl; have q1 := (cell_of_block hq 1).trans rfl; have q2 := (cell_of_block hq 2).trans rfl; have q3 := (cell_of_block hq 3).trans rfl; have q4 := (cell_of_block hq 4).trans rfl; have q5 := (cell_of_block hq 5).trans rfl; clear hq; go_simp) ?_
  simp only [Act.put, List.setIfInBounds_toArray, List.set_cons_zero, List.set_cons_succ]
  refine wh_call 1 (some 24) 8 #[.agg #[.slice fa nf fc, .slice ga ng gc, .bool A.mem, .int .i64 A.pages, .int .i64 A.most, .int .i64 A.start]] (by kernel_rfl) rfl rfl (by rfl) (by kernel_rfl) ?_
  refine (TA.out sA.out _ (bel_step HB2.out hS0.below)).mono ?_
  rintro e w3 ⟨⟨fa3, fc3, ga3, gc3⟩, rfl, hA3, hb3⟩
  have hS3 : Keeps w2 w3 := hS0.step hb3
  refine ⟨_, rfl, hS3, ?_⟩
  rw [VA.out]
  simp only [Act.put, List.setIfInBounds_toArray, List.set_cons_zero, List.set_cons_succ]
  refine wh_call 3 (some 26) 8 #[.agg #[.slice fa' nf' fc', .slice ga' ng' gc', .bool B.mem, .int .i64 B.pages, .int .i64 B.most, .int .i64 B.start]] (by kernel_rfl) rfl rfl (by rfl) (by kernel_rfl) ?_
  refine (TB.out sB.out _ (bel_step HB2.out hS3.below)).mono ?_
  rintro e w4 ⟨⟨fa4, fc4, ga4, gc4⟩, rfl, hA4, hb4⟩
  have hS4 : Keeps w2 w4 := hS3.step hb4
  refine ⟨_, rfl, hS4, ?_⟩
  rw [VB.out]
  simp only [Act.put, List.setIfInBounds_toArray, List.set_cons_zero, List.set_cons_succ]
  refine wh_call 4 (some 27) 16 #[.agg #[.slice fa3 nf fc3, .slice ga3 ng gc3, .bool A.mem, .int .i64 A.pages, .int .i64 A.most, .int .i64 A.start], .agg #[.slice fa4 nf' fc4, .slice ga4 ng' gc4, .bool B.mem, .int .i64 B.pages, .int .i64 B.most, .int .i64 B.start]] (by kernel_rfl) rfl rfl (by rfl) (by kernel_rfl) ?_
  have S4 := S.out sA.out sB.out ⟨fa3, fc3, ga3, gc3⟩ ⟨fa4, fc4, ga4, gc4⟩ w4 (hA3.out.below hb4) hA4.out
  rw [VA.out, VB.out] at S4
  refine S4.mono ?_
  rintro e w5 ⟨rfl, hb5⟩
  have hS5 : Keeps w2 w5 := hS4.step hb5
  refine ⟨_, rfl, hS5, ?_⟩
  simp only [Act.put, List.setIfInBounds_toArray, List.set_cons_zero, List.set_cons_succ]
  refine wh_val 5 (some 22) (.tuple #[.bool x, .bool y]) w5 (by kernel_rfl) rfl rfl (by rfl) (by rfl) hS5 ?_
  simp only [Act.put, List.setIfInBounds_toArray, List.set_cons_zero, List.set_cons_succ]
  refine wh_take 6 (some 28) (.bool x) rfl rfl (by kernel_rfl) (by kernel_rfl) (by kernel_rfl) (fun _ _ _ h => h) hS5 (by rfl) (fun w' hS => by first | rfl | go_simp) ?_
  simp only [Act.put, List.setIfInBounds_toArray, List.set_cons_zero, List.set_cons_succ]
  refine wh_take 7 (some 29) (.bool y) rfl rfl (by kernel_rfl) (by kernel_rfl) (by kernel_rfl) (fun _ _ _ h => h) hS5 (by rfl) (fun w' hS => by first | rfl | go_simp) ?_
  simp only [Act.put, List.setIfInBounds_toArray, List.set_cons_zero, List.set_cons_succ]
  refine wh_take 8 (some 6) (.bool x) rfl rfl (by kernel_rfl) (by kernel_rfl) (by kernel_rfl) (fun _ _ _ h => h) hS5 (by rfl) (fun w' hS => by first | rfl | go_simp) ?_
  simp only [Act.put, List.setIfInBounds_toArray, List.set_cons_zero, List.set_cons_succ]
  refine wh_take 9 (some 7) (.bool y) rfl rfl (by kernel_rfl) (by kernel_rfl) (by kernel_rfl) (fun _ _ _ h => h) hS5 (by rfl) (fun w' hS => by first | rfl | go_simp) ?_
  simp only [Act.put, List.setIfInBounds_toArray, List.set_cons_zero, List.set_cons_succ]
  refine wh_done (by kernel_rfl) ?_
  have HB5 : Hid (Below w.heap.size w w5) := bel_step HB2.out hS5.below
  have hx5 := KX w5 hS5
  have hy5 := KY w5 hS5
  clear KX KY hS0 hS3 hS4 hS5 hb3 hb4 hb5 hA3 hA4 S S4 hx2 hy2 HB2 hr1 hr2
  have x0 := (cell_of_block hx5 0).trans rfl
  have x1 := (cell_of_block hx5 1).trans rfl
  have x2 := (cell_of_block hx5 2).trans rfl
  have x3 := (cell_of_block hx5 3).trans rfl
  have x4 := (cell_of_block hx5 4).trans rfl
  have x5 := (cell_of_block hx5 5).trans rfl
  go_wp2_with fail
  refine (TA.out sA.out w5 HB5.out).mono ?_
  rintro e w6 ⟨⟨fa6, fc6, ga6, gc6⟩, rfl, hA6, hb6⟩
  have HB6 : Hid (Below w.heap.size w w6) := bel_step HB5.out hb6
  have hx6 := (hb6.block z (lt_of_block hx5)).trans hx5
  have hy6 := (hb6.block (z + 1) (lt_of_block hy5)).trans hy5
  clear hb6 hx5 hy5 x0 x1 x2 x3 x4 x5 HB5
  rw [VA.out]
  simp only
  obtain ⟨u, hu⟩ : ∃ u, w6.heap.size = u := ⟨_, rfl⟩
  obtain ⟨W7, hW7⟩ : ∃ W, w6.alloc (.cells #[.slice fa6 nf fc6, .slice ga6 ng gc6, .bool A.mem, .int .i64 A.pages, .int .i64 A.most, .int .i64 A.start] 32) = W := ⟨_, rfl⟩
  have HB7 : Hid (Below w.heap.size w W7) := by unfold Hid; rw [← hW7]; exact bel_alloc HB6.out _
  have hb67 : Below w6.heap.size w6 W7 := by rw [← hW7]; exact (Below.refl _ _).alloc (Nat.le_refl _) _
  have hA7 : Hid (ModAt W7 ⟨fa6, fc6, ga6, gc6⟩ A) := hA6.out.below hb67
  have hx7 := (hb67.block z (lt_of_block hx6)).trans hx6
  have hy7 := (hb67.block (z + 1) (lt_of_block hy6)).trans hy6
  have hu7 : W7.heap[u]? = some (.cells #[.slice fa6 nf fc6, .slice ga6 ng gc6, .bool A.mem, .int .i64 A.pages, .int .i64 A.most, .int .i64 A.start] 32 (0, 0)) := by rw [← hW7, ← hu]; exact heap_alloc_new _ _
  clear hb67 hx6 hy6 hA6 HB6
  have y0 := (cell_of_block hy7 0).trans rfl
  have y1 := (cell_of_block hy7 1).trans rfl
  have y2 := (cell_of_block hy7 2).trans rfl
  have y3 := (cell_of_block hy7 3).trans rfl
  have y4 := (cell_of_block hy7 4).trans rfl
  have y5 := (cell_of_block hy7 5).trans rfl
  go_wp2_with fail
  refine (TB.out sB.out W7 HB7.out).mono ?_
  rintro e w8 ⟨⟨fa8, fc8, ga8, gc8⟩, rfl, hA8, hb8⟩
  have HB8 : Hid (Below w.heap.size w w8) := bel_step HB7.out hb8
  have hx8 := (hb8.block z (lt_of_block hx7)).trans hx7
  have hy8 := (hb8.block (z + 1) (lt_of_block hy7)).trans hy7
  have hu8 := (hb8.block u (lt_of_block hu7)).trans hu7
  have hA8' : Hid (ModAt w8 ⟨fa6, fc6, ga6, gc6⟩ A) := hA7.out.below hb8
  clear hb8 hx7 hy7 hu7 y0 y1 y2 y3 y4 y5 HB7 hA7 hW7 hu
  rw [VB.out]
  simp only
  obtain ⟨t, ht⟩ : ∃ t, w8.heap.size = t := ⟨_, rfl⟩
  obtain ⟨W9, hW9⟩ : ∃ W, w8.alloc (.cells #[.slice fa8 nf' fc8, .slice ga8 ng' gc8, .bool B.mem, .int .i64 B.pages, .int .i64 B.most, .int .i64 B.start] 32) = W := ⟨_, rfl⟩
  have HB9 : Hid (Below w.heap.size w W9) := by unfold Hid; rw [← hW9]; exact bel_alloc HB8.out _
  have hb89 : Below w8.heap.size w8 W9 := by rw [← hW9]; exact (Below.refl _ _).alloc (Nat.le_refl _) _
  have hA9 : Hid (ModAt W9 ⟨fa6, fc6, ga6, gc6⟩ A) := hA8'.out.below hb89
  have hB9 : Hid (ModAt W9 ⟨fa8, fc8, ga8, gc8⟩ B) := hA8.out.below hb89
  have hx9 := (hb89.block z (lt_of_block hx8)).trans hx8
  have hy9 := (hb89.block (z + 1) (lt_of_block hy8)).trans hy8
  have hu9 := (hb89.block u (lt_of_block hu8)).trans hu8
  have ht9 : W9.heap[t]? = some (.cells #[.slice fa8 nf' fc8, .slice ga8 ng' gc8, .bool B.mem, .int .i64 B.pages, .int .i64 B.most, .int .i64 B.start] 32 (0, 0)) := by rw [← hW9, ← ht]; exact heap_alloc_new _ _
  clear hb89 hx8 hy8 hu8 hA8 hA8' HB8
  have u0 := (cell_of_block hu9 0).trans rfl
  have u1 := (cell_of_block hu9 1).trans rfl
  have u2 := (cell_of_block hu9 2).trans rfl
  have u3 := (cell_of_block hu9 3).trans rfl
  have u4 := (cell_of_block hu9 4).trans rfl
  have u5 := (cell_of_block hu9 5).trans rfl
  have t0 := (cell_of_block ht9 0).trans rfl
  have t1 := (cell_of_block ht9 1).trans rfl
  have t2 := (cell_of_block ht9 2).trans rfl
  have t3 := (cell_of_block ht9 3).trans rfl
  have t4 := (cell_of_block ht9 4).trans rfl
  have t5 := (cell_of_block ht9 5).trans rfl
  go_wp2_with fail
  have I9 := I.out sA.out sB.out ⟨fa6, fc6, ga6, gc6⟩ ⟨fa8, fc8, ga8, gc8⟩ W9 hA9.out hB9.out
  rw [VA.out, VB.out] at I9
  refine I9.mono ?_
  rintro e wa ⟨rfl, hba⟩
  have HBa : Hid (Below w.heap.size w wa) := bel_step HB9.out hba
  have hAa : Hid (ModAt wa ⟨fa6, fc6, ga6, gc6⟩ A) := hA9.out.below hba
  have hBa : Hid (ModAt wa ⟨fa8, fc8, ga8, gc8⟩ B) := hB9.out.below hba
  have hxa := (hba.block z (lt_of_block hx9)).trans hx9
  have hya := (hba.block (z + 1) (lt_of_block hy9)).trans hy9
  have hua := (hba.block u (lt_of_block hu9)).trans hu9
  have hta := (hba.block t (lt_of_block ht9)).trans ht9
  have KX : ∀ w', Keeps wa w' → w'.heap[z]? = some (.cells #[.slice fa nf fc, .slice ga ng gc, .bool A.mem, .int .i64 A.pages, .int .i64 A.most, .int .i64 A.start] 25 (0, 0)) := fun w' h => keeps_blockM h hxa
  have KY : ∀ w', Keeps wa w' → w'.heap[z + 1]? = some (.cells #[.slice fa' nf' fc', .slice ga' ng' gc', .bool B.mem, .int .i64 B.pages, .int .i64 B.most, .int .i64 B.start] 25 (0, 0)) := fun w' h => keeps_blockM h hya
  have KU : ∀ w', Keeps wa w' → w'.heap[u]? = some (.cells #[.slice fa6 nf fc6, .slice ga6 ng gc6, .bool A.mem, .int .i64 A.pages, .int .i64 A.most, .int .i64 A.start] 32 (0, 0)) := fun w' h => keeps_blockM h hua
  have KT : ∀ w', Keeps wa w' → w'.heap[t]? = some (.cells #[.slice fa8 nf' fc8, .slice ga8 ng' gc8, .bool B.mem, .int .i64 B.pages, .int .i64 B.most, .int .i64 B.start] 32 (0, 0)) := fun w' h => keeps_blockM h hta
  clear hba hx9 hy9 hu9 ht9 u0 u1 u2 u3 u4 u5 t0 t1 t2 t3 t4 t5 HB9 hA9 hB9 I I9 hW9 ht hxa hya hua hta
  have hxx : (x != x) = false := by cases x <;> rfl
  have hyy : (y != y) = false := by cases y <;> rfl
  go_wp2_with fail
  refine wh_begin (Keeps wa) (by kernel_rfl) ?_
  have hS0 : Keeps wa wa.drew := Keeps.drew wa
  refine wh_take 0 (some 48) (.agg #[.slice fa6 nf fc6, .slice ga6 ng gc6, .bool A.mem, .int .i64 A.pages, .int .i64 A.most, .int .i64 A.start]) rfl rfl (by kernel_rfl) (by kernel_rfl) (by kernel_rfl) (fun _ _ _ h => h) hS0 (by rfl) (fun w' hS => by have hq := KU _ hS; have q0 := (cell_of_block hq 0).trans rfl; have q1 := (cell_of_block hq 1).trans rfl; have q2 := (cell_of_block hq 2).trans rfl; have q3 := (cell_of_block hq 3).trans rfl; have q4 := (cell_of_block hq 4).trans rfl; have q5 := (cell_of_block hq 5).trans rfl; clear hq; go_simp) ?_
  simp only [Act.put, List.setIfInBounds_toArray, List.set_cons_zero, List.set_cons_succ]
  refine wh_take 1 (some 49) (.agg #[.slice fa nf fc, .slice ga ng gc, .bool A.mem, .int .i64 A.pages, .int .i64 A.most, .int .i64 A.start]) rfl rfl (by kernel_rfl) (by kernel_rfl) (by kernel_rfl) (fun _ _ _ h => h) hS0 (by rfl) (fun w' hS => by have hq := KX _ hS; have q0 := (cell_of_block hq 0).trans rfl; have q1 := (cell_of_block hq 1).trans rfl; have q2 := (cell_of_block hq 2).trans rfl; have q3 := (cell_of_block hq 3).trans rfl; have q4 := (cell_of_block hq 4).trans rfl; have q5 := (cell_of_block hq 5).trans rfl; clear hq; go_simp) ?_
  simp only [Act.put, List.setIfInBounds_toArray, List.set_cons_zero, List.set_cons_succ]
  refine wh_call 2 (some 50) 8 #[.agg #[.slice fa nf fc, .slice ga ng gc, .bool A.mem, .int .i64 A.pages, .int .i64 A.most, .int .i64 A.start]] (by kernel_rfl) rfl rfl (by rfl) (by kernel_rfl) ?_
  refine (TA.out sA.out _ (bel_step HBa.out hS0.below)).mono ?_
  rintro e wb ⟨⟨fab, fcb, gab, gcb⟩, rfl, hAb, hbb⟩
  have hSb : Keeps wa wb := hS0.step hbb
  refine ⟨_, rfl, hSb, ?_⟩
  have Eb := eqMod ⟨fa6, fc6, ga6, gc6⟩ ⟨fab, fcb, gab, gcb⟩ A wb (hAa.out.below hSb.below) hAb sA
  rw [VA.out, VA.out] at Eb
  rw [VA.out]
  simp only [Act.put, List.setIfInBounds_toArray, List.set_cons_zero, List.set_cons_succ]
  refine wh_call 3 (some 51) 10 #[.agg #[.slice fa6 nf fc6, .slice ga6 ng gc6, .bool A.mem, .int .i64 A.pages, .int .i64 A.most, .int .i64 A.start], .agg #[.slice fab nf fcb, .slice gab ng gcb, .bool A.mem, .int .i64 A.pages, .int .i64 A.most, .int .i64 A.start]] (by kernel_rfl) rfl rfl (by rfl) (by kernel_rfl) ?_
  refine Eb.mono ?_
  rintro e wc ⟨rfl, hbc⟩
  have hSc : Keeps wa wc := hSb.step hbc
  refine ⟨_, rfl, hSc, ?_⟩
  simp only [Act.put, List.setIfInBounds_toArray, List.set_cons_zero, List.set_cons_succ]
  refine wh_val 4 (some 52) (.bool false) wc (by kernel_rfl) rfl rfl (by rfl) (by rfl) hSc ?_
  simp only [Act.put, List.setIfInBounds_toArray, List.set_cons_zero, List.set_cons_succ]
  refine wh_done (by kernel_rfl) ?_
  clear Eb hbb hbc hSb hAb hS0
  go_wp2_with fail
  refine wh_begin (Keeps wa) (by kernel_rfl) ?_
  have hS0 : Keeps wa wc.drew := hSc.step (Keeps.drew wc).below
  refine wh_take 0 (some 53) (.agg #[.slice fa8 nf' fc8, .slice ga8 ng' gc8, .bool B.mem, .int .i64 B.pages, .int .i64 B.most, .int .i64 B.start]) rfl rfl (by kernel_rfl) (by kernel_rfl) (by kernel_rfl) (fun _ _ _ h => h) hS0 (by rfl) (fun w' hS => by have hq := KT _ hS; have q0 := (cell_of_block hq 0).trans rfl; have q1 := (cell_of_block hq 1).trans rfl; have q2 := (cell_of_block hq 2).trans rfl; have q3 := (cell_of_block hq 3).trans rfl; have q4 := (cell_of_block hq 4).trans rfl; have q5 := (cell_of_block hq 5).trans rfl; clear hq; go_simp) ?_
  simp only [Act.put, List.setIfInBounds_toArray, List.set_cons_zero, List.set_cons_succ]
  refine wh_take 1 (some 54) (.agg #[.slice fa' nf' fc', .slice ga' ng' gc', .bool B.mem, .int .i64 B.pages, .int .i64 B.most, .int .i64 B.start]) rfl rfl (by kernel_rfl) (by kernel_rfl) (by kernel_rfl) (fun _ _ _ h => h) hS0 (by rfl) (fun w' hS => by have hq := KY _ hS; have q0 := (cell_of_block hq 0).trans rfl; have q1 := (cell_of_block hq 1).trans rfl; have q2 := (cell_of_block hq 2).trans rfl; have q3 := (cell_of_block hq 3).trans rfl; have q4 := (cell_of_block hq 4).trans rfl; have q5 := (cell_of_block hq 5).trans rfl; clear hq; go_simp) ?_
  simp only [Act.put, List.setIfInBounds_toArray, List.set_cons_zero, List.set_cons_succ]
  refine wh_call 2 (some 55) 8 #[.agg #[.slice fa' nf' fc', .slice ga' ng' gc', .bool B.mem, .int .i64 B.pages, .int .i64 B.most, .int .i64 B.start]] (by kernel_rfl) rfl rfl (by rfl) (by kernel_rfl) ?_
  refine (TB.out sB.out _ (bel_step HBa.out hS0.below)).mono ?_
  rintro e wd ⟨⟨fad, fcd, gad, gcd⟩, rfl, hAd, hbd⟩
  have hSd : Keeps wa wd := hS0.step hbd
  refine ⟨_, rfl, hSd, ?_⟩
  have Ed := eqMod ⟨fa8, fc8, ga8, gc8⟩ ⟨fad, fcd, gad, gcd⟩ B wd (hBa.out.below hSd.below) hAd sB
  rw [VB.out, VB.out] at Ed
  rw [VB.out]
  simp only [Act.put, List.setIfInBounds_toArray, List.set_cons_zero, List.set_cons_succ]
  refine wh_call 3 (some 56) 10 #[.agg #[.slice fa8 nf' fc8, .slice ga8 ng' gc8, .bool B.mem, .int .i64 B.pages, .int .i64 B.most, .int .i64 B.start], .agg #[.slice fad nf' fcd, .slice gad ng' gcd, .bool B.mem, .int .i64 B.pages, .int .i64 B.most, .int .i64 B.start]] (by kernel_rfl) rfl rfl (by rfl) (by kernel_rfl) ?_
  refine Ed.mono ?_
  rintro e we ⟨rfl, hbe⟩
  have hSe : Keeps wa we := hSd.step hbe
  refine ⟨_, rfl, hSe, ?_⟩
  simp only [Act.put, List.setIfInBounds_toArray, List.set_cons_zero, List.set_cons_succ]
  refine wh_val 4 (some 57) (.bool false) we (by kernel_rfl) rfl rfl (by rfl) (by rfl) hSe ?_
  simp only [Act.put, List.setIfInBounds_toArray, List.set_cons_zero, List.set_cons_succ]
  refine wh_done (by kernel_rfl) ?_
  have HBe : Hid (Below w.heap.size w we) := bel_step HBa.out hSe.below
  clear KX KY KU KT hS0 hSc hSd hSe hbd hbe Ed hAd
  go_wp2
  go_ret
  exact ⟨rfl, HBe.out⟩

end Go.Proofs.Ytokaljglaholnaa
