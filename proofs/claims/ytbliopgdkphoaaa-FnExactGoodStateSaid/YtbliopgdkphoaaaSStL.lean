/-
  The law on good states: whole.
-/
import Derived.Test.YtbliopgdkphoaaaSStW
import Derived.Test.YtbliopgdkphoaaaQHeld
namespace Go.Proofs.Ytbliopgdkphoaaa
open Go.ChangeShapes Go.WideShapes Go.ChangeAt Go.RowKit

/-- A block that is kept. -/
theorem keeps_block {W w : World} (h : Keeps W w) {b : Nat} {o : Obj} (hb : W.heap[b]? = some o) : w.heap[b]? = some o := (h.below.block b (lt_of_block hb)).trans hb

set_option maxRecDepth 100000 in
set_option maxHeartbeats 1600000 in
theorem szMod2 (l : Loc7) (M : Mod7) (w : World) (hM : Hid (ModAt w l M)) (hok : Hid (okM M)) :
    Calls Try.prog 9 #[modV l M, .int .i64 1048576] w fun e w' => ∃ r : Int, e = .returned (.int .i64 r) ∧ (0 ≤ r → smM M ∧ r ≤ 1048576) ∧ Below w.heap.size w w' := by
  obtain ⟨fa, fc, ga, gc⟩ := l
  obtain ⟨fs, gs, mem, pages, most, start⟩ := M
  unfold modV
  simp only
  go_enter Try.func9, Try.ntmps9
  go_wp2_with fail
  refine (szFuns fa fc fs 1048576 _ (hM.out.1.below ((Below.refl _ _).alloc (Nat.le_refl _) _)) ⟨hok.out.1, hok.out.2.2.1⟩ (by omega) (by omega)).mono ?_
  rintro e w1 ⟨r, rfl, hr, hb1⟩
  have HB1 : Hid (Below w.heap.size w w1) := below2 ((Below.refl _ _).alloc (Nat.le_refl _) _) hb1
  have hc1 : w1.cell? ⟨w.heap.size, 1, none⟩ = some (.slice ga gs.length gc) := (hb1.cell (p := ⟨w.heap.size, 1, none⟩) (by simp)).trans (newCell rfl rfl)
  clear hb1
  by_cases hr0 : r < 0
  · clear hr
    go_wp2
    go_ret
    exact ⟨-1, rfl, fun h => absurd h (by omega), HB1.out⟩
  · obtain ⟨q1, q2⟩ := hr (by omega)
    have Q1 : Hid (fs.length ≤ 1048576 ∧ ∀ f ∈ fs, smF f) := q1
    have q3 : 0 ≤ r := by omega
    clear hr q1 hr0
    go_wp2_with fail
    refine (szGlo1 ga gc gs.length r _ hok.out.2.1 q3 q2).mono ?_
    rintro e w2 ⟨r2, rfl, hr, rfl⟩
    by_cases hr0 : r2 < 0
    · clear hr
      go_wp2
      go_ret
      exact ⟨-1, rfl, fun h => absurd h (by omega), HB1.out⟩
    · obtain ⟨q1, q4⟩ := hr (by omega)
      have Q2 : Hid (gs.length ≤ 1048576) := q1
      clear hr q1
      go_wp2
      go_ret
      exact ⟨r2, rfl, fun _ => ⟨⟨Q1.out.1, Q2.out, Q1.out.2, hok.out.2.2.2⟩, q4⟩, HB1.out⟩

set_option maxRecDepth 100000 in
set_option maxHeartbeats 6400000 in
theorem goodState_walk (l : Loc7) (M : Mod7) (mx : Int) (D : ByteArray) (sa : Option Addr) (sc : Nat) (L : List Wd8) (w : World) (hI : IsMod w l M) (hJ : IsSt w D sa L) :
    Calls Try.prog 8 #[modV l M, stV mx D sa L.length sc] w fun e w' => e = .returned (.bool true) ∧ Below w.heap.size w w' := by
  have hM : Hid (ModAt w l M) := hI.1
  have hok : Hid (okM M) := hI.2.1
  have hL : Hid (Wds w sa L) := hJ.1
  have hok2 : Hid (∀ x ∈ L, okW x) := hJ.2.2.1
  have hsz : L.length ≤ 9223372036854775807 ∧ D.size ≤ 9223372036854775807 := ⟨hJ.2.1, by have := hJ.2.2.2; unfold maxLen at this; omega⟩
  clear hI hJ
  obtain ⟨R, hR⟩ : ∃ R, goodSt M mx D L = R := ⟨_, rfl⟩
  have Z : Hid (∀ w', Below w.heap.size w w' → Calls Try.prog 9 #[modV l M, .int .i64 1048576] w' fun e w'' => ∃ r : Int, e = .returned (.int .i64 r) ∧ (0 ≤ r → smM M ∧ r ≤ 1048576) ∧ Below w'.heap.size w' w'') := fun w' hb => szMod2 l M w' (hM.out.below hb) hok.out
  have T : Hid (smM M → ∀ w', Below w.heap.size w w' → Calls Try.prog 11 #[modV l M] w' fun e w'' => ∃ l', e = .returned (modV l' M) ∧ Hid (ModAt w'' l' M) ∧ Below w'.heap.size w' w'') := fun hs w' hb => toMod l M w' (hM.out.below hb) hs
  have Y : Hid (L.length ≤ 1048576 → ∀ w', Below w.heap.size w w' → Calls Try.prog 28 #[.agg #[.int .i64 mx, .string D, .slice sa L.length sc]] w' fun e w'' => ∃ a' c', e = .returned (.agg #[.int .i64 mx, .string D, .slice a' L.length c']) ∧ Hid (Wds w'' a' L) ∧ Below w'.heap.size w' w'') := fun hs w' hb => toSt mx D sa sc L w' (hL.out.below hb) hs
  have S : Hid (smM M → L.length ≤ 1048576 ∧ D.size ≤ 1048576 → ∀ l' a' c' w', ModAt w' l' M → Wds w' a' L → Calls Try.prog 27 #[modV l' M, .agg #[.int .i64 mx, .string D, .slice a' L.length c']] w' fun e w'' => e = .returned (.bool R) ∧ Below w'.heap.size w' w'') := fun hs h2 l' a' c' w' h h' => by rw [← hR]; exact specState l' M mx D a' c' L w' h hs h2.2 h' h2.1
  have I : Hid (smM M → L.length ≤ 1048576 ∧ D.size ≤ 1048576 → ∀ l' a' c' w', ModAt w' l' M → Wds w' a' L → Calls Try.prog 29 #[modV l' M, .agg #[.int .i64 mx, .string D, .slice a' L.length c']] w' fun e w'' => e = .returned (.bool R) ∧ Below w'.heap.size w' w'') := fun hs h2 l' a' c' w' h h' => by rw [← hR]; exact implState l' M mx D a' c' L w' h hs h2.2 h' hok2 h2.1
  have E2 : Hid (L.length ≤ 1048576 → ∀ a a' c c' w', Wds w' a L → Wds w' a' L → Calls Try.prog 22 #[.agg #[.int .i64 mx, .string D, .slice a L.length c], .agg #[.int .i64 mx, .string D, .slice a' L.length c']] w' fun e w'' => e = .returned (.bool true) ∧ Below w'.heap.size w' w'') := fun hs a a' c c' w' h h' => eqSt mx D a a' c c' L w' h h' hs
  clear hR
  obtain ⟨fa, fc, ga, gc⟩ := l
  obtain ⟨nf, hnf⟩ : ∃ n, M.fs.length = n := ⟨_, rfl⟩
  obtain ⟨ng, hng⟩ : ∃ n, M.gs.length = n := ⟨_, rfl⟩
  obtain ⟨n, hn⟩ : ∃ n, L.length = n := ⟨_, rfl⟩
  have HNN : Hid (M.fs.length = nf ∧ M.gs.length = ng) := ⟨hnf, hng⟩
  have MV : Hid (∀ l', modV l' M = .agg #[.slice l'.fa nf l'.fc, .slice l'.ga ng l'.gc, .bool M.mem, .int .i64 M.pages, .int .i64 M.most, .int .i64 M.start]) := fun l' => by unfold modV; rw [hnf, hng]
  have HV : Hid (modV ⟨fa, fc, ga, gc⟩ M = .agg #[.slice fa nf fc, .slice ga ng gc, .bool M.mem, .int .i64 M.pages, .int .i64 M.most, .int .i64 M.start]) := MV.out _
  rw [hn] at Y S I E2 hsz
  unfold stV
  rw [HV.out] at Z T ⊢
  rw [hn]
  have ZS := fun r w h0 h1 => szSt mx D sa n sc r w hsz.1 hsz.2 h0 h1
  have hzs1 := fun w => szMem8 mx D 1048576 w hsz.2 (by omega) (by omega)
  clear hnf hng hn hsz hzs1
  have hb0 : Below w.heap.size w ((w.alloc (.cells #[.slice fa nf fc, .slice ga ng gc, .bool M.mem, .int .i64 M.pages, .int .i64 M.most, .int .i64 M.start] 25)).alloc (.cells #[.int .i64 mx, .string D, .slice sa n sc] 55)) := ((Below.refl _ _).alloc (Nat.le_refl _) _).alloc (by simp) _
  have hx0 : ((w.alloc (.cells #[.slice fa nf fc, .slice ga ng gc, .bool M.mem, .int .i64 M.pages, .int .i64 M.most, .int .i64 M.start] 25)).alloc (.cells #[.int .i64 mx, .string D, .slice sa n sc] 55)).heap[w.heap.size]? = some (.cells #[.slice fa nf fc, .slice ga ng gc, .bool M.mem, .int .i64 M.pages, .int .i64 M.most, .int .i64 M.start] 25 (0, 0)) := (Below.heap_alloc _ _ _ (by simp)).trans (heap_alloc_new _ _)
  have hy0 : ((w.alloc (.cells #[.slice fa nf fc, .slice ga ng gc, .bool M.mem, .int .i64 M.pages, .int .i64 M.most, .int .i64 M.start] 25)).alloc (.cells #[.int .i64 mx, .string D, .slice sa n sc] 55)).heap[w.heap.size + 1]? = some (.cells #[.int .i64 mx, .string D, .slice sa n sc] 55 (0, 0)) := by
    have h := heap_alloc_new (w.alloc (.cells #[.slice fa nf fc, .slice ga ng gc, .bool M.mem, .int .i64 M.pages, .int .i64 M.most, .int .i64 M.start] 25)) (.cells #[.int .i64 mx, .string D, .slice sa n sc] 55)
    simpa using h
  obtain ⟨W0, hW0⟩ : ∃ W, (w.alloc (.cells #[.slice fa nf fc, .slice ga ng gc, .bool M.mem, .int .i64 M.pages, .int .i64 M.most, .int .i64 M.start] 25)).alloc (.cells #[.int .i64 mx, .string D, .slice sa n sc] 55) = W := ⟨_, rfl⟩
  obtain ⟨z, hz⟩ : ∃ z, w.heap.size = z := ⟨_, rfl⟩
  rw [hW0] at hb0 hx0 hy0
  rw [hz] at hx0 hy0
  have HW0 : Hid ((w.alloc (.cells #[.slice fa nf fc, .slice ga ng gc, .bool M.mem, .int .i64 M.pages, .int .i64 M.most, .int .i64 M.start] 25)).alloc (.cells #[.int .i64 mx, .string D, .slice sa n sc] 55) = W0 ∧ w.heap.size = z) := ⟨hW0, hz⟩
  have HB0 : Hid (Below w.heap.size w W0) := hb0
  clear hW0 hz hb0
  go_enter Try.func8, Try.ntmps8
  go_wp2_with fail
  rw [HW0.out.2, HW0.out.1]
  refine (Z.out W0 HB0.out).mono ?_
  rintro e w1 ⟨r, rfl, hr, hb1⟩
  have HB1 : Hid (Below w.heap.size w w1) := bel_step HB0.out hb1
  have hx1 := (hb1.block z (lt_of_block hx0)).trans hx0
  have hy1 := (hb1.block (z + 1) (lt_of_block hy0)).trans hy0
  clear hb1 Z hx0 hy0
  by_cases hr0 : r < 0
  · clear hr hx1 hy1 ZS
    go_wp2
    go_ret
    exact ⟨rfl, HB1.out⟩
  · have hs : Hid (smM M) := (hr (by omega)).1
    have ZT := ZS r w1 (by omega) (hr (by omega)).2
    have y0 := (cell_of_block hy1 0).trans rfl
    have y1 := (cell_of_block hy1 1).trans rfl
    have y2 := (cell_of_block hy1 2).trans rfl
    clear hr ZS
    go_wp2_with fail
    refine ZT.mono ?_
    rintro e w2 ⟨r2, rfl, hr2, hb2⟩
    have HB2 : Hid (Below w.heap.size w w2) := bel_step HB1.out hb2
    have hx2 := (hb2.block z (lt_of_block hx1)).trans hx1
    have hy2 := (hb2.block (z + 1) (lt_of_block hy1)).trans hy1
    clear hb2 ZT y0 y1 y2 hx1 hy1 HB1 HB0
    by_cases hr3 : r2 < 0
    · clear hr2 hx2 hy2
      go_wp2
      go_ret
      exact ⟨rfl, HB2.out⟩
    · have h2 : Hid (n ≤ 1048576 ∧ D.size ≤ 1048576) := hr2 (by omega)
      clear hr2
      go_wp2_with fail
      have KX : ∀ w', Keeps w2 w' → w'.heap[z]? = some (.cells #[.slice fa nf fc, .slice ga ng gc, .bool M.mem, .int .i64 M.pages, .int .i64 M.most, .int .i64 M.start] 25 (0, 0)) := fun w' h => keeps_block h hx2
      have KY : ∀ w', Keeps w2 w' → w'.heap[z + 1]? = some (.cells #[.int .i64 mx, .string D, .slice sa n sc] 55 (0, 0)) := fun w' h => keeps_block h hy2
      refine wh_begin (Keeps w2) (by kernel_rfl) ?_
      have hS0 : Keeps w2 w2.drew := Keeps.drew w2
      refine wh_take 0 (some 20) (.agg #[.slice fa nf fc, .slice ga ng gc, .bool M.mem, .int .i64 M.pages, .int .i64 M.most, .int .i64 M.start]) rfl rfl (by kernel_rfl) (by kernel_rfl) (by kernel_rfl) (fun _ _ _ h => h) hS0 (by rfl) (fun w' hS => by have hq := KX _ hS; have q0 := (cell_of_block hq 0).trans rfl; have q1 := (cell_of_block hq 1).trans rfl; have q2 := (cell_of_block hq 2).trans rfl; have q3 := (cell_of_block hq 3).trans rfl; have q4 := (cell_of_block hq 4).trans rfl; have q5 := (cell_of_block hq 5).trans rfl; clear hq; go_simp) ?_
      simp only [Act.put, List.setIfInBounds_toArray, List.set_cons_zero, List.set_cons_succ]
      refine wh_take 2 (some 22) (.agg #[.int .i64 mx, .string D, .slice sa n sc]) rfl rfl (by kernel_rfl) (by kernel_rfl) (by kernel_rfl) (fun _ _ _ h => h) hS0 (by rfl) (fun w' hS => by have hq := KY _ hS; have q0 := (cell_of_block hq 0).trans rfl; have q1 := (cell_of_block hq 1).trans rfl; have q2 := (cell_of_block hq 2).trans rfl; clear hq; go_simp) ?_
      simp only [Act.put, List.setIfInBounds_toArray, List.set_cons_zero, List.set_cons_succ]
      refine wh_call 1 (some 21) 11 #[.agg #[.slice fa nf fc, .slice ga ng gc, .bool M.mem, .int .i64 M.pages, .int .i64 M.most, .int .i64 M.start]] (by kernel_rfl) rfl rfl (by rfl) (by kernel_rfl) ?_
      refine (T.out hs.out _ (bel_step HB2.out hS0.below)).mono ?_
      rintro e w3 ⟨⟨fa3, fc3, ga3, gc3⟩, rfl, hA3, hb3⟩
      have hS3 : Keeps w2 w3 := hS0.step hb3
      refine ⟨_, rfl, hS3, ?_⟩
      rw [MV.out]
      simp only [Act.put, List.setIfInBounds_toArray, List.set_cons_zero, List.set_cons_succ]
      refine wh_call 3 (some 23) 28 #[.agg #[.int .i64 mx, .string D, .slice sa n sc]] (by kernel_rfl) rfl rfl (by rfl) (by kernel_rfl) ?_
      refine (Y.out h2.out.1 _ (bel_step HB2.out hS3.below)).mono ?_
      rintro e w4 ⟨a4, c4, rfl, hA4, hb4⟩
      have hS4 : Keeps w2 w4 := hS3.step hb4
      refine ⟨_, rfl, hS4, ?_⟩
      simp only [Act.put, List.setIfInBounds_toArray, List.set_cons_zero, List.set_cons_succ]
      refine wh_call 4 (some 24) 27 #[.agg #[.slice fa3 nf fc3, .slice ga3 ng gc3, .bool M.mem, .int .i64 M.pages, .int .i64 M.most, .int .i64 M.start], .agg #[.int .i64 mx, .string D, .slice a4 n c4]] (by kernel_rfl) rfl rfl (by rfl) (by kernel_rfl) ?_
      have S4 := S.out hs.out h2.out ⟨fa3, fc3, ga3, gc3⟩ a4 c4 w4 (hA3.out.below hb4) hA4.out
      rw [MV.out] at S4
      refine S4.mono ?_
      rintro e w5 ⟨rfl, hb5⟩
      have hS5 : Keeps w2 w5 := hS4.step hb5
      refine ⟨_, rfl, hS5, ?_⟩
      simp only [Act.put, List.setIfInBounds_toArray, List.set_cons_zero, List.set_cons_succ]
      refine wh_val 5 (some 6) (.bool R) w5 (by kernel_rfl) rfl rfl (by rfl) (by rfl) hS5 ?_
      simp only [Act.put, List.setIfInBounds_toArray, List.set_cons_zero, List.set_cons_succ]
      refine wh_done (by kernel_rfl) ?_
      have HB5 : Hid (Below w.heap.size w w5) := bel_step HB2.out hS5.below
      have hx5 := KX _ hS5
      have hy5 := KY _ hS5
      clear hS0 hS3 hS4 hS5 hb3 hb4 hb5 S4 S hA3 hA4 KX KY hx2 hy2 HB2
      have x0 := (cell_of_block hx5 0).trans rfl
      have x1 := (cell_of_block hx5 1).trans rfl
      have x2 := (cell_of_block hx5 2).trans rfl
      have x3 := (cell_of_block hx5 3).trans rfl
      have x4 := (cell_of_block hx5 4).trans rfl
      have x5 := (cell_of_block hx5 5).trans rfl
      go_wp2_with fail
      refine (T.out hs.out w5 HB5.out).mono ?_
      rintro e w6 ⟨⟨fa6, fc6, ga6, gc6⟩, rfl, hA6, hb6⟩
      rw [MV.out]
      simp only
      have HB6 : Hid (Below w.heap.size w w6) := bel_step HB5.out hb6
      have hx6 := (hb6.block z (lt_of_block hx5)).trans hx5
      have hy6 := (hb6.block (z + 1) (lt_of_block hy5)).trans hy5
      clear hb6 hx5 hy5 x0 x1 x2 x3 x4 x5 HB5
      obtain ⟨W7, hW7⟩ : ∃ W, w6.alloc (.cells #[.slice fa6 nf fc6, .slice ga6 ng gc6, .bool M.mem, .int .i64 M.pages, .int .i64 M.most, .int .i64 M.start] 32) = W := ⟨_, rfl⟩
      obtain ⟨u, hu⟩ : ∃ u, w6.heap.size = u := ⟨_, rfl⟩
      have hb67 : Below w6.heap.size w6 W7 := by rw [← hW7]; exact (Below.refl _ _).alloc (Nat.le_refl _) _
      have hu7 : W7.heap[u]? = some (.cells #[.slice fa6 nf fc6, .slice ga6 ng gc6, .bool M.mem, .int .i64 M.pages, .int .i64 M.most, .int .i64 M.start] 32 (0, 0)) := by rw [← hW7, ← hu]; exact heap_alloc_new _ _
      have HW7 : Hid (w6.alloc (.cells #[.slice fa6 nf fc6, .slice ga6 ng gc6, .bool M.mem, .int .i64 M.pages, .int .i64 M.most, .int .i64 M.start] 32) = W7 ∧ w6.heap.size = u) := ⟨hW7, hu⟩
      have HB7 : Hid (Below w.heap.size w W7) := bel_step HB6.out hb67
      have hx7 := (hb67.block z (lt_of_block hx6)).trans hx6
      have hy7 := (hb67.block (z + 1) (lt_of_block hy6)).trans hy6
      have hA7 : Hid (ModAt W7 ⟨fa6, fc6, ga6, gc6⟩ M) := hA6.out.below hb67
      have v0 : (w6.alloc (.cells #[.slice fa6 nf fc6, .slice ga6 ng gc6, .bool M.mem, .int .i64 M.pages, .int .i64 M.most, .int .i64 M.start] 32)).cell? ⟨z + 1, 0, none⟩ = some (.int .i64 mx) := by rw [hW7]; exact (cell_of_block hy7 0).trans rfl
      have v1 : (w6.alloc (.cells #[.slice fa6 nf fc6, .slice ga6 ng gc6, .bool M.mem, .int .i64 M.pages, .int .i64 M.most, .int .i64 M.start] 32)).cell? ⟨z + 1, 1, none⟩ = some (.string D) := by rw [hW7]; exact (cell_of_block hy7 1).trans rfl
      have v2 : (w6.alloc (.cells #[.slice fa6 nf fc6, .slice ga6 ng gc6, .bool M.mem, .int .i64 M.pages, .int .i64 M.most, .int .i64 M.start] 32)).cell? ⟨z + 1, 2, none⟩ = some (.slice sa n sc) := by rw [hW7]; exact (cell_of_block hy7 2).trans rfl
      clear hb67 hW7 hu hx6 hy6 hA6 HB6
      go_wp2_with fail
      rw [HW7.out.1, HW7.out.2]
      clear v0 v1 v2
      refine (Y.out h2.out.1 W7 HB7.out).mono ?_
      rintro e w8 ⟨a8, c8, rfl, hA8, hb8⟩
      have HB8 : Hid (Below w.heap.size w w8) := bel_step HB7.out hb8
      have hx8 := (hb8.block z (lt_of_block hx7)).trans hx7
      have hy8 := (hb8.block (z + 1) (lt_of_block hy7)).trans hy7
      have hu8 := (hb8.block u (lt_of_block hu7)).trans hu7
      have hM8 : Hid (ModAt w8 ⟨fa6, fc6, ga6, gc6⟩ M) := hA7.out.below hb8
      clear hb8 hx7 hy7 hu7 hA7 HB7 HW7
      obtain ⟨W9, hW9⟩ : ∃ W, w8.alloc (.cells #[.int .i64 mx, .string D, .slice a8 n c8] 46) = W := ⟨_, rfl⟩
      obtain ⟨s, hs9⟩ : ∃ u, w8.heap.size = u := ⟨_, rfl⟩
      have hb89 : Below w8.heap.size w8 W9 := by rw [← hW9]; exact (Below.refl _ _).alloc (Nat.le_refl _) _
      have ht9 : W9.heap[s]? = some (.cells #[.int .i64 mx, .string D, .slice a8 n c8] 46 (0, 0)) := by rw [← hW9, ← hs9]; exact heap_alloc_new _ _
      have HW9 : Hid (w8.alloc (.cells #[.int .i64 mx, .string D, .slice a8 n c8] 46) = W9 ∧ w8.heap.size = s) := ⟨hW9, hs9⟩
      have HB9 : Hid (Below w.heap.size w W9) := bel_step HB8.out hb89
      have hx9 := (hb89.block z (lt_of_block hx8)).trans hx8
      have hy9 := (hb89.block (z + 1) (lt_of_block hy8)).trans hy8
      have hu9 := (hb89.block u (lt_of_block hu8)).trans hu8
      have hM9 : Hid (ModAt W9 ⟨fa6, fc6, ga6, gc6⟩ M) := hM8.out.below hb89
      have hS9 : Hid (Wds W9 a8 L) := hA8.out.below hb89
      have v0 : (w8.alloc (.cells #[.int .i64 mx, .string D, .slice a8 n c8] 46)).cell? ⟨u, 0, none⟩ = some (.slice fa6 nf fc6) := by rw [hW9]; exact (cell_of_block hu9 0).trans rfl
      have v1 : (w8.alloc (.cells #[.int .i64 mx, .string D, .slice a8 n c8] 46)).cell? ⟨u, 1, none⟩ = some (.slice ga6 ng gc6) := by rw [hW9]; exact (cell_of_block hu9 1).trans rfl
      have v2 : (w8.alloc (.cells #[.int .i64 mx, .string D, .slice a8 n c8] 46)).cell? ⟨u, 2, none⟩ = some (.bool M.mem) := by rw [hW9]; exact (cell_of_block hu9 2).trans rfl
      have v3 : (w8.alloc (.cells #[.int .i64 mx, .string D, .slice a8 n c8] 46)).cell? ⟨u, 3, none⟩ = some (.int .i64 M.pages) := by rw [hW9]; exact (cell_of_block hu9 3).trans rfl
      have v4 : (w8.alloc (.cells #[.int .i64 mx, .string D, .slice a8 n c8] 46)).cell? ⟨u, 4, none⟩ = some (.int .i64 M.most) := by rw [hW9]; exact (cell_of_block hu9 4).trans rfl
      have v5 : (w8.alloc (.cells #[.int .i64 mx, .string D, .slice a8 n c8] 46)).cell? ⟨u, 5, none⟩ = some (.int .i64 M.start) := by rw [hW9]; exact (cell_of_block hu9 5).trans rfl
      have I9 := I.out hs.out h2.out ⟨fa6, fc6, ga6, gc6⟩ a8 c8 W9 hM9.out hS9.out
      rw [MV.out] at I9
      clear hb89 hW9 hs9 hx8 hy8 hu8 hM8 hA8 HB8 I
      go_wp2_with fail
      rw [HW9.out.1, HW9.out.2]
      clear v0 v1 v2 v3 v4 v5
      refine I9.mono ?_
      rintro e wa ⟨rfl, hba⟩
      have HBa : Hid (Below w.heap.size w wa) := bel_step HB9.out hba
      have hxa := (hba.block z (lt_of_block hx9)).trans hx9
      have hya := (hba.block (z + 1) (lt_of_block hy9)).trans hy9
      have hua := (hba.block u (lt_of_block hu9)).trans hu9
      have hta := (hba.block s (lt_of_block ht9)).trans ht9
      have hMa : Hid (ModAt wa ⟨fa6, fc6, ga6, gc6⟩ M) := hM9.out.below hba
      have hSa : Hid (Wds wa a8 L) := hS9.out.below hba
      have hRR : (R != R) = false := by cases R <;> rfl
      clear hba hx9 hy9 hu9 ht9 hM9 hS9 I9 HB9 HW9
      go_wp2_with fail
      have KX : ∀ w', Keeps wa w' → w'.heap[z]? = some (.cells #[.slice fa nf fc, .slice ga ng gc, .bool M.mem, .int .i64 M.pages, .int .i64 M.most, .int .i64 M.start] 25 (0, 0)) := fun w' h => keeps_block h hxa
      have KY : ∀ w', Keeps wa w' → w'.heap[z + 1]? = some (.cells #[.int .i64 mx, .string D, .slice sa n sc] 55 (0, 0)) := fun w' h => keeps_block h hya
      have KU : ∀ w', Keeps wa w' → w'.heap[u]? = some (.cells #[.slice fa6 nf fc6, .slice ga6 ng gc6, .bool M.mem, .int .i64 M.pages, .int .i64 M.most, .int .i64 M.start] 32 (0, 0)) := fun w' h => keeps_block h hua
      have KT : ∀ w', Keeps wa w' → w'.heap[s]? = some (.cells #[.int .i64 mx, .string D, .slice a8 n c8] 46 (0, 0)) := fun w' h => keeps_block h hta
      refine wh_begin (Keeps wa) (by kernel_rfl) ?_
      have hS0 : Keeps wa wa.drew := Keeps.drew wa
      refine wh_take 0 (some 35) (.agg #[.slice fa6 nf fc6, .slice ga6 ng gc6, .bool M.mem, .int .i64 M.pages, .int .i64 M.most, .int .i64 M.start]) rfl rfl (by kernel_rfl) (by kernel_rfl) (by kernel_rfl) (fun _ _ _ h => h) hS0 (by rfl) (fun w' hS => by have hq := KU _ hS; have q0 := (cell_of_block hq 0).trans rfl; have q1 := (cell_of_block hq 1).trans rfl; have q2 := (cell_of_block hq 2).trans rfl; have q3 := (cell_of_block hq 3).trans rfl; have q4 := (cell_of_block hq 4).trans rfl; have q5 := (cell_of_block hq 5).trans rfl; clear hq; go_simp) ?_
      simp only [Act.put, List.setIfInBounds_toArray, List.set_cons_zero, List.set_cons_succ]
      refine wh_take 1 (some 36) (.agg #[.slice fa nf fc, .slice ga ng gc, .bool M.mem, .int .i64 M.pages, .int .i64 M.most, .int .i64 M.start]) rfl rfl (by kernel_rfl) (by kernel_rfl) (by kernel_rfl) (fun _ _ _ h => h) hS0 (by rfl) (fun w' hS => by have hq := KX _ hS; have q0 := (cell_of_block hq 0).trans rfl; have q1 := (cell_of_block hq 1).trans rfl; have q2 := (cell_of_block hq 2).trans rfl; have q3 := (cell_of_block hq 3).trans rfl; have q4 := (cell_of_block hq 4).trans rfl; have q5 := (cell_of_block hq 5).trans rfl; clear hq; go_simp) ?_
      simp only [Act.put, List.setIfInBounds_toArray, List.set_cons_zero, List.set_cons_succ]
      refine wh_call 2 (some 37) 11 #[.agg #[.slice fa nf fc, .slice ga ng gc, .bool M.mem, .int .i64 M.pages, .int .i64 M.most, .int .i64 M.start]] (by kernel_rfl) rfl rfl (by rfl) (by kernel_rfl) ?_
      refine (T.out hs.out _ (bel_step HBa.out hS0.below)).mono ?_
      rintro e wb ⟨⟨fab, fcb, gab, gcb⟩, rfl, hAb, hbb⟩
      have hSb : Keeps wa wb := hS0.step hbb
      refine ⟨_, rfl, hSb, ?_⟩
      have Eb := eqMod ⟨fa6, fc6, ga6, gc6⟩ ⟨fab, fcb, gab, gcb⟩ M wb (hMa.out.below hSb.below) hAb hs
      rw [MV.out, MV.out] at Eb
      rw [MV.out]
      simp only [Act.put, List.setIfInBounds_toArray, List.set_cons_zero, List.set_cons_succ]
      refine wh_call 3 (some 38) 13 #[.agg #[.slice fa6 nf fc6, .slice ga6 ng gc6, .bool M.mem, .int .i64 M.pages, .int .i64 M.most, .int .i64 M.start], .agg #[.slice fab nf fcb, .slice gab ng gcb, .bool M.mem, .int .i64 M.pages, .int .i64 M.most, .int .i64 M.start]] (by kernel_rfl) rfl rfl (by rfl) (by kernel_rfl) ?_
      refine Eb.mono ?_
      rintro e wc ⟨rfl, hbc⟩
      have hSc : Keeps wa wc := hSb.step hbc
      refine ⟨_, rfl, hSc, ?_⟩
      simp only [Act.put, List.setIfInBounds_toArray, List.set_cons_zero, List.set_cons_succ]
      refine wh_val 4 (some 39) (.bool false) wc (by kernel_rfl) rfl rfl (by rfl) (by rfl) hSc ?_
      simp only [Act.put, List.setIfInBounds_toArray, List.set_cons_zero, List.set_cons_succ]
      refine wh_done (by kernel_rfl) ?_
      clear Eb hSb hAb hbb hbc hS0
      go_wp2_with fail
      refine wh_begin (Keeps wa) (by kernel_rfl) ?_
      have hS0 : Keeps wa wc.drew := hSc.step (Keeps.drew wc).below
      refine wh_take 0 (some 40) (.agg #[.int .i64 mx, .string D, .slice a8 n c8]) rfl rfl (by kernel_rfl) (by kernel_rfl) (by kernel_rfl) (fun _ _ _ h => h) hS0 (by rfl) (fun w' hS => by have hq := KT _ hS; have q0 := (cell_of_block hq 0).trans rfl; have q1 := (cell_of_block hq 1).trans rfl; have q2 := (cell_of_block hq 2).trans rfl; clear hq; go_simp) ?_
      simp only [Act.put, List.setIfInBounds_toArray, List.set_cons_zero, List.set_cons_succ]
      refine wh_take 1 (some 41) (.agg #[.int .i64 mx, .string D, .slice sa n sc]) rfl rfl (by kernel_rfl) (by kernel_rfl) (by kernel_rfl) (fun _ _ _ h => h) hS0 (by rfl) (fun w' hS => by have hq := KY _ hS; have q0 := (cell_of_block hq 0).trans rfl; have q1 := (cell_of_block hq 1).trans rfl; have q2 := (cell_of_block hq 2).trans rfl; clear hq; go_simp) ?_
      simp only [Act.put, List.setIfInBounds_toArray, List.set_cons_zero, List.set_cons_succ]
      refine wh_call 2 (some 42) 28 #[.agg #[.int .i64 mx, .string D, .slice sa n sc]] (by kernel_rfl) rfl rfl (by rfl) (by kernel_rfl) ?_
      refine (Y.out h2.out.1 _ (bel_step HBa.out hS0.below)).mono ?_
      rintro e wd ⟨ad, cd, rfl, hAd, hbd⟩
      have hSd : Keeps wa wd := hS0.step hbd
      refine ⟨_, rfl, hSd, ?_⟩
      simp only [Act.put, List.setIfInBounds_toArray, List.set_cons_zero, List.set_cons_succ]
      refine wh_call 3 (some 43) 22 #[.agg #[.int .i64 mx, .string D, .slice a8 n c8], .agg #[.int .i64 mx, .string D, .slice ad n cd]] (by kernel_rfl) rfl rfl (by rfl) (by kernel_rfl) ?_
      refine (E2.out h2.out.1 a8 ad c8 cd wd (hSa.out.below hSd.below) hAd.out).mono ?_
      rintro e we ⟨rfl, hbe⟩
      have hSe : Keeps wa we := hSd.step hbe
      refine ⟨_, rfl, hSe, ?_⟩
      simp only [Act.put, List.setIfInBounds_toArray, List.set_cons_zero, List.set_cons_succ]
      refine wh_val 4 (some 44) (.bool false) we (by kernel_rfl) rfl rfl (by rfl) (by rfl) hSe ?_
      simp only [Act.put, List.setIfInBounds_toArray, List.set_cons_zero, List.set_cons_succ]
      refine wh_done (by kernel_rfl) ?_
      have HBe : Hid (Below w.heap.size w we) := bel_step HBa.out hSe.below
      clear hSe hSd hS0 hSc hbe hbd hAd KX KY KU KT
      go_wp2
      go_ret
      exact ⟨rfl, HBe.out⟩

end Go.Proofs.Ytbliopgdkphoaaa
