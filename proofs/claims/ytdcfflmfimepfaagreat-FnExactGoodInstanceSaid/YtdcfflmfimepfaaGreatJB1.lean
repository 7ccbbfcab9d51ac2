/-
  The law on good instances: whole.
-/
import Derived.Test.YtdcfflmfimepfaaGreatJA14
import Derived.Test.YtdcfflmfimepfaaGreatJA13
import Derived.Test.YtdcfflmfimepfaaGreatKA2
namespace Go.Proofs.YtdcfflmfimepfaaGreat
open Go.ChangeShapes Go.WideShapes Go.ChangeAt Go.RowKit

set_option maxRecDepth 100000 in
set_option maxHeartbeats 6400000 in
theorem goodInst_walk (l : Loc7) (M : Mod7) (mx : Int) (D : ByteArray) (a : Option Addr) (c : Nat) (L : List Wd8) (po : Bool) (sp : Int) (w : World) (hI : IsInst w l M D a L sp) :
    Calls Tryz.prog 3 #[instV l M mx D a L.length c po sp] w fun e w' => e = .returned (.bool true) ∧ Below w.heap.size w w' := by
  have hM : Hid (ModAt w l M) := hI.1.1
  have hok : Hid (okM M) := hI.1.2.1
  have hL : Hid (Wds w a L) := hI.2.1.1
  have hok2 : Hid (∀ x ∈ L, okW x) := hI.2.1.2.2.1
  have hsz : Hid (L.length ≤ 9223372036854775807 ∧ D.size ≤ 9223372036854775807) := ⟨hI.2.1.2.1, by have := hI.2.1.2.2.2; unfold maxLen at this; omega⟩
  have hsp : Hid (-9223372036854775808 ≤ sp ∧ sp ≤ 9223372036854775807) := hI.2.2
  clear hI
  obtain ⟨R, hR⟩ : ∃ R, goodI M mx D L sp = R := ⟨_, rfl⟩
  have Z : Hid (∀ w', Below w.heap.size w w' → Calls Tryz.prog 5 #[instV l M mx D a L.length c po sp, .int .i64 1048576] w' fun e w'' => ∃ r : Int, e = .returned (.int .i64 r) ∧ (0 ≤ r → smM M ∧ L.length ≤ 1048576 ∧ D.size ≤ 1048576) ∧ Below w'.heap.size w' w'') := fun w' hb => szInst l M mx D a L.length c po sp w' (hM.out.below hb) hok hsz.out.1 hsz.out.2
  have Tt : Hid (smM M ∧ L.length ≤ 1048576 ∧ D.size ≤ 1048576 → ∀ w', Below w.heap.size w w' → Calls Tryz.prog 7 #[instV l M mx D a L.length c po sp] w' fun e w'' => ∃ l' a' c', e = .returned (instV l' M mx D a' L.length c' po sp) ∧ Hid (ModB w'.heap.size w'' l' M) ∧ Hid (WdsB w'.heap.size w'' a' L) ∧ Below w'.heap.size w' w'') := fun hs w' hb => toInstB l M mx D a c L po sp w' (hM.out.below hb) hs.1 (hL.out.below hb) hs.2.1
  have S : Hid (smM M ∧ L.length ≤ 1048576 ∧ D.size ≤ 1048576 → ∀ l' a' c' w', ModAt w' l' M → Wds w' a' L → Calls Tryz.prog 6 #[instV l' M mx D a' L.length c' po sp] w' fun e w'' => e = .returned (.bool R) ∧ Below w'.heap.size w' w'') := fun hs l' a' c' w' h h' => by rw [← hR]; exact specGoodInst l' M mx D a' c' L po sp w' h hs.1 hs.2.2 h' hok2 hs.2.1 hsp.out
  have I : Hid (smM M ∧ L.length ≤ 1048576 ∧ D.size ≤ 1048576 → ∀ l' a' c' w', ModAt w' l' M → Wds w' a' L → Calls Tryz.prog 8 #[instV l' M mx D a' L.length c' po sp] w' fun e w'' => e = .returned (.bool R) ∧ Below w'.heap.size w' w'') := fun hs l' a' c' w' h h' => by rw [← hR]; exact implGoodI l' M mx D a' c' L po sp w' h hs.1 hs.2.2 h' hok2 hs.2.1 hsp.out
  have E : Hid (smM M ∧ L.length ≤ 1048576 ∧ D.size ≤ 1048576 → ∀ l1 l2 a1 a2 c1 c2 w', ModAt w' l1 M → ModAt w' l2 M → Wds w' a1 L → Wds w' a2 L → Calls Tryz.prog 9 #[instV l1 M mx D a1 L.length c1 po sp, instV l2 M mx D a2 L.length c2 po sp] w' fun e w'' => e = .returned (.bool true) ∧ Below w'.heap.size w' w'') := fun hs l1 l2 a1 a2 c1 c2 w' h1 h2 h3 h4 => eqInst l1 l2 M mx D a1 a2 c1 c2 L po sp w' h1 h2 hs.1 h3 h4 hs.2.1
  clear hR
  obtain ⟨fa, fc, ga, gc⟩ := l
  obtain ⟨nf, hnf⟩ : ∃ n, M.fs.length = n := ⟨_, rfl⟩
  obtain ⟨ng, hng⟩ : ∃ n, M.gs.length = n := ⟨_, rfl⟩
  obtain ⟨n, hn⟩ : ∃ n, L.length = n := ⟨_, rfl⟩
  have IV : Hid (∀ l' a' c', instV l' M mx D a' n c' po sp = .agg #[.slice l'.fa nf l'.fc, .slice l'.ga ng l'.gc, .bool M.mem, .int .i64 M.pages, .int .i64 M.most, .int .i64 M.start, .int .i64 mx, .string D, .slice a' n c', .bool po, .int .i64 sp]) := fun l' a' c' => by unfold instV; rw [hnf, hng]
  rw [hn] at Z Tt S I E ⊢
  have HV : Hid (instV ⟨fa, fc, ga, gc⟩ M mx D a n c po sp = .agg #[.slice fa nf fc, .slice ga ng gc, .bool M.mem, .int .i64 M.pages, .int .i64 M.most, .int .i64 M.start, .int .i64 mx, .string D, .slice a n c, .bool po, .int .i64 sp]) := IV.out _ _ _
  rw [HV.out] at Z Tt ⊢
  clear hnf hng hn hsz
  have hb0 : Below w.heap.size w (w.alloc (.cells #[.slice fa nf fc, .slice ga ng gc, .bool M.mem, .int .i64 M.pages, .int .i64 M.most, .int .i64 M.start, .int .i64 mx, .string D, .slice a n c, .bool po, .int .i64 sp] 32)) := (Below.refl _ _).alloc (Nat.le_refl _) _
  have hx0 : (w.alloc (.cells #[.slice fa nf fc, .slice ga ng gc, .bool M.mem, .int .i64 M.pages, .int .i64 M.most, .int .i64 M.start, .int .i64 mx, .string D, .slice a n c, .bool po, .int .i64 sp] 32)).heap[w.heap.size]? = some (.cells #[.slice fa nf fc, .slice ga ng gc, .bool M.mem, .int .i64 M.pages, .int .i64 M.most, .int .i64 M.start, .int .i64 mx, .string D, .slice a n c, .bool po, .int .i64 sp] 32 (0, 0)) := heap_alloc_new _ _
  obtain ⟨W0, hW0⟩ : ∃ W, w.alloc (.cells #[.slice fa nf fc, .slice ga ng gc, .bool M.mem, .int .i64 M.pages, .int .i64 M.most, .int .i64 M.start, .int .i64 mx, .string D, .slice a n c, .bool po, .int .i64 sp] 32) = W := ⟨_, rfl⟩
  obtain ⟨z, hz⟩ : ∃ z, w.heap.size = z := ⟨_, rfl⟩
  rw [hW0] at hb0 hx0
  rw [hz] at hx0
  have HW0 : Hid (w.alloc (.cells #[.slice fa nf fc, .slice ga ng gc, .bool M.mem, .int .i64 M.pages, .int .i64 M.most, .int .i64 M.start, .int .i64 mx, .string D, .slice a n c, .bool po, .int .i64 sp] 32) = W0 ∧ w.heap.size = z) := ⟨hW0, hz⟩
  have HB0 : Hid (Below w.heap.size w W0) := hb0
  clear hW0 hz hb0
  go_enter Tryz.func3, Tryz.ntmps3
  go_wp2_with fail
  rw [HW0.out.2, HW0.out.1]
  refine (Z.out W0 HB0.out).mono ?_
  rintro e w1 ⟨r, rfl, hr, hb1⟩
  have HB1 : Hid (Below w.heap.size w w1) := bel_step HB0.out hb1
  have hx1 := (hb1.block z (lt_of_block hx0)).trans hx0
  clear hb1 Z hx0
  by_cases hr0 : r < 0
  · clear hr hx1
    go_wp2
    go_ret
    exact ⟨rfl, HB1.out⟩
  · have hs : Hid (smM M ∧ n ≤ 1048576 ∧ D.size ≤ 1048576) := hr (by omega)
    clear hr
    have x0 : w1.cell? ⟨z, 0, none⟩ = some (.slice fa nf fc) := (cell_of_block hx1 0).trans rfl
    have x1 : w1.cell? ⟨z, 1, none⟩ = some (.slice ga ng gc) := (cell_of_block hx1 1).trans rfl
    have x2 : w1.cell? ⟨z, 2, none⟩ = some (.bool M.mem) := (cell_of_block hx1 2).trans rfl
    have x3 : w1.cell? ⟨z, 3, none⟩ = some (.int .i64 M.pages) := (cell_of_block hx1 3).trans rfl
    have x4 : w1.cell? ⟨z, 4, none⟩ = some (.int .i64 M.most) := (cell_of_block hx1 4).trans rfl
    have x5 : w1.cell? ⟨z, 5, none⟩ = some (.int .i64 M.start) := (cell_of_block hx1 5).trans rfl
    have x6 : w1.cell? ⟨z, 6, none⟩ = some (.int .i64 mx) := (cell_of_block hx1 6).trans rfl
    have x7 : w1.cell? ⟨z, 7, none⟩ = some (.string D) := (cell_of_block hx1 7).trans rfl
    have x8 : w1.cell? ⟨z, 8, none⟩ = some (.slice a n c) := (cell_of_block hx1 8).trans rfl
    have x9 : w1.cell? ⟨z, 9, none⟩ = some (.bool po) := (cell_of_block hx1 9).trans rfl
    have x10 : w1.cell? ⟨z, 10, none⟩ = some (.int .i64 sp) := (cell_of_block hx1 10).trans rfl
    go_wp2_with fail
    refine (Tt.out hs.out w1 HB1.out).mono ?_
    rintro e w2 ⟨⟨fa2, fc2, ga2, gc2⟩, a2, c2, rfl, hA2, hD2, hb2⟩
    have S2 := S.out hs.out ⟨fa2, fc2, ga2, gc2⟩ a2 c2 w2 hA2.out.mod hD2.out.1
    rw [IV.out] at S2 ⊢
    simp only at S2 ⊢
    have HB2 : Hid (Below w.heap.size w w2) := bel_step HB1.out hb2
    have hx2 := (hb2.block z (lt_of_block hx1)).trans hx1
    clear hb2 hx1 x0 x1 x2 x3 x4 x5 x6 x7 x8 x9 x10 hA2 hD2 HB1
    go_wp2_with fail
    refine S2.mono ?_
    rintro e w3 ⟨rfl, hb3⟩
    have HB3 : Hid (Below w.heap.size w w3) := bel_step HB2.out hb3
    have hx3 := (hb3.block z (lt_of_block hx2)).trans hx2
    clear S2 hb3 hx2 S HB2
    have x0 : w3.cell? ⟨z, 0, none⟩ = some (.slice fa nf fc) := (cell_of_block hx3 0).trans rfl
    have x1 : w3.cell? ⟨z, 1, none⟩ = some (.slice ga ng gc) := (cell_of_block hx3 1).trans rfl
    have x2 : w3.cell? ⟨z, 2, none⟩ = some (.bool M.mem) := (cell_of_block hx3 2).trans rfl
    have x3 : w3.cell? ⟨z, 3, none⟩ = some (.int .i64 M.pages) := (cell_of_block hx3 3).trans rfl
    have x4 : w3.cell? ⟨z, 4, none⟩ = some (.int .i64 M.most) := (cell_of_block hx3 4).trans rfl
    have x5 : w3.cell? ⟨z, 5, none⟩ = some (.int .i64 M.start) := (cell_of_block hx3 5).trans rfl
    have x6 : w3.cell? ⟨z, 6, none⟩ = some (.int .i64 mx) := (cell_of_block hx3 6).trans rfl
    have x7 : w3.cell? ⟨z, 7, none⟩ = some (.string D) := (cell_of_block hx3 7).trans rfl
    have x8 : w3.cell? ⟨z, 8, none⟩ = some (.slice a n c) := (cell_of_block hx3 8).trans rfl
    have x9 : w3.cell? ⟨z, 9, none⟩ = some (.bool po) := (cell_of_block hx3 9).trans rfl
    have x10 : w3.cell? ⟨z, 10, none⟩ = some (.int .i64 sp) := (cell_of_block hx3 10).trans rfl
    go_wp2_with fail
    refine (Tt.out hs.out w3 HB3.out).mono ?_
    rintro e w5 ⟨⟨fa6, fc6, ga6, gc6⟩, a6, c6, rfl, hA6, hD6, hb5⟩
    rw [IV.out]
    simp only
    have HB5 : Hid (Below w.heap.size w w5) := bel_step HB3.out hb5
    have hx5 := (hb5.block z (lt_of_block hx3)).trans hx3
    clear hb5 x0 x1 x2 x3 x4 x5 x6 x7 x8 x9 x10 hx3 HB3
    obtain ⟨w6, hw6⟩ : ∃ W, w5.alloc (.cells #[.slice fa6 nf fc6, .slice ga6 ng gc6, .bool M.mem, .int .i64 M.pages, .int .i64 M.most, .int .i64 M.start, .int .i64 mx, .string D, .slice a6 n c6, .bool po, .int .i64 sp] 44) = W := ⟨_, rfl⟩
    obtain ⟨m6, hm6⟩ : ∃ u, w5.heap.size = u := ⟨_, rfl⟩
    have hb56 : Below w5.heap.size w5 w6 := by rw [← hw6]; exact (Below.refl _ _).alloc (Nat.le_refl _) _
    have h6 : w6.heap[m6]? = some (.cells #[.slice fa6 nf fc6, .slice ga6 ng gc6, .bool M.mem, .int .i64 M.pages, .int .i64 M.most, .int .i64 M.start, .int .i64 mx, .string D, .slice a6 n c6, .bool po, .int .i64 sp] 44 (0, 0)) := by rw [← hw6, ← hm6]; exact heap_alloc_new _ _
    have hx6 := (hb56.block z (lt_of_block hx5)).trans hx5
    have HB6 : Hid (Below w.heap.size w w6) := bel_step HB5.out hb56
    have HA6 : Hid (ModAt w6 ⟨fa6, fc6, ga6, gc6⟩ M ∧ Wds w6 a6 L) := ⟨hA6.out.mod.below hb56, hD6.out.1.below hb56⟩
    have I6 := I.out hs.out ⟨fa6, fc6, ga6, gc6⟩ a6 c6 w6 HA6.out.1 HA6.out.2
    rw [IV.out] at I6
    simp only at I6
    have HW6 : Hid (w5.alloc (.cells #[.slice fa6 nf fc6, .slice ga6 ng gc6, .bool M.mem, .int .i64 M.pages, .int .i64 M.most, .int .i64 M.start, .int .i64 mx, .string D, .slice a6 n c6, .bool po, .int .i64 sp] 44) = w6 ∧ w5.heap.size = m6) := ⟨hw6, hm6⟩
    have v0 : w6.cell? ⟨m6, 0, none⟩ = some (.slice fa6 nf fc6) := (cell_of_block h6 0).trans rfl
    have v1 : w6.cell? ⟨m6, 1, none⟩ = some (.slice ga6 ng gc6) := (cell_of_block h6 1).trans rfl
    have v2 : w6.cell? ⟨m6, 2, none⟩ = some (.bool M.mem) := (cell_of_block h6 2).trans rfl
    have v3 : w6.cell? ⟨m6, 3, none⟩ = some (.int .i64 M.pages) := (cell_of_block h6 3).trans rfl
    have v4 : w6.cell? ⟨m6, 4, none⟩ = some (.int .i64 M.most) := (cell_of_block h6 4).trans rfl
    have v5 : w6.cell? ⟨m6, 5, none⟩ = some (.int .i64 M.start) := (cell_of_block h6 5).trans rfl
    have v6 : w6.cell? ⟨m6, 6, none⟩ = some (.int .i64 mx) := (cell_of_block h6 6).trans rfl
    have v7 : w6.cell? ⟨m6, 7, none⟩ = some (.string D) := (cell_of_block h6 7).trans rfl
    have v8 : w6.cell? ⟨m6, 8, none⟩ = some (.slice a6 n c6) := (cell_of_block h6 8).trans rfl
    have v9 : w6.cell? ⟨m6, 9, none⟩ = some (.bool po) := (cell_of_block h6 9).trans rfl
    have v10 : w6.cell? ⟨m6, 10, none⟩ = some (.int .i64 sp) := (cell_of_block h6 10).trans rfl
    rw [← hw6, ← hm6] at v0 v1 v2 v3 v4 v5 v6 v7 v8 v9 v10
    clear hw6 hm6 hb56 HB5 hx5 hA6 hD6 I
    go_wp2_with fail
    rw [HW6.out.1, HW6.out.2]
    clear v0 v1 v2 v3 v4 v5 v6 v7 v8 v9 v10
    refine I6.mono ?_
    rintro e w7 ⟨rfl, hb7⟩
    have hx7 := (hb7.block z (lt_of_block hx6)).trans hx6
    have h7 := (hb7.block m6 (lt_of_block h6)).trans h6
    have HB7 : Hid (Below w.heap.size w w7) := bel_step HB6.out hb7
    have HA7 : Hid (ModAt w7 ⟨fa6, fc6, ga6, gc6⟩ M ∧ Wds w7 a6 L) := ⟨HA6.out.1.below hb7, HA6.out.2.below hb7⟩
    have hRR : (R != R) = false := by cases R <;> rfl
    clear I6 hb7 hx6 h6 HB6 HA6 HW6
    go_wp2_with fail
    have KX : ∀ w', Keeps w7 w' → w'.heap[z]? = some (.cells #[.slice fa nf fc, .slice ga ng gc, .bool M.mem, .int .i64 M.pages, .int .i64 M.most, .int .i64 M.start, .int .i64 mx, .string D, .slice a n c, .bool po, .int .i64 sp] 32 (0, 0)) := fun w' h => keeps_block h hx7
    have KU : ∀ w', Keeps w7 w' → w'.heap[m6]? = some (.cells #[.slice fa6 nf fc6, .slice ga6 ng gc6, .bool M.mem, .int .i64 M.pages, .int .i64 M.most, .int .i64 M.start, .int .i64 mx, .string D, .slice a6 n c6, .bool po, .int .i64 sp] 44 (0, 0)) := fun w' h => keeps_block h h7
    refine wh_begin (Keeps w7) (by kernel_rfl) ?_
    have hS0 : Keeps w7 w7.drew := Keeps.drew w7
    refine wh_take 0 (some 22) (.agg #[.slice fa6 nf fc6, .slice ga6 ng gc6, .bool M.mem, .int .i64 M.pages, .int .i64 M.most, .int .i64 M.start, .int .i64 mx, .string D, .slice a6 n c6, .bool po, .int .i64 sp]) rfl rfl (by kernel_rfl) (by kernel_rfl) (by kernel_rfl) (fun _ _ _ h => h) hS0 (by rfl) (fun w' hS => by have hq := KU _ hS; have q0 := (cell_of_block hq 0).trans rfl; have q1 := (cell_of_block hq 1).trans rfl; have q2 := (cell_of_block hq 2).trans rfl; have q3 := (cell_of_block hq 3).trans rfl; have q4 := (cell_of_block hq 4).trans rfl; have q5 := (cell_of_block hq 5).trans rfl; have q6 := (cell_of_block hq 6).trans rfl; have q7 := (cell_of_block hq 7).trans rfl; have q8 := (cell_of_block hq 8).trans rfl; have q9 := (cell_of_block hq 9).trans rfl; have q10 := (cell_of_block hq 10).trans rfl; clear hq; go_simp) ?_
    simp only [Act.put, List.setIfInBounds_toArray, List.set_cons_zero, List.set_cons_succ]
    refine wh_take 1 (some 23) (.agg #[.slice fa nf fc, .slice ga ng gc, .bool M.mem, .int .i64 M.pages, .int .i64 M.most, .int .i64 M.start, .int .i64 mx, .string D, .slice a n c, .bool po, .int .i64 sp]) rfl rfl (by kernel_rfl) (by kernel_rfl) (by kernel_rfl) (fun _ _ _ h => h) hS0 (by rfl) (fun w' hS => by have hq := KX _ hS; have q0 := (cell_of_block hq 0).trans rfl; have q1 := (cell_of_block hq 1).trans rfl; have q2 := (cell_of_block hq 2).trans rfl; have q3 := (cell_of_block hq 3).trans rfl; have q4 := (cell_of_block hq 4).trans rfl; have q5 := (cell_of_block hq 5).trans rfl; have q6 := (cell_of_block hq 6).trans rfl; have q7 := (cell_of_block hq 7).trans rfl; have q8 := (cell_of_block hq 8).trans rfl; have q9 := (cell_of_block hq 9).trans rfl; have q10 := (cell_of_block hq 10).trans rfl; clear hq; go_simp) ?_
    simp only [Act.put, List.setIfInBounds_toArray, List.set_cons_zero, List.set_cons_succ]
    refine wh_call 2 (some 24) 7 #[.agg #[.slice fa nf fc, .slice ga ng gc, .bool M.mem, .int .i64 M.pages, .int .i64 M.most, .int .i64 M.start, .int .i64 mx, .string D, .slice a n c, .bool po, .int .i64 sp]] (by kernel_rfl) rfl rfl (by rfl) (by kernel_rfl) ?_
    refine (Tt.out hs.out _ (bel_step HB7.out hS0.below)).mono ?_
    rintro e wb ⟨⟨fab, fcb, gab, gcb⟩, ab, cb, rfl, hAb, hDb, hbb⟩
    have hSb : Keeps w7 wb := hS0.step hbb
    refine ⟨_, rfl, hSb, ?_⟩
    have Eb := E.out hs.out ⟨fa6, fc6, ga6, gc6⟩ ⟨fab, fcb, gab, gcb⟩ a6 ab c6 cb wb (HA7.out.1.below hSb.below) hAb.out.mod (HA7.out.2.below hSb.below) hDb.out.1
    rw [IV.out, IV.out] at Eb
    rw [IV.out]
    simp only [Act.put, List.setIfInBounds_toArray, List.set_cons_zero, List.set_cons_succ]
    refine wh_call 3 (some 25) 9 #[.agg #[.slice fa6 nf fc6, .slice ga6 ng gc6, .bool M.mem, .int .i64 M.pages, .int .i64 M.most, .int .i64 M.start, .int .i64 mx, .string D, .slice a6 n c6, .bool po, .int .i64 sp], .agg #[.slice fab nf fcb, .slice gab ng gcb, .bool M.mem, .int .i64 M.pages, .int .i64 M.most, .int .i64 M.start, .int .i64 mx, .string D, .slice ab n cb, .bool po, .int .i64 sp]] (by kernel_rfl) rfl rfl (by rfl) (by kernel_rfl) ?_
    refine Eb.mono ?_
    rintro e w8 ⟨rfl, hbc⟩
    have hSc : Keeps w7 w8 := hSb.step hbc
    refine ⟨_, rfl, hSc, ?_⟩
    simp only [Act.put, List.setIfInBounds_toArray, List.set_cons_zero, List.set_cons_succ]
    refine wh_val 4 (some 26) (.bool false) w8 (by kernel_rfl) rfl rfl (by rfl) (by rfl) hSc ?_
    simp only [Act.put, List.setIfInBounds_toArray, List.set_cons_zero, List.set_cons_succ]
    refine wh_done (by kernel_rfl) ?_
    have HB8 : Hid (Below w.heap.size w w8) := bel_step HB7.out hSc.below
    clear Eb hSb hAb hDb hbb hbc hS0 hSc KX KU h7 hx7
    go_wp2
    go_ret
    exact ⟨rfl, HB8.out⟩

end Go.Proofs.YtdcfflmfimepfaaGreat
