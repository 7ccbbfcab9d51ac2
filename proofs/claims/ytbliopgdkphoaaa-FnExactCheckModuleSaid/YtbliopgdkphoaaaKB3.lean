/-
  The law on CheckModule: whole.
-/
import Derived.Test.YtbliopgdkphoaaaKA14
import Derived.Test.YtbliopgdkphoaaaKA15
namespace Go.Proofs.Ytbliopgdkphoaaa
open Go.ChangeShapes Go.WideShapes Go.ChangeAt Go.RowKit

set_option maxRecDepth 100000 in
set_option maxHeartbeats 1600000 in
theorem checkModule_walk (l : Loc7) (M : Mod7) (w : World) (hI : IsMod w l M) :
    Calls Try.prog 4 #[modV l M] w fun e w' => e = .returned (.bool true) ∧ Below w.heap.size w w' := by
  have hM : Hid (ModAt w l M) := hI.1
  have hok : Hid (okM M) := hI.2.1
  clear hI
  obtain ⟨⟨v1, v2, v3⟩, hR⟩ : ∃ R, toldM M = R := ⟨_, rfl⟩
  have Z : Hid (∀ w', Below w.heap.size w w' → Calls Try.prog 9 #[modV l M, .int .i64 1048576] w' fun e w'' => ∃ r : Int, e = .returned (.int .i64 r) ∧ (0 ≤ r → smM M) ∧ Below w'.heap.size w' w'') := fun w' hb => szMod l M w' (hM.out.below hb) hok.out
  have T : Hid (smM M → ∀ w', Below w.heap.size w w' → Calls Try.prog 11 #[modV l M] w' fun e w'' => ∃ l', e = .returned (modV l' M) ∧ Hid (ModAt w'' l' M) ∧ Below w'.heap.size w' w'') := fun hs w' hb => toMod l M w' (hM.out.below hb) hs
  have S : Hid (smM M → ∀ l' w', ModAt w' l' M → Calls Try.prog 14 #[modV l' M] w' fun e w'' => e = .returned (.tuple #[.int .i64 v1, .int .i64 v2, .int .i64 v3]) ∧ Below w'.heap.size w' w'') := fun hs l' w' h => by have t := specCheckModule l' M w' h hs (checks7 l' M w' h); rw [hR] at t; exact t
  have I : Hid (smM M → ∀ l' w', ModAt w' l' M → Calls Try.prog 15 #[modV l' M] w' fun e w'' => e = .returned (.tuple #[.int .i64 v1, .int .i64 v2, .int .i64 v3]) ∧ Below w'.heap.size w' w'') := fun hs l' w' h => by have t := implCheckModule l' M w' h hs; rw [hR] at t; exact t
  clear hR
  obtain ⟨fa, fc, ga, gc⟩ := l
  obtain ⟨nf, hnf⟩ : ∃ n, M.fs.length = n := ⟨_, rfl⟩
  obtain ⟨ng, hng⟩ : ∃ n, M.gs.length = n := ⟨_, rfl⟩
  have HNN : Hid (M.fs.length = nf ∧ M.gs.length = ng) := ⟨hnf, hng⟩
  have HV : Hid (modV ⟨fa, fc, ga, gc⟩ M = .agg #[.slice fa nf fc, .slice ga ng gc, .bool M.mem, .int .i64 M.pages, .int .i64 M.most, .int .i64 M.start]) := by unfold Hid modV; simp only; rw [hnf, hng]
  rw [HV.out] at Z T ⊢
  clear hnf hng
  go_enter Try.func4, Try.ntmps4
  go_wp2_with fail
  have hb0 : Below w.heap.size w (w.alloc (.cells #[.slice fa nf fc, .slice ga ng gc, .bool M.mem, .int .i64 M.pages, .int .i64 M.most, .int .i64 M.start] 25)) := (Below.refl _ _).alloc (Nat.le_refl _) _
  refine (Z.out _ hb0).mono ?_
  rintro e w1 ⟨r, rfl, hr, hb1⟩
  have HB1 : Hid (Below w.heap.size w w1) := bel_step hb0 hb1
  have hx1 := (hb1.block w.heap.size (by simp)).trans (heap_alloc_new _ _)
  clear hb0 hb1 Z
  by_cases hr0 : r < 0
  · clear hr
    go_wp2
    go_ret
    exact ⟨rfl, HB1.out⟩
  · have hs : Hid (smM M) := hr (by omega)
    clear hr
    have x0 := (cell_of_block hx1 0).trans rfl
    have x1 := (cell_of_block hx1 1).trans rfl
    have x2 := (cell_of_block hx1 2).trans rfl
    have x3 := (cell_of_block hx1 3).trans rfl
    have x4 := (cell_of_block hx1 4).trans rfl
    have x5 := (cell_of_block hx1 5).trans rfl
    go_wp2_with fail
    refine (T.out hs.out w1 HB1.out).mono ?_
    rintro e w2 ⟨l2, rfl, hA, hb2⟩
    have HB2 : Hid (Below w.heap.size w w2) := bel_step HB1.out hb2
    have hx2 := (hb2.block w.heap.size (lt_of_block hx1)).trans hx1
    clear hb2 hx1 x0 x1 x2 x3 x4 x5 HB1
    go_wp2_with fail
    refine (S.out hs.out l2 w2 hA.out).mono ?_
    rintro e w3 ⟨rfl, hb3⟩
    have HB3 : Hid (Below w.heap.size w w3) := bel_step HB2.out hb3
    have hx3 := (hb3.block w.heap.size (lt_of_block hx2)).trans hx2
    clear hb3 hx2 hA HB2 S
    have x0 := (cell_of_block hx3 0).trans rfl
    have x1 := (cell_of_block hx3 1).trans rfl
    have x2 := (cell_of_block hx3 2).trans rfl
    have x3 := (cell_of_block hx3 3).trans rfl
    have x4 := (cell_of_block hx3 4).trans rfl
    have x5 := (cell_of_block hx3 5).trans rfl
    go_wp2_with fail
    refine (T.out hs.out w3 HB3.out).mono ?_
    rintro e w4 ⟨⟨fa4, fc4, ga4, gc4⟩, rfl, hA4, hb4⟩
    have HB4 : Hid (Below w.heap.size w w4) := bel_step HB3.out hb4
    have hx4 := (hb4.block w.heap.size (lt_of_block hx3)).trans hx3
    clear hb4 hx3 x0 x1 x2 x3 x4 x5 HB3
    have J : Hid (∀ w', Below w4.heap.size w4 w' → Calls Try.prog 15 #[modV ⟨fa4, fc4, ga4, gc4⟩ M] w' fun e w'' => e = .returned (.tuple #[.int .i64 v1, .int .i64 v2, .int .i64 v3]) ∧ Below w'.heap.size w' w'') := fun w' h => I.out hs.out _ w' (hA4.out.below h)
    have E : Hid (∀ w' l', Below w4.heap.size w4 w' → ModAt w' l' M → Calls Try.prog 13 #[modV ⟨fa4, fc4, ga4, gc4⟩ M, modV l' M] w' fun e w'' => e = .returned (.bool true) ∧ Below w'.heap.size w' w'') := fun w' l' h h' => eqMod _ l' M w' (hA4.out.below h) h' hs.out
    have hV4 : modV ⟨fa4, fc4, ga4, gc4⟩ M = .agg #[.slice fa4 nf fc4, .slice ga4 ng gc4, .bool M.mem, .int .i64 M.pages, .int .i64 M.most, .int .i64 M.start] := by unfold modV; simp only; rw [HNN.out.1, HNN.out.2]
    rw [hV4] at J E ⊢
    clear hV4 I hA4
    go_wp2_with fail
    refine (J.out _ ((Below.refl _ _).alloc (Nat.le_refl _) _)).mono ?_
    rintro e w5 ⟨rfl, hb5⟩
    have hb45 : Below w4.heap.size w4 w5 := bel_step ((Below.refl _ _).alloc (Nat.le_refl _) _) hb5
    have HB5 : Hid (Below w.heap.size w w5) := bel_step HB4.out hb45
    have hx5 := (hb45.block w.heap.size (lt_of_block hx4)).trans hx4
    have hy5 := (hb5.block w4.heap.size (by simp)).trans (heap_alloc_new _ _)
    have hly := lt_of_block hy5
    have x0 := (cell_of_block hx5 0).trans rfl
    have x1 := (cell_of_block hx5 1).trans rfl
    have x2 := (cell_of_block hx5 2).trans rfl
    have x3 := (cell_of_block hx5 3).trans rfl
    have x4 := (cell_of_block hx5 4).trans rfl
    have x5 := (cell_of_block hx5 5).trans rfl
    have y0 := (cell_of_block hy5 0).trans rfl
    have y1 := (cell_of_block hy5 1).trans rfl
    have y2 := (cell_of_block hy5 2).trans rfl
    have y3 := (cell_of_block hy5 3).trans rfl
    have y4 := (cell_of_block hy5 4).trans rfl
    have y5 := (cell_of_block hy5 5).trans rfl
    have HB45 : Hid (Below w4.heap.size w4 w5) := hb45
    clear hb5 hx4 HB4 J hb45
    go_wp2
    go_region_with (first | (go_at_call 11; refine (T.out hs.out _ (by first | exact HB5.out | exact HB5.out.drew | exact HB5.out.drew.drew | exact HB5.out.drew.drew.drew | exact HB5.out.drew.drew.drew.drew)).mono ?_; rintro e w6 ⟨l6, rfl, hA6, hb6⟩; have z0 := (hb6.cell (p := ⟨w4.heap.size, 0, none⟩) hly).trans y0; have z1 := (hb6.cell (p := ⟨w4.heap.size, 1, none⟩) hly).trans y1; have z2 := (hb6.cell (p := ⟨w4.heap.size, 2, none⟩) hly).trans y2; have z3 := (hb6.cell (p := ⟨w4.heap.size, 3, none⟩) hly).trans y3; have z4 := (hb6.cell (p := ⟨w4.heap.size, 4, none⟩) hly).trans y4; have z5 := (hb6.cell (p := ⟨w4.heap.size, 5, none⟩) hly).trans y5; have K6 : Hid (Below w4.heap.size w4 w6 ∧ Below w.heap.size w w6) := ⟨by first | exact bel_step HB45.out hb6 | exact bel_step HB45.out.drew hb6 | exact bel_step HB45.out.drew.drew hb6 | exact bel_step HB45.out.drew.drew.drew hb6 | exact bel_step HB45.out.drew.drew.drew.drew hb6, by first | exact bel_step HB5.out hb6 | exact bel_step HB5.out.drew hb6 | exact bel_step HB5.out.drew.drew hb6 | exact bel_step HB5.out.drew.drew.drew hb6 | exact bel_step HB5.out.drew.drew.drew.drew hb6⟩; clear hb6) | (go_at_call 13; (refine (E.out _ _ (by first | exact K6.out.1 | exact K6.out.1.drew | exact K6.out.1.drew.drew | exact K6.out.1.drew.drew.drew | exact K6.out.1.drew.drew.drew.drew) (by first | exact hA6.out | exact hA6.out.below (Below.refl _ _).drew | exact hA6.out.below (Below.refl _ _).drew.drew | exact hA6.out.below (Below.refl _ _).drew.drew.drew)).mono ?_; rintro e w7 ⟨rfl, hb7⟩)))
    all_goals
      go_wp2
      go_ret
      exact ⟨rfl, by first | exact bel_step K6.out.2 hb7 | exact bel_step K6.out.2.drew hb7 | exact bel_step K6.out.2.drew.drew hb7 | exact bel_step K6.out.2.drew.drew.drew hb7⟩

end Go.Proofs.Ytbliopgdkphoaaa
