/-
  Modules held against each other: the program's side, and the law. (Made by a generator.)
-/
import Derived.Test.YtokaljglaholnaaUSame4
import Derived.Test.YtokaljglaholnaaGModT2
import Derived.Test.YtokaljglaholnaaGModEq
import Derived.Test.YtokaljglaholnaaGModOp
namespace Go.Proofs.Ytokaljglaholnaa
open Go.ChangeShapes Go.WideShapes Go.ChangeAt Go.RowKit

set_option maxRecDepth 100000 in
set_option maxHeartbeats 8000000 in
theorem implSameM (l l' : Loc7) (A B : Mod7) (w : World) (hA : Hid (ModAt w l A)) (hB : Hid (ModAt w l' B)) (sA : Hid (smM A)) (sB : Hid (smM B)) :
    Calls Try.prog 17 #[modV l A, modV l' B] w fun e w' => e = .returned (sameRes A B) ∧ Below w.heap.size w w' := by
  have GA : Hid (∀ w', Below w.heap.size w w' → Calls Try.prog 24 #[modV l A] w' fun e w'' => e = .returned (.bool (shape A)) ∧ Below w'.heap.size w' w'') := fun w' h => implShape l A w' (hA.out.below h) sA
  have GB : Hid (∀ w', Below w.heap.size w w' → Calls Try.prog 24 #[modV l' B] w' fun e w'' => e = .returned (.bool (shape B)) ∧ Below w'.heap.size w' w'') := fun w' h => implShape l' B w' (hB.out.below h) sB
  have EF : Hid (∀ w', Below w.heap.size w w' → Calls Try.prog 44 #[.slice l.fa A.fs.length l.fc, .slice l'.fa B.fs.length l'.fc, .func (.func 45) #[] #[]] w' fun e w'' => e = .returned (.bool (all2 sameF A.fs B.fs)) ∧ Below w'.heap.size w' w'') := fun w' h => implSameFs l.fa l'.fa l.fc l'.fc A.fs B.fs w' (hA.out.1.below h) (hB.out.1.below h) sA.out.1 sB.out.1 sA.out.2.2.1 sB.out.2.2.1
  have EG : Hid (∀ w', Below w.heap.size w w' → Calls Try.prog 43 #[.slice l.ga A.gs.length l.gc, .slice l'.ga B.gs.length l'.gc] w' fun e w'' => e = .returned (.bool (all2 sameG A.gs B.gs)) ∧ Below w'.heap.size w' w'') := fun w' h => implSameG l.ga l'.ga l.gc l'.gc A.gs B.gs w' (hA.out.2.below h) (hB.out.2.below h) sA.out.2.1 sB.out.2.1
  clear hA hB sA sB
  obtain ⟨e1, h1⟩ : ∃ x, shape A = x := ⟨_, rfl⟩
  obtain ⟨e2, h2⟩ : ∃ x, shape B = x := ⟨_, rfl⟩
  have HR : Hid (sameRes A B = if (e1 && e2) = true then .tuple #[.bool (sameM A B), .bool true] else .tuple #[.bool false, .bool false]) := by unfold Hid sameRes; rw [h1, h2]
  rw [h1] at GA
  rw [h2] at GB
  clear h1 h2
  have HS : Hid (sameM A B = (((((all2 sameF A.fs B.fs && all2 sameG A.gs B.gs) && A.mem == B.mem) && A.pages == B.pages) && A.most == B.most) && A.start == B.start)) := rfl
  generalize sameRes A B = R at HR ⊢
  generalize sameM A B = SM at HR HS
  obtain ⟨fa, fc, ga, gc⟩ := l
  obtain ⟨fa', fc', ga', gc'⟩ := l'
  obtain ⟨fs, gs, me, pg, mo, st⟩ := A
  obtain ⟨fs', gs', me', pg', mo', st'⟩ := B
  unfold modV at GA GB ⊢
  simp only at *
  obtain ⟨nf, hnf⟩ : ∃ n, fs.length = n := ⟨_, rfl⟩
  obtain ⟨ng, hng⟩ : ∃ n, gs.length = n := ⟨_, rfl⟩
  obtain ⟨nf', hnf'⟩ : ∃ n, fs'.length = n := ⟨_, rfl⟩
  obtain ⟨ng', hng'⟩ : ∃ n, gs'.length = n := ⟨_, rfl⟩
  rw [hnf, hng] at GA
  rw [hnf', hng'] at GB
  rw [hnf, hnf'] at EF
  rw [hng, hng'] at EG
  rw [hnf, hng, hnf', hng']
  clear hnf hng hnf' hng'
  obtain ⟨W0, z, hW0, hz, hb0, hx0, hy0⟩ := boxes (w := w) #[.slice fa nf fc, .slice ga ng gc, .bool me, .int .i64 pg, .int .i64 mo, .int .i64 st] #[.slice fa' nf' fc', .slice ga' ng' gc', .bool me', .int .i64 pg', .int .i64 mo', .int .i64 st'] 32
  have HB0 : Hid (Below w.heap.size w W0) := hb0
  have x0 := (cell_of_block hx0 0).trans rfl
  have x1 := (cell_of_block hx0 1).trans rfl
  have x2 := (cell_of_block hx0 2).trans rfl
  have x3 := (cell_of_block hx0 3).trans rfl
  have x4 := (cell_of_block hx0 4).trans rfl
  have x5 := (cell_of_block hx0 5).trans rfl
  have hW0' := hW0.symm
  have hz' := hz.symm
  clear hb0 hW0 hz
  go_enter Try.func17, Try.ntmps17
  go_wp2_with fail
  refine (GA.out W0 HB0.out).mono ?_
  rintro e w1 ⟨rfl, hb1⟩
  have HB1 : Hid (Below w.heap.size w w1) := bel_step HB0.out hb1
  have hx1 := (hb1.block z (lt_of_block hx0)).trans hx0
  have hy1 := (hb1.block (z + 1) (lt_of_block hy0)).trans hy0
  clear GA hb1 hx0 hy0 x0 x1 x2 x3 x4 x5 HB0 hW0' hz'
  cases e1
  · clear GB
    go_wp2
    go_ret2
    exact ⟨by rw [HR.out]; rfl, HB1.out⟩
  · have y0 := (cell_of_block hy1 0).trans rfl
    have y1 := (cell_of_block hy1 1).trans rfl
    have y2 := (cell_of_block hy1 2).trans rfl
    have y3 := (cell_of_block hy1 3).trans rfl
    have y4 := (cell_of_block hy1 4).trans rfl
    have y5 := (cell_of_block hy1 5).trans rfl
    go_wp2_with fail
    refine (GB.out w1 HB1.out).mono ?_
    rintro e w2 ⟨rfl, hb2⟩
    have HB2 : Hid (Below w.heap.size w w2) := bel_step HB1.out hb2
    have hx2 := (hb2.block z (lt_of_block hx1)).trans hx1
    have hy2 := (hb2.block (z + 1) (lt_of_block hy1)).trans hy1
    clear GB hb2 hx1 hy1 y0 y1 y2 y3 y4 y5 HB1
    cases e2
    · go_wp2
      go_ret2
      exact ⟨by rw [HR.out]; rfl, HB2.out⟩
    · have HR2 : Hid (R = .tuple #[.bool SM, .bool true]) := HR.out
      clear HR
      have x0 := (cell_of_block hx2 0).trans rfl
      have y0 := (cell_of_block hy2 0).trans rfl
      have x1 := (cell_of_block hx2 1).trans rfl
      have y1 := (cell_of_block hy2 1).trans rfl
      have x2 := (cell_of_block hx2 2).trans rfl
      have y2 := (cell_of_block hy2 2).trans rfl
      have x3 := (cell_of_block hx2 3).trans rfl
      have y3 := (cell_of_block hy2 3).trans rfl
      have x4 := (cell_of_block hx2 4).trans rfl
      have y4 := (cell_of_block hy2 4).trans rfl
      have x5 := (cell_of_block hx2 5).trans rfl
      have y5 := (cell_of_block hy2 5).trans rfl
      by_cases hM : me = me'
      rotate_left
      · have HN : Hid (SM = false) := HS.out.trans (by rw [show (me == me') = false by simpa using hM, Bool.and_false]; rfl)
        have hne : (me == me') = false := by simpa using hM
        go_wp2
        go_ret2
        exact ⟨by rw [HR2.out, HN.out]; rfl, HB2.out⟩
      subst hM
      by_cases hP : pg = pg'
      rotate_left
      · have HN : Hid (SM = false) := HS.out.trans (by rw [show (pg == pg') = false by simpa using hP, Bool.and_false]; rfl)
        have hne : (pg == pg') = false := by simpa using hP
        go_wp2
        go_ret2
        exact ⟨by rw [HR2.out, HN.out]; rfl, HB2.out⟩
      subst hP
      by_cases hO : mo = mo'
      rotate_left
      · have HN : Hid (SM = false) := HS.out.trans (by rw [show (mo == mo') = false by simpa using hO, Bool.and_false]; rfl)
        have hne : (mo == mo') = false := by simpa using hO
        go_wp2
        go_ret2
        exact ⟨by rw [HR2.out, HN.out]; rfl, HB2.out⟩
      subst hO
      by_cases hT : st = st'
      rotate_left
      · have HN : Hid (SM = false) := HS.out.trans (by rw [show (st == st') = false by simpa using hT, Bool.and_false])
        have hne : (st == st') = false := by simpa using hT
        go_wp2
        go_ret2
        exact ⟨by rw [HR2.out, HN.out]; rfl, HB2.out⟩
      subst hT
      have HS2 : Hid (SM = (all2 sameF fs fs' && all2 sameG gs gs')) := HS.out.trans (by simp)
      clear HS
      generalize all2 sameF fs fs' = e3 at EF HS2
      generalize all2 sameG gs gs' = e4 at EG HS2
      go_wp2_with fail
      refine (EG.out w2 HB2.out).mono ?_
      rintro e w3 ⟨rfl, hb3⟩
      have HB3 : Hid (Below w.heap.size w w3) := bel_step HB2.out hb3
      have hx3 := (hb3.block z (lt_of_block hx2)).trans hx2
      have hy3 := (hb3.block (z + 1) (lt_of_block hy2)).trans hy2
      clear EG hb3 hx2 hy2 x0 x1 x2 x3 x4 x5 y0 y1 y2 y3 y4 y5 HB2
      cases e4
      · go_wp2
        go_ret2
        exact ⟨by rw [HR2.out, HS2.out, Bool.and_false]; rfl, HB3.out⟩
      · have x0 := (cell_of_block hx3 0).trans rfl
        have y0 := (cell_of_block hy3 0).trans rfl
        go_wp2_with fail
        refine (EF.out w3 HB3.out).mono ?_
        rintro e w4 ⟨rfl, hb4⟩
        have HB4 : Hid (Below w.heap.size w w4) := bel_step HB3.out hb4
        clear EF hb4 hx3 hy3 x0 y0 HB3
        cases e3
        all_goals
          go_wp2
          go_ret2
          exact ⟨by rw [HR2.out, HS2.out]; rfl, HB4.out⟩

end Go.Proofs.Ytokaljglaholnaa
