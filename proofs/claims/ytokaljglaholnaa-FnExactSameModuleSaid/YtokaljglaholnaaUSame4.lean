/-
  Modules held against each other: the law's side. (Made by a generator.)
-/
import Derived.Test.YtokaljglaholnaaUSame3
import Derived.Test.YtokaljglaholnaaGShapeL
import Derived.Test.YtokaljglaholnaaGShapeS
import Derived.Test.YtokaljglaholnaaQHeld
namespace Go.Proofs.Ytokaljglaholnaa
open Go.ChangeShapes Go.WideShapes Go.ChangeAt Go.RowKit

def sameM (A B : Mod7) : Bool := ((((all2 sameF A.fs B.fs && all2 sameG A.gs B.gs) && A.mem == B.mem) && A.pages == B.pages) && A.most == B.most) && A.start == B.start
def sameRes (A B : Mod7) : Value := if (shape A && shape B) = true then .tuple #[.bool (sameM A B), .bool true] else .tuple #[.bool false, .bool false]
theorem smM_shape {M : Mod7} (h : shape M = true) : M.fs.length ≤ 10 ∧ M.gs.length ≤ 6 := by
  unfold shape at h
  simp only [Bool.and_eq_true, decide_eq_true_eq] at h
  exact h.1.1.1.1
/-- Two modules boxed. -/
theorem boxes {w : World} (A B : Array Value) (t : TypeId) : ∃ W z, W = (w.alloc (.cells A t)).alloc (.cells B t) ∧ z = w.heap.size ∧ Below w.heap.size w W ∧ W.heap[z]? = some (.cells A t (0, 0)) ∧ W.heap[z + 1]? = some (.cells B t (0, 0)) := by
  refine ⟨_, _, rfl, rfl, ((Below.refl _ _).alloc (Nat.le_refl _) _).alloc (by simp) _, (Below.heap_alloc _ _ _ (by simp)).trans (heap_alloc_new _ _), ?_⟩
  have h := heap_alloc_new (w.alloc (.cells A t)) (.cells B t)
  simpa using h
theorem keeps_blockM {W w : World} (h : Keeps W w) {b : Nat} {o : Obj} (hb : W.heap[b]? = some o) : w.heap[b]? = some o := (h.below.block b (lt_of_block hb)).trans hb

set_option maxRecDepth 100000 in
set_option maxHeartbeats 8000000 in
theorem specSameM (l l' : Loc7) (A B : Mod7) (w : World) (hA : Hid (ModAt w l A)) (hB : Hid (ModAt w l' B)) (sA : Hid (smM A)) (sB : Hid (smM B)) :
    Calls Try.prog 16 #[modV l A, modV l' B] w fun e w' => e = .returned (sameRes A B) ∧ Below w.heap.size w w' := by
  have GA : Hid (∀ w', Below w.heap.size w w' → Calls Try.prog 20 #[modV l A] w' fun e w'' => e = .returned (.bool (shape A)) ∧ Below w'.heap.size w' w'') := fun w' h => specShapeM l A w' (hA.out.below h) sA
  have GB : Hid (∀ w', Below w.heap.size w w' → Calls Try.prog 20 #[modV l' B] w' fun e w'' => e = .returned (.bool (shape B)) ∧ Below w'.heap.size w' w'') := fun w' h => specShapeM l' B w' (hB.out.below h) sB
  have FA : Hid (Funs w l.fa A.fs) := hA.out.1
  have FB : Hid (Funs w l'.fa B.fs) := hB.out.1
  have CA : Hid (Glos w l.ga A.gs) := hA.out.2
  have CB : Hid (Glos w l'.ga B.gs) := hB.out.2
  have sFA : Hid (∀ f ∈ A.fs, smF f) := sA.out.2.2.1
  have sFB : Hid (∀ f ∈ B.fs, smF f) := sB.out.2.2.1
  have hl := sA.out.1
  have hl2 := sA.out.2.1
  have hl' := sB.out.1
  have hl2' := sB.out.2.1
  clear hA hB sA sB
  obtain ⟨e1, h1⟩ : ∃ x, shape A = x := ⟨_, rfl⟩
  obtain ⟨e2, h2⟩ : ∃ x, shape B = x := ⟨_, rfl⟩
  have HR : Hid (sameRes A B = if (e1 && e2) = true then .tuple #[.bool (sameM A B), .bool true] else .tuple #[.bool false, .bool false]) := by unfold Hid sameRes; rw [h1, h2]
  rw [h1] at GA
  rw [h2] at GB
  clear h1 h2
  have HS : Hid (sameM A B = (((((all2 sameF A.fs B.fs && all2 sameG A.gs B.gs) && A.mem == B.mem) && A.pages == B.pages) && A.most == B.most) && A.start == B.start)) := rfl
  generalize sameRes A B = R at HR ⊢
  generalize sameM A B = SM at HR HS
  obtain ⟨fa, fc, ga, gc⟩ := l
  obtain ⟨fa', fc', ga', gc'⟩ := l'
  obtain ⟨fs, gs, me, pg, mo, st⟩ := A
  obtain ⟨fs', gs', me', pg', mo', st'⟩ := B
  unfold modV at GA GB ⊢
  simp only at *
  obtain ⟨nf, hnf⟩ : ∃ n, fs.length = n := ⟨_, rfl⟩
  obtain ⟨ng, hng⟩ : ∃ n, gs.length = n := ⟨_, rfl⟩
  obtain ⟨nf', hnf'⟩ : ∃ n, fs'.length = n := ⟨_, rfl⟩
  obtain ⟨ng', hng'⟩ : ∃ n, gs'.length = n := ⟨_, rfl⟩
  have HNF : Hid (fs.length = nf) := hnf
  have HNG : Hid (gs.length = ng) := hng
  have HNF' : Hid (fs'.length = nf') := hnf'
  have HNG' : Hid (gs'.length = ng') := hng'
  rw [hnf, hng] at GA
  rw [hnf', hng'] at GB
  rw [hnf] at hl
  rw [hng] at hl2
  rw [hnf'] at hl'
  rw [hng'] at hl2'
  rw [hnf, hng, hnf', hng']
  clear hnf hng hnf' hng'
  obtain ⟨W0, z, hW0, hz, hb0, hx0, hy0⟩ := boxes (w := w) #[.slice fa nf fc, .slice ga ng gc, .bool me, .int .i64 pg, .int .i64 mo, .int .i64 st] #[.slice fa' nf' fc', .slice ga' ng' gc', .bool me', .int .i64 pg', .int .i64 mo', .int .i64 st'] 32
  have HB0 : Hid (Below w.heap.size w W0) := hb0
  have x0 := (cell_of_block hx0 0).trans rfl
  have x1 := (cell_of_block hx0 1).trans rfl
  have x2 := (cell_of_block hx0 2).trans rfl
  have x3 := (cell_of_block hx0 3).trans rfl
  have x4 := (cell_of_block hx0 4).trans rfl
  have x5 := (cell_of_block hx0 5).trans rfl
  have hW0' := hW0.symm
  have hz' := hz.symm
  clear hb0 hW0 hz
  go_enter Try.func16, Try.ntmps16
  go_wp2_with fail
  refine (GA.out W0 HB0.out).mono ?_
  rintro e w1 ⟨rfl, hb1⟩
  have HB1 : Hid (Below w.heap.size w w1) := bel_step HB0.out hb1
  have hx1 := (hb1.block z (lt_of_block hx0)).trans hx0
  have hy1 := (hb1.block (z + 1) (lt_of_block hy0)).trans hy0
  clear GA hb1 hx0 hy0 x0 x1 x2 x3 x4 x5 HB0 hW0' hz'
  cases e1
  · clear GB
    go_wp2
    go_ret2
    exact ⟨by rw [HR.out]; rfl, HB1.out⟩
  · have y0 := (cell_of_block hy1 0).trans rfl
    have y1 := (cell_of_block hy1 1).trans rfl
    have y2 := (cell_of_block hy1 2).trans rfl
    have y3 := (cell_of_block hy1 3).trans rfl
    have y4 := (cell_of_block hy1 4).trans rfl
    have y5 := (cell_of_block hy1 5).trans rfl
    go_wp2_with fail
    refine (GB.out w1 HB1.out).mono ?_
    rintro e w2 ⟨rfl, hb2⟩
    have HB2 : Hid (Below w.heap.size w w2) := bel_step HB1.out hb2
    have hx2 := (hb2.block z (lt_of_block hx1)).trans hx1
    have hy2 := (hb2.block (z + 1) (lt_of_block hy1)).trans hy1
    clear GB hb2 hx1 hy1 y0 y1 y2 y3 y4 y5 HB1
    cases e2
    · go_wp2
      go_ret2
      exact ⟨by rw [HR.out]; rfl, HB2.out⟩
    · have HR2 : Hid (R = .tuple #[.bool SM, .bool true]) := HR.out
      clear HR
      have x0 := (cell_of_block hx2 0).trans rfl
      have y0 := (cell_of_block hy2 0).trans rfl
      have x1 := (cell_of_block hx2 1).trans rfl
      have y1 := (cell_of_block hy2 1).trans rfl
      have x2 := (cell_of_block hx2 2).trans rfl
      have y2 := (cell_of_block hy2 2).trans rfl
      have x3 := (cell_of_block hx2 3).trans rfl
      have y3 := (cell_of_block hy2 3).trans rfl
      have x4 := (cell_of_block hx2 4).trans rfl
      have y4 := (cell_of_block hy2 4).trans rfl
      have x5 := (cell_of_block hx2 5).trans rfl
      have y5 := (cell_of_block hy2 5).trans rfl
      by_cases hF : nf = nf'
      rotate_left
      · have HN : Hid (SM = false) := HS.out.trans (by rw [all2_len sameF fs fs' (by have := HNF.out; have := HNF'.out; omega)]; rfl)
        have hne : ¬ ((nf : Int) = (nf' : Int)) := by omega
        clear hF
        go_wp2
        go_ret2
        exact ⟨by rw [HR2.out, HN.out]; rfl, HB2.out⟩
      subst hF
      by_cases hG : ng = ng'
      rotate_left
      · have HN : Hid (SM = false) := HS.out.trans (by rw [all2_len sameG gs gs' (by have := HNG.out; have := HNG'.out; omega), Bool.and_false]; rfl)
        have hne : ¬ ((ng : Int) = (ng' : Int)) := by omega
        clear hG
        go_wp2
        go_ret2
        exact ⟨by rw [HR2.out, HN.out]; rfl, HB2.out⟩
      subst hG
      by_cases hM : me = me'
      rotate_left
      · have HN : Hid (SM = false) := HS.out.trans (by rw [show (me == me') = false by simpa using hM, Bool.and_false]; rfl)
        have hne : ¬ (me = me') := hM
        clear hM
        go_wp2
        go_ret2
        exact ⟨by rw [HR2.out, HN.out]; rfl, HB2.out⟩
      subst hM
      by_cases hP : pg = pg'
      rotate_left
      · have HN : Hid (SM = false) := HS.out.trans (by rw [show (pg == pg') = false by simpa using hP, Bool.and_false]; rfl)
        have hne : ¬ (pg = pg') := hP
        clear hP
        go_wp2
        go_ret2
        exact ⟨by rw [HR2.out, HN.out]; rfl, HB2.out⟩
      subst hP
      by_cases hO : mo = mo'
      rotate_left
      · have HN : Hid (SM = false) := HS.out.trans (by rw [show (mo == mo') = false by simpa using hO, Bool.and_false]; rfl)
        have hne : ¬ (mo = mo') := hO
        clear hO
        go_wp2
        go_ret2
        exact ⟨by rw [HR2.out, HN.out]; rfl, HB2.out⟩
      subst hO
      by_cases hT : st = st'
      rotate_left
      · have HN : Hid (SM = false) := HS.out.trans (by rw [show (st == st') = false by simpa using hT, Bool.and_false])
        have hne : ¬ (st = st') := hT
        clear hT
        go_wp2
        go_ret2
        exact ⟨by rw [HR2.out, HN.out]; rfl, HB2.out⟩
      subst hT
      have HS2 : Hid (SM = (all2 sameF fs fs' && all2 sameG gs gs')) := HS.out.trans (by simp)
      clear HS
      have KX : Hid (∀ wr, Below w2.heap.size w2 wr → wr.heap[z]? = some (.cells #[.slice fa nf fc, .slice ga ng gc, .bool me, .int .i64 pg, .int .i64 mo, .int .i64 st] 32 (0, 0))) := fun wr h => (h.block z (lt_of_block hx2)).trans hx2
      have KY : Hid (∀ wr, Below w2.heap.size w2 wr → wr.heap[z + 1]? = some (.cells #[.slice fa' nf fc', .slice ga' ng gc', .bool me, .int .i64 pg, .int .i64 mo, .int .i64 st] 32 (0, 0))) := fun wr h => (h.block (z + 1) (lt_of_block hy2)).trans hy2
      clear hx2 hy2 hl' hl2'
      go_wp2
      clear x0 x1 x2 x3 x4 x5 y0 y1 y2 y3 y4 y5
      go_loopw [63] (fun i wr => ∃ k : Nat, k ≤ nf ∧ i = .int .i64 k ∧ Hid (∀ j (h : j < fs.length) (h' : j < fs'.length), j < k → sameF fs[j] fs'[j] = true) ∧ Hid (Below w2.heap.size w2 wr)) (fun i _ => nf - (intOf i).toNat)
      case atStart => exact ⟨0, by omega, rfl, fun j _ _ h => absurd h (by omega), Below.refl _ _⟩
      case round =>
        obtain ⟨k, hk, rfl, hg, hnx⟩ := hrel
        have hx := KX.out wr hnx.out
        have hy := KY.out wr hnx.out
        by_cases hlt : k < nf
        · have hkL : k < fs.length := by have := HNF.out; omega
          have hkM : k < fs'.length := by have := HNF'.out; omega
          have hBr : Below w.heap.size w wr := bel_step HB2.out hnx.out
          obtain ⟨b, off, rfl, hb, hc⟩ := (FA.out.below hBr).at k hkL
          obtain ⟨b', off', rfl, hb', hd⟩ := (FB.out.below hBr).at k hkM
          have hsx := sFA.out fs[k] (List.getElem_mem _)
          have hsy := sFB.out fs'[k] (List.getElem_mem _)
          have hno := all2_no sameF fs fs' k hkL hkM
          have hys : Hid (sameF fs[k] fs'[k] = true → ∀ j (h : j < fs.length) (h' : j < fs'.length), j < k + 1 → sameF fs[j] fs'[j] = true) := fun hx j h h' hj => by
            by_cases e : j = k
            · subst e; exact hx
            · exact hg.out j h h' (by omega)
          obtain ⟨x, hx'⟩ : ∃ x, x = fs[k] := ⟨_, rfl⟩
          obtain ⟨y, hy'⟩ : ∃ y, y = fs'[k] := ⟨_, rfl⟩
          rw [← hx'] at hc hno hys hsx
          rw [← hy'] at hd hno hys hsy
          clear hx' hy' hkL hkM hBr
          have HNO : Hid (sameF x y = false → all2 sameF fs fs' = false) := hno
          clear hno
          obtain ⟨pa, pc, la, lc, ba, bc, c0, c1, c2, c3, hR⟩ := hc
          obtain ⟨pa', pc', la', lc', ba', bc', d0, d1, d2, d3, hR'⟩ := hd
          have C : Hid (∀ w', Below wr.heap.size wr w' → Calls Try.prog 42 #[.agg #[.slice pa x.ps.length pc, .int .i64 x.res, .slice la x.ls.length lc, .slice ba x.body.length bc], .agg #[.slice pa' y.ps.length pc', .int .i64 y.res, .slice la' y.ls.length lc', .slice ba' y.body.length bc']] w' fun e w'' => e = .returned (.bool (sameF x y)) ∧ Below w'.heap.size w' w'') := fun w' h => specSameF pa la ba pa' la' ba' pc lc bc pc' lc' bc' x y w' (hR.out.below h) (hR'.out.below h) hsx hsy
          obtain ⟨r, hr⟩ : ∃ r, sameF x y = r := ⟨_, rfl⟩
          rw [hr] at HNO hys C
          clear hr hR hR' hsx hsy
          obtain ⟨ps, res, ls, body⟩ := x
          obtain ⟨ps', res', ls', body'⟩ := y
          simp only at *
          have k0 : ∀ w', Keeps wr w' → w'.cell? ⟨z, 0, none⟩ = some (.slice (some ⟨b, off, none⟩) nf fc) := fun w' h => (cell_of_block (keeps_blockM h hx) 0).trans rfl
          have k1 : ∀ w', Keeps wr w' → w'.cell? ⟨z + 1, 0, none⟩ = some (.slice (some ⟨b', off', none⟩) nf fc') := fun w' h => (cell_of_block (keeps_blockM h hy) 0).trans rfl
          have m0 : ∀ w', Keeps wr w' → w'.cell? ⟨b, off + k * 4, none⟩ = some (.slice pa ps.length pc) := fun w' h => h.cell hb c0
          have n0 : ∀ w', Keeps wr w' → w'.cell? ⟨b', off' + k * 4, none⟩ = some (.slice pa' ps'.length pc') := fun w' h => h.cell hb' d0
          have m1 : ∀ w', Keeps wr w' → w'.cell? ⟨b, off + k * 4 + 1, none⟩ = some (.int .i64 res) := fun w' h => h.cell hb c1
          have n1 : ∀ w', Keeps wr w' → w'.cell? ⟨b', off' + k * 4 + 1, none⟩ = some (.int .i64 res') := fun w' h => h.cell hb' d1
          have m2 : ∀ w', Keeps wr w' → w'.cell? ⟨b, off + k * 4 + 2, none⟩ = some (.slice la ls.length lc) := fun w' h => h.cell hb c2
          have n2 : ∀ w', Keeps wr w' → w'.cell? ⟨b', off' + k * 4 + 2, none⟩ = some (.slice la' ls'.length lc') := fun w' h => h.cell hb' d2
          have m3 : ∀ w', Keeps wr w' → w'.cell? ⟨b, off + k * 4 + 3, none⟩ = some (.slice ba body.length bc) := fun w' h => h.cell hb c3
          have n3 : ∀ w', Keeps wr w' → w'.cell? ⟨b', off' + k * 4 + 3, none⟩ = some (.slice ba' body'.length bc') := fun w' h => h.cell hb' d3
          clear c0 c1 c2 c3 d0 d1 d2 d3 hx hy
          cases r
          · go_wp2_with fail
            refine wh_begin (Keeps wr) (by kernel_rfl) ?_
            have hS0 : Keeps wr wr.drew := Keeps.drew wr
            refine wh_take 0 (some 66) (.pointer (some ⟨z, 0, none⟩)) rfl rfl (by kernel_rfl) (by kernel_rfl) (by kernel_rfl) (fun _ _ _ h => h) hS0 (by rfl) (fun w' hS => by first | rfl | go_simp) ?_
            simp only [Act.put, List.setIfInBounds_toArray, List.set_cons_zero, List.set_cons_succ]
            refine wh_take 1 (some 67) (.slice (some ⟨b, off, none⟩) nf fc) rfl rfl (by kernel_rfl) (by kernel_rfl) (by kernel_rfl) (fun _ _ _ h => h) hS0 (by rfl) (fun w' hS => by have q := k0 _ hS; first | rfl | go_simp) ?_
            simp only [Act.put, List.setIfInBounds_toArray, List.set_cons_zero, List.set_cons_succ]
            refine wh_take 2 (some 68) (.int .i64 (k : Int)) rfl rfl (by kernel_rfl) (by kernel_rfl) (by kernel_rfl) (fun _ _ _ h => h) hS0 (by rfl) (fun w' hS => by first | rfl | go_simp) ?_
            simp only [Act.put, List.setIfInBounds_toArray, List.set_cons_zero, List.set_cons_succ]
            refine wh_take 3 (some 69) (.pointer (some ⟨b, off + k * 4, none⟩)) rfl rfl (by kernel_rfl) (by kernel_rfl) (by kernel_rfl) (fun _ _ _ h => h) hS0 (by rfl) (fun w' hS => by first | rfl | go_simp) ?_
            simp only [Act.put, List.setIfInBounds_toArray, List.set_cons_zero, List.set_cons_succ]
            refine wh_take 4 (some 70) (.agg #[.slice pa ps.length pc, .int .i64 res, .slice la ls.length lc, .slice ba body.length bc]) rfl rfl (by kernel_rfl) (by kernel_rfl) (by kernel_rfl) (fun _ _ _ h => h) hS0 (by rfl) (fun w' hS => by have q0 := m0 _ hS; have q1 := m1 _ hS; have q2 := m2 _ hS; have q3 := m3 _ hS; first | rfl | go_simp) ?_
            simp only [Act.put, List.setIfInBounds_toArray, List.set_cons_zero, List.set_cons_succ]
            refine wh_take 5 (some 71) (.pointer (some ⟨z + 1, 0, none⟩)) rfl rfl (by kernel_rfl) (by kernel_rfl) (by kernel_rfl) (fun _ _ _ h => h) hS0 (by rfl) (fun w' hS => by first | rfl | go_simp) ?_
            simp only [Act.put, List.setIfInBounds_toArray, List.set_cons_zero, List.set_cons_succ]
            refine wh_take 6 (some 72) (.slice (some ⟨b', off', none⟩) nf fc') rfl rfl (by kernel_rfl) (by kernel_rfl) (by kernel_rfl) (fun _ _ _ h => h) hS0 (by rfl) (fun w' hS => by have q := k1 _ hS; first | rfl | go_simp) ?_
            simp only [Act.put, List.setIfInBounds_toArray, List.set_cons_zero, List.set_cons_succ]
            refine wh_take 7 (some 73) (.int .i64 (k : Int)) rfl rfl (by kernel_rfl) (by kernel_rfl) (by kernel_rfl) (fun _ _ _ h => h) hS0 (by rfl) (fun w' hS => by first | rfl | go_simp) ?_
            simp only [Act.put, List.setIfInBounds_toArray, List.set_cons_zero, List.set_cons_succ]
            refine wh_take 8 (some 74) (.pointer (some ⟨b', off' + k * 4, none⟩)) rfl rfl (by kernel_rfl) (by kernel_rfl) (by kernel_rfl) (fun _ _ _ h => h) hS0 (by rfl) (fun w' hS => by first | rfl | go_simp) ?_
            simp only [Act.put, List.setIfInBounds_toArray, List.set_cons_zero, List.set_cons_succ]
            refine wh_take 9 (some 75) (.agg #[.slice pa' ps'.length pc', .int .i64 res', .slice la' ls'.length lc', .slice ba' body'.length bc']) rfl rfl (by kernel_rfl) (by kernel_rfl) (by kernel_rfl) (fun _ _ _ h => h) hS0 (by rfl) (fun w' hS => by have q0 := n0 _ hS; have q1 := n1 _ hS; have q2 := n2 _ hS; have q3 := n3 _ hS; first | rfl | go_simp) ?_
            simp only [Act.put, List.setIfInBounds_toArray, List.set_cons_zero, List.set_cons_succ]
            refine wh_call 10 (some 76) 42 #[.agg #[.slice pa ps.length pc, .int .i64 res, .slice la ls.length lc, .slice ba body.length bc], .agg #[.slice pa' ps'.length pc', .int .i64 res', .slice la' ls'.length lc', .slice ba' body'.length bc']] (by kernel_rfl) rfl rfl (by rfl) (by kernel_rfl) ?_
            refine (C.out wr.drew hS0.below).mono ?_
            rintro e v1 ⟨rfl, hb1⟩
            have hS1 : Keeps wr v1 := hS0.step hb1
            refine ⟨_, rfl, hS1, ?_⟩
            simp only [Act.put, List.setIfInBounds_toArray, List.set_cons_zero, List.set_cons_succ]
            refine wh_val 11 (some 77) (.bool true) v1 (by kernel_rfl) rfl rfl (by rfl) (by rfl) hS1 ?_
            simp only [Act.put, List.setIfInBounds_toArray, List.set_cons_zero, List.set_cons_succ]
            refine wh_done (by kernel_rfl) ?_
            have HV : Hid (Below w2.heap.size w2 v1) := bel_step hnx.out hS1.below
            clear k0 k1 m0 m1 m2 m3 n0 n1 n2 n3 hS0 hS1 hb1 C hnx
            go_wp2
            go_ret2
            exact ⟨by rw [HR2.out, HS2.out, HNO.out (by trivial)]; rfl, bel_step HB2.out HV.out⟩
          · go_wp2_with fail
            refine wh_begin (Keeps wr) (by kernel_rfl) ?_
            have hS0 : Keeps wr wr.drew := Keeps.drew wr
            refine wh_take 0 (some 66) (.pointer (some ⟨z, 0, none⟩)) rfl rfl (by kernel_rfl) (by kernel_rfl) (by kernel_rfl) (fun _ _ _ h => h) hS0 (by rfl) (fun w' hS => by first | rfl | go_simp) ?_
            simp only [Act.put, List.setIfInBounds_toArray, List.set_cons_zero, List.set_cons_succ]
            refine wh_take 1 (some 67) (.slice (some ⟨b, off, none⟩) nf fc) rfl rfl (by kernel_rfl) (by kernel_rfl) (by kernel_rfl) (fun _ _ _ h => h) hS0 (by rfl) (fun w' hS => by have q := k0 _ hS; first | rfl | go_simp) ?_
            simp only [Act.put, List.setIfInBounds_toArray, List.set_cons_zero, List.set_cons_succ]
            refine wh_take 2 (some 68) (.int .i64 (k : Int)) rfl rfl (by kernel_rfl) (by kernel_rfl) (by kernel_rfl) (fun _ _ _ h => h) hS0 (by rfl) (fun w' hS => by first | rfl | go_simp) ?_
            simp only [Act.put, List.setIfInBounds_toArray, List.set_cons_zero, List.set_cons_succ]
            refine wh_take 3 (some 69) (.pointer (some ⟨b, off + k * 4, none⟩)) rfl rfl (by kernel_rfl) (by kernel_rfl) (by kernel_rfl) (fun _ _ _ h => h) hS0 (by rfl) (fun w' hS => by first | rfl | go_simp) ?_
            simp only [Act.put, List.setIfInBounds_toArray, List.set_cons_zero, List.set_cons_succ]
            refine wh_take 4 (some 70) (.agg #[.slice pa ps.length pc, .int .i64 res, .slice la ls.length lc, .slice ba body.length bc]) rfl rfl (by kernel_rfl) (by kernel_rfl) (by kernel_rfl) (fun _ _ _ h => h) hS0 (by rfl) (fun w' hS => by have q0 := m0 _ hS; have q1 := m1 _ hS; have q2 := m2 _ hS; have q3 := m3 _ hS; first | rfl | go_simp) ?_
            simp only [Act.put, List.setIfInBounds_toArray, List.set_cons_zero, List.set_cons_succ]
            refine wh_take 5 (some 71) (.pointer (some ⟨z + 1, 0, none⟩)) rfl rfl (by kernel_rfl) (by kernel_rfl) (by kernel_rfl) (fun _ _ _ h => h) hS0 (by rfl) (fun w' hS => by first | rfl | go_simp) ?_
            simp only [Act.put, List.setIfInBounds_toArray, List.set_cons_zero, List.set_cons_succ]
            refine wh_take 6 (some 72) (.slice (some ⟨b', off', none⟩) nf fc') rfl rfl (by kernel_rfl) (by kernel_rfl) (by kernel_rfl) (fun _ _ _ h => h) hS0 (by rfl) (fun w' hS => by have q := k1 _ hS; first | rfl | go_simp) ?_
            simp only [Act.put, List.setIfInBounds_toArray, List.set_cons_zero, List.set_cons_succ]
            refine wh_take 7 (some 73) (.int .i64 (k : Int)) rfl rfl (by kernel_rfl) (by kernel_rfl) (by kernel_rfl) (fun _ _ _ h => h) hS0 (by rfl) (fun w' hS => by first | rfl | go_simp) ?_
            simp only [Act.put, List.setIfInBounds_toArray, List.set_cons_zero, List.set_cons_succ]
            refine wh_take 8 (some 74) (.pointer (some ⟨b', off' + k * 4, none⟩)) rfl rfl (by kernel_rfl) (by kernel_rfl) (by kernel_rfl) (fun _ _ _ h => h) hS0 (by rfl) (fun w' hS => by first | rfl | go_simp) ?_
            simp only [Act.put, List.setIfInBounds_toArray, List.set_cons_zero, List.set_cons_succ]
            refine wh_take 9 (some 75) (.agg #[.slice pa' ps'.length pc', .int .i64 res', .slice la' ls'.length lc', .slice ba' body'.length bc']) rfl rfl (by kernel_rfl) (by kernel_rfl) (by kernel_rfl) (fun _ _ _ h => h) hS0 (by rfl) (fun w' hS => by have q0 := n0 _ hS; have q1 := n1 _ hS; have q2 := n2 _ hS; have q3 := n3 _ hS; first | rfl | go_simp) ?_
            simp only [Act.put, List.setIfInBounds_toArray, List.set_cons_zero, List.set_cons_succ]
            refine wh_call 10 (some 76) 42 #[.agg #[.slice pa ps.length pc, .int .i64 res, .slice la ls.length lc, .slice ba body.length bc], .agg #[.slice pa' ps'.length pc', .int .i64 res', .slice la' ls'.length lc', .slice ba' body'.length bc']] (by kernel_rfl) rfl rfl (by rfl) (by kernel_rfl) ?_
            refine (C.out wr.drew hS0.below).mono ?_
            rintro e v1 ⟨rfl, hb1⟩
            have hS1 : Keeps wr v1 := hS0.step hb1
            refine ⟨_, rfl, hS1, ?_⟩
            simp only [Act.put, List.setIfInBounds_toArray, List.set_cons_zero, List.set_cons_succ]
            refine wh_val 11 (some 77) (.bool false) v1 (by kernel_rfl) rfl rfl (by rfl) (by rfl) hS1 ?_
            simp only [Act.put, List.setIfInBounds_toArray, List.set_cons_zero, List.set_cons_succ]
            refine wh_done (by kernel_rfl) ?_
            have HV : Hid (Below w2.heap.size w2 v1) := bel_step hnx.out hS1.below
            clear k0 k1 m0 m1 m2 m3 n0 n1 n2 n3 hS0 hS1 hb1 C hnx
            go_wp2
            go_roundw
            case rel => exact ⟨k + 1, by omega, by go_num, hys.out (by trivial), HV⟩
            case measure => simp [intOf]; omega
        · have hall : Hid (all2 sameF fs fs' = true) := all2_yes sameF fs fs' (HNF.out.trans HNF'.out.symm) (fun j h h' => hg.out j h h' (by have := HNF.out; omega))
          have HS3 : Hid (SM = all2 sameG gs gs') := HS2.out.trans (by rw [hall.out]; rfl)
          clear hg HS2 hall
          have x1 := (cell_of_block hx 1).trans rfl
          have HW3 : Hid (Below w.heap.size w wr) := bel_step HB2.out hnx.out
          have KX2 : Hid (∀ wq, Below wr.heap.size wr wq → wq.cell? ⟨z, 1, none⟩ = some (.slice ga ng gc)) := fun wq h => (h.cell (p := ⟨z, 1, none⟩) (lt_of_block hx)).trans x1
          have KY2 : Hid (∀ wq, Below wr.heap.size wr wq → wq.cell? ⟨z + 1, 1, none⟩ = some (.slice ga' ng gc')) := fun wq h => (h.cell (p := ⟨z + 1, 1, none⟩) (lt_of_block hy)).trans ((cell_of_block hy 1).trans rfl)
          clear hx hy KX KY hnx FA FB sFA sFB
          obtain ⟨W3, hW3⟩ : ∃ W3, wr = W3 := ⟨_, rfl⟩
          subst hW3
          go_wp2
          clear x1
          go_loopw [82] (fun i wq => ∃ k : Nat, k ≤ ng ∧ i = .int .i64 k ∧ Hid (∀ j (h : j < gs.length) (h' : j < gs'.length), j < k → sameG gs[j] gs'[j] = true) ∧ Hid (Below wr.heap.size wr wq)) (fun i _ => ng - (intOf i).toNat)
          case atStart => exact ⟨0, by omega, rfl, fun j _ _ h => absurd h (by omega), Below.refl _ _⟩
          case round =>
            obtain ⟨k, hk, rfl, hg, hnx⟩ := hrel
            have X1 := KX2.out _ hnx.out
            have Y1 := KY2.out _ hnx.out
            by_cases hlt : k < ng
            · have hkL : k < gs.length := by have := HNG.out; omega
              have hkM : k < gs'.length := by have := HNG'.out; omega
              have hBr := bel_step HW3.out hnx.out
              obtain ⟨b, off, rfl, hb, hc⟩ := (CA.out.below hBr).at k hkL
              obtain ⟨b', off', rfl, hb', hd⟩ := (CB.out.below hBr).at k hkM
              have hno := all2_no sameG gs gs' k hkL hkM
              have hys : Hid (sameG gs[k] gs'[k] = true → ∀ j (h : j < gs.length) (h' : j < gs'.length), j < k + 1 → sameG gs[j] gs'[j] = true) := fun hx j h h' hj => by
                by_cases e : j = k
                · subst e; exact hx
                · exact hg.out j h h' (by omega)
              obtain ⟨x, hx'⟩ : ∃ x, x = gs[k] := ⟨_, rfl⟩
              obtain ⟨y, hy'⟩ : ∃ y, y = gs'[k] := ⟨_, rfl⟩
              rw [← hx'] at hc hno hys
              rw [← hy'] at hd hno hys
              clear hx' hy' hkL hkM hBr hb hb'
              have HNO : Hid (sameG x y = false → all2 sameG gs gs' = false) := hno
              clear hno
              obtain ⟨xt, xf, xb⟩ := x
              obtain ⟨yt, yf, yb⟩ := y
              unfold GloAt at hc hd
              obtain ⟨c0, c1, c2⟩ := hc
              obtain ⟨d0, d1, d2⟩ := hd
              obtain ⟨r, hr⟩ : ∃ r, sameG ⟨xt, xf, xb⟩ ⟨yt, yf, yb⟩ = r := ⟨_, rfl⟩
              have e1 := neqG xt yt xb yb xf yf
              rw [hr] at HNO hys e1
              clear hr
              cases r
              · go_wp2
                go_quiet (fail)
                go_wp2
                go_ret2
                exact ⟨by rw [HR2.out, HS3.out, HNO.out (by trivial)]; rfl, below_drewN (bel_step HW3.out hnx.out) _⟩
              · go_wp2
                go_quiet (fail)
                go_wp2
                go_roundw
                case rel => exact ⟨k + 1, by omega, by go_num, hys.out (by trivial), below_drewN hnx.out _⟩
                case measure => simp [intOf]; omega
            · have hall : Hid (all2 sameG gs gs' = true) := all2_yes sameG gs gs' (HNG.out.trans HNG'.out.symm) (fun j h h' => hg.out j h h' (by have := HNG.out; omega))
              clear hg
              go_wp2
              go_ret2
              exact ⟨by rw [HR2.out, HS3.out, hall.out]; rfl, bel_step HW3.out hnx.out⟩

end Go.Proofs.Ytokaljglaholnaa
