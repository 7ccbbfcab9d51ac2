/-
  Funcs held against each other: both sides.
-/
import Derived.Test.YtokaljglaholnaaUSame1
import Derived.Test.YtokaljglaholnaaQHide
import Derived.Test.YtokaljglaholnaaQTail
namespace Go.Proofs.Ytokaljglaholnaa
open Go.ChangeShapes Go.WideShapes Go.ChangeAt Go.RowKit

def sameF (f g : Fun7) : Bool := ((all2 sameI f.ps g.ps && f.res == g.res) && all2 sameI f.ls g.ls) && all2 sameN f.body g.body

set_option maxRecDepth 100000 in
set_option maxHeartbeats 3200000 in
theorem specSameF (pa la ba pa' la' ba' : Option Addr) (pc lc bc pc' lc' bc' : Nat) (f g : Fun7) (w : World) (hR : Hid (FunRows w pa la ba f)) (hR' : Hid (FunRows w pa' la' ba' g)) (hs : Hid (smF f)) (hs' : Hid (smF g)) :
    Calls Try.prog 42 #[.agg #[.slice pa f.ps.length pc, .int .i64 f.res, .slice la f.ls.length lc, .slice ba f.body.length bc], .agg #[.slice pa' g.ps.length pc', .int .i64 g.res, .slice la' g.ls.length lc', .slice ba' g.body.length bc']] w fun e w' => e = .returned (.bool (sameF f g)) ∧ Below w.heap.size w w' := by
  have A1 : Hid (∀ w', Below w.heap.size w w' → Calls Try.prog 75 #[.slice pa f.ps.length pc, .slice pa' g.ps.length pc'] w' fun e w'' => e = .returned (.bool (all2 sameI f.ps g.ps)) ∧ Below w'.heap.size w' w'') := fun w' h => specSameI pa pa' pc pc' f.ps g.ps w' (hR.out.1.below h) (hR'.out.1.below h) hs.out.1 hs'.out.1
  have A2 : Hid (∀ w', Below w.heap.size w w' → Calls Try.prog 75 #[.slice la f.ls.length lc, .slice la' g.ls.length lc'] w' fun e w'' => e = .returned (.bool (all2 sameI f.ls g.ls)) ∧ Below w'.heap.size w' w'') := fun w' h => specSameI la la' lc lc' f.ls g.ls w' (hR.out.2.1.below h) (hR'.out.2.1.below h) hs.out.2.1 hs'.out.2.1
  have B1 : Hid (Inss w ba f.body) := hR.out.2.2
  have B2 : Hid (Inss w ba' g.body) := hR'.out.2.2
  have hl1 : f.body.length ≤ 1048576 := hs.out.2.2.1
  have hl2 : g.body.length ≤ 1048576 := hs'.out.2.2.1
  clear hR hR' hs hs'
  obtain ⟨ps, res, ls, body⟩ := f
  obtain ⟨ps', res', ls', body'⟩ := g
  simp only at *
  obtain ⟨e1, h1⟩ : ∃ x, all2 sameI ps ps' = x := ⟨_, rfl⟩
  obtain ⟨e2, h2⟩ : ∃ x, (res == res') = x := ⟨_, rfl⟩
  obtain ⟨e3, h3⟩ : ∃ x, all2 sameI ls ls' = x := ⟨_, rfl⟩
  have HG : Hid (sameF ⟨ps, res, ls, body⟩ ⟨ps', res', ls', body'⟩ = (((e1 && e2) && e3) && all2 sameN body body')) := by
    unfold Hid sameF; simp only; rw [h1, h2, h3]
  rw [h1] at A1
  rw [h3] at A2
  clear h1 h3
  obtain ⟨z, hz⟩ : ∃ z, w.heap.size = z := ⟨_, rfl⟩
  obtain ⟨W0, hW0⟩ : ∃ W, (w.alloc (.cells #[.slice pa ps.length pc, .int .i64 res, .slice la ls.length lc, .slice ba body.length bc] 44)).alloc (.cells #[.slice pa' ps'.length pc', .int .i64 res', .slice la' ls'.length lc', .slice ba' body'.length bc'] 44) = W := ⟨_, rfl⟩
  have HB0 : Hid (Below w.heap.size w W0) := by unfold Hid; rw [← hW0]; exact ((Below.refl _ _).alloc (Nat.le_refl _) _).alloc (by simp) _
  have hx0 : W0.heap[z]? = some (.cells #[.slice pa ps.length pc, .int .i64 res, .slice la ls.length lc, .slice ba body.length bc] 44 (0, 0)) := by rw [← hW0, ← hz]; exact (Below.heap_alloc _ _ _ (by simp)).trans (heap_alloc_new _ _)
  have hy0 : W0.heap[z + 1]? = some (.cells #[.slice pa' ps'.length pc', .int .i64 res', .slice la' ls'.length lc', .slice ba' body'.length bc'] 44 (0, 0)) := by
    rw [← hW0, ← hz]
    have h := heap_alloc_new (w.alloc (.cells #[.slice pa ps.length pc, .int .i64 res, .slice la ls.length lc, .slice ba body.length bc] 44)) (.cells #[.slice pa' ps'.length pc', .int .i64 res', .slice la' ls'.length lc', .slice ba' body'.length bc'] 44)
    simpa using h
  have x0 := (cell_of_block hx0 0).trans rfl
  have y0 := (cell_of_block hy0 0).trans rfl
  go_enter Try.func42, Try.ntmps42
  go_wp2_with fail
  refine (A1.out W0 HB0.out).mono ?_
  rintro e w1 ⟨rfl, hb1⟩
  have HB1 : Hid (Below w.heap.size w w1) := bel_step HB0.out hb1
  have hx1 := (hb1.block z (lt_of_block hx0)).trans hx0
  have hy1 := (hb1.block (z + 1) (lt_of_block hy0)).trans hy0
  clear A1 hb1 hx0 hy0 x0 y0 HB0 hW0
  cases e1
  · clear h2
    go_wp2
    go_ret
    exact ⟨by rw [HG.out]; rfl, HB1.out⟩
  · have x1 := (cell_of_block hx1 1).trans rfl
    have y1 := (cell_of_block hy1 1).trans rfl
    have hne : (res != res') = !e2 := by unfold bne; rw [h2]
    clear h2
    cases e2
    · simp only [Bool.not_false] at hne
      go_wp2
      go_ret
      exact ⟨by rw [HG.out]; rfl, HB1.out⟩
    · simp only [Bool.not_true] at hne
      have x2 := (cell_of_block hx1 2).trans rfl
      have y2 := (cell_of_block hy1 2).trans rfl
      go_wp2_with fail
      refine (A2.out w1 HB1.out).mono ?_
      rintro e w2 ⟨rfl, hb2⟩
      have HB2 : Hid (Below w.heap.size w w2) := bel_step HB1.out hb2
      have hx2 := (hb2.block z (lt_of_block hx1)).trans hx1
      have hy2 := (hb2.block (z + 1) (lt_of_block hy1)).trans hy1
      clear A2 hb2 hx1 hy1 x1 y1 x2 y2 HB1 hne
      cases e3
      · go_wp2
        go_ret
        exact ⟨by rw [HG.out]; rfl, HB2.out⟩
      · have HG2 : Hid (sameF ⟨ps, res, ls, body⟩ ⟨ps', res', ls', body'⟩ = all2 sameN body body') := HG.out
        clear HG
        have x3 := (cell_of_block hx2 3).trans rfl
        have y3 := (cell_of_block hy2 3).trans rfl
        by_cases hn : body.length = body'.length
        · obtain ⟨n, hnn⟩ : ∃ n, body.length = n := ⟨_, rfl⟩
          have HN : Hid (body.length = n ∧ body'.length = n) := ⟨hnn, hn.symm.trans hnn⟩
          rw [← hn, hnn] at y3 hy2
          rw [hnn] at x3 hl1 hx2
          rw [← hn, hnn]
          clear hnn hn hl2
          have KX : ∀ wr, Below w2.heap.size w2 wr → wr.cell? ⟨z, 3, none⟩ = some (.slice ba n bc) := fun wr h => (h.cell (p := ⟨z, 3, none⟩) (lt_of_block hx2)).trans x3
          have KY : ∀ wr, Below w2.heap.size w2 wr → wr.cell? ⟨z + 1, 3, none⟩ = some (.slice ba' n bc') := fun wr h => (h.cell (p := ⟨z + 1, 3, none⟩) (lt_of_block hy2)).trans y3
          have HKX : Hid (∀ wr, Below w2.heap.size w2 wr → wr.cell? ⟨z, 3, none⟩ = some (.slice ba n bc)) := KX
          have HKY : Hid (∀ wr, Below w2.heap.size w2 wr → wr.cell? ⟨z + 1, 3, none⟩ = some (.slice ba' n bc')) := KY
          clear KX KY
          go_wp2
          clear x3 y3 hx2 hy2
          go_loopw [39] (fun i wr => ∃ k : Nat, k ≤ n ∧ i = .int .i64 k ∧ Hid (∀ j (h : j < body.length) (h' : j < body'.length), j < k → sameN body[j] body'[j] = true) ∧ Hid (Below w2.heap.size w2 wr)) (fun i _ => n - (intOf i).toNat)
          case atStart => exact ⟨0, by omega, rfl, fun j _ _ h => absurd h (by omega), Below.refl _ _⟩
          case round =>
            obtain ⟨k, hk, rfl, hg, hnx⟩ := hrel
            have X3 := HKX.out wr hnx.out
            have Y3 := HKY.out wr hnx.out
            by_cases hlt : k < n
            · have hkL : k < body.length := by have := HN.out; omega
              have hkM : k < body'.length := by have := HN.out; omega
              have hBr : Below w.heap.size w wr := bel_step HB2.out hnx.out
              obtain ⟨b, off, rfl, hb, hc⟩ := (B1.out.below hBr).at k hkL
              obtain ⟨b', off', rfl, hb', hd⟩ := (B2.out.below hBr).at k hkM
              have hno := all2_no sameN body body' k hkL hkM
              have hys : Hid (sameN body[k] body'[k] = true → ∀ j (h : j < body.length) (h' : j < body'.length), j < k + 1 → sameN body[j] body'[j] = true) := fun hx j h h' hj => by
                by_cases e : j = k
                · subst e; exact hx
                · exact hg.out j h h' (by omega)
              obtain ⟨x, hx⟩ : ∃ x, x = body[k] := ⟨_, rfl⟩
              obtain ⟨y, hy⟩ : ∃ y, y = body'[k] := ⟨_, rfl⟩
              rw [← hx] at hc hno hys
              rw [← hy] at hd hno hys
              clear hx hy hkL hkM hBr hb hb'
              have HNO : Hid (sameN x y = false → all2 sameN body body' = false) := hno
              clear hno
              obtain ⟨xo, xa⟩ := x
              obtain ⟨yo, ya⟩ := y
              simp only at hc hd
              obtain ⟨c0, c1⟩ := hc
              obtain ⟨d0, d1⟩ := hd
              obtain ⟨r, hr⟩ : ∃ r, sameN (xo, xa) (yo, ya) = r := ⟨_, rfl⟩
              have e1 := neqN xo xa yo ya
              rw [hr] at HNO hys e1
              clear hr
              cases r
              · go_wp2
                go_quiet (fail)
                go_wp2
                go_ret
                exact ⟨by rw [HG2.out, HNO.out (by trivial)]; rfl, below_drewN (bel_step HB2.out hnx.out) _⟩
              · go_wp2
                go_quiet (fail)
                go_wp2
                go_roundw
                case rel => exact ⟨k + 1, by omega, by go_num, hys.out (by trivial), below_drewN hnx.out _⟩
                case measure => simp [intOf]; omega
            · have hall : Hid (all2 sameN body body' = true) := all2_yes sameN body body' (HN.out.1.trans HN.out.2.symm) (fun j h h' => hg.out j h h' (by have := HN.out; omega))
              clear hg
              go_wp2
              go_ret
              exact ⟨by rw [HG2.out, hall.out]; rfl, bel_step HB2.out hnx.out⟩
        · have hr : Hid (all2 sameN body body' = false) := all2_len sameN body body' hn
          have hn' : ((body.length : Int) == (body'.length : Int)) = false := by simp; omega
          clear hn
          go_wp2
          go_ret
          exact ⟨by rw [HG2.out, hr.out]; rfl, HB2.out⟩

set_option maxRecDepth 100000 in
set_option maxHeartbeats 3200000 in
theorem implSameF (pa la ba pa' la' ba' : Option Addr) (pc lc bc pc' lc' bc' : Nat) (f g : Fun7) (w : World) (hR : Hid (FunRows w pa la ba f)) (hR' : Hid (FunRows w pa' la' ba' g)) (hs : Hid (smF f)) (hs' : Hid (smF g)) :
    Calls Try.prog 45 #[.agg #[.slice pa f.ps.length pc, .int .i64 f.res, .slice la f.ls.length lc, .slice ba f.body.length bc], .agg #[.slice pa' g.ps.length pc', .int .i64 g.res, .slice la' g.ls.length lc', .slice ba' g.body.length bc']] w fun e w' => e = .returned (.bool (sameF f g)) ∧ Below w.heap.size w w' := by
  have A1 : Hid (∀ w', Below w.heap.size w w' → Calls Try.prog 76 #[.slice pa f.ps.length pc, .slice pa' g.ps.length pc'] w' fun e w'' => e = .returned (.bool (all2 sameI f.ps g.ps)) ∧ Below w'.heap.size w' w'') := fun w' h => implSameI pa pa' pc pc' f.ps g.ps w' (hR.out.1.below h) (hR'.out.1.below h) hs.out.1 hs'.out.1
  have A2 : Hid (∀ w', Below w.heap.size w w' → Calls Try.prog 76 #[.slice la f.ls.length lc, .slice la' g.ls.length lc'] w' fun e w'' => e = .returned (.bool (all2 sameI f.ls g.ls)) ∧ Below w'.heap.size w' w'') := fun w' h => implSameI la la' lc lc' f.ls g.ls w' (hR.out.2.1.below h) (hR'.out.2.1.below h) hs.out.2.1 hs'.out.2.1
  have A3 : Hid (∀ w', Below w.heap.size w w' → Calls Try.prog 77 #[.slice ba f.body.length bc, .slice ba' g.body.length bc'] w' fun e w'' => e = .returned (.bool (all2 sameN f.body g.body)) ∧ Below w'.heap.size w' w'') := fun w' h => implSameN ba ba' bc bc' f.body g.body w' (hR.out.2.2.below h) (hR'.out.2.2.below h) hs.out.2.2.1 hs'.out.2.2.1
  clear hR hR' hs hs'
  obtain ⟨ps, res, ls, body⟩ := f
  obtain ⟨ps', res', ls', body'⟩ := g
  simp only at *
  obtain ⟨e1, h1⟩ : ∃ x, all2 sameI ps ps' = x := ⟨_, rfl⟩
  obtain ⟨e2, h2⟩ : ∃ x, (res == res') = x := ⟨_, rfl⟩
  obtain ⟨e3, h3⟩ : ∃ x, all2 sameI ls ls' = x := ⟨_, rfl⟩
  obtain ⟨e4, h4⟩ : ∃ x, all2 sameN body body' = x := ⟨_, rfl⟩
  have HG : Hid (sameF ⟨ps, res, ls, body⟩ ⟨ps', res', ls', body'⟩ = (((e1 && e2) && e3) && e4)) := by
    unfold Hid sameF; simp only; rw [h1, h2, h3, h4]
  rw [h1] at A1
  rw [h3] at A2
  rw [h4] at A3
  clear h1 h3 h4
  obtain ⟨z, hz⟩ : ∃ z, w.heap.size = z := ⟨_, rfl⟩
  obtain ⟨W0, hW0⟩ : ∃ W, (w.alloc (.cells #[.slice pa ps.length pc, .int .i64 res, .slice la ls.length lc, .slice ba body.length bc] 44)).alloc (.cells #[.slice pa' ps'.length pc', .int .i64 res', .slice la' ls'.length lc', .slice ba' body'.length bc'] 44) = W := ⟨_, rfl⟩
  have HB0 : Hid (Below w.heap.size w W0) := by unfold Hid; rw [← hW0]; exact ((Below.refl _ _).alloc (Nat.le_refl _) _).alloc (by simp) _
  have hx0 : W0.heap[z]? = some (.cells #[.slice pa ps.length pc, .int .i64 res, .slice la ls.length lc, .slice ba body.length bc] 44 (0, 0)) := by rw [← hW0, ← hz]; exact (Below.heap_alloc _ _ _ (by simp)).trans (heap_alloc_new _ _)
  have hy0 : W0.heap[z + 1]? = some (.cells #[.slice pa' ps'.length pc', .int .i64 res', .slice la' ls'.length lc', .slice ba' body'.length bc'] 44 (0, 0)) := by
    rw [← hW0, ← hz]
    have h := heap_alloc_new (w.alloc (.cells #[.slice pa ps.length pc, .int .i64 res, .slice la ls.length lc, .slice ba body.length bc] 44)) (.cells #[.slice pa' ps'.length pc', .int .i64 res', .slice la' ls'.length lc', .slice ba' body'.length bc'] 44)
    simpa using h
  have x0 := (cell_of_block hx0 0).trans rfl
  have y0 := (cell_of_block hy0 0).trans rfl
  have x1 := (cell_of_block hx0 1).trans rfl
  have y1 := (cell_of_block hy0 1).trans rfl
  cases e2
  · go_enter Try.func45, Try.ntmps45
    go_wp2
    go_ret
    exact ⟨by rw [HG.out, Bool.and_false]; rfl, HB0.out⟩
  · go_enter Try.func45, Try.ntmps45
    go_wp2_with fail
    refine (A1.out W0 HB0.out).mono ?_
    rintro e w1 ⟨rfl, hb1⟩
    have HB1 : Hid (Below w.heap.size w w1) := bel_step HB0.out hb1
    have hx1 := (hb1.block z (lt_of_block hx0)).trans hx0
    have hy1 := (hb1.block (z + 1) (lt_of_block hy0)).trans hy0
    clear A1 hb1 hx0 hy0 x0 y0 x1 y1 HB0 hW0 h2
    cases e1
    · go_wp2
      go_ret
      exact ⟨by rw [HG.out]; rfl, HB1.out⟩
    · have x2 := (cell_of_block hx1 2).trans rfl
      have y2 := (cell_of_block hy1 2).trans rfl
      go_wp2_with fail
      refine (A2.out w1 HB1.out).mono ?_
      rintro e w2 ⟨rfl, hb2⟩
      have HB2 : Hid (Below w.heap.size w w2) := bel_step HB1.out hb2
      have hx2 := (hb2.block z (lt_of_block hx1)).trans hx1
      have hy2 := (hb2.block (z + 1) (lt_of_block hy1)).trans hy1
      clear A2 hb2 hx1 hy1 x2 y2 HB1
      cases e3
      · go_wp2
        go_ret
        exact ⟨by rw [HG.out]; rfl, HB2.out⟩
      · have x3 := (cell_of_block hx2 3).trans rfl
        have y3 := (cell_of_block hy2 3).trans rfl
        go_wp2_with fail
        refine (A3.out w2 HB2.out).mono ?_
        rintro e w3 ⟨rfl, hb3⟩
        have HB3 : Hid (Below w.heap.size w w3) := bel_step HB2.out hb3
        clear A3 hb3 hx2 hy2 x3 y3 HB2
        cases e4
        all_goals
          go_wp2
          go_ret
          exact ⟨by rw [HG.out]; rfl, HB3.out⟩

end Go.Proofs.Ytokaljglaholnaa
