/-
  Modules with shape: the specification's side, whole.
-/
import Derived.Test.YtcgnefgdfgikdaaGreatM2
namespace Go.Proofs.YtcgnefgdfgikdaaGreat
open Go.ChangeShapes Go.WideShapes Go.ChangeAt Go.RowKit

theorem goodG_eq (ty : Int) (fx : Bool) (bits : Int) (t y : Bool) (ht : (decide (125 ≤ ty) && decide (ty ≤ 127)) = t) (hy : decide (4294967295 < bits) = y) : goodG ⟨ty, fx, bits⟩ = (t && (decide (ty = 126) || !y)) := by
  unfold goodG isT
  simp only
  rw [ht, ← hy]
  congr 2
  by_cases h : bits ≤ 4294967295
  · have : ¬ 4294967295 < bits := by omega
    simp [h, this]
  · have : 4294967295 < bits := by omega
    simp [h, this]

theorem pages_cases (fs : List Fun7) (gs : List Glo7) (mem : Bool) (pages most start : Int) (pg : Bool) (h : goodP ⟨fs, gs, mem, pages, most, start⟩ = pg) :
    (pg = false ∧ mem = true ∧ Hid ((decide (0 ≤ most) && decide (most ≤ 8)) = false)) ∨
    (pg = false ∧ mem = true ∧ Hid ((decide (0 ≤ most) && decide (most ≤ 8)) = true) ∧ Hid ((decide (0 ≤ pages) && decide (pages ≤ most)) = false)) ∨
    (pg = true ∧ mem = true ∧ Hid ((decide (0 ≤ most) && decide (most ≤ 8)) = true) ∧ Hid ((decide (0 ≤ pages) && decide (pages ≤ most)) = true)) ∨
    (pg = false ∧ mem = false ∧ (pages != 0) = true) ∨ (pg = false ∧ mem = false ∧ pages = 0 ∧ (most != 0) = true) ∨ (pg = true ∧ mem = false ∧ pages = 0 ∧ most = 0) := by
  unfold goodP at h
  simp only at h
  cases mem
  · simp only [Bool.false_eq_true, if_false] at h
    by_cases h1 : pages = 0
    · by_cases h2 : most = 0
      · right; right; right; right; right
        exact ⟨by rw [← h]; simp [h1, h2], rfl, h1, h2⟩
      · right; right; right; right; left
        exact ⟨by rw [← h]; simp [h2], rfl, h1, by simpa using h2⟩
    · right; right; right; left
      exact ⟨by rw [← h]; simp [h1], rfl, by simpa using h1⟩
  · simp only [if_true] at h
    unfold Hid
    rcases hb : (decide (0 ≤ most) && decide (most ≤ 8)) with _ | _
    · left; exact ⟨by rw [← h, hb]; rfl, rfl, rfl⟩
    · rcases hc : (decide (0 ≤ pages) && decide (pages ≤ most)) with _ | _
      · right; left; exact ⟨by rw [← h, hb, hc]; rfl, rfl, rfl, rfl⟩
      · right; right; left; exact ⟨by rw [← h, hb, hc]; rfl, rfl, rfl, rfl⟩
theorem start_cases (fs : List Fun7) (nf : Nat) (hnf : fs.length = nf) (gs : List Glo7) (mem : Bool) (pages most start : Int) (st : Bool) (h : goodS ⟨fs, gs, mem, pages, most, start⟩ = st) :
    (st = true ∧ start = -1) ∨ (st = false ∧ (start == -1) = false ∧ Hid ((decide (0 ≤ start) && decide (start ≤ (nf : Int) - 1)) = false)) ∨
    (∃ (k : Nat) (hk : k < fs.length), start = (k : Int) ∧ Hid ((decide (0 ≤ (k : Int)) && decide ((k : Int) ≤ (nf : Int) - 1)) = true) ∧ st = (decide (fs[k].ps.length = 0) && decide (fs[k].res = 64))) := by
  subst hnf
  unfold goodS at h
  simp only at h
  unfold Hid
  by_cases h1 : start = -1
  · left; exact ⟨by rw [← h]; simp [h1], h1⟩
  · have e1' : decide (start = -1) = false := by simpa using h1
    rw [e1', Bool.false_or] at h
    by_cases h2 : 0 ≤ start ∧ start < (fs.length : Int)
    · right; right
      obtain ⟨k, rfl⟩ : ∃ k : Nat, start = k := ⟨start.toNat, by omega⟩
      have hk : k < fs.length := by omega
      refine ⟨k, hk, rfl, by simp only [Bool.and_eq_true, decide_eq_true_eq]; omega, ?_⟩
      rw [decide_eq_true h2.1, Bool.true_and, Int.toNat_natCast, List.getElem?_eq_getElem hk] at h
      exact h.symm
    · right; left
      refine ⟨?_, by simpa using h1, by simp only [Bool.and_eq_false_iff, decide_eq_false_iff_not]; omega⟩
      rw [← h]
      by_cases h : 0 ≤ start
      · rw [List.getElem?_eq_none (by omega)]; simp
      · simp [h]

set_option maxRecDepth 100000 in
set_option maxHeartbeats 6400000 in
theorem specShapeM (l : Loc7) (M : Mod7) (w : World) (hM : Hid (ModAt w l M)) (hs : Hid (smM M)) :
    Calls Tryz.prog 9 #[modV l M] w fun e w' => e = .returned (.bool (shape M)) ∧ Below w.heap.size w w' := by
  obtain ⟨pg, hpg⟩ : ∃ x, goodP M = x := ⟨_, rfl⟩
  obtain ⟨st, hst⟩ : ∃ x, goodS M = x := ⟨_, rfl⟩
  obtain ⟨R, hRR⟩ : ∃ R, shape M = R := ⟨_, rfl⟩
  rw [hRR]
  unfold shape at hRR
  rw [hpg, hst] at hRR
  have hR := hRR.symm
  clear hRR
  obtain ⟨fa, fc, ga, gc⟩ := l
  obtain ⟨fs, gs, mem, pages, most, start⟩ := M
  unfold modV
  simp only at hR ⊢
  obtain ⟨nf, hnf⟩ : ∃ n, fs.length = n := ⟨_, rfl⟩
  obtain ⟨ng, hng⟩ : ∃ n, gs.length = n := ⟨_, rfl⟩
  rw [hnf, hng] at hR ⊢
  have HNF : Hid (fs.length = nf) := hnf
  have HNG : Hid (gs.length = ng) := hng
  have HPG : Hid (goodP ⟨fs, gs, mem, pages, most, start⟩ = pg) := hpg
  have HST : Hid (goodS ⟨fs, gs, mem, pages, most, start⟩ = st) := hst
  clear hnf hng hpg hst
  by_cases h1 : nf ≤ 10
  · by_cases h2 : ng ≤ 6
    · have g1 : ¬ (10 : Int) < (nf : Int) := by omega
      have g2 : ¬ (6 : Int) < (ng : Int) := by omega
      rw [decide_eq_true h1, decide_eq_true h2] at hR
      have HR : Hid (R = (((((true && true) && fs.all goodF) && gs.all goodG) && pg) && st)) := hR
      clear hR
      obtain ⟨W1, hW1⟩ : ∃ W, w.alloc (.cells #[.slice fa nf fc, .slice ga ng gc, .bool mem, .int .i64 pages, .int .i64 most, .int .i64 start] 26) = W := ⟨_, rfl⟩
      have hx1 : W1.heap[w.heap.size]? = some (.cells #[.slice fa nf fc, .slice ga ng gc, .bool mem, .int .i64 pages, .int .i64 most, .int .i64 start] 26 (0, 0)) := by rw [← hW1]; exact heap_alloc_new _ _
      have HB1 : Hid (Below w.heap.size w W1) := by unfold Hid; rw [← hW1]; exact (Below.refl _ _).alloc (Nat.le_refl _) _
      have HW1 : Hid (w.alloc (.cells #[.slice fa nf fc, .slice ga ng gc, .bool mem, .int .i64 pages, .int .i64 most, .int .i64 start] 26) = W1) := hW1
      clear hW1
      have hl1 := lt_of_block hx1
      go_enter Tryz.func9, Tryz.ntmps9
      go_wp2
      rw [HW1.out]
      clear g1 g2 HW1
      have HMF : Hid (Funs W1 fa fs) := hM.out.1.below HB1.out
      go_loopw [20] (fun i wr => ∃ k : Nat, k ≤ nf ∧ i = .int .i64 k ∧ Hid ((fs.take k).all goodF = true) ∧ Below W1.heap.size W1 wr) (fun i _ => nf - (intOf i).toNat)
      case atStart => exact ⟨0, by omega, rfl, by simp [Hid], Below.refl _ _⟩
      case round =>
        obtain ⟨k, hk, rfl, hg, hnx⟩ := hrel
        by_cases hlt : k < nf
        · have hkL : k < fs.length := by have := HNF.out; omega
          obtain ⟨b, off, rfl, hb, pa, pc, la, lc, ba, bc, c0, c1, c2, c3, hrow⟩ := HMF.out.at k hkL
          have ht := all_take goodF fs k hkL
          have hn := all_no goodF fs k hkL
          have hok := hs.out.2.2.1 fs[k] (List.getElem_mem _)
          obtain ⟨x, hx⟩ : ∃ x, x = fs[k] := ⟨_, rfl⟩
          rw [← hx] at c0 c1 c2 c3 ht hn hok hrow
          clear hx
          obtain ⟨r, hr⟩ : ∃ r, goodF x = r := ⟨_, rfl⟩
          rw [hr] at ht hn
          have F : Hid (∀ w', Below wr.heap.size wr w' → Calls Tryz.prog 18 #[.agg #[.slice pa x.ps.length pc, .int .i64 x.res, .slice la x.ls.length lc, .slice ba x.body.length bc]] w' fun e w'' => e = .returned (.bool r) ∧ Below w'.heap.size w' w'') := fun w' hb => by
            have h := specFun1 pa la ba pc lc bc x w' (hrow.out.below (bel_step hnx hb)) hok
            rw [hr] at h
            exact h
          have HT : Hid ((fs.take (k + 1)).all goodF = ((fs.take k).all goodF && r)) := ht
          have HN : Hid (r = false → fs.all goodF = false) := hn
          have d0 := (hnx.cell (p := ⟨b, off + k * 4, none⟩) (by exact hb)).trans c0
          have d1 := (hnx.cell (p := ⟨b, off + k * 4 + 1, none⟩) (by exact hb)).trans c1
          have d2 := (hnx.cell (p := ⟨b, off + k * 4 + 2, none⟩) (by exact hb)).trans c2
          have d3 := (hnx.cell (p := ⟨b, off + k * 4 + 3, none⟩) (by exact hb)).trans c3
          clear c0 c1 c2 c3 ht hn hr hok hrow
          go_wp2_with fail
          refine (F.out _ ((Below.refl _ _).alloc (Nat.le_refl _) _)).mono ?_
          rintro e w4 ⟨rfl, hb4⟩
          have HB4 : Hid (Below W1.heap.size W1 w4) := bel_step (bel_alloc hnx _) hb4
          clear hb4 F d0 d1 d2 d3
          cases r
          · go_wp2
            go_ret
            exact ⟨by rw [HR.out, HN.out (by trivial)]; simp, bel_step HB1.out HB4.out⟩
          · go_wp2
            go_roundw
            case rel => exact ⟨k + 1, by omega, by go_num, by unfold Hid; rw [HT.out, hg.out]; rfl, HB4.out⟩
            case measure => simp [intOf]; omega
        · have e : fs.take k = fs := List.take_of_length_le (by have := HNF.out; omega)
          have hf' : Hid (fs.all goodF = true) := by have h := hg.out; rw [e] at h; exact h
          clear hg e
          have hx2 := (hnx.block w.heap.size hl1).trans hx1
          have hl2 := lt_of_block hx2
          have x1 := (cell_of_block hx2 1).trans rfl
          have HB2 : Hid (Below w.heap.size w wr) := bel_step HB1.out hnx
          clear HMF hx1 hl1
          go_wp2
          clear x1
          obtain ⟨W2, hW2⟩ : ∃ W, W = wr := ⟨_, rfl⟩
          rw [← hW2] at HB2 hx2 hl2 ⊢
          clear hW2 hnx
          have HMG : Hid (Glos W2 ga gs) := hM.out.2.below HB2.out
          go_loopw [31] (fun i wr => ∃ k : Nat, k ≤ ng ∧ i = .int .i64 k ∧ Hid ((gs.take k).all goodG = true) ∧ Below W2.heap.size W2 wr) (fun i _ => ng - (intOf i).toNat)
          case atStart => exact ⟨0, by omega, rfl, by simp [Hid], Below.refl _ _⟩
          case round =>
            obtain ⟨k, hk, rfl, hg, hnx⟩ := hrel
            by_cases hlt : k < ng
            · have hkL : k < gs.length := by have := HNG.out; omega
              obtain ⟨b, off, rfl, hb, c0, c1, c2⟩ := HMG.out.at k hkL
              have ht := all_take goodG gs k hkL
              have hn := all_no goodG gs k hkL
              obtain ⟨x, hx⟩ : ∃ x, x = gs[k] := ⟨_, rfl⟩
              rw [← hx] at c0 c1 c2 ht hn
              clear hx
              obtain ⟨ty, fx, bits⟩ := x
              simp only at c0 c1 c2
              obtain ⟨t, htt⟩ : ∃ t, (decide (125 ≤ ty) && decide (ty ≤ 127)) = t := ⟨_, rfl⟩
              obtain ⟨y, hy⟩ : ∃ y, decide (4294967295 < bits) = y := ⟨_, rfl⟩
              rw [goodG_eq ty fx bits t y htt hy] at ht hn
              have H4 : Hid ((decide (125 ≤ ty) && decide (ty ≤ 127)) = t) := htt
              have HT : Hid ((gs.take (k + 1)).all goodG = ((gs.take k).all goodG && (t && (decide (ty = 126) || !y)))) := ht
              have HN : Hid ((t && (decide (ty = 126) || !y)) = false → gs.all goodG = false) := hn
              have d0 := (hnx.cell (p := ⟨b, off + k * 3, none⟩) (by exact hb)).trans c0
              have d1 := (hnx.cell (p := ⟨b, off + k * 3 + 1, none⟩) (by exact hb)).trans c1
              have d2 := (hnx.cell (p := ⟨b, off + k * 3 + 2, none⟩) (by exact hb)).trans c2
              clear c0 c1 c2 ht hn htt
              cases t
              · clear hy
                go_wp2_with (go_at_call 19; refine (specType _ _ (by assumption) _).mono ?_; rintro e w1 ⟨rfl, hw⟩; obtain rfl := hw.symm)
                go_ret
                exact ⟨by rw [HR.out, HN.out rfl]; simp, bel_step HB2.out (bel_alloc hnx _)⟩
              · by_cases h3 : ty = 126
                · subst h3
                  clear hy
                  go_wp2_with (go_at_call 19; refine (specType _ _ (by assumption) _).mono ?_; rintro e w1 ⟨rfl, hw⟩; obtain rfl := hw.symm)
                  go_roundw
                  case rel => exact ⟨k + 1, by omega, by go_num, by unfold Hid; rw [HT.out, hg.out]; rfl, bel_alloc hnx _⟩
                  case measure => simp [intOf]; omega
                · have e3 : (ty != 126) = true := by simpa using h3
                  have HD : Hid (decide (ty = 126) = false) := by unfold Hid; simpa using h3
                  clear h3
                  cases y
                  · go_wp2_with (go_at_call 19; refine (specType _ _ (by assumption) _).mono ?_; rintro e w1 ⟨rfl, hw⟩; obtain rfl := hw.symm)
                    go_roundw
                    case rel => exact ⟨k + 1, by omega, by go_num, by unfold Hid; rw [HT.out, hg.out, HD.out]; rfl, bel_alloc hnx _⟩
                    case measure => simp [intOf]; omega
                  · go_wp2_with (go_at_call 19; refine (specType _ _ (by assumption) _).mono ?_; rintro e w1 ⟨rfl, hw⟩; obtain rfl := hw.symm)
                    go_ret
                    exact ⟨by rw [HR.out, HN.out (by rw [HD.out]; rfl)]; simp, bel_step HB2.out (bel_alloc hnx _)⟩
            · have e : gs.take k = gs := List.take_of_length_le (by have := HNG.out; omega)
              have hg' : Hid (gs.all goodG = true) := by have h := hg.out; rw [e] at h; exact h
              clear hg e
              have hx3 := (hnx.block w.heap.size hl2).trans hx2
              have HB3 : Hid (Below w.heap.size w wr) := bel_step HB2.out hnx
              have HR2 : Hid (R = (pg && st)) := by unfold Hid; rw [HR.out, hf'.out, hg'.out]; rfl
              have x0 := (cell_of_block hx3 0).trans rfl
              have x2 := (cell_of_block hx3 2).trans rfl
              have x3 := (cell_of_block hx3 3).trans rfl
              have x4 := (cell_of_block hx3 4).trans rfl
              have x5 := (cell_of_block hx3 5).trans rfl
              have HMF : Hid (Funs wr fa fs) := hM.out.1.below HB3.out
              clear HR hf' hg' hx2 hl2 HB2 HMG hx3 hnx hk
              have hpc := pages_cases fs gs mem pages most start pg HPG.out
              have hsc := start_cases fs nf HNF.out gs mem pages most start st HST.out
              clear HPG HST
              rcases hsc with ⟨rfl, rfl⟩ | ⟨rfl, e1, H3⟩ | ⟨k, hkf, rfl, H3, hst⟩
              · rcases hpc with ⟨rfl, rfl, H1⟩ | ⟨rfl, rfl, H1, H2⟩ | ⟨rfl, rfl, H1, H2⟩ | ⟨rfl, rfl, g1⟩ | ⟨rfl, rfl, rfl, g1⟩ | ⟨rfl, rfl, rfl, rfl⟩
                all_goals
                  go_wp2_with (go_at_call 16; refine (in_eq _ _ _ _ (by assumption) _).mono ?_; rintro e w1 ⟨rfl, hw⟩; obtain rfl := hw.symm)
                  go_ret
                  exact ⟨by rw [HR2.out]; rfl, HB3.out⟩
              · rcases hpc with ⟨rfl, rfl, H1⟩ | ⟨rfl, rfl, H1, H2⟩ | ⟨rfl, rfl, H1, H2⟩ | ⟨rfl, rfl, g1⟩ | ⟨rfl, rfl, rfl, g1⟩ | ⟨rfl, rfl, rfl, rfl⟩
                all_goals
                  go_wp2_with (go_at_call 16; refine (in_eq _ _ _ _ (by assumption) _).mono ?_; rintro e w1 ⟨rfl, hw⟩; obtain rfl := hw.symm)
                  go_ret
                  exact ⟨by rw [HR2.out]; rfl, HB3.out⟩
              · obtain ⟨b, off, rfl, hb, pa, pc, la, lc, ba, bc, c0, c1, c2, c3, _⟩ := HMF.out.at k hkf
                obtain ⟨f, hf⟩ : ∃ f, fs[k] = f := ⟨_, rfl⟩
                rw [hf] at hst c0 c1 c2 c3
                obtain ⟨ps, res, ls, body⟩ := f
                simp only at hst c0 c1 c2 c3
                obtain ⟨np, hnp⟩ : ∃ np, ps.length = np := ⟨_, rfl⟩
                rw [hnp] at hst c0
                have hkn : k < nf := by have := HNF.out; omega
                clear hnp hf HMF c2 c3
                by_cases h3 : np = 0
                · subst h3
                  obtain ⟨y, hy⟩ : ∃ y, (res == 64) = y := ⟨_, rfl⟩
                  obtain rfl : st = y := by rw [hst, ← hy]; by_cases h : res = 64 <;> simp [h]
                  clear hst
                  rcases hpc with ⟨rfl, rfl, H1⟩ | ⟨rfl, rfl, H1, H2⟩ | ⟨rfl, rfl, H1, H2⟩ | ⟨rfl, rfl, g1⟩ | ⟨rfl, rfl, rfl, g1⟩ | ⟨rfl, rfl, rfl, rfl⟩
                  all_goals
                    go_wp2_with (go_at_call 16; refine (in_eq _ _ _ _ (by assumption) _).mono ?_; rintro e w1 ⟨rfl, hw⟩; obtain rfl := hw.symm)
                    go_ret
                    exact ⟨by rw [HR2.out]; rfl, HB3.out⟩
                · obtain rfl : st = false := by rw [hst]; simp [h3]
                  have e3 : ((np : Int) == 0) = false := by simpa using h3
                  clear hst h3
                  rcases hpc with ⟨rfl, rfl, H1⟩ | ⟨rfl, rfl, H1, H2⟩ | ⟨rfl, rfl, H1, H2⟩ | ⟨rfl, rfl, g1⟩ | ⟨rfl, rfl, rfl, g1⟩ | ⟨rfl, rfl, rfl, rfl⟩
                  all_goals
                    go_wp2_with (go_at_call 16; refine (in_eq _ _ _ _ (by assumption) _).mono ?_; rintro e w1 ⟨rfl, hw⟩; obtain rfl := hw.symm)
                    go_ret
                    exact ⟨by rw [HR2.out]; rfl, HB3.out⟩
    · have g1 : ¬ (10 : Int) < (nf : Int) := by omega
      have g2 : (6 : Int) < (ng : Int) := by omega
      rw [decide_eq_false h2] at hR
      obtain rfl : R = false := by rw [hR]; simp
      clear hR
      go_enter Tryz.func9, Tryz.ntmps9
      go_wp2
      go_ret
      exact ⟨rfl, (Below.refl _ _).alloc (Nat.le_refl _) _⟩
  · have g1 : (10 : Int) < (nf : Int) := by omega
    rw [decide_eq_false h1] at hR
    obtain rfl : R = false := by rw [hR]; simp
    clear hR
    go_enter Tryz.func9, Tryz.ntmps9
    go_wp2
    go_ret
    exact ⟨rfl, (Below.refl _ _).alloc (Nat.le_refl _) _⟩

end Go.Proofs.YtcgnefgdfgikdaaGreat
