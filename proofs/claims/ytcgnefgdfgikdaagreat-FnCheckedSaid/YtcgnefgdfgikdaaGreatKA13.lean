/-
  Modules with shape: the program's side.
-/
import Derived.Test.YtcgnefgdfgikdaaGreatM2
namespace Go.Proofs.YtcgnefgdfgikdaaGreat
open Go.ChangeShapes Go.WideShapes Go.ChangeAt Go.RowKit

set_option maxRecDepth 100000 in
set_option maxHeartbeats 1600000 in
theorem implPages (l : Loc7) (M : Mod7) (w : World) :
    Calls Tryz.prog 20 #[modV l M] w fun e w' => e = .returned (.bool (goodP M)) ∧ Below w.heap.size w w' := by
  obtain ⟨fa, fc, ga, gc⟩ := l
  obtain ⟨fs, gs, mem, pages, most, start⟩ := M
  unfold modV
  obtain ⟨r, hr⟩ : ∃ r, goodP ⟨fs, gs, mem, pages, most, start⟩ = r := ⟨_, rfl⟩
  rw [hr]
  unfold goodP at hr
  simp only at hr ⊢
  cases mem
  · simp only [Bool.false_eq_true, if_false] at hr
    by_cases h1 : pages = 0
    · subst h1
      obtain ⟨y, hy⟩ : ∃ y, (most == 0) = y := ⟨_, rfl⟩
      obtain rfl : r = y := by rw [← hy, ← hr]; by_cases h : most = 0 <;> simp [h]
      clear hr
      go_enter Tryz.func20, Tryz.ntmps20
      go_wp2
      go_ret
      exact ⟨rfl, (Below.refl _ _).alloc (Nat.le_refl _) _⟩
    · have h2 : (pages == 0) = false := by simpa using h1
      obtain rfl : r = false := by rw [← hr]; simp [h1]
      clear h1 hr
      go_enter Tryz.func20, Tryz.ntmps20
      go_wp2
      go_ret
      exact ⟨rfl, (Below.refl _ _).alloc (Nat.le_refl _) _⟩
  · simp only [if_true] at hr
    by_cases h1 : 0 ≤ pages
    · by_cases h2 : pages ≤ most
      · by_cases h3 : most ≤ 8
        · have e3 : decide (most ≤ 8) = true := by simpa using h3
          obtain rfl : r = true := by rw [← hr]; simp [h1, h2, h3]; omega
          clear hr
          go_enter Tryz.func20, Tryz.ntmps20
          go_wp2
          go_ret
          exact ⟨rfl, (Below.refl _ _).alloc (Nat.le_refl _) _⟩
        · have e3 : decide (most ≤ 8) = false := by simpa using h3
          obtain rfl : r = false := by rw [← hr]; simp [h3]
          clear hr
          go_enter Tryz.func20, Tryz.ntmps20
          go_wp2
          go_ret
          exact ⟨rfl, (Below.refl _ _).alloc (Nat.le_refl _) _⟩
      · obtain rfl : r = false := by rw [← hr]; simp [h2]
        clear hr
        go_enter Tryz.func20, Tryz.ntmps20
        go_wp2
        go_ret
        exact ⟨rfl, (Below.refl _ _).alloc (Nat.le_refl _) _⟩
    · obtain rfl : r = false := by rw [← hr]; simp [h1]
      clear hr
      go_enter Tryz.func20, Tryz.ntmps20
      go_wp2
      go_ret
      exact ⟨rfl, (Below.refl _ _).alloc (Nat.le_refl _) _⟩

set_option maxRecDepth 100000 in
set_option maxHeartbeats 1600000 in
theorem implHas (l : Loc7) (M : Mod7) (k : Int) (w : World) :
    Calls Tryz.prog 14 #[modV l M, .int .i64 k] w fun e w' => e = .returned (.bool (decide (0 ≤ k) && decide (k < (M.fs.length : Int)))) ∧ Below w.heap.size w w' := by
  obtain ⟨fa, fc, ga, gc⟩ := l
  obtain ⟨fs, gs, mem, pages, most, start⟩ := M
  unfold modV
  simp only
  obtain ⟨n, hn⟩ : ∃ n, fs.length = n := ⟨_, rfl⟩
  rw [hn]
  clear hn
  by_cases h1 : 0 ≤ k
  · obtain ⟨y, hy⟩ : ∃ y, decide (k < (n : Int)) = y := ⟨_, rfl⟩
    rw [decide_eq_true h1, hy, Bool.true_and]
    go_enter Tryz.func14, Tryz.ntmps14
    go_wp2
    go_ret
    exact ⟨rfl, (Below.refl _ _).alloc (Nat.le_refl _) _⟩
  · rw [decide_eq_false h1, Bool.false_and]
    go_enter Tryz.func14, Tryz.ntmps14
    go_wp2
    go_ret
    exact ⟨rfl, (Below.refl _ _).alloc (Nat.le_refl _) _⟩

set_option maxRecDepth 100000 in
set_option maxHeartbeats 1600000 in
theorem implStart (l : Loc7) (M : Mod7) (w : World) (hM : Hid (ModAt w l M)) :
    Calls Tryz.prog 21 #[modV l M] w fun e w' => e = .returned (.bool (goodS M)) ∧ Below w.heap.size w w' := by
  have hH : ∀ w, Calls Tryz.prog 14 #[modV l M, .int .i64 M.start] w fun e w' => e = .returned (.bool (decide (0 ≤ M.start) && decide (M.start < (M.fs.length : Int)))) ∧ Below w.heap.size w w' := fun w => implHas l M M.start w
  obtain ⟨fa, fc, ga, gc⟩ := l
  obtain ⟨fs, gs, mem, pages, most, start⟩ := M
  unfold modV at hH ⊢
  obtain ⟨R, hR⟩ : ∃ R, goodS ⟨fs, gs, mem, pages, most, start⟩ = R := ⟨_, rfl⟩
  rw [hR]
  unfold goodS at hR
  simp only at hH hR ⊢
  by_cases h1 : start = -1
  · subst h1
    obtain rfl : R = true := by rw [← hR]; simp
    clear hR
    go_enter Tryz.func21, Tryz.ntmps21
    go_wp2
    go_ret
    exact ⟨rfl, (Below.refl _ _).alloc (Nat.le_refl _) _⟩
  · have e1 : (start == -1) = false := by simpa using h1
    have e1' : decide (start = -1) = false := by simpa using h1
    rw [e1', Bool.false_or] at hR
    clear h1 e1'
    by_cases h2 : 0 ≤ start ∧ start < (fs.length : Int)
    · rw [decide_eq_true h2.1, decide_eq_true h2.2] at hH
      obtain ⟨k, rfl⟩ : ∃ k : Nat, start = k := ⟨start.toNat, by omega⟩
      have hk : k < fs.length := by omega
      rw [decide_eq_true h2.1, Bool.true_and, Int.toNat_natCast, List.getElem?_eq_getElem hk] at hR
      simp only at hR
      have hc := hM.out.1
      obtain ⟨b, off, rfl, hb, pa, pc, la, lc, ba, bc, c0, c1, c2, c3, _⟩ := hc.at k hk
      simp only at c0 c1 c2 c3 hb
      obtain ⟨f, hf⟩ : ∃ f, fs[k] = f := ⟨_, rfl⟩
      rw [hf] at hR c0 c1 c2 c3
      clear hf
      obtain ⟨n, hn⟩ : ∃ n, fs.length = n := ⟨_, rfl⟩
      rw [hn] at hH hk ⊢
      clear hn h2 hM hc
      obtain ⟨ps, res, ls, body⟩ := f
      simp only at hR c0 c1 c2 c3
      obtain ⟨np, hnp⟩ : ∃ np, ps.length = np := ⟨_, rfl⟩
      rw [hnp] at hR c0
      clear hnp
      go_enter Tryz.func21, Tryz.ntmps21
      go_wp2_with fail
      refine (hH _).mono ?_
      rintro e w1 ⟨rfl, hb1⟩
      have HB1 : Hid (Below w.heap.size w w1) := bel_step ((Below.refl _ _).alloc (Nat.le_refl _) _) hb1
      have hx1 := (hb1.block w.heap.size (by simp)).trans (heap_alloc_new _ _)
      have x0 := (cell_of_block hx1 0).trans rfl
      have x5 := (cell_of_block hx1 5).trans rfl
      have d0 := (HB1.out.cell (p := ⟨b, off + k * 4, none⟩) hb).trans c0
      have d1 := (HB1.out.cell (p := ⟨b, off + k * 4 + 1, none⟩) hb).trans c1
      have d2 := (HB1.out.cell (p := ⟨b, off + k * 4 + 2, none⟩) hb).trans c2
      have d3 := (HB1.out.cell (p := ⟨b, off + k * 4 + 3, none⟩) hb).trans c3
      clear hH hb1 c0 c1 c2 c3 hx1
      by_cases h3 : np = 0
      · subst h3
        obtain ⟨y, hy⟩ : ∃ y, (res == 64) = y := ⟨_, rfl⟩
        obtain rfl : R = y := by rw [← hR, ← hy]; by_cases h : res = 64 <;> simp [h]
        clear hR
        go_wp2
        go_ret
        exact ⟨rfl, bel_alloc HB1.out _⟩
      · obtain rfl : R = false := by rw [← hR]; simp [h3]
        have e3 : ((np : Int) == 0) = false := by simpa using h3
        clear hR h3
        go_wp2
        go_ret
        exact ⟨rfl, bel_alloc HB1.out _⟩
    · have e2 : (decide (0 ≤ start) && decide (start < (fs.length : Int))) = false := by
        simp only [Bool.and_eq_false_iff, decide_eq_false_iff_not]; omega
      rw [e2] at hH
      obtain rfl : R = false := by
        rw [← hR]
        by_cases h : 0 ≤ start
        · rw [List.getElem?_eq_none (by omega)]; simp
        · simp [h]
      clear hR h2 e2
      go_enter Tryz.func21, Tryz.ntmps21
      go_wp2_with fail
      refine (hH _).mono ?_
      rintro e w1 ⟨rfl, hb1⟩
      have HB1 : Hid (Below w.heap.size w w1) := bel_step ((Below.refl _ _).alloc (Nat.le_refl _) _) hb1
      clear hH hb1
      go_wp2
      go_ret
      exact ⟨rfl, HB1.out⟩

set_option maxRecDepth 100000 in
set_option maxHeartbeats 1600000 in
theorem implFits (g : Glo7) (hg : okG g) (w : World) :
    Calls Tryz.prog 22 #[.int .i64 g.ty, .int .u64 g.bits] w fun e w' => e = .returned (.bool (goodG g)) ∧ Below w.heap.size w w' := by
  obtain ⟨ty, fx, bits⟩ := g
  obtain ⟨g0, g1⟩ := hg
  simp only at g0 g1 ⊢
  have I := isType_eq ty
  have C := cut32 bits
  obtain ⟨R, hR⟩ : ∃ R, goodG ⟨ty, fx, bits⟩ = R := ⟨_, rfl⟩
  rw [hR]
  unfold goodG isT at hR
  simp only at hR
  by_cases h1 : ty = 126
  · subst h1
    obtain rfl : R = true := by rw [← hR]; rfl
    clear hR
    go_enter Tryz.func22, Tryz.ntmps22
    go_wp2
    go_ret
    exact ⟨rfl, Below.refl _ _⟩
  · have e1 : (ty == 126) = false := by simpa using h1
    have e1' : decide (ty = 126) = false := by simpa using h1
    rw [e1', Bool.false_or] at hR
    clear h1 e1'
    obtain ⟨t, ht⟩ : ∃ t, (decide (125 ≤ ty) && decide (ty ≤ 127)) = t := ⟨_, rfl⟩
    rw [ht] at I hR
    clear ht
    cases t
    · obtain rfl : R = false := by rw [← hR]; rfl
      clear hR
      go_enter Tryz.func22, Tryz.ntmps22
      go_wp2_with (go_at_call 38; refine (I _).mono ?_; rintro e w1 ⟨rfl, hw⟩; obtain rfl := hw.symm; clear I)
      go_ret
      exact ⟨rfl, Below.refl _ _⟩
    · obtain ⟨y, hy⟩ : ∃ y, (bits % 4294967296 == bits) = y := ⟨_, rfl⟩
      obtain rfl : R = y := by
        rw [← hR, ← hy, Bool.true_and]
        by_cases h : bits ≤ 4294967295
        · have : bits % 4294967296 = bits := by omega
          simp [h, this]
        · have : ¬ bits % 4294967296 = bits := by omega
          simp [h, this]
      clear hR
      go_enter Tryz.func22, Tryz.ntmps22
      go_wp2_with (first | (go_at_call 38; refine (I _).mono ?_; rintro e w1 ⟨rfl, hw⟩; obtain rfl := hw.symm; clear I) | (go_at_call 39; refine (C _).mono ?_; rintro e w2 ⟨rfl, hw⟩; obtain rfl := hw.symm; clear C))
      go_ret
      exact ⟨rfl, Below.refl _ _⟩

end Go.Proofs.YtcgnefgdfgikdaaGreat

namespace Go.Proofs.YtcgnefgdfgikdaaGreat
open Go.ChangeShapes Go.WideShapes Go.ChangeAt Go.RowKit

set_option maxRecDepth 100000 in
set_option maxHeartbeats 3200000 in
theorem implShape (l : Loc7) (M : Mod7) (w : World) (hM : Hid (ModAt w l M)) (hs : Hid (smM M)) :
    Calls Tryz.prog 10 #[modV l M] w fun e w' => e = .returned (.bool (shape M)) ∧ Below w.heap.size w w' := by
  have P := implPages l M
  have S : Hid (∀ w', Below w.heap.size w w' → Calls Tryz.prog 21 #[modV l M] w' fun e w'' => e = .returned (.bool (goodS M)) ∧ Below w'.heap.size w' w'') := fun w' hb => implStart l M w' (hM.out.below hb)
  obtain ⟨pg, hpg⟩ : ∃ x, goodP M = x := ⟨_, rfl⟩
  obtain ⟨st, hst⟩ : ∃ x, goodS M = x := ⟨_, rfl⟩
  have HR : Hid (shape M = (((((decide (M.fs.length ≤ 10) && decide (M.gs.length ≤ 6)) && M.fs.all goodF) && M.gs.all goodG) && pg) && st)) := by unfold Hid shape; rw [hpg, hst]
  rw [hpg] at P
  rw [hst] at S
  clear hpg hst
  obtain ⟨R, hRR⟩ : ∃ R, shape M = R := ⟨_, rfl⟩
  rw [hRR]
  have hR := HR.out
  rw [hRR] at hR
  clear hRR HR
  obtain ⟨fa, fc, ga, gc⟩ := l
  obtain ⟨fs, gs, mem, pages, most, start⟩ := M
  unfold modV at P S ⊢
  simp only at P S hR ⊢
  obtain ⟨nf, hnf⟩ : ∃ n, fs.length = n := ⟨_, rfl⟩
  obtain ⟨ng, hng⟩ : ∃ n, gs.length = n := ⟨_, rfl⟩
  rw [hnf, hng] at P S hR ⊢
  have HNF : Hid (fs.length = nf) := hnf
  have HNG : Hid (gs.length = ng) := hng
  clear hnf hng
  by_cases h1 : nf ≤ 10
  · by_cases h2 : ng ≤ 6
    · have g1 : ¬ (10 : Int) < (nf : Int) := by omega
      have g2 : ¬ (6 : Int) < (ng : Int) := by omega
      rw [decide_eq_true h1, decide_eq_true h2] at hR
      have HR : Hid (R = (((((true && true) && fs.all goodF) && gs.all goodG) && pg) && st)) := hR
      clear hR
      go_enter Tryz.func10, Tryz.ntmps10
      go_wp2_with fail
      refine (P _).mono ?_
      rintro e w1 ⟨rfl, hb1⟩
      have HB1 : Hid (Below w.heap.size w w1) := bel_step ((Below.refl _ _).alloc (Nat.le_refl _) _) hb1
      have hx1 := (hb1.block w.heap.size (by simp)).trans (heap_alloc_new _ _)
      have hl1 := lt_of_block hx1
      clear hb1 P
      cases pg
      · clear g1 g2
        go_wp2
        go_ret
        exact ⟨by rw [HR.out, Bool.and_false]; rfl, HB1.out⟩
      have x0 := (cell_of_block hx1 0).trans rfl
      have x1 := (cell_of_block hx1 1).trans rfl
      have x2 := (cell_of_block hx1 2).trans rfl
      have x3 := (cell_of_block hx1 3).trans rfl
      have x4 := (cell_of_block hx1 4).trans rfl
      have x5 := (cell_of_block hx1 5).trans rfl
      clear g1 g2
      go_wp2_with fail
      refine (S.out w1 HB1.out).mono ?_
      rintro e w2 ⟨rfl, hb2⟩
      have HB2 : Hid (Below w.heap.size w w2) := bel_step HB1.out hb2
      have hx2 := (hb2.block w.heap.size hl1).trans hx1
      have hl2 := lt_of_block hx2
      clear hb2 S HB1 hx1 x0 x1 x2 x3 x4 x5 hl1
      cases st
      · go_wp2
        go_ret
        exact ⟨by rw [HR.out, Bool.and_false]; rfl, HB2.out⟩
      have x1 := (cell_of_block hx2 1).trans rfl
      have HMG : Hid (Glos w2 ga gs) := hM.out.2.below HB2.out
      have HMF : Hid (Funs w2 fa fs) := hM.out.1.below HB2.out
      go_wp2
      clear x1
      go_loopw [30] (fun i wr => ∃ k : Nat, k ≤ ng ∧ i = .int .i64 k ∧ Hid ((gs.take k).all goodG = true) ∧ Below w2.heap.size w2 wr) (fun i _ => ng - (intOf i).toNat)
      case atStart => exact ⟨0, by omega, rfl, by simp [Hid], Below.refl _ _⟩
      case round =>
        obtain ⟨k, hk, rfl, hg, hnx⟩ := hrel
        by_cases hlt : k < ng
        · have hkL : k < gs.length := by have := HNG.out; omega
          obtain ⟨b, off, rfl, hb, c0, c1, c2⟩ := HMG.out.at k hkL
          have ht := all_take goodG gs k hkL
          have hn := all_no goodG gs k hkL
          have hok := hs.out.2.2.2 gs[k] (List.getElem_mem _)
          obtain ⟨x, hx⟩ : ∃ x, x = gs[k] := ⟨_, rfl⟩
          rw [← hx] at c0 c1 c2 ht hn hok
          clear hx
          have F := implFits x hok
          obtain ⟨r, hr⟩ : ∃ r, goodG x = r := ⟨_, rfl⟩
          rw [hr] at ht hn F
          have HT : Hid ((gs.take (k + 1)).all goodG = ((gs.take k).all goodG && r)) := ht
          have HN : Hid (r = false → gs.all goodG = false) := hn
          have d0 := (hnx.cell (p := ⟨b, off + k * 3, none⟩) (by exact hb)).trans c0
          have d1 := (hnx.cell (p := ⟨b, off + k * 3 + 1, none⟩) (by exact hb)).trans c1
          have d2 := (hnx.cell (p := ⟨b, off + k * 3 + 2, none⟩) (by exact hb)).trans c2
          clear c0 c1 c2 ht hn hr hok
          go_wp2_with fail
          refine (F _).mono ?_
          rintro e w3 ⟨rfl, hb3⟩
          have HB3 : Hid (Below w2.heap.size w2 w3) := bel_step (bel_alloc hnx _) hb3
          clear hb3 F d0 d1 d2
          cases r
          · go_wp2
            go_ret
            exact ⟨by rw [HR.out, HN.out (by trivial)]; simp, bel_step HB2.out HB3.out⟩
          · go_wp2
            go_roundw
            case rel => exact ⟨k + 1, by omega, by go_num, by unfold Hid; rw [HT.out, hg.out]; rfl, HB3.out⟩
            case measure => simp [intOf]; omega
        · have e : gs.take k = gs := List.take_of_length_le (by have := HNG.out; omega)
          have hg' : Hid (gs.all goodG = true) := by have h := hg.out; rw [e] at h; exact h
          clear hg e
          have hx3 := (hnx.block w.heap.size hl2).trans hx2
          have x0 := (cell_of_block hx3 0).trans rfl
          obtain ⟨W3, hW3⟩ : ∃ W, wr = W := ⟨_, rfl⟩
          have HB3 : Hid (Below w.heap.size w wr) := bel_step HB2.out hnx
          have HMF3 : Hid (Funs wr fa fs) := HMF.out.below hnx
          clear HMF HMG hx2 hx3 hW3
          go_wp2
          clear x0
          obtain ⟨W3, hW3⟩ : ∃ W, W = wr := ⟨_, rfl⟩
          rw [← hW3] at HB3 HMF3 ⊢
          clear hW3 hnx
          go_loopw [44] (fun i wr => ∃ k : Nat, k ≤ nf ∧ i = .int .i64 k ∧ Hid ((fs.take k).all goodF = true) ∧ Below W3.heap.size W3 wr) (fun i _ => nf - (intOf i).toNat)
          case atStart => exact ⟨0, by omega, rfl, by simp [Hid], Below.refl _ _⟩
          case round =>
            obtain ⟨k, hk, rfl, hg, hnx⟩ := hrel
            by_cases hlt : k < nf
            · have hkL : k < fs.length := by have := HNF.out; omega
              obtain ⟨b, off, rfl, hb, pa, pc, la, lc, ba, bc, c0, c1, c2, c3, hrow⟩ := HMF3.out.at k hkL
              have ht := all_take goodF fs k hkL
              have hn := all_no goodF fs k hkL
              have hok := hs.out.2.2.1 fs[k] (List.getElem_mem _)
              obtain ⟨x, hx⟩ : ∃ x, x = fs[k] := ⟨_, rfl⟩
              rw [← hx] at c0 c1 c2 c3 ht hn hok hrow
              clear hx
              obtain ⟨r, hr⟩ : ∃ r, goodF x = r := ⟨_, rfl⟩
              rw [hr] at ht hn
              have F : Hid (∀ w', Below wr.heap.size wr w' → Calls Tryz.prog 23 #[.agg #[.slice pa x.ps.length pc, .int .i64 x.res, .slice la x.ls.length lc, .slice ba x.body.length bc]] w' fun e w'' => e = .returned (.bool r) ∧ Below w'.heap.size w' w'') := fun w' hb => by
                have h := implFun1 pa la ba pc lc bc x w' (hrow.out.below (bel_step hnx hb)) hok
                rw [hr] at h
                exact h
              have HT : Hid ((fs.take (k + 1)).all goodF = ((fs.take k).all goodF && r)) := ht
              have HN : Hid (r = false → fs.all goodF = false) := hn
              have d0 := (hnx.cell (p := ⟨b, off + k * 4, none⟩) (by exact hb)).trans c0
              have d1 := (hnx.cell (p := ⟨b, off + k * 4 + 1, none⟩) (by exact hb)).trans c1
              have d2 := (hnx.cell (p := ⟨b, off + k * 4 + 2, none⟩) (by exact hb)).trans c2
              have d3 := (hnx.cell (p := ⟨b, off + k * 4 + 3, none⟩) (by exact hb)).trans c3
              clear c0 c1 c2 c3 ht hn hr hok hrow
              go_wp2_with fail
              refine (F.out _ ((Below.refl _ _).alloc (Nat.le_refl _) _)).mono ?_
              rintro e w4 ⟨rfl, hb4⟩
              have HB4 : Hid (Below W3.heap.size W3 w4) := bel_step (bel_alloc hnx _) hb4
              clear hb4 F d0 d1 d2 d3
              cases r
              · go_wp2
                go_ret
                exact ⟨by rw [HR.out, HN.out (by trivial)]; simp, bel_step HB3.out HB4.out⟩
              · go_wp2
                go_roundw
                case rel => exact ⟨k + 1, by omega, by go_num, by unfold Hid; rw [HT.out, hg.out]; rfl, HB4.out⟩
                case measure => simp [intOf]; omega
            · have e : fs.take k = fs := List.take_of_length_le (by have := HNF.out; omega)
              have hf' : Hid (fs.all goodF = true) := by have h := hg.out; rw [e] at h; exact h
              clear hg e
              go_wp2
              go_ret
              exact ⟨by rw [HR.out, hf'.out, hg'.out]; rfl, bel_step HB3.out hnx⟩
    · have g1 : ¬ (10 : Int) < (nf : Int) := by omega
      have g2 : (6 : Int) < (ng : Int) := by omega
      rw [decide_eq_false h2] at hR
      obtain rfl : R = false := by rw [hR]; simp
      clear hR
      go_enter Tryz.func10, Tryz.ntmps10
      go_wp2
      go_ret
      exact ⟨rfl, (Below.refl _ _).alloc (Nat.le_refl _) _⟩
  · have g1 : (10 : Int) < (nf : Int) := by omega
    rw [decide_eq_false h1] at hR
    obtain rfl : R = false := by rw [hR]; simp
    clear hR
    go_enter Tryz.func10, Tryz.ntmps10
    go_wp2
    go_ret
    exact ⟨rfl, (Below.refl _ _).alloc (Nat.le_refl _) _⟩

end Go.Proofs.YtcgnefgdfgikdaaGreat
