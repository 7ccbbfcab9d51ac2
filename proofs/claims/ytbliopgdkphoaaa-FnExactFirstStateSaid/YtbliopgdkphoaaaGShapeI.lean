/-
  Modules with shape: the program's side.
-/
import Derived.Test.YtbliopgdkphoaaaGShape
namespace Go.Proofs.Ytbliopgdkphoaaa
open Go.ChangeShapes Go.WideShapes Go.ChangeAt Go.RowKit

set_option maxRecDepth 100000 in
set_option maxHeartbeats 1600000 in
theorem implPages (l : Loc7) (M : Mod7) (w : World) :
    Calls Try.prog 42 #[modV l M] w fun e w' => e = .returned (.bool (goodP M)) ∧ Below w.heap.size w w' := by
  obtain ⟨fa, fc, ga, gc⟩ := l
  obtain ⟨fs, gs, mem, pages, most, start⟩ := M
  unfold modV
  obtain ⟨r, hr⟩ : ∃ r, goodP ⟨fs, gs, mem, pages, most, start⟩ = r := ⟨_, rfl⟩
  rw [hr]
  unfold goodP at hr
  simp only at hr ⊢
  cases mem
  · simp only [Bool.false_eq_true, if_false] at hr
    by_cases h1 : pages = 0
    · subst h1
      obtain ⟨y, hy⟩ : ∃ y, (most == 0) = y := ⟨_, rfl⟩
      obtain rfl : r = y := by rw [← hy, ← hr]; by_cases h : most = 0 <;> simp [h]
      clear hr
      go_enter Try.func42, Try.ntmps42
      go_wp2
      go_ret
      exact ⟨rfl, (Below.refl _ _).alloc (Nat.le_refl _) _⟩
    · have h2 : (pages == 0) = false := by simpa using h1
      obtain rfl : r = false := by rw [← hr]; simp [h1]
      clear h1 hr
      go_enter Try.func42, Try.ntmps42
      go_wp2
      go_ret
      exact ⟨rfl, (Below.refl _ _).alloc (Nat.le_refl _) _⟩
  · simp only [if_true] at hr
    by_cases h1 : 0 ≤ pages
    · by_cases h2 : pages ≤ most
      · by_cases h3 : most ≤ 8
        · have e3 : decide (most ≤ 8) = true := by simpa using h3
          obtain rfl : r = true := by rw [← hr]; simp [h1, h2, h3]; omega
          clear hr
          go_enter Try.func42, Try.ntmps42
          go_wp2
          go_ret
          exact ⟨rfl, (Below.refl _ _).alloc (Nat.le_refl _) _⟩
        · have e3 : decide (most ≤ 8) = false := by simpa using h3
          obtain rfl : r = false := by rw [← hr]; simp [h3]
          clear hr
          go_enter Try.func42, Try.ntmps42
          go_wp2
          go_ret
          exact ⟨rfl, (Below.refl _ _).alloc (Nat.le_refl _) _⟩
      · obtain rfl : r = false := by rw [← hr]; simp [h2]
        clear hr
        go_enter Try.func42, Try.ntmps42
        go_wp2
        go_ret
        exact ⟨rfl, (Below.refl _ _).alloc (Nat.le_refl _) _⟩
    · obtain rfl : r = false := by rw [← hr]; simp [h1]
      clear hr
      go_enter Try.func42, Try.ntmps42
      go_wp2
      go_ret
      exact ⟨rfl, (Below.refl _ _).alloc (Nat.le_refl _) _⟩

set_option maxRecDepth 100000 in
set_option maxHeartbeats 1600000 in
theorem implHas (l : Loc7) (M : Mod7) (k : Int) (w : World) :
    Calls Try.prog 36 #[modV l M, .int .i64 k] w fun e w' => e = .returned (.bool (decide (0 ≤ k) && decide (k < (M.fs.length : Int)))) ∧ Below w.heap.size w w' := by
  obtain ⟨fa, fc, ga, gc⟩ := l
  obtain ⟨fs, gs, mem, pages, most, start⟩ := M
  unfold modV
  simp only
  obtain ⟨n, hn⟩ : ∃ n, fs.length = n := ⟨_, rfl⟩
  rw [hn]
  clear hn
  by_cases h1 : 0 ≤ k
  · obtain ⟨y, hy⟩ : ∃ y, decide (k < (n : Int)) = y := ⟨_, rfl⟩
    rw [decide_eq_true h1, hy, Bool.true_and]
    go_enter Try.func36, Try.ntmps36
    go_wp2
    go_ret
    exact ⟨rfl, (Below.refl _ _).alloc (Nat.le_refl _) _⟩
  · rw [decide_eq_false h1, Bool.false_and]
    go_enter Try.func36, Try.ntmps36
    go_wp2
    go_ret
    exact ⟨rfl, (Below.refl _ _).alloc (Nat.le_refl _) _⟩

set_option maxRecDepth 100000 in
set_option maxHeartbeats 1600000 in
theorem implStart (l : Loc7) (M : Mod7) (w : World) (hM : Hid (ModAt w l M)) :
    Calls Try.prog 43 #[modV l M] w fun e w' => e = .returned (.bool (goodS M)) ∧ Below w.heap.size w w' := by
  have hH : ∀ w, Calls Try.prog 36 #[modV l M, .int .i64 M.start] w fun e w' => e = .returned (.bool (decide (0 ≤ M.start) && decide (M.start < (M.fs.length : Int)))) ∧ Below w.heap.size w w' := fun w => implHas l M M.start w
  obtain ⟨fa, fc, ga, gc⟩ := l
  obtain ⟨fs, gs, mem, pages, most, start⟩ := M
  unfold modV at hH ⊢
  obtain ⟨R, hR⟩ : ∃ R, goodS ⟨fs, gs, mem, pages, most, start⟩ = R := ⟨_, rfl⟩
  rw [hR]
  unfold goodS at hR
  simp only at hH hR ⊢
  by_cases h1 : start = -1
  · subst h1
    obtain rfl : R = true := by rw [← hR]; simp
    clear hR
    go_enter Try.func43, Try.ntmps43
    go_wp2
    go_ret
    exact ⟨rfl, (Below.refl _ _).alloc (Nat.le_refl _) _⟩
  · have e1 : (start == -1) = false := by simpa using h1
    have e1' : decide (start = -1) = false := by simpa using h1
    rw [e1', Bool.false_or] at hR
    clear h1 e1'
    by_cases h2 : 0 ≤ start ∧ start < (fs.length : Int)
    · rw [decide_eq_true h2.1, decide_eq_true h2.2] at hH
      obtain ⟨k, rfl⟩ : ∃ k : Nat, start = k := ⟨start.toNat, by omega⟩
      have hk : k < fs.length := by omega
      rw [decide_eq_true h2.1, Bool.true_and, Int.toNat_natCast, List.getElem?_eq_getElem hk] at hR
      simp only at hR
      have hc := hM.out.1
      obtain ⟨b, off, rfl, hb, pa, pc, la, lc, ba, bc, c0, c1, c2, c3, _⟩ := hc.at k hk
      simp only at c0 c1 c2 c3 hb
      obtain ⟨f, hf⟩ : ∃ f, fs[k] = f := ⟨_, rfl⟩
      rw [hf] at hR c0 c1 c2 c3
      clear hf
      obtain ⟨n, hn⟩ : ∃ n, fs.length = n := ⟨_, rfl⟩
      rw [hn] at hH hk ⊢
      clear hn h2 hM hc
      obtain ⟨ps, res, ls, body⟩ := f
      simp only at hR c0 c1 c2 c3
      obtain ⟨np, hnp⟩ : ∃ np, ps.length = np := ⟨_, rfl⟩
      rw [hnp] at hR c0
      clear hnp
      go_enter Try.func43, Try.ntmps43
      go_wp2_with fail
      refine (hH _).mono ?_
      rintro e w1 ⟨rfl, hb1⟩
      have HB1 : Hid (Below w.heap.size w w1) := bel_step ((Below.refl _ _).alloc (Nat.le_refl _) _) hb1
      have hx1 := (hb1.block w.heap.size (by simp)).trans (heap_alloc_new _ _)
      have x0 := (cell_of_block hx1 0).trans rfl
      have x5 := (cell_of_block hx1 5).trans rfl
      have d0 := (HB1.out.cell (p := ⟨b, off + k * 4, none⟩) hb).trans c0
      have d1 := (HB1.out.cell (p := ⟨b, off + k * 4 + 1, none⟩) hb).trans c1
      have d2 := (HB1.out.cell (p := ⟨b, off + k * 4 + 2, none⟩) hb).trans c2
      have d3 := (HB1.out.cell (p := ⟨b, off + k * 4 + 3, none⟩) hb).trans c3
      clear hH hb1 c0 c1 c2 c3 hx1
      by_cases h3 : np = 0
      · subst h3
        obtain ⟨y, hy⟩ : ∃ y, (res == 64) = y := ⟨_, rfl⟩
        obtain rfl : R = y := by rw [← hR, ← hy]; by_cases h : res = 64 <;> simp [h]
        clear hR
        go_wp2
        go_ret
        exact ⟨rfl, bel_alloc HB1.out _⟩
      · obtain rfl : R = false := by rw [← hR]; simp [h3]
        have e3 : ((np : Int) == 0) = false := by simpa using h3
        clear hR h3
        go_wp2
        go_ret
        exact ⟨rfl, bel_alloc HB1.out _⟩
    · have e2 : (decide (0 ≤ start) && decide (start < (fs.length : Int))) = false := by
        simp only [Bool.and_eq_false_iff, decide_eq_false_iff_not]; omega
      rw [e2] at hH
      obtain rfl : R = false := by
        rw [← hR]
        by_cases h : 0 ≤ start
        · rw [List.getElem?_eq_none (by omega)]; simp
        · simp [h]
      clear hR h2 e2
      go_enter Try.func43, Try.ntmps43
      go_wp2_with fail
      refine (hH _).mono ?_
      rintro e w1 ⟨rfl, hb1⟩
      have HB1 : Hid (Below w.heap.size w w1) := bel_step ((Below.refl _ _).alloc (Nat.le_refl _) _) hb1
      clear hH hb1
      go_wp2
      go_ret
      exact ⟨rfl, HB1.out⟩

set_option maxRecDepth 100000 in
set_option maxHeartbeats 1600000 in
theorem implFits (g : Glo7) (hg : okG g) (w : World) :
    Calls Try.prog 44 #[.int .i64 g.ty, .int .u64 g.bits] w fun e w' => e = .returned (.bool (goodG g)) ∧ Below w.heap.size w w' := by
  obtain ⟨ty, fx, bits⟩ := g
  obtain ⟨g0, g1⟩ := hg
  simp only at g0 g1 ⊢
  have I := isType_eq ty
  have C := cut32 bits
  obtain ⟨R, hR⟩ : ∃ R, goodG ⟨ty, fx, bits⟩ = R := ⟨_, rfl⟩
  rw [hR]
  unfold goodG isT at hR
  simp only at hR
  by_cases h1 : ty = 126
  · subst h1
    obtain rfl : R = true := by rw [← hR]; rfl
    clear hR
    go_enter Try.func44, Try.ntmps44
    go_wp2
    go_ret
    exact ⟨rfl, Below.refl _ _⟩
  · have e1 : (ty == 126) = false := by simpa using h1
    have e1' : decide (ty = 126) = false := by simpa using h1
    rw [e1', Bool.false_or] at hR
    clear h1 e1'
    obtain ⟨t, ht⟩ : ∃ t, (decide (125 ≤ ty) && decide (ty ≤ 127)) = t := ⟨_, rfl⟩
    rw [ht] at I hR
    clear ht
    cases t
    · obtain rfl : R = false := by rw [← hR]; rfl
      clear hR
      go_enter Try.func44, Try.ntmps44
      go_wp2_with (go_at_call 75; refine (I _).mono ?_; rintro e w1 ⟨rfl, hw⟩; obtain rfl := hw.symm; clear I)
      go_ret
      exact ⟨rfl, Below.refl _ _⟩
    · obtain ⟨y, hy⟩ : ∃ y, (bits % 4294967296 == bits) = y := ⟨_, rfl⟩
      obtain rfl : R = y := by
        rw [← hR, ← hy, Bool.true_and]
        by_cases h : bits ≤ 4294967295
        · have : bits % 4294967296 = bits := by omega
          simp [h, this]
        · have : ¬ bits % 4294967296 = bits := by omega
          simp [h, this]
      clear hR
      go_enter Try.func44, Try.ntmps44
      go_wp2_with (first | (go_at_call 75; refine (I _).mono ?_; rintro e w1 ⟨rfl, hw⟩; obtain rfl := hw.symm; clear I) | (go_at_call 76; refine (C _).mono ?_; rintro e w2 ⟨rfl, hw⟩; obtain rfl := hw.symm; clear C))
      go_ret
      exact ⟨rfl, Below.refl _ _⟩

end Go.Proofs.Ytbliopgdkphoaaa
