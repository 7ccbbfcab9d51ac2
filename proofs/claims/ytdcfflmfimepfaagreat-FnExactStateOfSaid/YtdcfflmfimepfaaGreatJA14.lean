/-
  Good instances: both sides.
-/
import Derived.Test.YtdcfflmfimepfaaGreatJA13
import Derived.Test.YtdcfflmfimepfaaGreatKA14
import Derived.Test.YtdcfflmfimepfaaGreatKA8
namespace Go.Proofs.YtdcfflmfimepfaaGreat
open Go.ChangeShapes Go.WideShapes Go.ChangeAt Go.RowKit

/-- An instance is good. -/
def goodI (M : Mod7) (mx : Int) (D : ByteArray) (L : List Wd8) (sp : Int) : Bool := decide ((toldM M).1 = 0) && (goodSt M mx D L && (decide (0 ≤ sp) && decide (sp ≤ 1000000000)))

set_option maxRecDepth 100000 in
set_option maxHeartbeats 1600000 in
theorem implTyped (l : Loc7) (M : Mod7) (w : World) (hM : Hid (ModAt w l M)) (hs : Hid (smM M)) :
    Calls Tryz.prog 21 #[.agg #[.slice l.fa M.fs.length l.fc, .slice l.ga M.gs.length l.gc, .bool M.mem, .int .i64 M.pages, .int .i64 M.most, .int .i64 M.start]] w fun e w' => e = .returned (.bool (decide ((toldM M).1 = 0))) ∧ Below w.heap.size w w' := by
  have T : Hid (∀ w', Below w.heap.size w w' → Calls Tryz.prog 41 #[.agg #[.slice l.fa M.fs.length l.fc, .slice l.ga M.gs.length l.gc, .bool M.mem, .int .i64 M.pages, .int .i64 M.most, .int .i64 M.start]] w' fun e w'' => e = .returned (.tuple #[.int .i64 (toldM M).1, .int .i64 (toldM M).2.1, .int .i64 (toldM M).2.2]) ∧ Below w'.heap.size w' w'') := fun w' hb => implCheckModule l M w' (hM.out.below hb) hs
  obtain ⟨⟨v1, v2, v3⟩, hR⟩ : ∃ R, toldM M = R := ⟨_, rfl⟩
  rw [hR] at T ⊢
  simp only at T ⊢
  clear hR hM hs
  go_enter Tryz.func21, Tryz.ntmps21
  go_wp2_with fail
  refine (T.out _ (by first | exact Below.refl _ _ | exact bel_alloc (Below.refl _ _) _)).mono ?_
  rintro e w1 ⟨rfl, hb1⟩
  have HB1 : Hid (Below w.heap.size w w1) := by first | exact hb1 | exact bel_step (bel_alloc (Below.refl _ _) _) hb1
  clear hb1 T
  by_cases h0 : v1 = 0
  · subst h0
    go_wp2
    go_ret
    exact ⟨rfl, HB1.out⟩
  · have h1 : (v1 == 0) = false := by simpa using h0
    have h2 : decide (v1 = 0) = false := by simpa using h0
    go_wp2
    go_ret
    exact ⟨by first | rfl | (rw [h2]; rfl), HB1.out⟩

set_option maxRecDepth 100000 in
set_option maxHeartbeats 3200000 in
theorem implGoodI (l : Loc7) (M : Mod7) (mx : Int) (D : ByteArray) (a : Option Addr) (c : Nat) (L : List Wd8) (po : Bool) (sp : Int) (w : World) (hM : Hid (ModAt w l M)) (hs : Hid (smM M)) (hD : D.size ≤ 1048576) (hL : Hid (Wds w a L)) (hok : Hid (∀ x ∈ L, okW x)) (hlen : L.length ≤ 1048576) (hsp : -9223372036854775808 ≤ sp ∧ sp ≤ 9223372036854775807) :
    Calls Tryz.prog 8 #[instV l M mx D a L.length c po sp] w fun e w' => e = .returned (.bool (goodI M mx D L sp)) ∧ Below w.heap.size w w' := by
  have T : Hid (∀ w', Below w.heap.size w w' → Calls Tryz.prog 21 #[.agg #[.slice l.fa M.fs.length l.fc, .slice l.ga M.gs.length l.gc, .bool M.mem, .int .i64 M.pages, .int .i64 M.most, .int .i64 M.start]] w' fun e w'' => e = .returned (.bool (decide ((toldM M).1 = 0))) ∧ Below w'.heap.size w' w'') := fun w' hb => implTyped l M w' (hM.out.below hb) hs
  have G : Hid (∀ w', Below w.heap.size w w' → Calls Tryz.prog 22 #[.agg #[.slice l.fa M.fs.length l.fc, .slice l.ga M.gs.length l.gc, .bool M.mem, .int .i64 M.pages, .int .i64 M.most, .int .i64 M.start], .agg #[.int .i64 mx, .string D, .slice a L.length c]] w' fun e w'' => e = .returned (.bool (goodSt M mx D L)) ∧ Below w'.heap.size w' w'') := fun w' hb => implState l M mx D a c L w' (hM.out.below hb) hs hD (hL.out.below hb) hok hlen
  obtain ⟨⟨v1, v2, v3⟩, hR⟩ : ∃ R, toldM M = R := ⟨_, rfl⟩
  obtain ⟨g, hg⟩ : ∃ R, goodSt M mx D L = R := ⟨_, rfl⟩
  have HR : Hid (goodI M mx D L sp = (decide (v1 = 0) && (g && (decide (0 ≤ sp) && decide (sp ≤ 1000000000))))) := by unfold Hid goodI; rw [hR, hg]
  rw [HR.out]
  rw [hR] at T
  rw [hg] at G
  obtain ⟨fa, fc, ga, gc⟩ := l
  obtain ⟨n, hn⟩ : ∃ n, L.length = n := ⟨_, rfl⟩
  obtain ⟨nf, hnf⟩ : ∃ n, M.fs.length = n := ⟨_, rfl⟩
  obtain ⟨ng, hng⟩ : ∃ n, M.gs.length = n := ⟨_, rfl⟩
  unfold instV
  simp only at T G ⊢
  rw [hnf, hng] at T G ⊢
  rw [hn] at G ⊢
  obtain ⟨R, hRR⟩ : ∃ R, (decide (v1 = 0) && (g && (decide (0 ≤ sp) && decide (sp ≤ 1000000000)))) = R := ⟨_, rfl⟩
  rw [hRR]
  have HE : Hid ((decide (v1 = 0) && (g && (decide (0 ≤ sp) && decide (sp ≤ 1000000000)))) = R) := hRR
  clear hnf hng hn hM hs hD hL hok hlen hR hg HR hRR
  obtain ⟨W, hW⟩ : ∃ W, w.alloc (.cells #[.slice fa nf fc, .slice ga ng gc, .bool M.mem, .int .i64 M.pages, .int .i64 M.most, .int .i64 M.start, .int .i64 mx, .string D, .slice a n c, .bool po, .int .i64 sp] 44) = W := ⟨_, rfl⟩
  obtain ⟨z, hz⟩ : ∃ z, w.heap.size = z := ⟨_, rfl⟩
  have hbW : Below w.heap.size w W := by rw [← hW]; exact (Below.refl _ _).alloc (Nat.le_refl _) _
  have hZ : W.heap[z]? = some (.cells #[.slice fa nf fc, .slice ga ng gc, .bool M.mem, .int .i64 M.pages, .int .i64 M.most, .int .i64 M.start, .int .i64 mx, .string D, .slice a n c, .bool po, .int .i64 sp] 44 (0, 0)) := by rw [← hW, ← hz]; exact heap_alloc_new _ _
  have HW : Hid (w.alloc (.cells #[.slice fa nf fc, .slice ga ng gc, .bool M.mem, .int .i64 M.pages, .int .i64 M.most, .int .i64 M.start, .int .i64 mx, .string D, .slice a n c, .bool po, .int .i64 sp] 44) = W ∧ w.heap.size = z) := ⟨hW, hz⟩
  have HB : Hid (Below w.heap.size w W) := hbW
  clear hW hz hbW
  go_enter Tryz.func8, Tryz.ntmps8
  go_wp2_with fail
  rw [HW.out.2, HW.out.1]
  refine (T.out W HB.out).mono ?_
  rintro e w1 ⟨rfl, hb1⟩
  have HB1 : Hid (Below w.heap.size w w1) := bel_step HB.out hb1
  have hz1 := (hb1.block z (lt_of_block hZ)).trans hZ
  clear hb1 T hZ HB HW
  have x0 : w1.cell? ⟨z, 0, none⟩ = some (.slice fa nf fc) := (cell_of_block hz1 0).trans rfl
  have x1 : w1.cell? ⟨z, 1, none⟩ = some (.slice ga ng gc) := (cell_of_block hz1 1).trans rfl
  have x2 : w1.cell? ⟨z, 2, none⟩ = some (.bool M.mem) := (cell_of_block hz1 2).trans rfl
  have x3 : w1.cell? ⟨z, 3, none⟩ = some (.int .i64 M.pages) := (cell_of_block hz1 3).trans rfl
  have x4 : w1.cell? ⟨z, 4, none⟩ = some (.int .i64 M.most) := (cell_of_block hz1 4).trans rfl
  have x5 : w1.cell? ⟨z, 5, none⟩ = some (.int .i64 M.start) := (cell_of_block hz1 5).trans rfl
  have x6 : w1.cell? ⟨z, 6, none⟩ = some (.int .i64 mx) := (cell_of_block hz1 6).trans rfl
  have x7 : w1.cell? ⟨z, 7, none⟩ = some (.string D) := (cell_of_block hz1 7).trans rfl
  have x8 : w1.cell? ⟨z, 8, none⟩ = some (.slice a n c) := (cell_of_block hz1 8).trans rfl
  have x9 : w1.cell? ⟨z, 9, none⟩ = some (.bool po) := (cell_of_block hz1 9).trans rfl
  have x10 : w1.cell? ⟨z, 10, none⟩ = some (.int .i64 sp) := (cell_of_block hz1 10).trans rfl
  by_cases h0 : v1 = 0
  · subst h0
    go_wp2_with fail
    refine (G.out w1 HB1.out).mono ?_
    rintro e w2 ⟨rfl, hb2⟩
    have HB2 : Hid (Below w.heap.size w w2) := bel_step HB1.out hb2
    have y10 : w2.cell? ⟨z, 10, none⟩ = some (.int .i64 sp) := (cell_of_block ((hb2.block z (lt_of_block hz1)).trans hz1) 10).trans rfl
    clear hb2 G hz1 HB1 x0 x1 x2 x3 x4 x5 x6 x7 x8 x9 x10
    cases g
    · have E : Hid (R = false) := by unfold Hid; rw [← HE.out]; simp
      go_wp2
      go_ret
      exact ⟨by rw [E.out]; rfl, HB2.out⟩
    · by_cases h3 : 0 ≤ sp
      · by_cases h4 : sp ≤ 1000000000
        · have E : Hid (R = true) := by unfold Hid; rw [← HE.out]; simp [h3, h4]
          have d4 : decide (sp ≤ 1000000000) = true := by simpa using h4
          go_wp2
          go_ret
          exact ⟨by rw [E.out]; rfl, HB2.out⟩
        · have E : Hid (R = false) := by unfold Hid; rw [← HE.out]; simp [h4]
          have d4 : decide (sp ≤ 1000000000) = false := by simpa using h4
          go_wp2
          go_ret
          exact ⟨by rw [E.out]; rfl, HB2.out⟩
      · have E : Hid (R = false) := by unfold Hid; rw [← HE.out]; simp [h3]
        go_wp2
        go_ret
        exact ⟨by rw [E.out]; rfl, HB2.out⟩
  · have h1 : (v1 == 0) = false := by simpa using h0
    have h2 : decide (v1 = 0) = false := by simpa using h0
    have E : Hid (R = false) := by unfold Hid; rw [← HE.out, h2]; rfl
    clear G hz1
    go_wp2
    go_ret
    exact ⟨by rw [E.out]; rfl, HB1.out⟩

set_option maxRecDepth 100000 in
set_option maxHeartbeats 3200000 in
theorem specGoodI (l : Loc7) (M : Mod7) (mx : Int) (D : ByteArray) (a : Option Addr) (c : Nat) (L : List Wd8) (po : Bool) (sp : Int) (w : World) (hM : Hid (ModAt w l M)) (hs : Hid (smM M)) (hD : D.size ≤ 1048576) (hL : Hid (Wds w a L)) (_hok : Hid (∀ x ∈ L, okW x)) (hlen : L.length ≤ 1048576) (_hsp : -9223372036854775808 ≤ sp ∧ sp ≤ 9223372036854775807) :
    Calls Tryz.prog 18 #[instV l M mx D a L.length c po sp] w fun e w' => e = .returned (.bool (goodI M mx D L sp)) ∧ Below w.heap.size w w' := by
  have T : Hid (∀ w', Below w.heap.size w w' → Calls Tryz.prog 34 #[.agg #[.slice l.fa M.fs.length l.fc, .slice l.ga M.gs.length l.gc, .bool M.mem, .int .i64 M.pages, .int .i64 M.most, .int .i64 M.start]] w' fun e w'' => e = .returned (.tuple #[.int .i64 (toldM M).1, .int .i64 (toldM M).2.1, .int .i64 (toldM M).2.2]) ∧ Below w'.heap.size w' w'') := fun w' hb => specCheckModule l M w' (hM.out.below hb) hs (checks7 l M w' (hM.out.below hb))
  have G : Hid (∀ w', Below w.heap.size w w' → Calls Tryz.prog 35 #[.agg #[.slice l.fa M.fs.length l.fc, .slice l.ga M.gs.length l.gc, .bool M.mem, .int .i64 M.pages, .int .i64 M.most, .int .i64 M.start], .agg #[.int .i64 mx, .string D, .slice a L.length c]] w' fun e w'' => e = .returned (.bool (goodSt M mx D L)) ∧ Below w'.heap.size w' w'') := fun w' hb => specState l M mx D a c L w' (hM.out.below hb) hs hD (hL.out.below hb) hlen
  obtain ⟨⟨v1, v2, v3⟩, hR⟩ : ∃ R, toldM M = R := ⟨_, rfl⟩
  obtain ⟨g, hg⟩ : ∃ R, goodSt M mx D L = R := ⟨_, rfl⟩
  have HR : Hid (goodI M mx D L sp = (decide (v1 = 0) && (g && (decide (0 ≤ sp) && decide (sp ≤ 1000000000))))) := by unfold Hid goodI; rw [hR, hg]
  rw [HR.out]
  rw [hR] at T
  rw [hg] at G
  obtain ⟨fa, fc, ga, gc⟩ := l
  obtain ⟨n, hn⟩ : ∃ n, L.length = n := ⟨_, rfl⟩
  obtain ⟨nf, hnf⟩ : ∃ n, M.fs.length = n := ⟨_, rfl⟩
  obtain ⟨ng, hng⟩ : ∃ n, M.gs.length = n := ⟨_, rfl⟩
  unfold instV
  simp only at T G ⊢
  rw [hnf, hng] at T G ⊢
  rw [hn] at G ⊢
  obtain ⟨R, hRR⟩ : ∃ R, (decide (v1 = 0) && (g && (decide (0 ≤ sp) && decide (sp ≤ 1000000000)))) = R := ⟨_, rfl⟩
  rw [hRR]
  have HE : Hid ((decide (v1 = 0) && (g && (decide (0 ≤ sp) && decide (sp ≤ 1000000000)))) = R) := hRR
  clear hnf hng hn hM hs hD hL hlen hR hg HR hRR
  obtain ⟨W, hW⟩ : ∃ W, w.alloc (.cells #[.slice fa nf fc, .slice ga ng gc, .bool M.mem, .int .i64 M.pages, .int .i64 M.most, .int .i64 M.start, .int .i64 mx, .string D, .slice a n c, .bool po, .int .i64 sp] 44) = W := ⟨_, rfl⟩
  obtain ⟨z, hz⟩ : ∃ z, w.heap.size = z := ⟨_, rfl⟩
  have hbW : Below w.heap.size w W := by rw [← hW]; exact (Below.refl _ _).alloc (Nat.le_refl _) _
  have hZ : W.heap[z]? = some (.cells #[.slice fa nf fc, .slice ga ng gc, .bool M.mem, .int .i64 M.pages, .int .i64 M.most, .int .i64 M.start, .int .i64 mx, .string D, .slice a n c, .bool po, .int .i64 sp] 44 (0, 0)) := by rw [← hW, ← hz]; exact heap_alloc_new _ _
  have HW : Hid (w.alloc (.cells #[.slice fa nf fc, .slice ga ng gc, .bool M.mem, .int .i64 M.pages, .int .i64 M.most, .int .i64 M.start, .int .i64 mx, .string D, .slice a n c, .bool po, .int .i64 sp] 44) = W ∧ w.heap.size = z) := ⟨hW, hz⟩
  have HB : Hid (Below w.heap.size w W) := hbW
  clear hW hz hbW
  go_enter Tryz.func18, Tryz.ntmps18
  go_wp2_with fail
  rw [HW.out.2, HW.out.1]
  refine (T.out W HB.out).mono ?_
  rintro e w1 ⟨rfl, hb1⟩
  have HB1 : Hid (Below w.heap.size w w1) := bel_step HB.out hb1
  have hz1 := (hb1.block z (lt_of_block hZ)).trans hZ
  clear hb1 T hZ HB HW
  have x0 : w1.cell? ⟨z, 0, none⟩ = some (.slice fa nf fc) := (cell_of_block hz1 0).trans rfl
  have x1 : w1.cell? ⟨z, 1, none⟩ = some (.slice ga ng gc) := (cell_of_block hz1 1).trans rfl
  have x2 : w1.cell? ⟨z, 2, none⟩ = some (.bool M.mem) := (cell_of_block hz1 2).trans rfl
  have x3 : w1.cell? ⟨z, 3, none⟩ = some (.int .i64 M.pages) := (cell_of_block hz1 3).trans rfl
  have x4 : w1.cell? ⟨z, 4, none⟩ = some (.int .i64 M.most) := (cell_of_block hz1 4).trans rfl
  have x5 : w1.cell? ⟨z, 5, none⟩ = some (.int .i64 M.start) := (cell_of_block hz1 5).trans rfl
  have x6 : w1.cell? ⟨z, 6, none⟩ = some (.int .i64 mx) := (cell_of_block hz1 6).trans rfl
  have x7 : w1.cell? ⟨z, 7, none⟩ = some (.string D) := (cell_of_block hz1 7).trans rfl
  have x8 : w1.cell? ⟨z, 8, none⟩ = some (.slice a n c) := (cell_of_block hz1 8).trans rfl
  have x9 : w1.cell? ⟨z, 9, none⟩ = some (.bool po) := (cell_of_block hz1 9).trans rfl
  have x10 : w1.cell? ⟨z, 10, none⟩ = some (.int .i64 sp) := (cell_of_block hz1 10).trans rfl
  by_cases h0 : v1 = 0
  · subst h0
    go_wp2_with fail
    refine (G.out w1 HB1.out).mono ?_
    rintro e w2 ⟨rfl, hb2⟩
    have HB2 : Hid (Below w.heap.size w w2) := bel_step HB1.out hb2
    have y10 : w2.cell? ⟨z, 10, none⟩ = some (.int .i64 sp) := (cell_of_block ((hb2.block z (lt_of_block hz1)).trans hz1) 10).trans rfl
    clear hb2 G hz1 HB1 x0 x1 x2 x3 x4 x5 x6 x7 x8 x9 x10
    cases g
    · have E : Hid (R = false) := by unfold Hid; rw [← HE.out]; simp
      go_wp2
      go_ret
      exact ⟨by rw [E.out]; rfl, HB2.out⟩
    · obtain ⟨q, hq⟩ : ∃ q, (decide (0 ≤ sp) && decide (sp ≤ 1000000000)) = q := ⟨_, rfl⟩
      have IE := in_eq sp 0 1000000000 q hq
      have E : Hid (R = q) := by unfold Hid; rw [← HE.out, ← hq]; simp
      clear hq
      go_wp2_with fail
      refine (IE w2).mono ?_
      rintro e w3 ⟨rfl, rfl⟩
      go_wp2
      go_ret
      exact ⟨by rw [E.out]; rfl, HB2.out⟩
  · have h1 : (v1 == 0) = false := by simpa using h0
    have h2 : decide (v1 = 0) = false := by simpa using h0
    have E : Hid (R = false) := by unfold Hid; rw [← HE.out, h2]; rfl
    clear G hz1
    go_wp2
    go_ret
    exact ⟨by rw [E.out]; rfl, HB1.out⟩

set_option maxRecDepth 100000 in
set_option maxHeartbeats 1600000 in
theorem specGoodInst (l : Loc7) (M : Mod7) (mx : Int) (D : ByteArray) (a : Option Addr) (c : Nat) (L : List Wd8) (po : Bool) (sp : Int) (w : World) (hM : Hid (ModAt w l M)) (hs : Hid (smM M)) (hD : D.size ≤ 1048576) (hL : Hid (Wds w a L)) (hok : Hid (∀ x ∈ L, okW x)) (hlen : L.length ≤ 1048576) (hsp : -9223372036854775808 ≤ sp ∧ sp ≤ 9223372036854775807) :
    Calls Tryz.prog 6 #[instV l M mx D a L.length c po sp] w fun e w' => e = .returned (.bool (goodI M mx D L sp)) ∧ Below w.heap.size w w' := by
  have T : Hid (∀ w', Below w.heap.size w w' → Calls Tryz.prog 18 #[instV l M mx D a L.length c po sp] w' fun e w'' => e = .returned (.bool (goodI M mx D L sp)) ∧ Below w'.heap.size w' w'') := fun w' hb => specGoodI l M mx D a c L po sp w' (hM.out.below hb) hs hD (hL.out.below hb) hok hlen hsp
  obtain ⟨g, hg⟩ : ∃ R, goodI M mx D L sp = R := ⟨_, rfl⟩
  rw [hg] at T ⊢
  unfold instV at T ⊢
  go_enter Tryz.func6, Tryz.ntmps6
  go_wp2_with fail
  refine (T.out _ (by first | exact Below.refl _ _ | exact bel_alloc (Below.refl _ _) _)).mono ?_
  rintro e w1 ⟨rfl, hb1⟩
  have HB1 : Hid (Below w.heap.size w w1) := by first | exact hb1 | exact bel_step (bel_alloc (Below.refl _ _) _) hb1
  clear hb1 T
  go_wp2
  go_ret
  exact ⟨rfl, HB1.out⟩

end Go.Proofs.YtdcfflmfimepfaaGreat
