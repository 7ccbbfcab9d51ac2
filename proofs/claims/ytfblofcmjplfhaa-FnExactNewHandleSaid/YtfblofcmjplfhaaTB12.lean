/-
  Laws over tables: the frame over both contracts. (Made by a generator.)
-/
import Derived.Test.YtfblofcmjplfhaaTB11
import Derived.Test.YtfblofcmjplfhaaQPick
import Derived.Test.YtfblofcmjplfhaaQTail
namespace Go.Proofs.Ytfblofcmjplfhaa
open Go.ChangeShapes Go.WideShapes Go.ChangeAt Go.RowKit

theorem TabO.shape2 {B : Nat} {w : World} {v u : Value} {S : List Hd} {F : List Int} (h : TabO B w v u S F) : ∃ a c b d, v = .slice a S.length c ∧ u = .slice b F.length d ∧ Hds w a S ∧ Ints w b F ∧ F.length ≤ d := by
  obtain ⟨a, c, rfl, h1, _⟩ := own_hds h.hds
  obtain ⟨b, d, rfl, h2⟩ := ints_of_row h.ints
  obtain ⟨_, d', e, h3⟩ := ownT_shape h.ints
  simp only [Value.slice.injEq] at e
  exact ⟨a, c, b, d, rfl, rfl, h1, h2, by rw [e.2.2]; exact h3⟩
theorem eqTabO {B B' : Nat} {w : World} {v u v' u' : Value} {S : List Hd} {F : List Int} (h : Hid (TabO B w v u S F)) (h' : Hid (TabO B' w v' u' S F)) (lS : S.length ≤ 9223372036854775807) (lF : F.length ≤ 9223372036854775807) :
    Calls Try.prog 13 #[.agg #[v, u], .agg #[v', u']] w fun e w' => e = .returned (.bool true) ∧ Below w.heap.size w w' := by
  obtain ⟨a, c, b, d, rfl, rfl, h1, h2⟩ := h.out.shape
  obtain ⟨a', c', b', d', rfl, rfl, h1', h2'⟩ := h'.out.shape
  exact eqTab a a' b b' c c' d d' S F w h1 h1' h2 h2' lS lF

set_option maxRecDepth 1000000 in
set_option maxHeartbeats 6400000 in
theorem tab_good (a : Option Addr) (c : Nat) (b : Option Addr) (d : Nat) (S : List Hd) (F : List Int)  (C0 : Bool) (w : World) (hI : IsTab w a b S F)
    (SP : Hid (∀ (w' : World) a b c d, S.length ≤ 1048576 → F.length ≤ 1048576 → Hds w' a S → Ints w' b F → F.length ≤ d → Calls Try.prog 10 #[tabV a S.length c b F.length d] w' fun e w'' => e = .returned (.bool C0) ∧ Below w'.heap.size w' w''))
    (IM : Hid (∀ (w' : World) a b c d, S.length ≤ 1048576 → F.length ≤ 1048576 → Hds w' a S → Ints w' b F → F.length ≤ d → Calls Try.prog 12 #[tabV a S.length c b F.length d] w' fun e w'' => e = .returned (.bool C0) ∧ Below w'.heap.size w' w'')) :
    Calls Try.prog 3 #[tabV a S.length c b F.length d] w fun e w' => e = .returned (.bool true) ∧ Below w.heap.size w w' := by
  have Z := szTab a b S.length c F.length d
  have HI : Hid (IsTab w a b S F) := hI
  have hlS := hI.lS
  have hlF := hI.lF
  obtain ⟨z, hz⟩ : ∃ z, w.heap.size = z := ⟨_, rfl⟩
  unfold tabV at SP IM Z ⊢
  obtain ⟨W0, hW0⟩ : ∃ W, (w.alloc (.cells #[.slice a S.length c, .slice b F.length d] 25)) = W := ⟨_, rfl⟩
  have hb0 : Below w.heap.size w W0 := by rw [← hW0]; exact (bel_alloc (Below.refl _ _) _)
  have bz : W0.heap[z]? = some (.cells #[.slice a S.length c, .slice b F.length d] 25 (0, 0)) := by
    have h := heap_alloc_new w (.cells #[.slice a S.length c, .slice b F.length d] 25)
    have e : w.heap.size = z := by exact hz
    rw [e] at h
    rw [← hW0]
    exact h
  have HB0 : Hid (Below w.heap.size w W0 ∧ w.heap.size = z) := ⟨hb0, hz⟩
  have HB : Hid (Below w.heap.size w W0) := hb0
  have Lz : Hid (z + 1 ≤ W0.heap.size) := by unfold Hid; rw [← hW0]; simp [hz]
  have SZ := Z W0 (by omega) (by omega)
  have pz0 : W0.cell? ⟨z, 0, none⟩ = some (.slice a S.length c) := (cell_of_block bz 0).trans rfl
  have pz1 : W0.cell? ⟨z, 1, none⟩ = some (.slice b F.length d) := (cell_of_block bz 1).trans rfl
  clear Z hb0 hlS hlF hI
  go_enter Try.func3, Try.ntmps3
  go_wp2_with fail
  clear hW0 hz pz0 pz1
  refine SZ.mono ?_
  rintro e w1 ⟨r, rfl, hr, hb1⟩
  replace bz := (hb1.block (z) (lt_of_block bz)).trans bz
  replace Lz : Hid (z + 1 ≤ w1.heap.size) := Nat.le_trans Lz.out hb1.size
  replace HB : Hid (Below w.heap.size w w1) := bel_step HB.out hb1
  clear hb1 SZ
  by_cases hr0 : r < 0
  · go_wp2
    go_ret
    exact ⟨rfl, HB.out⟩
  · obtain ⟨lS, lF⟩ := hr (by omega)
    have TT : Hid (∀ w', Below w.heap.size w w' → Calls Try.prog 11 #[.agg #[.slice a S.length c, .slice b F.length d]] w' fun e w'' => ∃ v u, e = .returned (.agg #[v, u]) ∧ Hid (TabO w'.heap.size w'' v u S F) ∧ Below w'.heap.size w' w'') := fun w' hb => toTab a b c d S F w' (HI.out.hds.below hb) (HI.out.ints.below hb) lS lF
    clear hr
    have pz0 : w1.cell? ⟨z, 0, none⟩ = some (.slice a S.length c) := (cell_of_block bz 0).trans rfl
    have pz1 : w1.cell? ⟨z, 1, none⟩ = some (.slice b F.length d) := (cell_of_block bz 1).trans rfl
    obtain ⟨Bi, hB⟩ : ∃ B, w1.heap.size = B := ⟨_, rfl⟩
    have HEi : Hid (w1.heap.size = Bi) := hB
    have Oi : Hid (z + 1 ≤ Bi) := by unfold Hid; rw [← hB]; exact Lz.out
    clear hB
    go_wp2_with fail
    refine (TT.out w1 HB.out).mono ?_
    rintro e w2 ⟨v, u, rfl, Ti, hb⟩
    replace bz := (hb.block (z) (lt_of_block bz)).trans bz
    replace Lz : Hid (z + 1 ≤ w2.heap.size) := Nat.le_trans Lz.out hb.size
    replace HB : Hid (Below w.heap.size w w2) := bel_step HB.out hb
    obtain ⟨ai, ci, ei, di, rfl, rfl, hsi, hii, hdi⟩ := Ti.out.shape2
    rw [HEi.out] at Ti
    have HZi : Hid (Bi ≤ w2.heap.size) := by unfold Hid; rw [← HEi.out]; exact hb.size
    clear hb HEi pz0 pz1
    have CC := SP.out w2 ai ei ci di lS lF hsi hii hdi
    obtain ⟨Bn, hB⟩ : ∃ B, w2.heap.size = B := ⟨_, rfl⟩
    have HEn : Hid (w2.heap.size = Bn) := hB
    have On : Hid (z + 1 ≤ Bn) := by unfold Hid; rw [← hB]; exact Lz.out
    clear hB
    go_wp2_with fail
    refine CC.mono ?_
    rintro e w3 ⟨rfl, hb⟩
    replace bz := (hb.block (z) (lt_of_block bz)).trans bz
    replace Ti : Hid (TabO (Bi) w3 (.slice ai S.length ci) (.slice ei F.length di) S F) := Ti.out.below hb
    replace Lz : Hid (z + 1 ≤ w3.heap.size) := Nat.le_trans Lz.out hb.size
    replace HB : Hid (Below w.heap.size w w3) := bel_step HB.out hb
    clear hb CC  hsi hii hdi HEn
    clear Ti HZi Oi
    have pz0 : w3.cell? ⟨z, 0, none⟩ = some (.slice a S.length c) := (cell_of_block bz 0).trans rfl
    have pz1 : w3.cell? ⟨z, 1, none⟩ = some (.slice b F.length d) := (cell_of_block bz 1).trans rfl
    obtain ⟨Bx, hB⟩ : ∃ B, w3.heap.size = B := ⟨_, rfl⟩
    have HEx : Hid (w3.heap.size = Bx) := hB
    have Ox : Hid (z + 1 ≤ Bx) := by unfold Hid; rw [← hB]; exact Lz.out
    clear hB
    go_wp2_with fail
    refine (TT.out w3 HB.out).mono ?_
    rintro e w4 ⟨v, u, rfl, Tx, hb⟩
    replace bz := (hb.block (z) (lt_of_block bz)).trans bz
    replace Lz : Hid (z + 1 ≤ w4.heap.size) := Nat.le_trans Lz.out hb.size
    replace HB : Hid (Below w.heap.size w w4) := bel_step HB.out hb
    obtain ⟨ax, cx, ex, dx, rfl, rfl, hsx, hix, hdx⟩ := Tx.out.shape2
    rw [HEx.out] at Tx
    have HZx : Hid (Bx ≤ w4.heap.size) := by unfold Hid; rw [← HEx.out]; exact hb.size
    clear hb HEx pz0 pz1
    obtain ⟨yx, hyx⟩ : ∃ z, w4.heap.size = z := ⟨_, rfl⟩
    obtain ⟨w5, hN⟩ : ∃ W, (w4.alloc (.cells #[.slice ax S.length cx, .slice ex F.length dx] 30)) = W := ⟨_, rfl⟩
    have hb : Below w4.heap.size w4 w5 := by rw [← hN]; exact (bel_alloc (Below.refl _ _) _)
    have HVx : Hid (∀ g, (Value.slice ax S.length cx).ownBlock = some g ∨ (Value.slice ex F.length dx).ownBlock = some g → g < yx) := fun g hg => by rw [← hyx]; rcases hg with h | h; exact (Tx.out.hds.lt g h).2; exact (Tx.out.ints.lt g h).2
    replace bz := (hb.block (z) (lt_of_block bz)).trans bz
    replace Tx : Hid (TabO (Bx) w5 (.slice ax S.length cx) (.slice ex F.length dx) S F) := Tx.out.below hb
    replace Lz : Hid (z + 1 ≤ w5.heap.size) := Nat.le_trans Lz.out hb.size
    replace HB : Hid (Below w.heap.size w w5) := bel_step HB.out hb
    have bx : w5.heap[yx]? = some (.cells #[.slice ax S.length cx, .slice ex F.length dx] 30 (0, 0)) := by
      have h := heap_alloc_new w4 (.cells #[.slice ax S.length cx, .slice ex F.length dx] 30)
      have e : w4.heap.size = yx := by exact hyx
      rw [e] at h
      rw [← hN]
      exact h
    have HAyx : Hid (w4.heap.size = yx) := hyx
    have Lyx : Hid (yx + 1 ≤ w5.heap.size) := by unfold Hid; rw [← hN]; simp [hyx]
    clear hb
    replace hsx : Hds w5 ax S := by obtain ⟨_, _, _, _, e1, e2, h1, h2, _⟩ := Tx.out.shape2; simp only [Value.slice.injEq] at e1; rw [e1.1]; exact h1
    replace hix : Ints w5 ex F := by obtain ⟨_, _, _, _, e1, e2, h1, h2, _⟩ := Tx.out.shape2; simp only [Value.slice.injEq] at e2; rw [e2.1]; exact h2
    have px0 : w5.cell? ⟨yx, 0, none⟩ = some (.slice ax S.length cx) := (cell_of_block bx 0).trans rfl
    have px1 : w5.cell? ⟨yx, 1, none⟩ = some (.slice ex F.length dx) := (cell_of_block bx 1).trans rfl
    have CC := IM.out w5 ax ex cx dx lS lF hsx hix hdx
    obtain ⟨Bg, hB⟩ : ∃ B, w5.heap.size = B := ⟨_, rfl⟩
    have HEg : Hid (w5.heap.size = Bg) := hB
    have Og : Hid (yx + 1 ≤ Bg) := by unfold Hid; rw [← hB]; exact Lyx.out
    clear hB
    go_wp2_with fail
    clear hN hyx
    refine CC.mono ?_
    rintro e w6 ⟨rfl, hb⟩
    replace bz := (hb.block (z) (lt_of_block bz)).trans bz
    replace bx := (hb.block (yx) (lt_of_block bx)).trans bx
    replace Tx : Hid (TabO (Bx) w6 (.slice ax S.length cx) (.slice ex F.length dx) S F) := Tx.out.below hb
    replace Lz : Hid (z + 1 ≤ w6.heap.size) := Nat.le_trans Lz.out hb.size
    replace Lyx : Hid (yx + 1 ≤ w6.heap.size) := Nat.le_trans Lyx.out hb.size
    replace HB : Hid (Below w.heap.size w w6) := bel_step HB.out hb
    clear hb CC px0 px1 hsx hix hdx HEg
    have nB0 : (C0 != C0) = false := by cases C0 <;> rfl
    have nb0 : (!(C0 == C0)) = false := by cases C0 <;> rfl
    go_wp2
    have KX : ∀ w', Keeps w6 w' → w'.heap[yx]? = some (.cells #[.slice ax S.length cx, .slice ex F.length dx] 30 (0, 0)) := fun w' h => (h.below.block yx (lt_of_block bx)).trans bx
    have KZ : ∀ w', Keeps w6 w' → w'.heap[z]? = some (.cells #[.slice a S.length c, .slice b F.length d] 25 (0, 0)) := fun w' h => (h.below.block z (lt_of_block bz)).trans bz
    refine wh_begin (Keeps w6) (by kernel_rfl) ?_
    have hS0 : Keeps w6 w6.drew := Keeps.drew w6
    refine wh_take 0 (some 22) (.agg #[.slice ax S.length cx, .slice ex F.length dx]) rfl rfl (by kernel_rfl) (by kernel_rfl) (by kernel_rfl) (fun _ _ _ h => h) hS0 (by rfl) (fun w' hS => by have hq := KX _ hS; have q0 : w'.cell? ⟨yx, 0, none⟩ = some (.slice ax S.length cx) := (cell_of_block hq 0).trans rfl; have q1 : w'.cell? ⟨yx, 1, none⟩ = some (.slice ex F.length dx) := (cell_of_block hq 1).trans rfl; clear hq; go_simp) ?_
    simp only [Act.put, List.setIfInBounds_toArray, List.set_cons_zero, List.set_cons_succ]
    refine wh_take 1 (some 23) (.agg #[.slice a S.length c, .slice b F.length d]) rfl rfl (by kernel_rfl) (by kernel_rfl) (by kernel_rfl) (fun _ _ _ h => h) hS0 (by rfl) (fun w' hS => by have hq := KZ _ hS; have q0 : w'.cell? ⟨z, 0, none⟩ = some (.slice a S.length c) := (cell_of_block hq 0).trans rfl; have q1 : w'.cell? ⟨z, 1, none⟩ = some (.slice b F.length d) := (cell_of_block hq 1).trans rfl; clear hq; go_simp) ?_
    simp only [Act.put, List.setIfInBounds_toArray, List.set_cons_zero, List.set_cons_succ]
    refine wh_call 2 (some 24) 11 #[.agg #[.slice a S.length c, .slice b F.length d]] (by kernel_rfl) rfl rfl (by rfl) (by kernel_rfl) ?_
    refine (TT.out _ (bel_step HB.out hS0.below)).mono ?_
    rintro e wb ⟨v, u, rfl, Tb, hbb⟩
    have hSb : Keeps w6 wb := hS0.step hbb
    refine ⟨_, rfl, hSb, ?_⟩
    obtain ⟨ab, cb, eb, db, rfl, rfl, _, _, _⟩ := Tb.out.shape2
    have Txb : Hid (TabO Bx wb (.slice ax S.length cx) (.slice ex F.length dx) S F) := Tx.out.below hSb.below
    have EE := eqTabO Txb Tb (by omega) (by omega)
    simp only [Act.put, List.setIfInBounds_toArray, List.set_cons_zero, List.set_cons_succ]
    refine wh_call 3 (some 25) 13 #[.agg #[.slice ax S.length cx, .slice ex F.length dx], .agg #[.slice ab S.length cb, .slice eb F.length db]] (by kernel_rfl) rfl rfl (by rfl) (by kernel_rfl) ?_
    refine EE.mono ?_
    rintro e w7 ⟨rfl, hbc⟩
    have hSc : Keeps w6 w7 := hSb.step hbc
    refine ⟨_, rfl, hSc, ?_⟩
    simp only [Act.put, List.setIfInBounds_toArray, List.set_cons_zero, List.set_cons_succ]
    refine wh_val 4 (some 26) (.bool false) w7 (by kernel_rfl) rfl rfl (by rfl) (by rfl) hSc ?_
    simp only [Act.put, List.setIfInBounds_toArray, List.set_cons_zero, List.set_cons_succ]
    refine wh_done (by kernel_rfl) ?_
    have hb := hSc.below
    replace bz := (hb.block (z) (lt_of_block bz)).trans bz
    replace bx := (hb.block (yx) (lt_of_block bx)).trans bx
    replace Tx : Hid (TabO (Bx) w7 (.slice ax S.length cx) (.slice ex F.length dx) S F) := Tx.out.below hb
    replace Lz : Hid (z + 1 ≤ w7.heap.size) := Nat.le_trans Lz.out hb.size
    replace Lyx : Hid (yx + 1 ≤ w7.heap.size) := Nat.le_trans Lyx.out hb.size
    replace HB : Hid (Below w.heap.size w w7) := bel_step HB.out hb
    clear hb EE Txb Tb hbb hbc hS0 hSb hSc KX KZ
    go_wp2
    go_ret
    exact ⟨rfl, HB.out⟩

set_option maxRecDepth 1000000 in
set_option maxHeartbeats 6400000 in
theorem tab_find (a : Option Addr) (c : Nat) (b : Option Addr) (d : Nat) (S : List Hd) (F : List Int) (x0 : Int) (x1 : Int) (H1 : Hd) (C1 : Int) (w : World) (hI : IsTab w a b S F)
    (SP : Hid (∀ (w' : World) a b c d, S.length ≤ 1048576 → F.length ≤ 1048576 → Hds w' a S → Ints w' b F → F.length ≤ d → Calls Try.prog 19 #[tabV a S.length c b F.length d, .int .i64 x0, .int .i64 x1] w' fun e w'' => e = .returned (.tuple #[hdV H1, .int .i64 C1]) ∧ Below w'.heap.size w' w''))
    (IM : Hid (∀ (w' : World) a b c d, S.length ≤ 1048576 → F.length ≤ 1048576 → Hds w' a S → Ints w' b F → F.length ≤ d → Calls Try.prog 20 #[tabV a S.length c b F.length d, .int .i64 x0, .int .i64 x1] w' fun e w'' => e = .returned (.tuple #[hdV H1, .int .i64 C1]) ∧ Below w'.heap.size w' w'')) :
    Calls Try.prog 5 #[tabV a S.length c b F.length d, .int .i64 x0, .int .i64 x1] w fun e w' => e = .returned (.bool true) ∧ Below w.heap.size w w' := by
  have Z := szTab a b S.length c F.length d
  have HI : Hid (IsTab w a b S F) := hI
  have hlS := hI.lS
  have hlF := hI.lF
  obtain ⟨z, hz⟩ : ∃ z, w.heap.size = z := ⟨_, rfl⟩
  have EH := eqHd1 H1
  unfold tabV at SP IM Z ⊢
  unfold hdV at SP IM EH 
  obtain ⟨W0, hW0⟩ : ∃ W, (w.alloc (.cells #[.slice a S.length c, .slice b F.length d] 25)) = W := ⟨_, rfl⟩
  have hb0 : Below w.heap.size w W0 := by rw [← hW0]; exact (bel_alloc (Below.refl _ _) _)
  have bz : W0.heap[z]? = some (.cells #[.slice a S.length c, .slice b F.length d] 25 (0, 0)) := by
    have h := heap_alloc_new w (.cells #[.slice a S.length c, .slice b F.length d] 25)
    have e : w.heap.size = z := by exact hz
    rw [e] at h
    rw [← hW0]
    exact h
  have HB0 : Hid (Below w.heap.size w W0 ∧ w.heap.size = z) := ⟨hb0, hz⟩
  have HB : Hid (Below w.heap.size w W0) := hb0
  have Lz : Hid (z + 1 ≤ W0.heap.size) := by unfold Hid; rw [← hW0]; simp [hz]
  have SZ := Z W0 (by omega) (by omega)
  have pz0 : W0.cell? ⟨z, 0, none⟩ = some (.slice a S.length c) := (cell_of_block bz 0).trans rfl
  have pz1 : W0.cell? ⟨z, 1, none⟩ = some (.slice b F.length d) := (cell_of_block bz 1).trans rfl
  clear Z hb0 hlS hlF hI
  go_enter Try.func5, Try.ntmps5
  go_wp2_with fail
  clear hW0 hz pz0 pz1
  refine SZ.mono ?_
  rintro e w1 ⟨r, rfl, hr, hb1⟩
  replace bz := (hb1.block (z) (lt_of_block bz)).trans bz
  replace Lz : Hid (z + 1 ≤ w1.heap.size) := Nat.le_trans Lz.out hb1.size
  replace HB : Hid (Below w.heap.size w w1) := bel_step HB.out hb1
  clear hb1 SZ
  by_cases hr0 : r < 0
  · go_wp2
    go_ret
    exact ⟨rfl, HB.out⟩
  · obtain ⟨lS, lF⟩ := hr (by omega)
    have TT : Hid (∀ w', Below w.heap.size w w' → Calls Try.prog 11 #[.agg #[.slice a S.length c, .slice b F.length d]] w' fun e w'' => ∃ v u, e = .returned (.agg #[v, u]) ∧ Hid (TabO w'.heap.size w'' v u S F) ∧ Below w'.heap.size w' w'') := fun w' hb => toTab a b c d S F w' (HI.out.hds.below hb) (HI.out.ints.below hb) lS lF
    clear hr
    have pz0 : w1.cell? ⟨z, 0, none⟩ = some (.slice a S.length c) := (cell_of_block bz 0).trans rfl
    have pz1 : w1.cell? ⟨z, 1, none⟩ = some (.slice b F.length d) := (cell_of_block bz 1).trans rfl
    obtain ⟨Bi, hB⟩ : ∃ B, w1.heap.size = B := ⟨_, rfl⟩
    have HEi : Hid (w1.heap.size = Bi) := hB
    have Oi : Hid (z + 1 ≤ Bi) := by unfold Hid; rw [← hB]; exact Lz.out
    clear hB
    go_wp2_with fail
    refine (TT.out w1 HB.out).mono ?_
    rintro e w2 ⟨v, u, rfl, Ti, hb⟩
    replace bz := (hb.block (z) (lt_of_block bz)).trans bz
    replace Lz : Hid (z + 1 ≤ w2.heap.size) := Nat.le_trans Lz.out hb.size
    replace HB : Hid (Below w.heap.size w w2) := bel_step HB.out hb
    obtain ⟨ai, ci, ei, di, rfl, rfl, hsi, hii, hdi⟩ := Ti.out.shape2
    rw [HEi.out] at Ti
    have HZi : Hid (Bi ≤ w2.heap.size) := by unfold Hid; rw [← HEi.out]; exact hb.size
    clear hb HEi pz0 pz1
    have CC := SP.out w2 ai ei ci di lS lF hsi hii hdi
    obtain ⟨Bn, hB⟩ : ∃ B, w2.heap.size = B := ⟨_, rfl⟩
    have HEn : Hid (w2.heap.size = Bn) := hB
    have On : Hid (z + 1 ≤ Bn) := by unfold Hid; rw [← hB]; exact Lz.out
    clear hB
    go_wp2_with fail
    refine CC.mono ?_
    rintro e w3 ⟨rfl, hb⟩
    replace bz := (hb.block (z) (lt_of_block bz)).trans bz
    replace Ti : Hid (TabO (Bi) w3 (.slice ai S.length ci) (.slice ei F.length di) S F) := Ti.out.below hb
    replace Lz : Hid (z + 1 ≤ w3.heap.size) := Nat.le_trans Lz.out hb.size
    replace HB : Hid (Below w.heap.size w w3) := bel_step HB.out hb
    clear hb CC  hsi hii hdi HEn
    clear Ti HZi Oi
    obtain ⟨ys, hys⟩ : ∃ z, w3.heap.size = z := ⟨_, rfl⟩
    obtain ⟨w4, hN⟩ : ∃ W, (w3.alloc (.cells #[.bool H1.u, .int .i64 H1.r, .int .i64 H1.p, .bool H1.o, .int .i64 H1.l, .int .i64 H1.s] 38)) = W := ⟨_, rfl⟩
    have hb : Below w3.heap.size w3 w4 := by rw [← hN]; exact (bel_alloc (Below.refl _ _) _)
    replace bz := (hb.block (z) (lt_of_block bz)).trans bz
    replace Lz : Hid (z + 1 ≤ w4.heap.size) := Nat.le_trans Lz.out hb.size
    replace HB : Hid (Below w.heap.size w w4) := bel_step HB.out hb
    have bnh : w4.heap[ys]? = some (.cells #[.bool H1.u, .int .i64 H1.r, .int .i64 H1.p, .bool H1.o, .int .i64 H1.l, .int .i64 H1.s] 38 (0, 0)) := by
      have h := heap_alloc_new w3 (.cells #[.bool H1.u, .int .i64 H1.r, .int .i64 H1.p, .bool H1.o, .int .i64 H1.l, .int .i64 H1.s] 38)
      have e : w3.heap.size = ys := by exact hys
      rw [e] at h
      rw [← hN]
      exact h
    have HAys : Hid (w3.heap.size = ys) := hys
    have Lys : Hid (ys + 1 ≤ w4.heap.size) := by unfold Hid; rw [← hN]; simp [hys]
    clear hb
    have pz0 : w4.cell? ⟨z, 0, none⟩ = some (.slice a S.length c) := (cell_of_block bz 0).trans rfl
    have pz1 : w4.cell? ⟨z, 1, none⟩ = some (.slice b F.length d) := (cell_of_block bz 1).trans rfl
    obtain ⟨Bx, hB⟩ : ∃ B, w4.heap.size = B := ⟨_, rfl⟩
    have HEx : Hid (w4.heap.size = Bx) := hB
    have Ox : Hid (ys + 1 ≤ Bx) := by unfold Hid; rw [← hB]; exact Lys.out
    clear hB
    go_wp2_with fail
    clear hN hys
    refine (TT.out w4 HB.out).mono ?_
    rintro e w5 ⟨v, u, rfl, Tx, hb⟩
    replace bz := (hb.block (z) (lt_of_block bz)).trans bz
    replace bnh := (hb.block (ys) (lt_of_block bnh)).trans bnh
    replace Lz : Hid (z + 1 ≤ w5.heap.size) := Nat.le_trans Lz.out hb.size
    replace Lys : Hid (ys + 1 ≤ w5.heap.size) := Nat.le_trans Lys.out hb.size
    replace HB : Hid (Below w.heap.size w w5) := bel_step HB.out hb
    obtain ⟨ax, cx, ex, dx, rfl, rfl, hsx, hix, hdx⟩ := Tx.out.shape2
    rw [HEx.out] at Tx
    have HZx : Hid (Bx ≤ w5.heap.size) := by unfold Hid; rw [← HEx.out]; exact hb.size
    clear hb HEx pz0 pz1
    obtain ⟨yx, hyx⟩ : ∃ z, w5.heap.size = z := ⟨_, rfl⟩
    obtain ⟨w6, hN⟩ : ∃ W, (w5.alloc (.cells #[.slice ax S.length cx, .slice ex F.length dx] 30)) = W := ⟨_, rfl⟩
    have hb : Below w5.heap.size w5 w6 := by rw [← hN]; exact (bel_alloc (Below.refl _ _) _)
    have HVx : Hid (∀ g, (Value.slice ax S.length cx).ownBlock = some g ∨ (Value.slice ex F.length dx).ownBlock = some g → g < yx) := fun g hg => by rw [← hyx]; rcases hg with h | h; exact (Tx.out.hds.lt g h).2; exact (Tx.out.ints.lt g h).2
    replace bz := (hb.block (z) (lt_of_block bz)).trans bz
    replace bnh := (hb.block (ys) (lt_of_block bnh)).trans bnh
    replace Tx : Hid (TabO (Bx) w6 (.slice ax S.length cx) (.slice ex F.length dx) S F) := Tx.out.below hb
    replace Lz : Hid (z + 1 ≤ w6.heap.size) := Nat.le_trans Lz.out hb.size
    replace Lys : Hid (ys + 1 ≤ w6.heap.size) := Nat.le_trans Lys.out hb.size
    replace HB : Hid (Below w.heap.size w w6) := bel_step HB.out hb
    have bx : w6.heap[yx]? = some (.cells #[.slice ax S.length cx, .slice ex F.length dx] 30 (0, 0)) := by
      have h := heap_alloc_new w5 (.cells #[.slice ax S.length cx, .slice ex F.length dx] 30)
      have e : w5.heap.size = yx := by exact hyx
      rw [e] at h
      rw [← hN]
      exact h
    have HAyx : Hid (w5.heap.size = yx) := hyx
    have Lyx : Hid (yx + 1 ≤ w6.heap.size) := by unfold Hid; rw [← hN]; simp [hyx]
    clear hb
    replace hsx : Hds w6 ax S := by obtain ⟨_, _, _, _, e1, e2, h1, h2, _⟩ := Tx.out.shape2; simp only [Value.slice.injEq] at e1; rw [e1.1]; exact h1
    replace hix : Ints w6 ex F := by obtain ⟨_, _, _, _, e1, e2, h1, h2, _⟩ := Tx.out.shape2; simp only [Value.slice.injEq] at e2; rw [e2.1]; exact h2
    have px0 : w6.cell? ⟨yx, 0, none⟩ = some (.slice ax S.length cx) := (cell_of_block bx 0).trans rfl
    have px1 : w6.cell? ⟨yx, 1, none⟩ = some (.slice ex F.length dx) := (cell_of_block bx 1).trans rfl
    have CC := IM.out w6 ax ex cx dx lS lF hsx hix hdx
    obtain ⟨Bg, hB⟩ : ∃ B, w6.heap.size = B := ⟨_, rfl⟩
    have HEg : Hid (w6.heap.size = Bg) := hB
    have Og : Hid (yx + 1 ≤ Bg) := by unfold Hid; rw [← hB]; exact Lyx.out
    clear hB
    go_wp2_with fail
    clear hN hyx
    refine CC.mono ?_
    rintro e w7 ⟨rfl, hb⟩
    replace bz := (hb.block (z) (lt_of_block bz)).trans bz
    replace bnh := (hb.block (ys) (lt_of_block bnh)).trans bnh
    replace bx := (hb.block (yx) (lt_of_block bx)).trans bx
    replace Tx : Hid (TabO (Bx) w7 (.slice ax S.length cx) (.slice ex F.length dx) S F) := Tx.out.below hb
    replace Lz : Hid (z + 1 ≤ w7.heap.size) := Nat.le_trans Lz.out hb.size
    replace Lys : Hid (ys + 1 ≤ w7.heap.size) := Nat.le_trans Lys.out hb.size
    replace Lyx : Hid (yx + 1 ≤ w7.heap.size) := Nat.le_trans Lyx.out hb.size
    replace HB : Hid (Below w.heap.size w w7) := bel_step HB.out hb
    clear hb CC px0 px1 hsx hix hdx HEg
    obtain ⟨yg, hyg⟩ : ∃ z, w7.heap.size = z := ⟨_, rfl⟩
    obtain ⟨w8, hN⟩ : ∃ W, (w7.alloc (.cells #[.bool H1.u, .int .i64 H1.r, .int .i64 H1.p, .bool H1.o, .int .i64 H1.l, .int .i64 H1.s] 38)) = W := ⟨_, rfl⟩
    have hb : Below w7.heap.size w7 w8 := by rw [← hN]; exact (bel_alloc (Below.refl _ _) _)
    replace bz := (hb.block (z) (lt_of_block bz)).trans bz
    replace bnh := (hb.block (ys) (lt_of_block bnh)).trans bnh
    replace bx := (hb.block (yx) (lt_of_block bx)).trans bx
    replace Tx : Hid (TabO (Bx) w8 (.slice ax S.length cx) (.slice ex F.length dx) S F) := Tx.out.below hb
    replace Lz : Hid (z + 1 ≤ w8.heap.size) := Nat.le_trans Lz.out hb.size
    replace Lys : Hid (ys + 1 ≤ w8.heap.size) := Nat.le_trans Lys.out hb.size
    replace Lyx : Hid (yx + 1 ≤ w8.heap.size) := Nat.le_trans Lyx.out hb.size
    replace HB : Hid (Below w.heap.size w w8) := bel_step HB.out hb
    have bgh : w8.heap[yg]? = some (.cells #[.bool H1.u, .int .i64 H1.r, .int .i64 H1.p, .bool H1.o, .int .i64 H1.l, .int .i64 H1.s] 38 (0, 0)) := by
      have h := heap_alloc_new w7 (.cells #[.bool H1.u, .int .i64 H1.r, .int .i64 H1.p, .bool H1.o, .int .i64 H1.l, .int .i64 H1.s] 38)
      have e : w7.heap.size = yg := by exact hyg
      rw [e] at h
      rw [← hN]
      exact h
    have HAyg : Hid (w7.heap.size = yg) := hyg
    have Lyg : Hid (yg + 1 ≤ w8.heap.size) := by unfold Hid; rw [← hN]; simp [hyg]
    clear hb
    have pgh0 : w8.cell? ⟨yg, 0, none⟩ = some (.bool H1.u) := (cell_of_block bgh 0).trans rfl
    have pgh1 : w8.cell? ⟨yg, 1, none⟩ = some (.int .i64 H1.r) := (cell_of_block bgh 1).trans rfl
    have pgh2 : w8.cell? ⟨yg, 2, none⟩ = some (.int .i64 H1.p) := (cell_of_block bgh 2).trans rfl
    have pgh3 : w8.cell? ⟨yg, 3, none⟩ = some (.bool H1.o) := (cell_of_block bgh 3).trans rfl
    have pgh4 : w8.cell? ⟨yg, 4, none⟩ = some (.int .i64 H1.l) := (cell_of_block bgh 4).trans rfl
    have pgh5 : w8.cell? ⟨yg, 5, none⟩ = some (.int .i64 H1.s) := (cell_of_block bgh 5).trans rfl
    have pnh0 : w8.cell? ⟨ys, 0, none⟩ = some (.bool H1.u) := (cell_of_block bnh 0).trans rfl
    have pnh1 : w8.cell? ⟨ys, 1, none⟩ = some (.int .i64 H1.r) := (cell_of_block bnh 1).trans rfl
    have pnh2 : w8.cell? ⟨ys, 2, none⟩ = some (.int .i64 H1.p) := (cell_of_block bnh 2).trans rfl
    have pnh3 : w8.cell? ⟨ys, 3, none⟩ = some (.bool H1.o) := (cell_of_block bnh 3).trans rfl
    have pnh4 : w8.cell? ⟨ys, 4, none⟩ = some (.int .i64 H1.l) := (cell_of_block bnh 4).trans rfl
    have pnh5 : w8.cell? ⟨ys, 5, none⟩ = some (.int .i64 H1.s) := (cell_of_block bnh 5).trans rfl
    go_wp2_with fail
    clear hN hyg
    refine (EH w8).mono ?_
    rintro e w9 ⟨rfl, hb⟩
    replace bz := (hb.block (z) (lt_of_block bz)).trans bz
    replace bnh := (hb.block (ys) (lt_of_block bnh)).trans bnh
    replace bx := (hb.block (yx) (lt_of_block bx)).trans bx
    replace bgh := (hb.block (yg) (lt_of_block bgh)).trans bgh
    replace Tx : Hid (TabO (Bx) w9 (.slice ax S.length cx) (.slice ex F.length dx) S F) := Tx.out.below hb
    replace Lz : Hid (z + 1 ≤ w9.heap.size) := Nat.le_trans Lz.out hb.size
    replace Lys : Hid (ys + 1 ≤ w9.heap.size) := Nat.le_trans Lys.out hb.size
    replace Lyx : Hid (yx + 1 ≤ w9.heap.size) := Nat.le_trans Lyx.out hb.size
    replace Lyg : Hid (yg + 1 ≤ w9.heap.size) := Nat.le_trans Lyg.out hb.size
    replace HB : Hid (Below w.heap.size w w9) := bel_step HB.out hb
    clear hb pgh0 pgh1 pgh2 pgh3 pgh4 pgh5 pnh0 pnh1 pnh2 pnh3 pnh4 pnh5
    go_wp2
    have KX : ∀ w', Keeps w9 w' → w'.heap[yx]? = some (.cells #[.slice ax S.length cx, .slice ex F.length dx] 30 (0, 0)) := fun w' h => (h.below.block yx (lt_of_block bx)).trans bx
    have KZ : ∀ w', Keeps w9 w' → w'.heap[z]? = some (.cells #[.slice a S.length c, .slice b F.length d] 25 (0, 0)) := fun w' h => (h.below.block z (lt_of_block bz)).trans bz
    refine wh_begin (Keeps w9) (by kernel_rfl) ?_
    have hS0 : Keeps w9 w9.drew := Keeps.drew w9
    refine wh_take 0 (some 44) (.agg #[.slice ax S.length cx, .slice ex F.length dx]) rfl rfl (by kernel_rfl) (by kernel_rfl) (by kernel_rfl) (fun _ _ _ h => h) hS0 (by rfl) (fun w' hS => by have hq := KX _ hS; have q0 : w'.cell? ⟨yx, 0, none⟩ = some (.slice ax S.length cx) := (cell_of_block hq 0).trans rfl; have q1 : w'.cell? ⟨yx, 1, none⟩ = some (.slice ex F.length dx) := (cell_of_block hq 1).trans rfl; clear hq; go_simp) ?_
    simp only [Act.put, List.setIfInBounds_toArray, List.set_cons_zero, List.set_cons_succ]
    refine wh_take 1 (some 45) (.agg #[.slice a S.length c, .slice b F.length d]) rfl rfl (by kernel_rfl) (by kernel_rfl) (by kernel_rfl) (fun _ _ _ h => h) hS0 (by rfl) (fun w' hS => by have hq := KZ _ hS; have q0 : w'.cell? ⟨z, 0, none⟩ = some (.slice a S.length c) := (cell_of_block hq 0).trans rfl; have q1 : w'.cell? ⟨z, 1, none⟩ = some (.slice b F.length d) := (cell_of_block hq 1).trans rfl; clear hq; go_simp) ?_
    simp only [Act.put, List.setIfInBounds_toArray, List.set_cons_zero, List.set_cons_succ]
    refine wh_call 2 (some 46) 11 #[.agg #[.slice a S.length c, .slice b F.length d]] (by kernel_rfl) rfl rfl (by rfl) (by kernel_rfl) ?_
    refine (TT.out _ (bel_step HB.out hS0.below)).mono ?_
    rintro e wb ⟨v, u, rfl, Tb, hbb⟩
    have hSb : Keeps w9 wb := hS0.step hbb
    refine ⟨_, rfl, hSb, ?_⟩
    obtain ⟨ab, cb, eb, db, rfl, rfl, _, _, _⟩ := Tb.out.shape2
    have Txb : Hid (TabO Bx wb (.slice ax S.length cx) (.slice ex F.length dx) S F) := Tx.out.below hSb.below
    have EE := eqTabO Txb Tb (by omega) (by omega)
    simp only [Act.put, List.setIfInBounds_toArray, List.set_cons_zero, List.set_cons_succ]
    refine wh_call 3 (some 47) 13 #[.agg #[.slice ax S.length cx, .slice ex F.length dx], .agg #[.slice ab S.length cb, .slice eb F.length db]] (by kernel_rfl) rfl rfl (by rfl) (by kernel_rfl) ?_
    refine EE.mono ?_
    rintro e w10 ⟨rfl, hbc⟩
    have hSc : Keeps w9 w10 := hSb.step hbc
    refine ⟨_, rfl, hSc, ?_⟩
    simp only [Act.put, List.setIfInBounds_toArray, List.set_cons_zero, List.set_cons_succ]
    refine wh_val 4 (some 48) (.bool false) w10 (by kernel_rfl) rfl rfl (by rfl) (by rfl) hSc ?_
    simp only [Act.put, List.setIfInBounds_toArray, List.set_cons_zero, List.set_cons_succ]
    refine wh_done (by kernel_rfl) ?_
    have hb := hSc.below
    replace bz := (hb.block (z) (lt_of_block bz)).trans bz
    replace bnh := (hb.block (ys) (lt_of_block bnh)).trans bnh
    replace bx := (hb.block (yx) (lt_of_block bx)).trans bx
    replace bgh := (hb.block (yg) (lt_of_block bgh)).trans bgh
    replace Tx : Hid (TabO (Bx) w10 (.slice ax S.length cx) (.slice ex F.length dx) S F) := Tx.out.below hb
    replace Lz : Hid (z + 1 ≤ w10.heap.size) := Nat.le_trans Lz.out hb.size
    replace Lys : Hid (ys + 1 ≤ w10.heap.size) := Nat.le_trans Lys.out hb.size
    replace Lyx : Hid (yx + 1 ≤ w10.heap.size) := Nat.le_trans Lyx.out hb.size
    replace Lyg : Hid (yg + 1 ≤ w10.heap.size) := Nat.le_trans Lyg.out hb.size
    replace HB : Hid (Below w.heap.size w w10) := bel_step HB.out hb
    clear hb EE Txb Tb hbb hbc hS0 hSb hSc KX KZ
    go_wp2
    go_ret
    exact ⟨rfl, HB.out⟩

set_option maxRecDepth 1000000 in
set_option maxHeartbeats 6400000 in
theorem tab_lend (a : Option Addr) (c : Nat) (b : Option Addr) (d : Nat) (S : List Hd) (F : List Int) (x0 : Int) (x1 : Int) (S1 : List Hd) (F1 : List Int) (H1 : Hd) (C2 : Int) (w : World) (hI : IsTab w a b S F)
    (SP : Hid (∀ (w' : World) a b c d, S.length ≤ 1048576 → F.length ≤ 1048576 → Hds w' a S → Ints w' b F → F.length ≤ d → Calls Try.prog 22 #[tabV a S.length c b F.length d, .int .i64 x0, .int .i64 x1] w' fun e w'' => ∃ v u, e = .returned (.tuple #[.agg #[v, u], hdV H1, .int .i64 C2]) ∧ Hid (TabO w'.heap.size w'' v u S1 F1) ∧ Below w'.heap.size w' w''))
    (IM : Hid (∀ (w' : World) a b c d, S.length ≤ 1048576 → F.length ≤ 1048576 → Hds w' a S → Ints w' b F → F.length ≤ d → Calls Try.prog 23 #[tabV a S.length c b F.length d, .int .i64 x0, .int .i64 x1] w' fun e w'' => ∃ v u, e = .returned (.tuple #[.agg #[v, u], hdV H1, .int .i64 C2]) ∧ Hid (TabO w'.heap.size w'' v u S1 F1) ∧ Below w'.heap.size w' w''))
    (hl : Hid (S.length ≤ 1048576 → F.length ≤ 1048576 → S1.length ≤ 1048576 ∧ F1.length ≤ 1048576)) :
    Calls Try.prog 6 #[tabV a S.length c b F.length d, .int .i64 x0, .int .i64 x1] w fun e w' => e = .returned (.bool true) ∧ Below w.heap.size w w' := by
  have Z := szTab a b S.length c F.length d
  have HI : Hid (IsTab w a b S F) := hI
  have hlS := hI.lS
  have hlF := hI.lF
  obtain ⟨z, hz⟩ : ∃ z, w.heap.size = z := ⟨_, rfl⟩
  have EH := eqHd1 H1
  unfold tabV at SP IM Z ⊢
  unfold hdV at SP IM EH 
  obtain ⟨W0, hW0⟩ : ∃ W, (w.alloc (.cells #[.slice a S.length c, .slice b F.length d] 25)) = W := ⟨_, rfl⟩
  have hb0 : Below w.heap.size w W0 := by rw [← hW0]; exact (bel_alloc (Below.refl _ _) _)
  have bz : W0.heap[z]? = some (.cells #[.slice a S.length c, .slice b F.length d] 25 (0, 0)) := by
    have h := heap_alloc_new w (.cells #[.slice a S.length c, .slice b F.length d] 25)
    have e : w.heap.size = z := by exact hz
    rw [e] at h
    rw [← hW0]
    exact h
  have HB0 : Hid (Below w.heap.size w W0 ∧ w.heap.size = z) := ⟨hb0, hz⟩
  have HB : Hid (Below w.heap.size w W0) := hb0
  have Lz : Hid (z + 1 ≤ W0.heap.size) := by unfold Hid; rw [← hW0]; simp [hz]
  have SZ := Z W0 (by omega) (by omega)
  have pz0 : W0.cell? ⟨z, 0, none⟩ = some (.slice a S.length c) := (cell_of_block bz 0).trans rfl
  have pz1 : W0.cell? ⟨z, 1, none⟩ = some (.slice b F.length d) := (cell_of_block bz 1).trans rfl
  clear Z hb0 hlS hlF hI
  go_enter Try.func6, Try.ntmps6
  go_wp2_with fail
  clear hW0 hz pz0 pz1
  refine SZ.mono ?_
  rintro e w1 ⟨r, rfl, hr, hb1⟩
  replace bz := (hb1.block (z) (lt_of_block bz)).trans bz
  replace Lz : Hid (z + 1 ≤ w1.heap.size) := Nat.le_trans Lz.out hb1.size
  replace HB : Hid (Below w.heap.size w w1) := bel_step HB.out hb1
  clear hb1 SZ
  by_cases hr0 : r < 0
  · go_wp2
    go_ret
    exact ⟨rfl, HB.out⟩
  · obtain ⟨lS, lF⟩ := hr (by omega)
    have TT : Hid (∀ w', Below w.heap.size w w' → Calls Try.prog 11 #[.agg #[.slice a S.length c, .slice b F.length d]] w' fun e w'' => ∃ v u, e = .returned (.agg #[v, u]) ∧ Hid (TabO w'.heap.size w'' v u S F) ∧ Below w'.heap.size w' w'') := fun w' hb => toTab a b c d S F w' (HI.out.hds.below hb) (HI.out.ints.below hb) lS lF
    obtain ⟨lS1, lF1⟩ := hl.out lS lF
    clear hr
    have pz0 : w1.cell? ⟨z, 0, none⟩ = some (.slice a S.length c) := (cell_of_block bz 0).trans rfl
    have pz1 : w1.cell? ⟨z, 1, none⟩ = some (.slice b F.length d) := (cell_of_block bz 1).trans rfl
    obtain ⟨Bi, hB⟩ : ∃ B, w1.heap.size = B := ⟨_, rfl⟩
    have HEi : Hid (w1.heap.size = Bi) := hB
    have Oi : Hid (z + 1 ≤ Bi) := by unfold Hid; rw [← hB]; exact Lz.out
    clear hB
    go_wp2_with fail
    refine (TT.out w1 HB.out).mono ?_
    rintro e w2 ⟨v, u, rfl, Ti, hb⟩
    replace bz := (hb.block (z) (lt_of_block bz)).trans bz
    replace Lz : Hid (z + 1 ≤ w2.heap.size) := Nat.le_trans Lz.out hb.size
    replace HB : Hid (Below w.heap.size w w2) := bel_step HB.out hb
    obtain ⟨ai, ci, ei, di, rfl, rfl, hsi, hii, hdi⟩ := Ti.out.shape2
    rw [HEi.out] at Ti
    have HZi : Hid (Bi ≤ w2.heap.size) := by unfold Hid; rw [← HEi.out]; exact hb.size
    clear hb HEi pz0 pz1
    have CC := SP.out w2 ai ei ci di lS lF hsi hii hdi
    obtain ⟨Bn, hB⟩ : ∃ B, w2.heap.size = B := ⟨_, rfl⟩
    have HEn : Hid (w2.heap.size = Bn) := hB
    have On : Hid (z + 1 ≤ Bn) := by unfold Hid; rw [← hB]; exact Lz.out
    clear hB
    go_wp2_with fail
    refine CC.mono ?_
    rintro e w3 ⟨v, u, rfl, Tn, hb⟩
    replace bz := (hb.block (z) (lt_of_block bz)).trans bz
    replace Ti : Hid (TabO (Bi) w3 (.slice ai S.length ci) (.slice ei F.length di) S F) := Ti.out.below hb
    replace Lz : Hid (z + 1 ≤ w3.heap.size) := Nat.le_trans Lz.out hb.size
    replace HB : Hid (Below w.heap.size w w3) := bel_step HB.out hb
    obtain ⟨an, cn, en, dn, rfl, rfl, _, _, _⟩ := Tn.out.shape2
    rw [HEn.out] at Tn
    have HZn : Hid (Bn ≤ w3.heap.size) := by unfold Hid; rw [← HEn.out]; exact hb.size
    clear hb CC  hsi hii hdi HEn
    clear Ti HZi Oi
    obtain ⟨ys, hys⟩ : ∃ z, w3.heap.size = z := ⟨_, rfl⟩
    obtain ⟨w4, hN⟩ : ∃ W, ((w3.alloc (.cells #[.slice an S1.length cn, .slice en F1.length dn] 30)).alloc (.cells #[.bool H1.u, .int .i64 H1.r, .int .i64 H1.p, .bool H1.o, .int .i64 H1.l, .int .i64 H1.s] 38)) = W := ⟨_, rfl⟩
    have hb : Below w3.heap.size w3 w4 := by rw [← hN]; exact (bel_alloc (bel_alloc (Below.refl _ _) _) _)
    have HVn : Hid (∀ g, (Value.slice an S1.length cn).ownBlock = some g ∨ (Value.slice en F1.length dn).ownBlock = some g → g < ys) := fun g hg => by rw [← hys]; rcases hg with h | h; exact (Tn.out.hds.lt g h).2; exact (Tn.out.ints.lt g h).2
    replace bz := (hb.block (z) (lt_of_block bz)).trans bz
    replace Tn : Hid (TabO (Bn) w4 (.slice an S1.length cn) (.slice en F1.length dn) S1 F1) := Tn.out.below hb
    replace Lz : Hid (z + 1 ≤ w4.heap.size) := Nat.le_trans Lz.out hb.size
    replace HB : Hid (Below w.heap.size w w4) := bel_step HB.out hb
    have bnt : w4.heap[ys]? = some (.cells #[.slice an S1.length cn, .slice en F1.length dn] 30 (0, 0)) := by
      have h := heap_alloc_new w3 (.cells #[.slice an S1.length cn, .slice en F1.length dn] 30)
      have e : w3.heap.size = ys := by exact hys
      rw [e] at h
      rw [← hN]
      exact (Below.heap_alloc _ _ _ (lt_of_block h)).trans h
    have bnh : w4.heap[ys + 1]? = some (.cells #[.bool H1.u, .int .i64 H1.r, .int .i64 H1.p, .bool H1.o, .int .i64 H1.l, .int .i64 H1.s] 38 (0, 0)) := by
      have h := heap_alloc_new (w3.alloc (.cells #[.slice an S1.length cn, .slice en F1.length dn] 30)) (.cells #[.bool H1.u, .int .i64 H1.r, .int .i64 H1.p, .bool H1.o, .int .i64 H1.l, .int .i64 H1.s] 38)
      have e : (w3.alloc (.cells #[.slice an S1.length cn, .slice en F1.length dn] 30)).heap.size = ys + 1 := by simp [hys]
      rw [e] at h
      rw [← hN]
      exact h
    have HAys : Hid (w3.heap.size = ys) := hys
    have Lys : Hid (ys + 1 + 1 ≤ w4.heap.size) := by unfold Hid; rw [← hN]; simp [hys]
    clear hb
    have pz0 : w4.cell? ⟨z, 0, none⟩ = some (.slice a S.length c) := (cell_of_block bz 0).trans rfl
    have pz1 : w4.cell? ⟨z, 1, none⟩ = some (.slice b F.length d) := (cell_of_block bz 1).trans rfl
    obtain ⟨Bx, hB⟩ : ∃ B, w4.heap.size = B := ⟨_, rfl⟩
    have HEx : Hid (w4.heap.size = Bx) := hB
    have Ox : Hid (ys + 1 + 1 ≤ Bx) := by unfold Hid; rw [← hB]; exact Lys.out
    clear hB
    go_wp2_with fail
    clear hN hys
    refine (TT.out w4 HB.out).mono ?_
    rintro e w5 ⟨v, u, rfl, Tx, hb⟩
    replace bz := (hb.block (z) (lt_of_block bz)).trans bz
    replace bnt := (hb.block (ys) (lt_of_block bnt)).trans bnt
    replace bnh := (hb.block (ys + 1) (lt_of_block bnh)).trans bnh
    replace Tn : Hid (TabO (Bn) w5 (.slice an S1.length cn) (.slice en F1.length dn) S1 F1) := Tn.out.below hb
    replace Lz : Hid (z + 1 ≤ w5.heap.size) := Nat.le_trans Lz.out hb.size
    replace Lys : Hid (ys + 1 + 1 ≤ w5.heap.size) := Nat.le_trans Lys.out hb.size
    replace HB : Hid (Below w.heap.size w w5) := bel_step HB.out hb
    obtain ⟨ax, cx, ex, dx, rfl, rfl, hsx, hix, hdx⟩ := Tx.out.shape2
    rw [HEx.out] at Tx
    have HZx : Hid (Bx ≤ w5.heap.size) := by unfold Hid; rw [← HEx.out]; exact hb.size
    clear hb HEx pz0 pz1
    obtain ⟨yx, hyx⟩ : ∃ z, w5.heap.size = z := ⟨_, rfl⟩
    obtain ⟨w6, hN⟩ : ∃ W, (w5.alloc (.cells #[.slice ax S.length cx, .slice ex F.length dx] 30)) = W := ⟨_, rfl⟩
    have hb : Below w5.heap.size w5 w6 := by rw [← hN]; exact (bel_alloc (Below.refl _ _) _)
    have HVx : Hid (∀ g, (Value.slice ax S.length cx).ownBlock = some g ∨ (Value.slice ex F.length dx).ownBlock = some g → g < yx) := fun g hg => by rw [← hyx]; rcases hg with h | h; exact (Tx.out.hds.lt g h).2; exact (Tx.out.ints.lt g h).2
    replace bz := (hb.block (z) (lt_of_block bz)).trans bz
    replace bnt := (hb.block (ys) (lt_of_block bnt)).trans bnt
    replace bnh := (hb.block (ys + 1) (lt_of_block bnh)).trans bnh
    replace Tn : Hid (TabO (Bn) w6 (.slice an S1.length cn) (.slice en F1.length dn) S1 F1) := Tn.out.below hb
    replace Tx : Hid (TabO (Bx) w6 (.slice ax S.length cx) (.slice ex F.length dx) S F) := Tx.out.below hb
    replace Lz : Hid (z + 1 ≤ w6.heap.size) := Nat.le_trans Lz.out hb.size
    replace Lys : Hid (ys + 1 + 1 ≤ w6.heap.size) := Nat.le_trans Lys.out hb.size
    replace HB : Hid (Below w.heap.size w w6) := bel_step HB.out hb
    have bx : w6.heap[yx]? = some (.cells #[.slice ax S.length cx, .slice ex F.length dx] 30 (0, 0)) := by
      have h := heap_alloc_new w5 (.cells #[.slice ax S.length cx, .slice ex F.length dx] 30)
      have e : w5.heap.size = yx := by exact hyx
      rw [e] at h
      rw [← hN]
      exact h
    have HAyx : Hid (w5.heap.size = yx) := hyx
    have Lyx : Hid (yx + 1 ≤ w6.heap.size) := by unfold Hid; rw [← hN]; simp [hyx]
    clear hb
    replace hsx : Hds w6 ax S := by obtain ⟨_, _, _, _, e1, e2, h1, h2, _⟩ := Tx.out.shape2; simp only [Value.slice.injEq] at e1; rw [e1.1]; exact h1
    replace hix : Ints w6 ex F := by obtain ⟨_, _, _, _, e1, e2, h1, h2, _⟩ := Tx.out.shape2; simp only [Value.slice.injEq] at e2; rw [e2.1]; exact h2
    have px0 : w6.cell? ⟨yx, 0, none⟩ = some (.slice ax S.length cx) := (cell_of_block bx 0).trans rfl
    have px1 : w6.cell? ⟨yx, 1, none⟩ = some (.slice ex F.length dx) := (cell_of_block bx 1).trans rfl
    have CC := IM.out w6 ax ex cx dx lS lF hsx hix hdx
    obtain ⟨Bg, hB⟩ : ∃ B, w6.heap.size = B := ⟨_, rfl⟩
    have HEg : Hid (w6.heap.size = Bg) := hB
    have Og : Hid (yx + 1 ≤ Bg) := by unfold Hid; rw [← hB]; exact Lyx.out
    clear hB
    go_wp2_with fail
    clear hN hyx
    refine CC.mono ?_
    rintro e w7 ⟨v, u, rfl, Tg, hb⟩
    replace bz := (hb.block (z) (lt_of_block bz)).trans bz
    replace bnt := (hb.block (ys) (lt_of_block bnt)).trans bnt
    replace bnh := (hb.block (ys + 1) (lt_of_block bnh)).trans bnh
    replace bx := (hb.block (yx) (lt_of_block bx)).trans bx
    replace Tn : Hid (TabO (Bn) w7 (.slice an S1.length cn) (.slice en F1.length dn) S1 F1) := Tn.out.below hb
    replace Tx : Hid (TabO (Bx) w7 (.slice ax S.length cx) (.slice ex F.length dx) S F) := Tx.out.below hb
    replace Lz : Hid (z + 1 ≤ w7.heap.size) := Nat.le_trans Lz.out hb.size
    replace Lys : Hid (ys + 1 + 1 ≤ w7.heap.size) := Nat.le_trans Lys.out hb.size
    replace Lyx : Hid (yx + 1 ≤ w7.heap.size) := Nat.le_trans Lyx.out hb.size
    replace HB : Hid (Below w.heap.size w w7) := bel_step HB.out hb
    obtain ⟨ag, cg, eg, dg, rfl, rfl, _, _, _⟩ := Tg.out.shape2
    rw [HEg.out] at Tg
    have HZg : Hid (Bg ≤ w7.heap.size) := by unfold Hid; rw [← HEg.out]; exact hb.size
    clear hb CC px0 px1 hsx hix hdx HEg
    obtain ⟨yg, hyg⟩ : ∃ z, w7.heap.size = z := ⟨_, rfl⟩
    obtain ⟨w8, hN⟩ : ∃ W, ((w7.alloc (.cells #[.slice ag S1.length cg, .slice eg F1.length dg] 30)).alloc (.cells #[.bool H1.u, .int .i64 H1.r, .int .i64 H1.p, .bool H1.o, .int .i64 H1.l, .int .i64 H1.s] 38)) = W := ⟨_, rfl⟩
    have hb : Below w7.heap.size w7 w8 := by rw [← hN]; exact (bel_alloc (bel_alloc (Below.refl _ _) _) _)
    have HVg : Hid (∀ g, (Value.slice ag S1.length cg).ownBlock = some g ∨ (Value.slice eg F1.length dg).ownBlock = some g → g < yg) := fun g hg => by rw [← hyg]; rcases hg with h | h; exact (Tg.out.hds.lt g h).2; exact (Tg.out.ints.lt g h).2
    replace bz := (hb.block (z) (lt_of_block bz)).trans bz
    replace bnt := (hb.block (ys) (lt_of_block bnt)).trans bnt
    replace bnh := (hb.block (ys + 1) (lt_of_block bnh)).trans bnh
    replace bx := (hb.block (yx) (lt_of_block bx)).trans bx
    replace Tn : Hid (TabO (Bn) w8 (.slice an S1.length cn) (.slice en F1.length dn) S1 F1) := Tn.out.below hb
    replace Tx : Hid (TabO (Bx) w8 (.slice ax S.length cx) (.slice ex F.length dx) S F) := Tx.out.below hb
    replace Tg : Hid (TabO (Bg) w8 (.slice ag S1.length cg) (.slice eg F1.length dg) S1 F1) := Tg.out.below hb
    replace Lz : Hid (z + 1 ≤ w8.heap.size) := Nat.le_trans Lz.out hb.size
    replace Lys : Hid (ys + 1 + 1 ≤ w8.heap.size) := Nat.le_trans Lys.out hb.size
    replace Lyx : Hid (yx + 1 ≤ w8.heap.size) := Nat.le_trans Lyx.out hb.size
    replace HB : Hid (Below w.heap.size w w8) := bel_step HB.out hb
    have bgt : w8.heap[yg]? = some (.cells #[.slice ag S1.length cg, .slice eg F1.length dg] 30 (0, 0)) := by
      have h := heap_alloc_new w7 (.cells #[.slice ag S1.length cg, .slice eg F1.length dg] 30)
      have e : w7.heap.size = yg := by exact hyg
      rw [e] at h
      rw [← hN]
      exact (Below.heap_alloc _ _ _ (lt_of_block h)).trans h
    have bgh : w8.heap[yg + 1]? = some (.cells #[.bool H1.u, .int .i64 H1.r, .int .i64 H1.p, .bool H1.o, .int .i64 H1.l, .int .i64 H1.s] 38 (0, 0)) := by
      have h := heap_alloc_new (w7.alloc (.cells #[.slice ag S1.length cg, .slice eg F1.length dg] 30)) (.cells #[.bool H1.u, .int .i64 H1.r, .int .i64 H1.p, .bool H1.o, .int .i64 H1.l, .int .i64 H1.s] 38)
      have e : (w7.alloc (.cells #[.slice ag S1.length cg, .slice eg F1.length dg] 30)).heap.size = yg + 1 := by simp [hyg]
      rw [e] at h
      rw [← hN]
      exact h
    have HAyg : Hid (w7.heap.size = yg) := hyg
    have Lyg : Hid (yg + 1 + 1 ≤ w8.heap.size) := by unfold Hid; rw [← hN]; simp [hyg]
    clear hb
    have pgt0 : w8.cell? ⟨yg, 0, none⟩ = some (.slice ag S1.length cg) := (cell_of_block bgt 0).trans rfl
    have pgt1 : w8.cell? ⟨yg, 1, none⟩ = some (.slice eg F1.length dg) := (cell_of_block bgt 1).trans rfl
    have pnt0 : w8.cell? ⟨ys, 0, none⟩ = some (.slice an S1.length cn) := (cell_of_block bnt 0).trans rfl
    have pnt1 : w8.cell? ⟨ys, 1, none⟩ = some (.slice en F1.length dn) := (cell_of_block bnt 1).trans rfl
    have EE := eqTabO Tg Tn (by omega) (by omega)
    go_wp2_with fail
    clear hN hyg
    refine EE.mono ?_
    rintro e w9 ⟨rfl, hb⟩
    replace bz := (hb.block (z) (lt_of_block bz)).trans bz
    replace bnt := (hb.block (ys) (lt_of_block bnt)).trans bnt
    replace bnh := (hb.block (ys + 1) (lt_of_block bnh)).trans bnh
    replace bx := (hb.block (yx) (lt_of_block bx)).trans bx
    replace bgt := (hb.block (yg) (lt_of_block bgt)).trans bgt
    replace bgh := (hb.block (yg + 1) (lt_of_block bgh)).trans bgh
    replace Tn : Hid (TabO (Bn) w9 (.slice an S1.length cn) (.slice en F1.length dn) S1 F1) := Tn.out.below hb
    replace Tx : Hid (TabO (Bx) w9 (.slice ax S.length cx) (.slice ex F.length dx) S F) := Tx.out.below hb
    replace Tg : Hid (TabO (Bg) w9 (.slice ag S1.length cg) (.slice eg F1.length dg) S1 F1) := Tg.out.below hb
    replace Lz : Hid (z + 1 ≤ w9.heap.size) := Nat.le_trans Lz.out hb.size
    replace Lys : Hid (ys + 1 + 1 ≤ w9.heap.size) := Nat.le_trans Lys.out hb.size
    replace Lyx : Hid (yx + 1 ≤ w9.heap.size) := Nat.le_trans Lyx.out hb.size
    replace Lyg : Hid (yg + 1 + 1 ≤ w9.heap.size) := Nat.le_trans Lyg.out hb.size
    replace HB : Hid (Below w.heap.size w w9) := bel_step HB.out hb
    clear hb EE pgt0 pgt1 pnt0 pnt1
    have pgh0 : w9.cell? ⟨yg + 1, 0, none⟩ = some (.bool H1.u) := (cell_of_block bgh 0).trans rfl
    have pgh1 : w9.cell? ⟨yg + 1, 1, none⟩ = some (.int .i64 H1.r) := (cell_of_block bgh 1).trans rfl
    have pgh2 : w9.cell? ⟨yg + 1, 2, none⟩ = some (.int .i64 H1.p) := (cell_of_block bgh 2).trans rfl
    have pgh3 : w9.cell? ⟨yg + 1, 3, none⟩ = some (.bool H1.o) := (cell_of_block bgh 3).trans rfl
    have pgh4 : w9.cell? ⟨yg + 1, 4, none⟩ = some (.int .i64 H1.l) := (cell_of_block bgh 4).trans rfl
    have pgh5 : w9.cell? ⟨yg + 1, 5, none⟩ = some (.int .i64 H1.s) := (cell_of_block bgh 5).trans rfl
    have pnh0 : w9.cell? ⟨ys + 1, 0, none⟩ = some (.bool H1.u) := (cell_of_block bnh 0).trans rfl
    have pnh1 : w9.cell? ⟨ys + 1, 1, none⟩ = some (.int .i64 H1.r) := (cell_of_block bnh 1).trans rfl
    have pnh2 : w9.cell? ⟨ys + 1, 2, none⟩ = some (.int .i64 H1.p) := (cell_of_block bnh 2).trans rfl
    have pnh3 : w9.cell? ⟨ys + 1, 3, none⟩ = some (.bool H1.o) := (cell_of_block bnh 3).trans rfl
    have pnh4 : w9.cell? ⟨ys + 1, 4, none⟩ = some (.int .i64 H1.l) := (cell_of_block bnh 4).trans rfl
    have pnh5 : w9.cell? ⟨ys + 1, 5, none⟩ = some (.int .i64 H1.s) := (cell_of_block bnh 5).trans rfl
    go_wp2_with fail
    refine (EH w9).mono ?_
    rintro e w10 ⟨rfl, hb⟩
    replace bz := (hb.block (z) (lt_of_block bz)).trans bz
    replace bnt := (hb.block (ys) (lt_of_block bnt)).trans bnt
    replace bnh := (hb.block (ys + 1) (lt_of_block bnh)).trans bnh
    replace bx := (hb.block (yx) (lt_of_block bx)).trans bx
    replace bgt := (hb.block (yg) (lt_of_block bgt)).trans bgt
    replace bgh := (hb.block (yg + 1) (lt_of_block bgh)).trans bgh
    replace Tn : Hid (TabO (Bn) w10 (.slice an S1.length cn) (.slice en F1.length dn) S1 F1) := Tn.out.below hb
    replace Tx : Hid (TabO (Bx) w10 (.slice ax S.length cx) (.slice ex F.length dx) S F) := Tx.out.below hb
    replace Tg : Hid (TabO (Bg) w10 (.slice ag S1.length cg) (.slice eg F1.length dg) S1 F1) := Tg.out.below hb
    replace Lz : Hid (z + 1 ≤ w10.heap.size) := Nat.le_trans Lz.out hb.size
    replace Lys : Hid (ys + 1 + 1 ≤ w10.heap.size) := Nat.le_trans Lys.out hb.size
    replace Lyx : Hid (yx + 1 ≤ w10.heap.size) := Nat.le_trans Lyx.out hb.size
    replace Lyg : Hid (yg + 1 + 1 ≤ w10.heap.size) := Nat.le_trans Lyg.out hb.size
    replace HB : Hid (Below w.heap.size w w10) := bel_step HB.out hb
    clear hb pgh0 pgh1 pgh2 pgh3 pgh4 pgh5 pnh0 pnh1 pnh2 pnh3 pnh4 pnh5
    go_wp2
    have KX : ∀ w', Keeps w10 w' → w'.heap[yx]? = some (.cells #[.slice ax S.length cx, .slice ex F.length dx] 30 (0, 0)) := fun w' h => (h.below.block yx (lt_of_block bx)).trans bx
    have KZ : ∀ w', Keeps w10 w' → w'.heap[z]? = some (.cells #[.slice a S.length c, .slice b F.length d] 25 (0, 0)) := fun w' h => (h.below.block z (lt_of_block bz)).trans bz
    refine wh_begin (Keeps w10) (by kernel_rfl) ?_
    have hS0 : Keeps w10 w10.drew := Keeps.drew w10
    refine wh_take 0 (some 60) (.agg #[.slice ax S.length cx, .slice ex F.length dx]) rfl rfl (by kernel_rfl) (by kernel_rfl) (by kernel_rfl) (fun _ _ _ h => h) hS0 (by rfl) (fun w' hS => by have hq := KX _ hS; have q0 : w'.cell? ⟨yx, 0, none⟩ = some (.slice ax S.length cx) := (cell_of_block hq 0).trans rfl; have q1 : w'.cell? ⟨yx, 1, none⟩ = some (.slice ex F.length dx) := (cell_of_block hq 1).trans rfl; clear hq; go_simp) ?_
    simp only [Act.put, List.setIfInBounds_toArray, List.set_cons_zero, List.set_cons_succ]
    refine wh_take 1 (some 61) (.agg #[.slice a S.length c, .slice b F.length d]) rfl rfl (by kernel_rfl) (by kernel_rfl) (by kernel_rfl) (fun _ _ _ h => h) hS0 (by rfl) (fun w' hS => by have hq := KZ _ hS; have q0 : w'.cell? ⟨z, 0, none⟩ = some (.slice a S.length c) := (cell_of_block hq 0).trans rfl; have q1 : w'.cell? ⟨z, 1, none⟩ = some (.slice b F.length d) := (cell_of_block hq 1).trans rfl; clear hq; go_simp) ?_
    simp only [Act.put, List.setIfInBounds_toArray, List.set_cons_zero, List.set_cons_succ]
    refine wh_call 2 (some 62) 11 #[.agg #[.slice a S.length c, .slice b F.length d]] (by kernel_rfl) rfl rfl (by rfl) (by kernel_rfl) ?_
    refine (TT.out _ (bel_step HB.out hS0.below)).mono ?_
    rintro e wb ⟨v, u, rfl, Tb, hbb⟩
    have hSb : Keeps w10 wb := hS0.step hbb
    refine ⟨_, rfl, hSb, ?_⟩
    obtain ⟨ab, cb, eb, db, rfl, rfl, _, _, _⟩ := Tb.out.shape2
    have Txb : Hid (TabO Bx wb (.slice ax S.length cx) (.slice ex F.length dx) S F) := Tx.out.below hSb.below
    have EE := eqTabO Txb Tb (by omega) (by omega)
    simp only [Act.put, List.setIfInBounds_toArray, List.set_cons_zero, List.set_cons_succ]
    refine wh_call 3 (some 63) 13 #[.agg #[.slice ax S.length cx, .slice ex F.length dx], .agg #[.slice ab S.length cb, .slice eb F.length db]] (by kernel_rfl) rfl rfl (by rfl) (by kernel_rfl) ?_
    refine EE.mono ?_
    rintro e w11 ⟨rfl, hbc⟩
    have hSc : Keeps w10 w11 := hSb.step hbc
    refine ⟨_, rfl, hSc, ?_⟩
    simp only [Act.put, List.setIfInBounds_toArray, List.set_cons_zero, List.set_cons_succ]
    refine wh_val 4 (some 64) (.bool false) w11 (by kernel_rfl) rfl rfl (by rfl) (by rfl) hSc ?_
    simp only [Act.put, List.setIfInBounds_toArray, List.set_cons_zero, List.set_cons_succ]
    refine wh_done (by kernel_rfl) ?_
    have hb := hSc.below
    replace bz := (hb.block (z) (lt_of_block bz)).trans bz
    replace bnt := (hb.block (ys) (lt_of_block bnt)).trans bnt
    replace bnh := (hb.block (ys + 1) (lt_of_block bnh)).trans bnh
    replace bx := (hb.block (yx) (lt_of_block bx)).trans bx
    replace bgt := (hb.block (yg) (lt_of_block bgt)).trans bgt
    replace bgh := (hb.block (yg + 1) (lt_of_block bgh)).trans bgh
    replace Tn : Hid (TabO (Bn) w11 (.slice an S1.length cn) (.slice en F1.length dn) S1 F1) := Tn.out.below hb
    replace Tx : Hid (TabO (Bx) w11 (.slice ax S.length cx) (.slice ex F.length dx) S F) := Tx.out.below hb
    replace Tg : Hid (TabO (Bg) w11 (.slice ag S1.length cg) (.slice eg F1.length dg) S1 F1) := Tg.out.below hb
    replace Lz : Hid (z + 1 ≤ w11.heap.size) := Nat.le_trans Lz.out hb.size
    replace Lys : Hid (ys + 1 + 1 ≤ w11.heap.size) := Nat.le_trans Lys.out hb.size
    replace Lyx : Hid (yx + 1 ≤ w11.heap.size) := Nat.le_trans Lyx.out hb.size
    replace Lyg : Hid (yg + 1 + 1 ≤ w11.heap.size) := Nat.le_trans Lyg.out hb.size
    replace HB : Hid (Below w.heap.size w w11) := bel_step HB.out hb
    clear hb EE Txb Tb hbb hbc hS0 hSb hSc KX KZ
    have px0 : w11.cell? ⟨yx, 0, none⟩ = some (.slice ax S.length cx) := (cell_of_block bx 0).trans rfl
    have px1 : w11.cell? ⟨yx, 1, none⟩ = some (.slice ex F.length dx) := (cell_of_block bx 1).trans rfl
    have HORD : Hid (w.heap.size = z ∧ z + 1 ≤ Bn ∧ Bn ≤ ys ∧ ys + 1 + 1 ≤ Bx ∧ Bx ≤ yx ∧ yx + 1 ≤ Bg ∧ Bg ≤ yg ∧ yg + 1 + 1 ≤ w11.heap.size) := ⟨HB0.out.2, On.out, by have h1 := HZn.out; have h2 := HAys.out; omega, Ox.out, by have h1 := HZx.out; have h2 := HAyx.out; omega, Og.out, by have h1 := HZg.out; have h2 := HAyg.out; omega, Lyg.out⟩
    have MM := markTab Bx yx (.slice ax S.length cx) (.slice ex F.length dx) S F w11 Tx HVx lS lF (by unfold Hid; have o1 := HORD.out; omega)
    go_wp2_with fail
    refine MM.mono ?_
    rintro e w12 ⟨rfl, _, hbm, hcm⟩
    replace bz := (hbm.out.block (z) (by have o1 := HORD.out; omega)).trans bz
    replace bnt := (hbm.out.block (ys) (by have o1 := HORD.out; omega)).trans bnt
    replace bnh := (hbm.out.block (ys + 1) (by have o1 := HORD.out; omega)).trans bnh
    replace bx := (hcm.out (yx) (by have o1 := HORD.out; omega) (lt_of_block bx)).trans bx
    replace bgt := (hcm.out (yg) (by have o1 := HORD.out; omega) (lt_of_block bgt)).trans bgt
    replace bgh := (hcm.out (yg + 1) (by have o1 := HORD.out; omega) (lt_of_block bgh)).trans bgh
    replace Tn : Hid (TabO Bn w12 (.slice an S1.length cn) (.slice en F1.length dn) S1 F1) := ⟨own_keep Tn.out.hds (fun g hg => hbm.out.block g (by have o1 := HORD.out; have := HVn.out g (.inl hg); omega)), own_keep Tn.out.ints (fun g hg => hbm.out.block g (by have o1 := HORD.out; have := HVn.out g (.inr hg); omega))⟩
    replace Tg : Hid (TabO Bg w12 (.slice ag S1.length cg) (.slice eg F1.length dg) S1 F1) := Tg.out.same (fun g h1 h2 => hcm.out g (by have o1 := HORD.out; omega) h2)
    replace Lz : Hid (z + 1 ≤ w12.heap.size) := Nat.le_trans Lz.out hbm.out.size
    replace Lys : Hid (ys + 1 + 1 ≤ w12.heap.size) := Nat.le_trans Lys.out hbm.out.size
    replace Lyx : Hid (yx + 1 ≤ w12.heap.size) := Nat.le_trans Lyx.out hbm.out.size
    replace Lyg : Hid (yg + 1 + 1 ≤ w12.heap.size) := Nat.le_trans Lyg.out hbm.out.size
    replace HB : Hid (Below w.heap.size w w12) := HB.out.trans (hbm.out.mono (by have o1 := HORD.out; omega))
    have hks : ¬ (1 + 6 * (S.length : Int) + (F.length : Int)) < 0 := by omega
    have hkd : decide ((1 + 6 * (S.length : Int) + (F.length : Int)) < 0) = false := by simpa using hks
    clear MM hbm hcm Tx bx HVx px0 px1
    have pgt0 : w12.cell? ⟨yg, 0, none⟩ = some (.slice ag S1.length cg) := (cell_of_block bgt 0).trans rfl
    have pgt1 : w12.cell? ⟨yg, 1, none⟩ = some (.slice eg F1.length dg) := (cell_of_block bgt 1).trans rfl
    have pnt0 : w12.cell? ⟨ys, 0, none⟩ = some (.slice an S1.length cn) := (cell_of_block bnt 0).trans rfl
    have pnt1 : w12.cell? ⟨ys, 1, none⟩ = some (.slice en F1.length dn) := (cell_of_block bnt 1).trans rfl
    have EE := eqTabO Tg Tn (by omega) (by omega)
    go_wp2_with fail
    refine EE.mono ?_
    rintro e w13 ⟨rfl, hb⟩
    replace bz := (hb.block (z) (lt_of_block bz)).trans bz
    replace bnt := (hb.block (ys) (lt_of_block bnt)).trans bnt
    replace bnh := (hb.block (ys + 1) (lt_of_block bnh)).trans bnh
    replace bgt := (hb.block (yg) (lt_of_block bgt)).trans bgt
    replace bgh := (hb.block (yg + 1) (lt_of_block bgh)).trans bgh
    replace Tn : Hid (TabO (Bn) w13 (.slice an S1.length cn) (.slice en F1.length dn) S1 F1) := Tn.out.below hb
    replace Tg : Hid (TabO (Bg) w13 (.slice ag S1.length cg) (.slice eg F1.length dg) S1 F1) := Tg.out.below hb
    replace Lz : Hid (z + 1 ≤ w13.heap.size) := Nat.le_trans Lz.out hb.size
    replace Lys : Hid (ys + 1 + 1 ≤ w13.heap.size) := Nat.le_trans Lys.out hb.size
    replace Lyx : Hid (yx + 1 ≤ w13.heap.size) := Nat.le_trans Lyx.out hb.size
    replace Lyg : Hid (yg + 1 + 1 ≤ w13.heap.size) := Nat.le_trans Lyg.out hb.size
    replace HB : Hid (Below w.heap.size w w13) := bel_step HB.out hb
    clear hb EE pgt0 pgt1 pnt0 pnt1
    have pgh0 : w13.cell? ⟨yg + 1, 0, none⟩ = some (.bool H1.u) := (cell_of_block bgh 0).trans rfl
    have pgh1 : w13.cell? ⟨yg + 1, 1, none⟩ = some (.int .i64 H1.r) := (cell_of_block bgh 1).trans rfl
    have pgh2 : w13.cell? ⟨yg + 1, 2, none⟩ = some (.int .i64 H1.p) := (cell_of_block bgh 2).trans rfl
    have pgh3 : w13.cell? ⟨yg + 1, 3, none⟩ = some (.bool H1.o) := (cell_of_block bgh 3).trans rfl
    have pgh4 : w13.cell? ⟨yg + 1, 4, none⟩ = some (.int .i64 H1.l) := (cell_of_block bgh 4).trans rfl
    have pgh5 : w13.cell? ⟨yg + 1, 5, none⟩ = some (.int .i64 H1.s) := (cell_of_block bgh 5).trans rfl
    have pnh0 : w13.cell? ⟨ys + 1, 0, none⟩ = some (.bool H1.u) := (cell_of_block bnh 0).trans rfl
    have pnh1 : w13.cell? ⟨ys + 1, 1, none⟩ = some (.int .i64 H1.r) := (cell_of_block bnh 1).trans rfl
    have pnh2 : w13.cell? ⟨ys + 1, 2, none⟩ = some (.int .i64 H1.p) := (cell_of_block bnh 2).trans rfl
    have pnh3 : w13.cell? ⟨ys + 1, 3, none⟩ = some (.bool H1.o) := (cell_of_block bnh 3).trans rfl
    have pnh4 : w13.cell? ⟨ys + 1, 4, none⟩ = some (.int .i64 H1.l) := (cell_of_block bnh 4).trans rfl
    have pnh5 : w13.cell? ⟨ys + 1, 5, none⟩ = some (.int .i64 H1.s) := (cell_of_block bnh 5).trans rfl
    go_wp2_with fail
    refine (EH w13).mono ?_
    rintro e w14 ⟨rfl, hb⟩
    replace bz := (hb.block (z) (lt_of_block bz)).trans bz
    replace bnt := (hb.block (ys) (lt_of_block bnt)).trans bnt
    replace bnh := (hb.block (ys + 1) (lt_of_block bnh)).trans bnh
    replace bgt := (hb.block (yg) (lt_of_block bgt)).trans bgt
    replace bgh := (hb.block (yg + 1) (lt_of_block bgh)).trans bgh
    replace Tn : Hid (TabO (Bn) w14 (.slice an S1.length cn) (.slice en F1.length dn) S1 F1) := Tn.out.below hb
    replace Tg : Hid (TabO (Bg) w14 (.slice ag S1.length cg) (.slice eg F1.length dg) S1 F1) := Tg.out.below hb
    replace Lz : Hid (z + 1 ≤ w14.heap.size) := Nat.le_trans Lz.out hb.size
    replace Lys : Hid (ys + 1 + 1 ≤ w14.heap.size) := Nat.le_trans Lys.out hb.size
    replace Lyx : Hid (yx + 1 ≤ w14.heap.size) := Nat.le_trans Lyx.out hb.size
    replace Lyg : Hid (yg + 1 + 1 ≤ w14.heap.size) := Nat.le_trans Lyg.out hb.size
    replace HB : Hid (Below w.heap.size w w14) := bel_step HB.out hb
    clear hb pgh0 pgh1 pgh2 pgh3 pgh4 pgh5 pnh0 pnh1 pnh2 pnh3 pnh4 pnh5
    have pgt0 : w14.cell? ⟨yg, 0, none⟩ = some (.slice ag S1.length cg) := (cell_of_block bgt 0).trans rfl
    have pgt1 : w14.cell? ⟨yg, 1, none⟩ = some (.slice eg F1.length dg) := (cell_of_block bgt 1).trans rfl
    have MM := markTab Bg yg (.slice ag S1.length cg) (.slice eg F1.length dg) S1 F1 w14 Tg HVg lS1 lF1 (by unfold Hid; have o1 := HORD.out; have o2 := Lyg.out; omega)
    go_wp2_with fail
    refine MM.mono ?_
    rintro e w15 ⟨rfl, Tg2, hbm, hcm⟩
    replace bz := (hbm.out.block (z) (by have o1 := HORD.out; omega)).trans bz
    replace bnt := (hbm.out.block (ys) (by have o1 := HORD.out; omega)).trans bnt
    replace bnh := (hbm.out.block (ys + 1) (by have o1 := HORD.out; omega)).trans bnh
    replace bgt := (hcm.out (yg) (by have o1 := HORD.out; omega) (lt_of_block bgt)).trans bgt
    replace bgh := (hcm.out (yg + 1) (by have o1 := HORD.out; omega) (lt_of_block bgh)).trans bgh
    replace Tn : Hid (TabO Bn w15 (.slice an S1.length cn) (.slice en F1.length dn) S1 F1) := ⟨own_keep Tn.out.hds (fun g hg => hbm.out.block g (by have o1 := HORD.out; have := HVn.out g (.inl hg); omega)), own_keep Tn.out.ints (fun g hg => hbm.out.block g (by have o1 := HORD.out; have := HVn.out g (.inr hg); omega))⟩
    replace Lz : Hid (z + 1 ≤ w15.heap.size) := Nat.le_trans Lz.out hbm.out.size
    replace Lys : Hid (ys + 1 + 1 ≤ w15.heap.size) := Nat.le_trans Lys.out hbm.out.size
    replace Lyx : Hid (yx + 1 ≤ w15.heap.size) := Nat.le_trans Lyx.out hbm.out.size
    replace Lyg : Hid (yg + 1 + 1 ≤ w15.heap.size) := Nat.le_trans Lyg.out hbm.out.size
    replace HB : Hid (Below w.heap.size w w15) := HB.out.trans (hbm.out.mono (by have o1 := HORD.out; omega))
    clear MM hbm hcm hks hkd Tg pgt0 pgt1
    have Tg : Hid (Marked Bg w15 (.slice ag S1.length cg) (.slice eg F1.length dg) S1.length F1.length) := Tg2
    clear Tg2
    have pgt0 : w15.cell? ⟨yg, 0, none⟩ = some (.slice ag S1.length cg) := (cell_of_block bgt 0).trans rfl
    have pgt1 : w15.cell? ⟨yg, 1, none⟩ = some (.slice eg F1.length dg) := (cell_of_block bgt 1).trans rfl
    have MM := heldTab Bg (.slice ag S1.length cg) (.slice eg F1.length dg) S1.length F1.length w15 Tg lS1 lF1
    go_wp2_with fail
    refine MM.mono ?_
    rintro e w16 ⟨rfl, hb⟩
    replace bz := (hb.block (z) (lt_of_block bz)).trans bz
    replace bnt := (hb.block (ys) (lt_of_block bnt)).trans bnt
    replace bnh := (hb.block (ys + 1) (lt_of_block bnh)).trans bnh
    replace bgt := (hb.block (yg) (lt_of_block bgt)).trans bgt
    replace bgh := (hb.block (yg + 1) (lt_of_block bgh)).trans bgh
    replace Tn : Hid (TabO (Bn) w16 (.slice an S1.length cn) (.slice en F1.length dn) S1 F1) := Tn.out.below hb
    replace Tg : Hid (Marked (Bg) w16 (.slice ag S1.length cg) (.slice eg F1.length dg) S1.length F1.length) := TabO.below Tg.out hb
    replace Lz : Hid (z + 1 ≤ w16.heap.size) := Nat.le_trans Lz.out hb.size
    replace Lys : Hid (ys + 1 + 1 ≤ w16.heap.size) := Nat.le_trans Lys.out hb.size
    replace Lyx : Hid (yx + 1 ≤ w16.heap.size) := Nat.le_trans Lyx.out hb.size
    replace Lyg : Hid (yg + 1 + 1 ≤ w16.heap.size) := Nat.le_trans Lyg.out hb.size
    replace HB : Hid (Below w.heap.size w w16) := bel_step HB.out hb
    clear MM hb pgt0 pgt1
    have hks : ¬ (1 + 6 * (S1.length : Int) + (F1.length : Int)) < 0 := by omega
    have pz0 : w16.cell? ⟨z, 0, none⟩ = some (.slice a S.length c) := (cell_of_block bz 0).trans rfl
    have pz1 : w16.cell? ⟨z, 1, none⟩ = some (.slice b F.length d) := (cell_of_block bz 1).trans rfl
    obtain ⟨Bi, hB⟩ : ∃ B, w16.heap.size = B := ⟨_, rfl⟩
    have HEi : Hid (w16.heap.size = Bi) := hB
    have Oi : Hid (yg + 1 + 1 ≤ Bi) := by unfold Hid; rw [← hB]; exact Lyg.out
    clear hB
    go_wp2_with fail
    refine (TT.out w16 HB.out).mono ?_
    rintro e w17 ⟨v, u, rfl, Ti, hb⟩
    replace bz := (hb.block (z) (lt_of_block bz)).trans bz
    replace bnt := (hb.block (ys) (lt_of_block bnt)).trans bnt
    replace bnh := (hb.block (ys + 1) (lt_of_block bnh)).trans bnh
    replace bgt := (hb.block (yg) (lt_of_block bgt)).trans bgt
    replace bgh := (hb.block (yg + 1) (lt_of_block bgh)).trans bgh
    replace Tn : Hid (TabO (Bn) w17 (.slice an S1.length cn) (.slice en F1.length dn) S1 F1) := Tn.out.below hb
    replace Tg : Hid (Marked (Bg) w17 (.slice ag S1.length cg) (.slice eg F1.length dg) S1.length F1.length) := TabO.below Tg.out hb
    replace Lz : Hid (z + 1 ≤ w17.heap.size) := Nat.le_trans Lz.out hb.size
    replace Lys : Hid (ys + 1 + 1 ≤ w17.heap.size) := Nat.le_trans Lys.out hb.size
    replace Lyx : Hid (yx + 1 ≤ w17.heap.size) := Nat.le_trans Lyx.out hb.size
    replace Lyg : Hid (yg + 1 + 1 ≤ w17.heap.size) := Nat.le_trans Lyg.out hb.size
    replace HB : Hid (Below w.heap.size w w17) := bel_step HB.out hb
    obtain ⟨ai, ci, ei, di, rfl, rfl, hsi, hii, hdi⟩ := Ti.out.shape2
    rw [HEi.out] at Ti
    have HZi : Hid (Bi ≤ w17.heap.size) := by unfold Hid; rw [← HEi.out]; exact hb.size
    clear hb HEi pz0 pz1
    have CC := IM.out w17 ai ei ci di lS lF hsi hii hdi
    obtain ⟨Bk, hB⟩ : ∃ B, w17.heap.size = B := ⟨_, rfl⟩
    have HEk : Hid (w17.heap.size = Bk) := hB
    have Ok : Hid (yg + 1 + 1 ≤ Bk) := by unfold Hid; rw [← hB]; exact Lyg.out
    clear hB
    go_wp2_with fail
    refine CC.mono ?_
    rintro e w18 ⟨v, u, rfl, Tk, hb⟩
    replace bz := (hb.block (z) (lt_of_block bz)).trans bz
    replace bnt := (hb.block (ys) (lt_of_block bnt)).trans bnt
    replace bnh := (hb.block (ys + 1) (lt_of_block bnh)).trans bnh
    replace bgt := (hb.block (yg) (lt_of_block bgt)).trans bgt
    replace bgh := (hb.block (yg + 1) (lt_of_block bgh)).trans bgh
    replace Tn : Hid (TabO (Bn) w18 (.slice an S1.length cn) (.slice en F1.length dn) S1 F1) := Tn.out.below hb
    replace Tg : Hid (Marked (Bg) w18 (.slice ag S1.length cg) (.slice eg F1.length dg) S1.length F1.length) := TabO.below Tg.out hb
    replace Ti : Hid (TabO (Bi) w18 (.slice ai S.length ci) (.slice ei F.length di) S F) := Ti.out.below hb
    replace Lz : Hid (z + 1 ≤ w18.heap.size) := Nat.le_trans Lz.out hb.size
    replace Lys : Hid (ys + 1 + 1 ≤ w18.heap.size) := Nat.le_trans Lys.out hb.size
    replace Lyx : Hid (yx + 1 ≤ w18.heap.size) := Nat.le_trans Lyx.out hb.size
    replace Lyg : Hid (yg + 1 + 1 ≤ w18.heap.size) := Nat.le_trans Lyg.out hb.size
    replace HB : Hid (Below w.heap.size w w18) := bel_step HB.out hb
    obtain ⟨ak, ck, ek, dk, rfl, rfl, _, _, _⟩ := Tk.out.shape2
    rw [HEk.out] at Tk
    have HZk : Hid (Bk ≤ w18.heap.size) := by unfold Hid; rw [← HEk.out]; exact hb.size
    clear hb CC  hsi hii hdi HEk
    clear Ti HZi Oi
    obtain ⟨yk, hyk⟩ : ∃ z, w18.heap.size = z := ⟨_, rfl⟩
    obtain ⟨w19, hN⟩ : ∃ W, ((w18.alloc (.cells #[.slice ak S1.length ck, .slice ek F1.length dk] 30)).alloc (.cells #[.bool H1.u, .int .i64 H1.r, .int .i64 H1.p, .bool H1.o, .int .i64 H1.l, .int .i64 H1.s] 38)) = W := ⟨_, rfl⟩
    have hb : Below w18.heap.size w18 w19 := by rw [← hN]; exact (bel_alloc (bel_alloc (Below.refl _ _) _) _)
    replace bz := (hb.block (z) (lt_of_block bz)).trans bz
    replace bnt := (hb.block (ys) (lt_of_block bnt)).trans bnt
    replace bnh := (hb.block (ys + 1) (lt_of_block bnh)).trans bnh
    replace bgt := (hb.block (yg) (lt_of_block bgt)).trans bgt
    replace bgh := (hb.block (yg + 1) (lt_of_block bgh)).trans bgh
    replace Tn : Hid (TabO (Bn) w19 (.slice an S1.length cn) (.slice en F1.length dn) S1 F1) := Tn.out.below hb
    replace Tg : Hid (Marked (Bg) w19 (.slice ag S1.length cg) (.slice eg F1.length dg) S1.length F1.length) := TabO.below Tg.out hb
    replace Tk : Hid (TabO (Bk) w19 (.slice ak S1.length ck) (.slice ek F1.length dk) S1 F1) := Tk.out.below hb
    replace Lz : Hid (z + 1 ≤ w19.heap.size) := Nat.le_trans Lz.out hb.size
    replace Lys : Hid (ys + 1 + 1 ≤ w19.heap.size) := Nat.le_trans Lys.out hb.size
    replace Lyx : Hid (yx + 1 ≤ w19.heap.size) := Nat.le_trans Lyx.out hb.size
    replace Lyg : Hid (yg + 1 + 1 ≤ w19.heap.size) := Nat.le_trans Lyg.out hb.size
    replace HB : Hid (Below w.heap.size w w19) := bel_step HB.out hb
    have bkt : w19.heap[yk]? = some (.cells #[.slice ak S1.length ck, .slice ek F1.length dk] 30 (0, 0)) := by
      have h := heap_alloc_new w18 (.cells #[.slice ak S1.length ck, .slice ek F1.length dk] 30)
      have e : w18.heap.size = yk := by exact hyk
      rw [e] at h
      rw [← hN]
      exact (Below.heap_alloc _ _ _ (lt_of_block h)).trans h
    have bkh : w19.heap[yk + 1]? = some (.cells #[.bool H1.u, .int .i64 H1.r, .int .i64 H1.p, .bool H1.o, .int .i64 H1.l, .int .i64 H1.s] 38 (0, 0)) := by
      have h := heap_alloc_new (w18.alloc (.cells #[.slice ak S1.length ck, .slice ek F1.length dk] 30)) (.cells #[.bool H1.u, .int .i64 H1.r, .int .i64 H1.p, .bool H1.o, .int .i64 H1.l, .int .i64 H1.s] 38)
      have e : (w18.alloc (.cells #[.slice ak S1.length ck, .slice ek F1.length dk] 30)).heap.size = yk + 1 := by simp [hyk]
      rw [e] at h
      rw [← hN]
      exact h
    have HAyk : Hid (w18.heap.size = yk) := hyk
    have Lyk : Hid (yk + 1 + 1 ≤ w19.heap.size) := by unfold Hid; rw [← hN]; simp [hyk]
    clear hb
    have pkt0 : w19.cell? ⟨yk, 0, none⟩ = some (.slice ak S1.length ck) := (cell_of_block bkt 0).trans rfl
    have pkt1 : w19.cell? ⟨yk, 1, none⟩ = some (.slice ek F1.length dk) := (cell_of_block bkt 1).trans rfl
    have pnt0 : w19.cell? ⟨ys, 0, none⟩ = some (.slice an S1.length cn) := (cell_of_block bnt 0).trans rfl
    have pnt1 : w19.cell? ⟨ys, 1, none⟩ = some (.slice en F1.length dn) := (cell_of_block bnt 1).trans rfl
    have EE := eqTabO Tk Tn (by omega) (by omega)
    go_wp2_with fail
    clear hN hyk
    refine EE.mono ?_
    rintro e w20 ⟨rfl, hb⟩
    replace bz := (hb.block (z) (lt_of_block bz)).trans bz
    replace bnt := (hb.block (ys) (lt_of_block bnt)).trans bnt
    replace bnh := (hb.block (ys + 1) (lt_of_block bnh)).trans bnh
    replace bgt := (hb.block (yg) (lt_of_block bgt)).trans bgt
    replace bgh := (hb.block (yg + 1) (lt_of_block bgh)).trans bgh
    replace bkt := (hb.block (yk) (lt_of_block bkt)).trans bkt
    replace bkh := (hb.block (yk + 1) (lt_of_block bkh)).trans bkh
    replace Tn : Hid (TabO (Bn) w20 (.slice an S1.length cn) (.slice en F1.length dn) S1 F1) := Tn.out.below hb
    replace Tg : Hid (Marked (Bg) w20 (.slice ag S1.length cg) (.slice eg F1.length dg) S1.length F1.length) := TabO.below Tg.out hb
    replace Tk : Hid (TabO (Bk) w20 (.slice ak S1.length ck) (.slice ek F1.length dk) S1 F1) := Tk.out.below hb
    replace Lz : Hid (z + 1 ≤ w20.heap.size) := Nat.le_trans Lz.out hb.size
    replace Lys : Hid (ys + 1 + 1 ≤ w20.heap.size) := Nat.le_trans Lys.out hb.size
    replace Lyx : Hid (yx + 1 ≤ w20.heap.size) := Nat.le_trans Lyx.out hb.size
    replace Lyg : Hid (yg + 1 + 1 ≤ w20.heap.size) := Nat.le_trans Lyg.out hb.size
    replace Lyk : Hid (yk + 1 + 1 ≤ w20.heap.size) := Nat.le_trans Lyk.out hb.size
    replace HB : Hid (Below w.heap.size w w20) := bel_step HB.out hb
    clear hb EE pkt0 pkt1 pnt0 pnt1
    have pkh0 : w20.cell? ⟨yk + 1, 0, none⟩ = some (.bool H1.u) := (cell_of_block bkh 0).trans rfl
    have pkh1 : w20.cell? ⟨yk + 1, 1, none⟩ = some (.int .i64 H1.r) := (cell_of_block bkh 1).trans rfl
    have pkh2 : w20.cell? ⟨yk + 1, 2, none⟩ = some (.int .i64 H1.p) := (cell_of_block bkh 2).trans rfl
    have pkh3 : w20.cell? ⟨yk + 1, 3, none⟩ = some (.bool H1.o) := (cell_of_block bkh 3).trans rfl
    have pkh4 : w20.cell? ⟨yk + 1, 4, none⟩ = some (.int .i64 H1.l) := (cell_of_block bkh 4).trans rfl
    have pkh5 : w20.cell? ⟨yk + 1, 5, none⟩ = some (.int .i64 H1.s) := (cell_of_block bkh 5).trans rfl
    have pnh0 : w20.cell? ⟨ys + 1, 0, none⟩ = some (.bool H1.u) := (cell_of_block bnh 0).trans rfl
    have pnh1 : w20.cell? ⟨ys + 1, 1, none⟩ = some (.int .i64 H1.r) := (cell_of_block bnh 1).trans rfl
    have pnh2 : w20.cell? ⟨ys + 1, 2, none⟩ = some (.int .i64 H1.p) := (cell_of_block bnh 2).trans rfl
    have pnh3 : w20.cell? ⟨ys + 1, 3, none⟩ = some (.bool H1.o) := (cell_of_block bnh 3).trans rfl
    have pnh4 : w20.cell? ⟨ys + 1, 4, none⟩ = some (.int .i64 H1.l) := (cell_of_block bnh 4).trans rfl
    have pnh5 : w20.cell? ⟨ys + 1, 5, none⟩ = some (.int .i64 H1.s) := (cell_of_block bnh 5).trans rfl
    go_wp2_with fail
    refine (EH w20).mono ?_
    rintro e w21 ⟨rfl, hb⟩
    replace bz := (hb.block (z) (lt_of_block bz)).trans bz
    replace bnt := (hb.block (ys) (lt_of_block bnt)).trans bnt
    replace bnh := (hb.block (ys + 1) (lt_of_block bnh)).trans bnh
    replace bgt := (hb.block (yg) (lt_of_block bgt)).trans bgt
    replace bgh := (hb.block (yg + 1) (lt_of_block bgh)).trans bgh
    replace bkt := (hb.block (yk) (lt_of_block bkt)).trans bkt
    replace bkh := (hb.block (yk + 1) (lt_of_block bkh)).trans bkh
    replace Tn : Hid (TabO (Bn) w21 (.slice an S1.length cn) (.slice en F1.length dn) S1 F1) := Tn.out.below hb
    replace Tg : Hid (Marked (Bg) w21 (.slice ag S1.length cg) (.slice eg F1.length dg) S1.length F1.length) := TabO.below Tg.out hb
    replace Tk : Hid (TabO (Bk) w21 (.slice ak S1.length ck) (.slice ek F1.length dk) S1 F1) := Tk.out.below hb
    replace Lz : Hid (z + 1 ≤ w21.heap.size) := Nat.le_trans Lz.out hb.size
    replace Lys : Hid (ys + 1 + 1 ≤ w21.heap.size) := Nat.le_trans Lys.out hb.size
    replace Lyx : Hid (yx + 1 ≤ w21.heap.size) := Nat.le_trans Lyx.out hb.size
    replace Lyg : Hid (yg + 1 + 1 ≤ w21.heap.size) := Nat.le_trans Lyg.out hb.size
    replace Lyk : Hid (yk + 1 + 1 ≤ w21.heap.size) := Nat.le_trans Lyk.out hb.size
    replace HB : Hid (Below w.heap.size w w21) := bel_step HB.out hb
    clear hb pkh0 pkh1 pkh2 pkh3 pkh4 pkh5 pnh0 pnh1 pnh2 pnh3 pnh4 pnh5
    have pgt0 : w21.cell? ⟨yg, 0, none⟩ = some (.slice ag S1.length cg) := (cell_of_block bgt 0).trans rfl
    have pgt1 : w21.cell? ⟨yg, 1, none⟩ = some (.slice eg F1.length dg) := (cell_of_block bgt 1).trans rfl
    have MM := heldTab Bg (.slice ag S1.length cg) (.slice eg F1.length dg) S1.length F1.length w21 Tg lS1 lF1
    go_wp2_with fail
    refine MM.mono ?_
    rintro e w22 ⟨rfl, hb⟩
    replace bz := (hb.block (z) (lt_of_block bz)).trans bz
    replace bnt := (hb.block (ys) (lt_of_block bnt)).trans bnt
    replace bnh := (hb.block (ys + 1) (lt_of_block bnh)).trans bnh
    replace bgt := (hb.block (yg) (lt_of_block bgt)).trans bgt
    replace bgh := (hb.block (yg + 1) (lt_of_block bgh)).trans bgh
    replace bkt := (hb.block (yk) (lt_of_block bkt)).trans bkt
    replace bkh := (hb.block (yk + 1) (lt_of_block bkh)).trans bkh
    replace Tn : Hid (TabO (Bn) w22 (.slice an S1.length cn) (.slice en F1.length dn) S1 F1) := Tn.out.below hb
    replace Tg : Hid (Marked (Bg) w22 (.slice ag S1.length cg) (.slice eg F1.length dg) S1.length F1.length) := TabO.below Tg.out hb
    replace Tk : Hid (TabO (Bk) w22 (.slice ak S1.length ck) (.slice ek F1.length dk) S1 F1) := Tk.out.below hb
    replace Lz : Hid (z + 1 ≤ w22.heap.size) := Nat.le_trans Lz.out hb.size
    replace Lys : Hid (ys + 1 + 1 ≤ w22.heap.size) := Nat.le_trans Lys.out hb.size
    replace Lyx : Hid (yx + 1 ≤ w22.heap.size) := Nat.le_trans Lyx.out hb.size
    replace Lyg : Hid (yg + 1 + 1 ≤ w22.heap.size) := Nat.le_trans Lyg.out hb.size
    replace Lyk : Hid (yk + 1 + 1 ≤ w22.heap.size) := Nat.le_trans Lyk.out hb.size
    replace HB : Hid (Below w.heap.size w w22) := bel_step HB.out hb
    clear MM hb pgt0 pgt1
    go_wp2
    go_ret
    exact ⟨rfl, HB.out⟩

set_option maxRecDepth 1000000 in
set_option maxHeartbeats 6400000 in
theorem tab_ret (a : Option Addr) (c : Nat) (b : Option Addr) (d : Nat) (S : List Hd) (F : List Int) (x0 : Int) (S1 : List Hd) (F1 : List Int) (C1 : Int) (w : World) (hI : IsTab w a b S F)
    (SP : Hid (∀ (w' : World) a b c d, S.length ≤ 1048576 → F.length ≤ 1048576 → Hds w' a S → Ints w' b F → F.length ≤ d → Calls Try.prog 24 #[tabV a S.length c b F.length d, .int .i64 x0] w' fun e w'' => ∃ v u, e = .returned (.tuple #[.agg #[v, u], .int .i64 C1]) ∧ Hid (TabO w'.heap.size w'' v u S1 F1) ∧ Below w'.heap.size w' w''))
    (IM : Hid (∀ (w' : World) a b c d, S.length ≤ 1048576 → F.length ≤ 1048576 → Hds w' a S → Ints w' b F → F.length ≤ d → Calls Try.prog 25 #[tabV a S.length c b F.length d, .int .i64 x0] w' fun e w'' => ∃ v u, e = .returned (.tuple #[.agg #[v, u], .int .i64 C1]) ∧ Hid (TabO w'.heap.size w'' v u S1 F1) ∧ Below w'.heap.size w' w''))
    (hl : Hid (S.length ≤ 1048576 → F.length ≤ 1048576 → S1.length ≤ 1048576 ∧ F1.length ≤ 1048576)) :
    Calls Try.prog 7 #[tabV a S.length c b F.length d, .int .i64 x0] w fun e w' => e = .returned (.bool true) ∧ Below w.heap.size w w' := by
  have Z := szTab a b S.length c F.length d
  have HI : Hid (IsTab w a b S F) := hI
  have hlS := hI.lS
  have hlF := hI.lF
  obtain ⟨z, hz⟩ : ∃ z, w.heap.size = z := ⟨_, rfl⟩
  unfold tabV at SP IM Z ⊢
  obtain ⟨W0, hW0⟩ : ∃ W, (w.alloc (.cells #[.slice a S.length c, .slice b F.length d] 25)) = W := ⟨_, rfl⟩
  have hb0 : Below w.heap.size w W0 := by rw [← hW0]; exact (bel_alloc (Below.refl _ _) _)
  have bz : W0.heap[z]? = some (.cells #[.slice a S.length c, .slice b F.length d] 25 (0, 0)) := by
    have h := heap_alloc_new w (.cells #[.slice a S.length c, .slice b F.length d] 25)
    have e : w.heap.size = z := by exact hz
    rw [e] at h
    rw [← hW0]
    exact h
  have HB0 : Hid (Below w.heap.size w W0 ∧ w.heap.size = z) := ⟨hb0, hz⟩
  have HB : Hid (Below w.heap.size w W0) := hb0
  have Lz : Hid (z + 1 ≤ W0.heap.size) := by unfold Hid; rw [← hW0]; simp [hz]
  have SZ := Z W0 (by omega) (by omega)
  have pz0 : W0.cell? ⟨z, 0, none⟩ = some (.slice a S.length c) := (cell_of_block bz 0).trans rfl
  have pz1 : W0.cell? ⟨z, 1, none⟩ = some (.slice b F.length d) := (cell_of_block bz 1).trans rfl
  clear Z hb0 hlS hlF hI
  go_enter Try.func7, Try.ntmps7
  go_wp2_with fail
  clear hW0 hz pz0 pz1
  refine SZ.mono ?_
  rintro e w1 ⟨r, rfl, hr, hb1⟩
  replace bz := (hb1.block (z) (lt_of_block bz)).trans bz
  replace Lz : Hid (z + 1 ≤ w1.heap.size) := Nat.le_trans Lz.out hb1.size
  replace HB : Hid (Below w.heap.size w w1) := bel_step HB.out hb1
  clear hb1 SZ
  by_cases hr0 : r < 0
  · go_wp2
    go_ret
    exact ⟨rfl, HB.out⟩
  · obtain ⟨lS, lF⟩ := hr (by omega)
    have TT : Hid (∀ w', Below w.heap.size w w' → Calls Try.prog 11 #[.agg #[.slice a S.length c, .slice b F.length d]] w' fun e w'' => ∃ v u, e = .returned (.agg #[v, u]) ∧ Hid (TabO w'.heap.size w'' v u S F) ∧ Below w'.heap.size w' w'') := fun w' hb => toTab a b c d S F w' (HI.out.hds.below hb) (HI.out.ints.below hb) lS lF
    obtain ⟨lS1, lF1⟩ := hl.out lS lF
    clear hr
    have pz0 : w1.cell? ⟨z, 0, none⟩ = some (.slice a S.length c) := (cell_of_block bz 0).trans rfl
    have pz1 : w1.cell? ⟨z, 1, none⟩ = some (.slice b F.length d) := (cell_of_block bz 1).trans rfl
    obtain ⟨Bi, hB⟩ : ∃ B, w1.heap.size = B := ⟨_, rfl⟩
    have HEi : Hid (w1.heap.size = Bi) := hB
    have Oi : Hid (z + 1 ≤ Bi) := by unfold Hid; rw [← hB]; exact Lz.out
    clear hB
    go_wp2_with fail
    refine (TT.out w1 HB.out).mono ?_
    rintro e w2 ⟨v, u, rfl, Ti, hb⟩
    replace bz := (hb.block (z) (lt_of_block bz)).trans bz
    replace Lz : Hid (z + 1 ≤ w2.heap.size) := Nat.le_trans Lz.out hb.size
    replace HB : Hid (Below w.heap.size w w2) := bel_step HB.out hb
    obtain ⟨ai, ci, ei, di, rfl, rfl, hsi, hii, hdi⟩ := Ti.out.shape2
    rw [HEi.out] at Ti
    have HZi : Hid (Bi ≤ w2.heap.size) := by unfold Hid; rw [← HEi.out]; exact hb.size
    clear hb HEi pz0 pz1
    have CC := SP.out w2 ai ei ci di lS lF hsi hii hdi
    obtain ⟨Bn, hB⟩ : ∃ B, w2.heap.size = B := ⟨_, rfl⟩
    have HEn : Hid (w2.heap.size = Bn) := hB
    have On : Hid (z + 1 ≤ Bn) := by unfold Hid; rw [← hB]; exact Lz.out
    clear hB
    go_wp2_with fail
    refine CC.mono ?_
    rintro e w3 ⟨v, u, rfl, Tn, hb⟩
    replace bz := (hb.block (z) (lt_of_block bz)).trans bz
    replace Ti : Hid (TabO (Bi) w3 (.slice ai S.length ci) (.slice ei F.length di) S F) := Ti.out.below hb
    replace Lz : Hid (z + 1 ≤ w3.heap.size) := Nat.le_trans Lz.out hb.size
    replace HB : Hid (Below w.heap.size w w3) := bel_step HB.out hb
    obtain ⟨an, cn, en, dn, rfl, rfl, _, _, _⟩ := Tn.out.shape2
    rw [HEn.out] at Tn
    have HZn : Hid (Bn ≤ w3.heap.size) := by unfold Hid; rw [← HEn.out]; exact hb.size
    clear hb CC  hsi hii hdi HEn
    clear Ti HZi Oi
    obtain ⟨ys, hys⟩ : ∃ z, w3.heap.size = z := ⟨_, rfl⟩
    obtain ⟨w4, hN⟩ : ∃ W, (w3.alloc (.cells #[.slice an S1.length cn, .slice en F1.length dn] 30)) = W := ⟨_, rfl⟩
    have hb : Below w3.heap.size w3 w4 := by rw [← hN]; exact (bel_alloc (Below.refl _ _) _)
    have HVn : Hid (∀ g, (Value.slice an S1.length cn).ownBlock = some g ∨ (Value.slice en F1.length dn).ownBlock = some g → g < ys) := fun g hg => by rw [← hys]; rcases hg with h | h; exact (Tn.out.hds.lt g h).2; exact (Tn.out.ints.lt g h).2
    replace bz := (hb.block (z) (lt_of_block bz)).trans bz
    replace Tn : Hid (TabO (Bn) w4 (.slice an S1.length cn) (.slice en F1.length dn) S1 F1) := Tn.out.below hb
    replace Lz : Hid (z + 1 ≤ w4.heap.size) := Nat.le_trans Lz.out hb.size
    replace HB : Hid (Below w.heap.size w w4) := bel_step HB.out hb
    have bnt : w4.heap[ys]? = some (.cells #[.slice an S1.length cn, .slice en F1.length dn] 30 (0, 0)) := by
      have h := heap_alloc_new w3 (.cells #[.slice an S1.length cn, .slice en F1.length dn] 30)
      have e : w3.heap.size = ys := by exact hys
      rw [e] at h
      rw [← hN]
      exact h
    have HAys : Hid (w3.heap.size = ys) := hys
    have Lys : Hid (ys + 1 ≤ w4.heap.size) := by unfold Hid; rw [← hN]; simp [hys]
    clear hb
    have pz0 : w4.cell? ⟨z, 0, none⟩ = some (.slice a S.length c) := (cell_of_block bz 0).trans rfl
    have pz1 : w4.cell? ⟨z, 1, none⟩ = some (.slice b F.length d) := (cell_of_block bz 1).trans rfl
    obtain ⟨Bx, hB⟩ : ∃ B, w4.heap.size = B := ⟨_, rfl⟩
    have HEx : Hid (w4.heap.size = Bx) := hB
    have Ox : Hid (ys + 1 ≤ Bx) := by unfold Hid; rw [← hB]; exact Lys.out
    clear hB
    go_wp2_with fail
    clear hN hys
    refine (TT.out w4 HB.out).mono ?_
    rintro e w5 ⟨v, u, rfl, Tx, hb⟩
    replace bz := (hb.block (z) (lt_of_block bz)).trans bz
    replace bnt := (hb.block (ys) (lt_of_block bnt)).trans bnt
    replace Tn : Hid (TabO (Bn) w5 (.slice an S1.length cn) (.slice en F1.length dn) S1 F1) := Tn.out.below hb
    replace Lz : Hid (z + 1 ≤ w5.heap.size) := Nat.le_trans Lz.out hb.size
    replace Lys : Hid (ys + 1 ≤ w5.heap.size) := Nat.le_trans Lys.out hb.size
    replace HB : Hid (Below w.heap.size w w5) := bel_step HB.out hb
    obtain ⟨ax, cx, ex, dx, rfl, rfl, hsx, hix, hdx⟩ := Tx.out.shape2
    rw [HEx.out] at Tx
    have HZx : Hid (Bx ≤ w5.heap.size) := by unfold Hid; rw [← HEx.out]; exact hb.size
    clear hb HEx pz0 pz1
    obtain ⟨yx, hyx⟩ : ∃ z, w5.heap.size = z := ⟨_, rfl⟩
    obtain ⟨w6, hN⟩ : ∃ W, (w5.alloc (.cells #[.slice ax S.length cx, .slice ex F.length dx] 30)) = W := ⟨_, rfl⟩
    have hb : Below w5.heap.size w5 w6 := by rw [← hN]; exact (bel_alloc (Below.refl _ _) _)
    have HVx : Hid (∀ g, (Value.slice ax S.length cx).ownBlock = some g ∨ (Value.slice ex F.length dx).ownBlock = some g → g < yx) := fun g hg => by rw [← hyx]; rcases hg with h | h; exact (Tx.out.hds.lt g h).2; exact (Tx.out.ints.lt g h).2
    replace bz := (hb.block (z) (lt_of_block bz)).trans bz
    replace bnt := (hb.block (ys) (lt_of_block bnt)).trans bnt
    replace Tn : Hid (TabO (Bn) w6 (.slice an S1.length cn) (.slice en F1.length dn) S1 F1) := Tn.out.below hb
    replace Tx : Hid (TabO (Bx) w6 (.slice ax S.length cx) (.slice ex F.length dx) S F) := Tx.out.below hb
    replace Lz : Hid (z + 1 ≤ w6.heap.size) := Nat.le_trans Lz.out hb.size
    replace Lys : Hid (ys + 1 ≤ w6.heap.size) := Nat.le_trans Lys.out hb.size
    replace HB : Hid (Below w.heap.size w w6) := bel_step HB.out hb
    have bx : w6.heap[yx]? = some (.cells #[.slice ax S.length cx, .slice ex F.length dx] 30 (0, 0)) := by
      have h := heap_alloc_new w5 (.cells #[.slice ax S.length cx, .slice ex F.length dx] 30)
      have e : w5.heap.size = yx := by exact hyx
      rw [e] at h
      rw [← hN]
      exact h
    have HAyx : Hid (w5.heap.size = yx) := hyx
    have Lyx : Hid (yx + 1 ≤ w6.heap.size) := by unfold Hid; rw [← hN]; simp [hyx]
    clear hb
    replace hsx : Hds w6 ax S := by obtain ⟨_, _, _, _, e1, e2, h1, h2, _⟩ := Tx.out.shape2; simp only [Value.slice.injEq] at e1; rw [e1.1]; exact h1
    replace hix : Ints w6 ex F := by obtain ⟨_, _, _, _, e1, e2, h1, h2, _⟩ := Tx.out.shape2; simp only [Value.slice.injEq] at e2; rw [e2.1]; exact h2
    have px0 : w6.cell? ⟨yx, 0, none⟩ = some (.slice ax S.length cx) := (cell_of_block bx 0).trans rfl
    have px1 : w6.cell? ⟨yx, 1, none⟩ = some (.slice ex F.length dx) := (cell_of_block bx 1).trans rfl
    have CC := IM.out w6 ax ex cx dx lS lF hsx hix hdx
    obtain ⟨Bg, hB⟩ : ∃ B, w6.heap.size = B := ⟨_, rfl⟩
    have HEg : Hid (w6.heap.size = Bg) := hB
    have Og : Hid (yx + 1 ≤ Bg) := by unfold Hid; rw [← hB]; exact Lyx.out
    clear hB
    go_wp2_with fail
    clear hN hyx
    refine CC.mono ?_
    rintro e w7 ⟨v, u, rfl, Tg, hb⟩
    replace bz := (hb.block (z) (lt_of_block bz)).trans bz
    replace bnt := (hb.block (ys) (lt_of_block bnt)).trans bnt
    replace bx := (hb.block (yx) (lt_of_block bx)).trans bx
    replace Tn : Hid (TabO (Bn) w7 (.slice an S1.length cn) (.slice en F1.length dn) S1 F1) := Tn.out.below hb
    replace Tx : Hid (TabO (Bx) w7 (.slice ax S.length cx) (.slice ex F.length dx) S F) := Tx.out.below hb
    replace Lz : Hid (z + 1 ≤ w7.heap.size) := Nat.le_trans Lz.out hb.size
    replace Lys : Hid (ys + 1 ≤ w7.heap.size) := Nat.le_trans Lys.out hb.size
    replace Lyx : Hid (yx + 1 ≤ w7.heap.size) := Nat.le_trans Lyx.out hb.size
    replace HB : Hid (Below w.heap.size w w7) := bel_step HB.out hb
    obtain ⟨ag, cg, eg, dg, rfl, rfl, _, _, _⟩ := Tg.out.shape2
    rw [HEg.out] at Tg
    have HZg : Hid (Bg ≤ w7.heap.size) := by unfold Hid; rw [← HEg.out]; exact hb.size
    clear hb CC px0 px1 hsx hix hdx HEg
    obtain ⟨yg, hyg⟩ : ∃ z, w7.heap.size = z := ⟨_, rfl⟩
    obtain ⟨w8, hN⟩ : ∃ W, (w7.alloc (.cells #[.slice ag S1.length cg, .slice eg F1.length dg] 30)) = W := ⟨_, rfl⟩
    have hb : Below w7.heap.size w7 w8 := by rw [← hN]; exact (bel_alloc (Below.refl _ _) _)
    have HVg : Hid (∀ g, (Value.slice ag S1.length cg).ownBlock = some g ∨ (Value.slice eg F1.length dg).ownBlock = some g → g < yg) := fun g hg => by rw [← hyg]; rcases hg with h | h; exact (Tg.out.hds.lt g h).2; exact (Tg.out.ints.lt g h).2
    replace bz := (hb.block (z) (lt_of_block bz)).trans bz
    replace bnt := (hb.block (ys) (lt_of_block bnt)).trans bnt
    replace bx := (hb.block (yx) (lt_of_block bx)).trans bx
    replace Tn : Hid (TabO (Bn) w8 (.slice an S1.length cn) (.slice en F1.length dn) S1 F1) := Tn.out.below hb
    replace Tx : Hid (TabO (Bx) w8 (.slice ax S.length cx) (.slice ex F.length dx) S F) := Tx.out.below hb
    replace Tg : Hid (TabO (Bg) w8 (.slice ag S1.length cg) (.slice eg F1.length dg) S1 F1) := Tg.out.below hb
    replace Lz : Hid (z + 1 ≤ w8.heap.size) := Nat.le_trans Lz.out hb.size
    replace Lys : Hid (ys + 1 ≤ w8.heap.size) := Nat.le_trans Lys.out hb.size
    replace Lyx : Hid (yx + 1 ≤ w8.heap.size) := Nat.le_trans Lyx.out hb.size
    replace HB : Hid (Below w.heap.size w w8) := bel_step HB.out hb
    have bgt : w8.heap[yg]? = some (.cells #[.slice ag S1.length cg, .slice eg F1.length dg] 30 (0, 0)) := by
      have h := heap_alloc_new w7 (.cells #[.slice ag S1.length cg, .slice eg F1.length dg] 30)
      have e : w7.heap.size = yg := by exact hyg
      rw [e] at h
      rw [← hN]
      exact h
    have HAyg : Hid (w7.heap.size = yg) := hyg
    have Lyg : Hid (yg + 1 ≤ w8.heap.size) := by unfold Hid; rw [← hN]; simp [hyg]
    clear hb
    have pgt0 : w8.cell? ⟨yg, 0, none⟩ = some (.slice ag S1.length cg) := (cell_of_block bgt 0).trans rfl
    have pgt1 : w8.cell? ⟨yg, 1, none⟩ = some (.slice eg F1.length dg) := (cell_of_block bgt 1).trans rfl
    have pnt0 : w8.cell? ⟨ys, 0, none⟩ = some (.slice an S1.length cn) := (cell_of_block bnt 0).trans rfl
    have pnt1 : w8.cell? ⟨ys, 1, none⟩ = some (.slice en F1.length dn) := (cell_of_block bnt 1).trans rfl
    have EE := eqTabO Tg Tn (by omega) (by omega)
    go_wp2_with fail
    clear hN hyg
    refine EE.mono ?_
    rintro e w9 ⟨rfl, hb⟩
    replace bz := (hb.block (z) (lt_of_block bz)).trans bz
    replace bnt := (hb.block (ys) (lt_of_block bnt)).trans bnt
    replace bx := (hb.block (yx) (lt_of_block bx)).trans bx
    replace bgt := (hb.block (yg) (lt_of_block bgt)).trans bgt
    replace Tn : Hid (TabO (Bn) w9 (.slice an S1.length cn) (.slice en F1.length dn) S1 F1) := Tn.out.below hb
    replace Tx : Hid (TabO (Bx) w9 (.slice ax S.length cx) (.slice ex F.length dx) S F) := Tx.out.below hb
    replace Tg : Hid (TabO (Bg) w9 (.slice ag S1.length cg) (.slice eg F1.length dg) S1 F1) := Tg.out.below hb
    replace Lz : Hid (z + 1 ≤ w9.heap.size) := Nat.le_trans Lz.out hb.size
    replace Lys : Hid (ys + 1 ≤ w9.heap.size) := Nat.le_trans Lys.out hb.size
    replace Lyx : Hid (yx + 1 ≤ w9.heap.size) := Nat.le_trans Lyx.out hb.size
    replace Lyg : Hid (yg + 1 ≤ w9.heap.size) := Nat.le_trans Lyg.out hb.size
    replace HB : Hid (Below w.heap.size w w9) := bel_step HB.out hb
    clear hb EE pgt0 pgt1 pnt0 pnt1
    go_wp2
    have KX : ∀ w', Keeps w9 w' → w'.heap[yx]? = some (.cells #[.slice ax S.length cx, .slice ex F.length dx] 30 (0, 0)) := fun w' h => (h.below.block yx (lt_of_block bx)).trans bx
    have KZ : ∀ w', Keeps w9 w' → w'.heap[z]? = some (.cells #[.slice a S.length c, .slice b F.length d] 25 (0, 0)) := fun w' h => (h.below.block z (lt_of_block bz)).trans bz
    refine wh_begin (Keeps w9) (by kernel_rfl) ?_
    have hS0 : Keeps w9 w9.drew := Keeps.drew w9
    refine wh_take 0 (some 45) (.agg #[.slice ax S.length cx, .slice ex F.length dx]) rfl rfl (by kernel_rfl) (by kernel_rfl) (by kernel_rfl) (fun _ _ _ h => h) hS0 (by rfl) (fun w' hS => by have hq := KX _ hS; have q0 : w'.cell? ⟨yx, 0, none⟩ = some (.slice ax S.length cx) := (cell_of_block hq 0).trans rfl; have q1 : w'.cell? ⟨yx, 1, none⟩ = some (.slice ex F.length dx) := (cell_of_block hq 1).trans rfl; clear hq; go_simp) ?_
    simp only [Act.put, List.setIfInBounds_toArray, List.set_cons_zero, List.set_cons_succ]
    refine wh_take 1 (some 46) (.agg #[.slice a S.length c, .slice b F.length d]) rfl rfl (by kernel_rfl) (by kernel_rfl) (by kernel_rfl) (fun _ _ _ h => h) hS0 (by rfl) (fun w' hS => by have hq := KZ _ hS; have q0 : w'.cell? ⟨z, 0, none⟩ = some (.slice a S.length c) := (cell_of_block hq 0).trans rfl; have q1 : w'.cell? ⟨z, 1, none⟩ = some (.slice b F.length d) := (cell_of_block hq 1).trans rfl; clear hq; go_simp) ?_
    simp only [Act.put, List.setIfInBounds_toArray, List.set_cons_zero, List.set_cons_succ]
    refine wh_call 2 (some 47) 11 #[.agg #[.slice a S.length c, .slice b F.length d]] (by kernel_rfl) rfl rfl (by rfl) (by kernel_rfl) ?_
    refine (TT.out _ (bel_step HB.out hS0.below)).mono ?_
    rintro e wb ⟨v, u, rfl, Tb, hbb⟩
    have hSb : Keeps w9 wb := hS0.step hbb
    refine ⟨_, rfl, hSb, ?_⟩
    obtain ⟨ab, cb, eb, db, rfl, rfl, _, _, _⟩ := Tb.out.shape2
    have Txb : Hid (TabO Bx wb (.slice ax S.length cx) (.slice ex F.length dx) S F) := Tx.out.below hSb.below
    have EE := eqTabO Txb Tb (by omega) (by omega)
    simp only [Act.put, List.setIfInBounds_toArray, List.set_cons_zero, List.set_cons_succ]
    refine wh_call 3 (some 48) 13 #[.agg #[.slice ax S.length cx, .slice ex F.length dx], .agg #[.slice ab S.length cb, .slice eb F.length db]] (by kernel_rfl) rfl rfl (by rfl) (by kernel_rfl) ?_
    refine EE.mono ?_
    rintro e w10 ⟨rfl, hbc⟩
    have hSc : Keeps w9 w10 := hSb.step hbc
    refine ⟨_, rfl, hSc, ?_⟩
    simp only [Act.put, List.setIfInBounds_toArray, List.set_cons_zero, List.set_cons_succ]
    refine wh_val 4 (some 49) (.bool false) w10 (by kernel_rfl) rfl rfl (by rfl) (by rfl) hSc ?_
    simp only [Act.put, List.setIfInBounds_toArray, List.set_cons_zero, List.set_cons_succ]
    refine wh_done (by kernel_rfl) ?_
    have hb := hSc.below
    replace bz := (hb.block (z) (lt_of_block bz)).trans bz
    replace bnt := (hb.block (ys) (lt_of_block bnt)).trans bnt
    replace bx := (hb.block (yx) (lt_of_block bx)).trans bx
    replace bgt := (hb.block (yg) (lt_of_block bgt)).trans bgt
    replace Tn : Hid (TabO (Bn) w10 (.slice an S1.length cn) (.slice en F1.length dn) S1 F1) := Tn.out.below hb
    replace Tx : Hid (TabO (Bx) w10 (.slice ax S.length cx) (.slice ex F.length dx) S F) := Tx.out.below hb
    replace Tg : Hid (TabO (Bg) w10 (.slice ag S1.length cg) (.slice eg F1.length dg) S1 F1) := Tg.out.below hb
    replace Lz : Hid (z + 1 ≤ w10.heap.size) := Nat.le_trans Lz.out hb.size
    replace Lys : Hid (ys + 1 ≤ w10.heap.size) := Nat.le_trans Lys.out hb.size
    replace Lyx : Hid (yx + 1 ≤ w10.heap.size) := Nat.le_trans Lyx.out hb.size
    replace Lyg : Hid (yg + 1 ≤ w10.heap.size) := Nat.le_trans Lyg.out hb.size
    replace HB : Hid (Below w.heap.size w w10) := bel_step HB.out hb
    clear hb EE Txb Tb hbb hbc hS0 hSb hSc KX KZ
    have px0 : w10.cell? ⟨yx, 0, none⟩ = some (.slice ax S.length cx) := (cell_of_block bx 0).trans rfl
    have px1 : w10.cell? ⟨yx, 1, none⟩ = some (.slice ex F.length dx) := (cell_of_block bx 1).trans rfl
    have HORD : Hid (w.heap.size = z ∧ z + 1 ≤ Bn ∧ Bn ≤ ys ∧ ys + 1 ≤ Bx ∧ Bx ≤ yx ∧ yx + 1 ≤ Bg ∧ Bg ≤ yg ∧ yg + 1 ≤ w10.heap.size) := ⟨HB0.out.2, On.out, by have h1 := HZn.out; have h2 := HAys.out; omega, Ox.out, by have h1 := HZx.out; have h2 := HAyx.out; omega, Og.out, by have h1 := HZg.out; have h2 := HAyg.out; omega, Lyg.out⟩
    have MM := markTab Bx yx (.slice ax S.length cx) (.slice ex F.length dx) S F w10 Tx HVx lS lF (by unfold Hid; have o1 := HORD.out; omega)
    go_wp2_with fail
    refine MM.mono ?_
    rintro e w11 ⟨rfl, _, hbm, hcm⟩
    replace bz := (hbm.out.block (z) (by have o1 := HORD.out; omega)).trans bz
    replace bnt := (hbm.out.block (ys) (by have o1 := HORD.out; omega)).trans bnt
    replace bx := (hcm.out (yx) (by have o1 := HORD.out; omega) (lt_of_block bx)).trans bx
    replace bgt := (hcm.out (yg) (by have o1 := HORD.out; omega) (lt_of_block bgt)).trans bgt
    replace Tn : Hid (TabO Bn w11 (.slice an S1.length cn) (.slice en F1.length dn) S1 F1) := ⟨own_keep Tn.out.hds (fun g hg => hbm.out.block g (by have o1 := HORD.out; have := HVn.out g (.inl hg); omega)), own_keep Tn.out.ints (fun g hg => hbm.out.block g (by have o1 := HORD.out; have := HVn.out g (.inr hg); omega))⟩
    replace Tg : Hid (TabO Bg w11 (.slice ag S1.length cg) (.slice eg F1.length dg) S1 F1) := Tg.out.same (fun g h1 h2 => hcm.out g (by have o1 := HORD.out; omega) h2)
    replace Lz : Hid (z + 1 ≤ w11.heap.size) := Nat.le_trans Lz.out hbm.out.size
    replace Lys : Hid (ys + 1 ≤ w11.heap.size) := Nat.le_trans Lys.out hbm.out.size
    replace Lyx : Hid (yx + 1 ≤ w11.heap.size) := Nat.le_trans Lyx.out hbm.out.size
    replace Lyg : Hid (yg + 1 ≤ w11.heap.size) := Nat.le_trans Lyg.out hbm.out.size
    replace HB : Hid (Below w.heap.size w w11) := HB.out.trans (hbm.out.mono (by have o1 := HORD.out; omega))
    have hks : ¬ (1 + 6 * (S.length : Int) + (F.length : Int)) < 0 := by omega
    have hkd : decide ((1 + 6 * (S.length : Int) + (F.length : Int)) < 0) = false := by simpa using hks
    clear MM hbm hcm Tx bx HVx px0 px1
    have pgt0 : w11.cell? ⟨yg, 0, none⟩ = some (.slice ag S1.length cg) := (cell_of_block bgt 0).trans rfl
    have pgt1 : w11.cell? ⟨yg, 1, none⟩ = some (.slice eg F1.length dg) := (cell_of_block bgt 1).trans rfl
    have pnt0 : w11.cell? ⟨ys, 0, none⟩ = some (.slice an S1.length cn) := (cell_of_block bnt 0).trans rfl
    have pnt1 : w11.cell? ⟨ys, 1, none⟩ = some (.slice en F1.length dn) := (cell_of_block bnt 1).trans rfl
    have EE := eqTabO Tg Tn (by omega) (by omega)
    go_wp2_with fail
    refine EE.mono ?_
    rintro e w12 ⟨rfl, hb⟩
    replace bz := (hb.block (z) (lt_of_block bz)).trans bz
    replace bnt := (hb.block (ys) (lt_of_block bnt)).trans bnt
    replace bgt := (hb.block (yg) (lt_of_block bgt)).trans bgt
    replace Tn : Hid (TabO (Bn) w12 (.slice an S1.length cn) (.slice en F1.length dn) S1 F1) := Tn.out.below hb
    replace Tg : Hid (TabO (Bg) w12 (.slice ag S1.length cg) (.slice eg F1.length dg) S1 F1) := Tg.out.below hb
    replace Lz : Hid (z + 1 ≤ w12.heap.size) := Nat.le_trans Lz.out hb.size
    replace Lys : Hid (ys + 1 ≤ w12.heap.size) := Nat.le_trans Lys.out hb.size
    replace Lyx : Hid (yx + 1 ≤ w12.heap.size) := Nat.le_trans Lyx.out hb.size
    replace Lyg : Hid (yg + 1 ≤ w12.heap.size) := Nat.le_trans Lyg.out hb.size
    replace HB : Hid (Below w.heap.size w w12) := bel_step HB.out hb
    clear hb EE pgt0 pgt1 pnt0 pnt1
    have pgt0 : w12.cell? ⟨yg, 0, none⟩ = some (.slice ag S1.length cg) := (cell_of_block bgt 0).trans rfl
    have pgt1 : w12.cell? ⟨yg, 1, none⟩ = some (.slice eg F1.length dg) := (cell_of_block bgt 1).trans rfl
    have MM := markTab Bg yg (.slice ag S1.length cg) (.slice eg F1.length dg) S1 F1 w12 Tg HVg lS1 lF1 (by unfold Hid; have o1 := HORD.out; have o2 := Lyg.out; omega)
    go_wp2_with fail
    refine MM.mono ?_
    rintro e w13 ⟨rfl, Tg2, hbm, hcm⟩
    replace bz := (hbm.out.block (z) (by have o1 := HORD.out; omega)).trans bz
    replace bnt := (hbm.out.block (ys) (by have o1 := HORD.out; omega)).trans bnt
    replace bgt := (hcm.out (yg) (by have o1 := HORD.out; omega) (lt_of_block bgt)).trans bgt
    replace Tn : Hid (TabO Bn w13 (.slice an S1.length cn) (.slice en F1.length dn) S1 F1) := ⟨own_keep Tn.out.hds (fun g hg => hbm.out.block g (by have o1 := HORD.out; have := HVn.out g (.inl hg); omega)), own_keep Tn.out.ints (fun g hg => hbm.out.block g (by have o1 := HORD.out; have := HVn.out g (.inr hg); omega))⟩
    replace Lz : Hid (z + 1 ≤ w13.heap.size) := Nat.le_trans Lz.out hbm.out.size
    replace Lys : Hid (ys + 1 ≤ w13.heap.size) := Nat.le_trans Lys.out hbm.out.size
    replace Lyx : Hid (yx + 1 ≤ w13.heap.size) := Nat.le_trans Lyx.out hbm.out.size
    replace Lyg : Hid (yg + 1 ≤ w13.heap.size) := Nat.le_trans Lyg.out hbm.out.size
    replace HB : Hid (Below w.heap.size w w13) := HB.out.trans (hbm.out.mono (by have o1 := HORD.out; omega))
    clear MM hbm hcm hks hkd Tg pgt0 pgt1
    have Tg : Hid (Marked Bg w13 (.slice ag S1.length cg) (.slice eg F1.length dg) S1.length F1.length) := Tg2
    clear Tg2
    have pgt0 : w13.cell? ⟨yg, 0, none⟩ = some (.slice ag S1.length cg) := (cell_of_block bgt 0).trans rfl
    have pgt1 : w13.cell? ⟨yg, 1, none⟩ = some (.slice eg F1.length dg) := (cell_of_block bgt 1).trans rfl
    have MM := heldTab Bg (.slice ag S1.length cg) (.slice eg F1.length dg) S1.length F1.length w13 Tg lS1 lF1
    go_wp2_with fail
    refine MM.mono ?_
    rintro e w14 ⟨rfl, hb⟩
    replace bz := (hb.block (z) (lt_of_block bz)).trans bz
    replace bnt := (hb.block (ys) (lt_of_block bnt)).trans bnt
    replace bgt := (hb.block (yg) (lt_of_block bgt)).trans bgt
    replace Tn : Hid (TabO (Bn) w14 (.slice an S1.length cn) (.slice en F1.length dn) S1 F1) := Tn.out.below hb
    replace Tg : Hid (Marked (Bg) w14 (.slice ag S1.length cg) (.slice eg F1.length dg) S1.length F1.length) := TabO.below Tg.out hb
    replace Lz : Hid (z + 1 ≤ w14.heap.size) := Nat.le_trans Lz.out hb.size
    replace Lys : Hid (ys + 1 ≤ w14.heap.size) := Nat.le_trans Lys.out hb.size
    replace Lyx : Hid (yx + 1 ≤ w14.heap.size) := Nat.le_trans Lyx.out hb.size
    replace Lyg : Hid (yg + 1 ≤ w14.heap.size) := Nat.le_trans Lyg.out hb.size
    replace HB : Hid (Below w.heap.size w w14) := bel_step HB.out hb
    clear MM hb pgt0 pgt1
    have hks : ¬ (1 + 6 * (S1.length : Int) + (F1.length : Int)) < 0 := by omega
    have pz0 : w14.cell? ⟨z, 0, none⟩ = some (.slice a S.length c) := (cell_of_block bz 0).trans rfl
    have pz1 : w14.cell? ⟨z, 1, none⟩ = some (.slice b F.length d) := (cell_of_block bz 1).trans rfl
    obtain ⟨Bi, hB⟩ : ∃ B, w14.heap.size = B := ⟨_, rfl⟩
    have HEi : Hid (w14.heap.size = Bi) := hB
    have Oi : Hid (yg + 1 ≤ Bi) := by unfold Hid; rw [← hB]; exact Lyg.out
    clear hB
    go_wp2_with fail
    refine (TT.out w14 HB.out).mono ?_
    rintro e w15 ⟨v, u, rfl, Ti, hb⟩
    replace bz := (hb.block (z) (lt_of_block bz)).trans bz
    replace bnt := (hb.block (ys) (lt_of_block bnt)).trans bnt
    replace bgt := (hb.block (yg) (lt_of_block bgt)).trans bgt
    replace Tn : Hid (TabO (Bn) w15 (.slice an S1.length cn) (.slice en F1.length dn) S1 F1) := Tn.out.below hb
    replace Tg : Hid (Marked (Bg) w15 (.slice ag S1.length cg) (.slice eg F1.length dg) S1.length F1.length) := TabO.below Tg.out hb
    replace Lz : Hid (z + 1 ≤ w15.heap.size) := Nat.le_trans Lz.out hb.size
    replace Lys : Hid (ys + 1 ≤ w15.heap.size) := Nat.le_trans Lys.out hb.size
    replace Lyx : Hid (yx + 1 ≤ w15.heap.size) := Nat.le_trans Lyx.out hb.size
    replace Lyg : Hid (yg + 1 ≤ w15.heap.size) := Nat.le_trans Lyg.out hb.size
    replace HB : Hid (Below w.heap.size w w15) := bel_step HB.out hb
    obtain ⟨ai, ci, ei, di, rfl, rfl, hsi, hii, hdi⟩ := Ti.out.shape2
    rw [HEi.out] at Ti
    have HZi : Hid (Bi ≤ w15.heap.size) := by unfold Hid; rw [← HEi.out]; exact hb.size
    clear hb HEi pz0 pz1
    have CC := IM.out w15 ai ei ci di lS lF hsi hii hdi
    obtain ⟨Bk, hB⟩ : ∃ B, w15.heap.size = B := ⟨_, rfl⟩
    have HEk : Hid (w15.heap.size = Bk) := hB
    have Ok : Hid (yg + 1 ≤ Bk) := by unfold Hid; rw [← hB]; exact Lyg.out
    clear hB
    go_wp2_with fail
    refine CC.mono ?_
    rintro e w16 ⟨v, u, rfl, Tk, hb⟩
    replace bz := (hb.block (z) (lt_of_block bz)).trans bz
    replace bnt := (hb.block (ys) (lt_of_block bnt)).trans bnt
    replace bgt := (hb.block (yg) (lt_of_block bgt)).trans bgt
    replace Tn : Hid (TabO (Bn) w16 (.slice an S1.length cn) (.slice en F1.length dn) S1 F1) := Tn.out.below hb
    replace Tg : Hid (Marked (Bg) w16 (.slice ag S1.length cg) (.slice eg F1.length dg) S1.length F1.length) := TabO.below Tg.out hb
    replace Ti : Hid (TabO (Bi) w16 (.slice ai S.length ci) (.slice ei F.length di) S F) := Ti.out.below hb
    replace Lz : Hid (z + 1 ≤ w16.heap.size) := Nat.le_trans Lz.out hb.size
    replace Lys : Hid (ys + 1 ≤ w16.heap.size) := Nat.le_trans Lys.out hb.size
    replace Lyx : Hid (yx + 1 ≤ w16.heap.size) := Nat.le_trans Lyx.out hb.size
    replace Lyg : Hid (yg + 1 ≤ w16.heap.size) := Nat.le_trans Lyg.out hb.size
    replace HB : Hid (Below w.heap.size w w16) := bel_step HB.out hb
    obtain ⟨ak, ck, ek, dk, rfl, rfl, _, _, _⟩ := Tk.out.shape2
    rw [HEk.out] at Tk
    have HZk : Hid (Bk ≤ w16.heap.size) := by unfold Hid; rw [← HEk.out]; exact hb.size
    clear hb CC  hsi hii hdi HEk
    clear Ti HZi Oi
    obtain ⟨yk, hyk⟩ : ∃ z, w16.heap.size = z := ⟨_, rfl⟩
    obtain ⟨w17, hN⟩ : ∃ W, (w16.alloc (.cells #[.slice ak S1.length ck, .slice ek F1.length dk] 30)) = W := ⟨_, rfl⟩
    have hb : Below w16.heap.size w16 w17 := by rw [← hN]; exact (bel_alloc (Below.refl _ _) _)
    replace bz := (hb.block (z) (lt_of_block bz)).trans bz
    replace bnt := (hb.block (ys) (lt_of_block bnt)).trans bnt
    replace bgt := (hb.block (yg) (lt_of_block bgt)).trans bgt
    replace Tn : Hid (TabO (Bn) w17 (.slice an S1.length cn) (.slice en F1.length dn) S1 F1) := Tn.out.below hb
    replace Tg : Hid (Marked (Bg) w17 (.slice ag S1.length cg) (.slice eg F1.length dg) S1.length F1.length) := TabO.below Tg.out hb
    replace Tk : Hid (TabO (Bk) w17 (.slice ak S1.length ck) (.slice ek F1.length dk) S1 F1) := Tk.out.below hb
    replace Lz : Hid (z + 1 ≤ w17.heap.size) := Nat.le_trans Lz.out hb.size
    replace Lys : Hid (ys + 1 ≤ w17.heap.size) := Nat.le_trans Lys.out hb.size
    replace Lyx : Hid (yx + 1 ≤ w17.heap.size) := Nat.le_trans Lyx.out hb.size
    replace Lyg : Hid (yg + 1 ≤ w17.heap.size) := Nat.le_trans Lyg.out hb.size
    replace HB : Hid (Below w.heap.size w w17) := bel_step HB.out hb
    have bkt : w17.heap[yk]? = some (.cells #[.slice ak S1.length ck, .slice ek F1.length dk] 30 (0, 0)) := by
      have h := heap_alloc_new w16 (.cells #[.slice ak S1.length ck, .slice ek F1.length dk] 30)
      have e : w16.heap.size = yk := by exact hyk
      rw [e] at h
      rw [← hN]
      exact h
    have HAyk : Hid (w16.heap.size = yk) := hyk
    have Lyk : Hid (yk + 1 ≤ w17.heap.size) := by unfold Hid; rw [← hN]; simp [hyk]
    clear hb
    have pkt0 : w17.cell? ⟨yk, 0, none⟩ = some (.slice ak S1.length ck) := (cell_of_block bkt 0).trans rfl
    have pkt1 : w17.cell? ⟨yk, 1, none⟩ = some (.slice ek F1.length dk) := (cell_of_block bkt 1).trans rfl
    have pnt0 : w17.cell? ⟨ys, 0, none⟩ = some (.slice an S1.length cn) := (cell_of_block bnt 0).trans rfl
    have pnt1 : w17.cell? ⟨ys, 1, none⟩ = some (.slice en F1.length dn) := (cell_of_block bnt 1).trans rfl
    have EE := eqTabO Tk Tn (by omega) (by omega)
    go_wp2_with fail
    clear hN hyk
    refine EE.mono ?_
    rintro e w18 ⟨rfl, hb⟩
    replace bz := (hb.block (z) (lt_of_block bz)).trans bz
    replace bnt := (hb.block (ys) (lt_of_block bnt)).trans bnt
    replace bgt := (hb.block (yg) (lt_of_block bgt)).trans bgt
    replace bkt := (hb.block (yk) (lt_of_block bkt)).trans bkt
    replace Tn : Hid (TabO (Bn) w18 (.slice an S1.length cn) (.slice en F1.length dn) S1 F1) := Tn.out.below hb
    replace Tg : Hid (Marked (Bg) w18 (.slice ag S1.length cg) (.slice eg F1.length dg) S1.length F1.length) := TabO.below Tg.out hb
    replace Tk : Hid (TabO (Bk) w18 (.slice ak S1.length ck) (.slice ek F1.length dk) S1 F1) := Tk.out.below hb
    replace Lz : Hid (z + 1 ≤ w18.heap.size) := Nat.le_trans Lz.out hb.size
    replace Lys : Hid (ys + 1 ≤ w18.heap.size) := Nat.le_trans Lys.out hb.size
    replace Lyx : Hid (yx + 1 ≤ w18.heap.size) := Nat.le_trans Lyx.out hb.size
    replace Lyg : Hid (yg + 1 ≤ w18.heap.size) := Nat.le_trans Lyg.out hb.size
    replace Lyk : Hid (yk + 1 ≤ w18.heap.size) := Nat.le_trans Lyk.out hb.size
    replace HB : Hid (Below w.heap.size w w18) := bel_step HB.out hb
    clear hb EE pkt0 pkt1 pnt0 pnt1
    have pgt0 : w18.cell? ⟨yg, 0, none⟩ = some (.slice ag S1.length cg) := (cell_of_block bgt 0).trans rfl
    have pgt1 : w18.cell? ⟨yg, 1, none⟩ = some (.slice eg F1.length dg) := (cell_of_block bgt 1).trans rfl
    have MM := heldTab Bg (.slice ag S1.length cg) (.slice eg F1.length dg) S1.length F1.length w18 Tg lS1 lF1
    go_wp2_with fail
    refine MM.mono ?_
    rintro e w19 ⟨rfl, hb⟩
    replace bz := (hb.block (z) (lt_of_block bz)).trans bz
    replace bnt := (hb.block (ys) (lt_of_block bnt)).trans bnt
    replace bgt := (hb.block (yg) (lt_of_block bgt)).trans bgt
    replace bkt := (hb.block (yk) (lt_of_block bkt)).trans bkt
    replace Tn : Hid (TabO (Bn) w19 (.slice an S1.length cn) (.slice en F1.length dn) S1 F1) := Tn.out.below hb
    replace Tg : Hid (Marked (Bg) w19 (.slice ag S1.length cg) (.slice eg F1.length dg) S1.length F1.length) := TabO.below Tg.out hb
    replace Tk : Hid (TabO (Bk) w19 (.slice ak S1.length ck) (.slice ek F1.length dk) S1 F1) := Tk.out.below hb
    replace Lz : Hid (z + 1 ≤ w19.heap.size) := Nat.le_trans Lz.out hb.size
    replace Lys : Hid (ys + 1 ≤ w19.heap.size) := Nat.le_trans Lys.out hb.size
    replace Lyx : Hid (yx + 1 ≤ w19.heap.size) := Nat.le_trans Lyx.out hb.size
    replace Lyg : Hid (yg + 1 ≤ w19.heap.size) := Nat.le_trans Lyg.out hb.size
    replace Lyk : Hid (yk + 1 ≤ w19.heap.size) := Nat.le_trans Lyk.out hb.size
    replace HB : Hid (Below w.heap.size w w19) := bel_step HB.out hb
    clear MM hb pgt0 pgt1
    go_wp2
    go_ret
    exact ⟨rfl, HB.out⟩

set_option maxRecDepth 1000000 in
set_option maxHeartbeats 6400000 in
theorem tab_drop (a : Option Addr) (c : Nat) (b : Option Addr) (d : Nat) (S : List Hd) (F : List Int) (x0 : Int) (x1 : Int) (S1 : List Hd) (F1 : List Int) (H1 : Hd) (C2 : Int) (w : World) (hI : IsTab w a b S F)
    (SP : Hid (∀ (w' : World) a b c d, S.length ≤ 1048576 → F.length ≤ 1048576 → Hds w' a S → Ints w' b F → F.length ≤ d → Calls Try.prog 26 #[tabV a S.length c b F.length d, .int .i64 x0, .int .i64 x1] w' fun e w'' => ∃ v u, e = .returned (.tuple #[.agg #[v, u], hdV H1, .int .i64 C2]) ∧ Hid (TabO w'.heap.size w'' v u S1 F1) ∧ Below w'.heap.size w' w''))
    (IM : Hid (∀ (w' : World) a b c d, S.length ≤ 1048576 → F.length ≤ 1048576 → Hds w' a S → Ints w' b F → F.length ≤ d → Calls Try.prog 27 #[tabV a S.length c b F.length d, .int .i64 x0, .int .i64 x1] w' fun e w'' => ∃ v u, e = .returned (.tuple #[.agg #[v, u], hdV H1, .int .i64 C2]) ∧ Hid (TabO w'.heap.size w'' v u S1 F1) ∧ Below w'.heap.size w' w''))
    (hl : Hid (S.length ≤ 1048576 → F.length ≤ 1048576 → S1.length ≤ 1048576 ∧ F1.length ≤ 1048576)) :
    Calls Try.prog 8 #[tabV a S.length c b F.length d, .int .i64 x0, .int .i64 x1] w fun e w' => e = .returned (.bool true) ∧ Below w.heap.size w w' := by
  have Z := szTab a b S.length c F.length d
  have HI : Hid (IsTab w a b S F) := hI
  have hlS := hI.lS
  have hlF := hI.lF
  obtain ⟨z, hz⟩ : ∃ z, w.heap.size = z := ⟨_, rfl⟩
  have EH := eqHd1 H1
  unfold tabV at SP IM Z ⊢
  unfold hdV at SP IM EH 
  obtain ⟨W0, hW0⟩ : ∃ W, (w.alloc (.cells #[.slice a S.length c, .slice b F.length d] 25)) = W := ⟨_, rfl⟩
  have hb0 : Below w.heap.size w W0 := by rw [← hW0]; exact (bel_alloc (Below.refl _ _) _)
  have bz : W0.heap[z]? = some (.cells #[.slice a S.length c, .slice b F.length d] 25 (0, 0)) := by
    have h := heap_alloc_new w (.cells #[.slice a S.length c, .slice b F.length d] 25)
    have e : w.heap.size = z := by exact hz
    rw [e] at h
    rw [← hW0]
    exact h
  have HB0 : Hid (Below w.heap.size w W0 ∧ w.heap.size = z) := ⟨hb0, hz⟩
  have HB : Hid (Below w.heap.size w W0) := hb0
  have Lz : Hid (z + 1 ≤ W0.heap.size) := by unfold Hid; rw [← hW0]; simp [hz]
  have SZ := Z W0 (by omega) (by omega)
  have pz0 : W0.cell? ⟨z, 0, none⟩ = some (.slice a S.length c) := (cell_of_block bz 0).trans rfl
  have pz1 : W0.cell? ⟨z, 1, none⟩ = some (.slice b F.length d) := (cell_of_block bz 1).trans rfl
  clear Z hb0 hlS hlF hI
  go_enter Try.func8, Try.ntmps8
  go_wp2_with fail
  clear hW0 hz pz0 pz1
  refine SZ.mono ?_
  rintro e w1 ⟨r, rfl, hr, hb1⟩
  replace bz := (hb1.block (z) (lt_of_block bz)).trans bz
  replace Lz : Hid (z + 1 ≤ w1.heap.size) := Nat.le_trans Lz.out hb1.size
  replace HB : Hid (Below w.heap.size w w1) := bel_step HB.out hb1
  clear hb1 SZ
  by_cases hr0 : r < 0
  · go_wp2
    go_ret
    exact ⟨rfl, HB.out⟩
  · obtain ⟨lS, lF⟩ := hr (by omega)
    have TT : Hid (∀ w', Below w.heap.size w w' → Calls Try.prog 11 #[.agg #[.slice a S.length c, .slice b F.length d]] w' fun e w'' => ∃ v u, e = .returned (.agg #[v, u]) ∧ Hid (TabO w'.heap.size w'' v u S F) ∧ Below w'.heap.size w' w'') := fun w' hb => toTab a b c d S F w' (HI.out.hds.below hb) (HI.out.ints.below hb) lS lF
    obtain ⟨lS1, lF1⟩ := hl.out lS lF
    clear hr
    have pz0 : w1.cell? ⟨z, 0, none⟩ = some (.slice a S.length c) := (cell_of_block bz 0).trans rfl
    have pz1 : w1.cell? ⟨z, 1, none⟩ = some (.slice b F.length d) := (cell_of_block bz 1).trans rfl
    obtain ⟨Bi, hB⟩ : ∃ B, w1.heap.size = B := ⟨_, rfl⟩
    have HEi : Hid (w1.heap.size = Bi) := hB
    have Oi : Hid (z + 1 ≤ Bi) := by unfold Hid; rw [← hB]; exact Lz.out
    clear hB
    go_wp2_with fail
    refine (TT.out w1 HB.out).mono ?_
    rintro e w2 ⟨v, u, rfl, Ti, hb⟩
    replace bz := (hb.block (z) (lt_of_block bz)).trans bz
    replace Lz : Hid (z + 1 ≤ w2.heap.size) := Nat.le_trans Lz.out hb.size
    replace HB : Hid (Below w.heap.size w w2) := bel_step HB.out hb
    obtain ⟨ai, ci, ei, di, rfl, rfl, hsi, hii, hdi⟩ := Ti.out.shape2
    rw [HEi.out] at Ti
    have HZi : Hid (Bi ≤ w2.heap.size) := by unfold Hid; rw [← HEi.out]; exact hb.size
    clear hb HEi pz0 pz1
    have CC := SP.out w2 ai ei ci di lS lF hsi hii hdi
    obtain ⟨Bn, hB⟩ : ∃ B, w2.heap.size = B := ⟨_, rfl⟩
    have HEn : Hid (w2.heap.size = Bn) := hB
    have On : Hid (z + 1 ≤ Bn) := by unfold Hid; rw [← hB]; exact Lz.out
    clear hB
    go_wp2_with fail
    refine CC.mono ?_
    rintro e w3 ⟨v, u, rfl, Tn, hb⟩
    replace bz := (hb.block (z) (lt_of_block bz)).trans bz
    replace Ti : Hid (TabO (Bi) w3 (.slice ai S.length ci) (.slice ei F.length di) S F) := Ti.out.below hb
    replace Lz : Hid (z + 1 ≤ w3.heap.size) := Nat.le_trans Lz.out hb.size
    replace HB : Hid (Below w.heap.size w w3) := bel_step HB.out hb
    obtain ⟨an, cn, en, dn, rfl, rfl, _, _, _⟩ := Tn.out.shape2
    rw [HEn.out] at Tn
    have HZn : Hid (Bn ≤ w3.heap.size) := by unfold Hid; rw [← HEn.out]; exact hb.size
    clear hb CC  hsi hii hdi HEn
    clear Ti HZi Oi
    obtain ⟨ys, hys⟩ : ∃ z, w3.heap.size = z := ⟨_, rfl⟩
    obtain ⟨w4, hN⟩ : ∃ W, ((w3.alloc (.cells #[.slice an S1.length cn, .slice en F1.length dn] 30)).alloc (.cells #[.bool H1.u, .int .i64 H1.r, .int .i64 H1.p, .bool H1.o, .int .i64 H1.l, .int .i64 H1.s] 38)) = W := ⟨_, rfl⟩
    have hb : Below w3.heap.size w3 w4 := by rw [← hN]; exact (bel_alloc (bel_alloc (Below.refl _ _) _) _)
    have HVn : Hid (∀ g, (Value.slice an S1.length cn).ownBlock = some g ∨ (Value.slice en F1.length dn).ownBlock = some g → g < ys) := fun g hg => by rw [← hys]; rcases hg with h | h; exact (Tn.out.hds.lt g h).2; exact (Tn.out.ints.lt g h).2
    replace bz := (hb.block (z) (lt_of_block bz)).trans bz
    replace Tn : Hid (TabO (Bn) w4 (.slice an S1.length cn) (.slice en F1.length dn) S1 F1) := Tn.out.below hb
    replace Lz : Hid (z + 1 ≤ w4.heap.size) := Nat.le_trans Lz.out hb.size
    replace HB : Hid (Below w.heap.size w w4) := bel_step HB.out hb
    have bnt : w4.heap[ys]? = some (.cells #[.slice an S1.length cn, .slice en F1.length dn] 30 (0, 0)) := by
      have h := heap_alloc_new w3 (.cells #[.slice an S1.length cn, .slice en F1.length dn] 30)
      have e : w3.heap.size = ys := by exact hys
      rw [e] at h
      rw [← hN]
      exact (Below.heap_alloc _ _ _ (lt_of_block h)).trans h
    have bnh : w4.heap[ys + 1]? = some (.cells #[.bool H1.u, .int .i64 H1.r, .int .i64 H1.p, .bool H1.o, .int .i64 H1.l, .int .i64 H1.s] 38 (0, 0)) := by
      have h := heap_alloc_new (w3.alloc (.cells #[.slice an S1.length cn, .slice en F1.length dn] 30)) (.cells #[.bool H1.u, .int .i64 H1.r, .int .i64 H1.p, .bool H1.o, .int .i64 H1.l, .int .i64 H1.s] 38)
      have e : (w3.alloc (.cells #[.slice an S1.length cn, .slice en F1.length dn] 30)).heap.size = ys + 1 := by simp [hys]
      rw [e] at h
      rw [← hN]
      exact h
    have HAys : Hid (w3.heap.size = ys) := hys
    have Lys : Hid (ys + 1 + 1 ≤ w4.heap.size) := by unfold Hid; rw [← hN]; simp [hys]
    clear hb
    have pz0 : w4.cell? ⟨z, 0, none⟩ = some (.slice a S.length c) := (cell_of_block bz 0).trans rfl
    have pz1 : w4.cell? ⟨z, 1, none⟩ = some (.slice b F.length d) := (cell_of_block bz 1).trans rfl
    obtain ⟨Bx, hB⟩ : ∃ B, w4.heap.size = B := ⟨_, rfl⟩
    have HEx : Hid (w4.heap.size = Bx) := hB
    have Ox : Hid (ys + 1 + 1 ≤ Bx) := by unfold Hid; rw [← hB]; exact Lys.out
    clear hB
    go_wp2_with fail
    clear hN hys
    refine (TT.out w4 HB.out).mono ?_
    rintro e w5 ⟨v, u, rfl, Tx, hb⟩
    replace bz := (hb.block (z) (lt_of_block bz)).trans bz
    replace bnt := (hb.block (ys) (lt_of_block bnt)).trans bnt
    replace bnh := (hb.block (ys + 1) (lt_of_block bnh)).trans bnh
    replace Tn : Hid (TabO (Bn) w5 (.slice an S1.length cn) (.slice en F1.length dn) S1 F1) := Tn.out.below hb
    replace Lz : Hid (z + 1 ≤ w5.heap.size) := Nat.le_trans Lz.out hb.size
    replace Lys : Hid (ys + 1 + 1 ≤ w5.heap.size) := Nat.le_trans Lys.out hb.size
    replace HB : Hid (Below w.heap.size w w5) := bel_step HB.out hb
    obtain ⟨ax, cx, ex, dx, rfl, rfl, hsx, hix, hdx⟩ := Tx.out.shape2
    rw [HEx.out] at Tx
    have HZx : Hid (Bx ≤ w5.heap.size) := by unfold Hid; rw [← HEx.out]; exact hb.size
    clear hb HEx pz0 pz1
    obtain ⟨yx, hyx⟩ : ∃ z, w5.heap.size = z := ⟨_, rfl⟩
    obtain ⟨w6, hN⟩ : ∃ W, (w5.alloc (.cells #[.slice ax S.length cx, .slice ex F.length dx] 30)) = W := ⟨_, rfl⟩
    have hb : Below w5.heap.size w5 w6 := by rw [← hN]; exact (bel_alloc (Below.refl _ _) _)
    have HVx : Hid (∀ g, (Value.slice ax S.length cx).ownBlock = some g ∨ (Value.slice ex F.length dx).ownBlock = some g → g < yx) := fun g hg => by rw [← hyx]; rcases hg with h | h; exact (Tx.out.hds.lt g h).2; exact (Tx.out.ints.lt g h).2
    replace bz := (hb.block (z) (lt_of_block bz)).trans bz
    replace bnt := (hb.block (ys) (lt_of_block bnt)).trans bnt
    replace bnh := (hb.block (ys + 1) (lt_of_block bnh)).trans bnh
    replace Tn : Hid (TabO (Bn) w6 (.slice an S1.length cn) (.slice en F1.length dn) S1 F1) := Tn.out.below hb
    replace Tx : Hid (TabO (Bx) w6 (.slice ax S.length cx) (.slice ex F.length dx) S F) := Tx.out.below hb
    replace Lz : Hid (z + 1 ≤ w6.heap.size) := Nat.le_trans Lz.out hb.size
    replace Lys : Hid (ys + 1 + 1 ≤ w6.heap.size) := Nat.le_trans Lys.out hb.size
    replace HB : Hid (Below w.heap.size w w6) := bel_step HB.out hb
    have bx : w6.heap[yx]? = some (.cells #[.slice ax S.length cx, .slice ex F.length dx] 30 (0, 0)) := by
      have h := heap_alloc_new w5 (.cells #[.slice ax S.length cx, .slice ex F.length dx] 30)
      have e : w5.heap.size = yx := by exact hyx
      rw [e] at h
      rw [← hN]
      exact h
    have HAyx : Hid (w5.heap.size = yx) := hyx
    have Lyx : Hid (yx + 1 ≤ w6.heap.size) := by unfold Hid; rw [← hN]; simp [hyx]
    clear hb
    replace hsx : Hds w6 ax S := by obtain ⟨_, _, _, _, e1, e2, h1, h2, _⟩ := Tx.out.shape2; simp only [Value.slice.injEq] at e1; rw [e1.1]; exact h1
    replace hix : Ints w6 ex F := by obtain ⟨_, _, _, _, e1, e2, h1, h2, _⟩ := Tx.out.shape2; simp only [Value.slice.injEq] at e2; rw [e2.1]; exact h2
    have px0 : w6.cell? ⟨yx, 0, none⟩ = some (.slice ax S.length cx) := (cell_of_block bx 0).trans rfl
    have px1 : w6.cell? ⟨yx, 1, none⟩ = some (.slice ex F.length dx) := (cell_of_block bx 1).trans rfl
    have CC := IM.out w6 ax ex cx dx lS lF hsx hix hdx
    obtain ⟨Bg, hB⟩ : ∃ B, w6.heap.size = B := ⟨_, rfl⟩
    have HEg : Hid (w6.heap.size = Bg) := hB
    have Og : Hid (yx + 1 ≤ Bg) := by unfold Hid; rw [← hB]; exact Lyx.out
    clear hB
    go_wp2_with fail
    clear hN hyx
    refine CC.mono ?_
    rintro e w7 ⟨v, u, rfl, Tg, hb⟩
    replace bz := (hb.block (z) (lt_of_block bz)).trans bz
    replace bnt := (hb.block (ys) (lt_of_block bnt)).trans bnt
    replace bnh := (hb.block (ys + 1) (lt_of_block bnh)).trans bnh
    replace bx := (hb.block (yx) (lt_of_block bx)).trans bx
    replace Tn : Hid (TabO (Bn) w7 (.slice an S1.length cn) (.slice en F1.length dn) S1 F1) := Tn.out.below hb
    replace Tx : Hid (TabO (Bx) w7 (.slice ax S.length cx) (.slice ex F.length dx) S F) := Tx.out.below hb
    replace Lz : Hid (z + 1 ≤ w7.heap.size) := Nat.le_trans Lz.out hb.size
    replace Lys : Hid (ys + 1 + 1 ≤ w7.heap.size) := Nat.le_trans Lys.out hb.size
    replace Lyx : Hid (yx + 1 ≤ w7.heap.size) := Nat.le_trans Lyx.out hb.size
    replace HB : Hid (Below w.heap.size w w7) := bel_step HB.out hb
    obtain ⟨ag, cg, eg, dg, rfl, rfl, _, _, _⟩ := Tg.out.shape2
    rw [HEg.out] at Tg
    have HZg : Hid (Bg ≤ w7.heap.size) := by unfold Hid; rw [← HEg.out]; exact hb.size
    clear hb CC px0 px1 hsx hix hdx HEg
    obtain ⟨yg, hyg⟩ : ∃ z, w7.heap.size = z := ⟨_, rfl⟩
    obtain ⟨w8, hN⟩ : ∃ W, ((w7.alloc (.cells #[.slice ag S1.length cg, .slice eg F1.length dg] 30)).alloc (.cells #[.bool H1.u, .int .i64 H1.r, .int .i64 H1.p, .bool H1.o, .int .i64 H1.l, .int .i64 H1.s] 38)) = W := ⟨_, rfl⟩
    have hb : Below w7.heap.size w7 w8 := by rw [← hN]; exact (bel_alloc (bel_alloc (Below.refl _ _) _) _)
    have HVg : Hid (∀ g, (Value.slice ag S1.length cg).ownBlock = some g ∨ (Value.slice eg F1.length dg).ownBlock = some g → g < yg) := fun g hg => by rw [← hyg]; rcases hg with h | h; exact (Tg.out.hds.lt g h).2; exact (Tg.out.ints.lt g h).2
    replace bz := (hb.block (z) (lt_of_block bz)).trans bz
    replace bnt := (hb.block (ys) (lt_of_block bnt)).trans bnt
    replace bnh := (hb.block (ys + 1) (lt_of_block bnh)).trans bnh
    replace bx := (hb.block (yx) (lt_of_block bx)).trans bx
    replace Tn : Hid (TabO (Bn) w8 (.slice an S1.length cn) (.slice en F1.length dn) S1 F1) := Tn.out.below hb
    replace Tx : Hid (TabO (Bx) w8 (.slice ax S.length cx) (.slice ex F.length dx) S F) := Tx.out.below hb
    replace Tg : Hid (TabO (Bg) w8 (.slice ag S1.length cg) (.slice eg F1.length dg) S1 F1) := Tg.out.below hb
    replace Lz : Hid (z + 1 ≤ w8.heap.size) := Nat.le_trans Lz.out hb.size
    replace Lys : Hid (ys + 1 + 1 ≤ w8.heap.size) := Nat.le_trans Lys.out hb.size
    replace Lyx : Hid (yx + 1 ≤ w8.heap.size) := Nat.le_trans Lyx.out hb.size
    replace HB : Hid (Below w.heap.size w w8) := bel_step HB.out hb
    have bgt : w8.heap[yg]? = some (.cells #[.slice ag S1.length cg, .slice eg F1.length dg] 30 (0, 0)) := by
      have h := heap_alloc_new w7 (.cells #[.slice ag S1.length cg, .slice eg F1.length dg] 30)
      have e : w7.heap.size = yg := by exact hyg
      rw [e] at h
      rw [← hN]
      exact (Below.heap_alloc _ _ _ (lt_of_block h)).trans h
    have bgh : w8.heap[yg + 1]? = some (.cells #[.bool H1.u, .int .i64 H1.r, .int .i64 H1.p, .bool H1.o, .int .i64 H1.l, .int .i64 H1.s] 38 (0, 0)) := by
      have h := heap_alloc_new (w7.alloc (.cells #[.slice ag S1.length cg, .slice eg F1.length dg] 30)) (.cells #[.bool H1.u, .int .i64 H1.r, .int .i64 H1.p, .bool H1.o, .int .i64 H1.l, .int .i64 H1.s] 38)
      have e : (w7.alloc (.cells #[.slice ag S1.length cg, .slice eg F1.length dg] 30)).heap.size = yg + 1 := by simp [hyg]
      rw [e] at h
      rw [← hN]
      exact h
    have HAyg : Hid (w7.heap.size = yg) := hyg
    have Lyg : Hid (yg + 1 + 1 ≤ w8.heap.size) := by unfold Hid; rw [← hN]; simp [hyg]
    clear hb
    have pgt0 : w8.cell? ⟨yg, 0, none⟩ = some (.slice ag S1.length cg) := (cell_of_block bgt 0).trans rfl
    have pgt1 : w8.cell? ⟨yg, 1, none⟩ = some (.slice eg F1.length dg) := (cell_of_block bgt 1).trans rfl
    have pnt0 : w8.cell? ⟨ys, 0, none⟩ = some (.slice an S1.length cn) := (cell_of_block bnt 0).trans rfl
    have pnt1 : w8.cell? ⟨ys, 1, none⟩ = some (.slice en F1.length dn) := (cell_of_block bnt 1).trans rfl
    have EE := eqTabO Tg Tn (by omega) (by omega)
    go_wp2_with fail
    clear hN hyg
    refine EE.mono ?_
    rintro e w9 ⟨rfl, hb⟩
    replace bz := (hb.block (z) (lt_of_block bz)).trans bz
    replace bnt := (hb.block (ys) (lt_of_block bnt)).trans bnt
    replace bnh := (hb.block (ys + 1) (lt_of_block bnh)).trans bnh
    replace bx := (hb.block (yx) (lt_of_block bx)).trans bx
    replace bgt := (hb.block (yg) (lt_of_block bgt)).trans bgt
    replace bgh := (hb.block (yg + 1) (lt_of_block bgh)).trans bgh
    replace Tn : Hid (TabO (Bn) w9 (.slice an S1.length cn) (.slice en F1.length dn) S1 F1) := Tn.out.below hb
    replace Tx : Hid (TabO (Bx) w9 (.slice ax S.length cx) (.slice ex F.length dx) S F) := Tx.out.below hb
    replace Tg : Hid (TabO (Bg) w9 (.slice ag S1.length cg) (.slice eg F1.length dg) S1 F1) := Tg.out.below hb
    replace Lz : Hid (z + 1 ≤ w9.heap.size) := Nat.le_trans Lz.out hb.size
    replace Lys : Hid (ys + 1 + 1 ≤ w9.heap.size) := Nat.le_trans Lys.out hb.size
    replace Lyx : Hid (yx + 1 ≤ w9.heap.size) := Nat.le_trans Lyx.out hb.size
    replace Lyg : Hid (yg + 1 + 1 ≤ w9.heap.size) := Nat.le_trans Lyg.out hb.size
    replace HB : Hid (Below w.heap.size w w9) := bel_step HB.out hb
    clear hb EE pgt0 pgt1 pnt0 pnt1
    have pgh0 : w9.cell? ⟨yg + 1, 0, none⟩ = some (.bool H1.u) := (cell_of_block bgh 0).trans rfl
    have pgh1 : w9.cell? ⟨yg + 1, 1, none⟩ = some (.int .i64 H1.r) := (cell_of_block bgh 1).trans rfl
    have pgh2 : w9.cell? ⟨yg + 1, 2, none⟩ = some (.int .i64 H1.p) := (cell_of_block bgh 2).trans rfl
    have pgh3 : w9.cell? ⟨yg + 1, 3, none⟩ = some (.bool H1.o) := (cell_of_block bgh 3).trans rfl
    have pgh4 : w9.cell? ⟨yg + 1, 4, none⟩ = some (.int .i64 H1.l) := (cell_of_block bgh 4).trans rfl
    have pgh5 : w9.cell? ⟨yg + 1, 5, none⟩ = some (.int .i64 H1.s) := (cell_of_block bgh 5).trans rfl
    have pnh0 : w9.cell? ⟨ys + 1, 0, none⟩ = some (.bool H1.u) := (cell_of_block bnh 0).trans rfl
    have pnh1 : w9.cell? ⟨ys + 1, 1, none⟩ = some (.int .i64 H1.r) := (cell_of_block bnh 1).trans rfl
    have pnh2 : w9.cell? ⟨ys + 1, 2, none⟩ = some (.int .i64 H1.p) := (cell_of_block bnh 2).trans rfl
    have pnh3 : w9.cell? ⟨ys + 1, 3, none⟩ = some (.bool H1.o) := (cell_of_block bnh 3).trans rfl
    have pnh4 : w9.cell? ⟨ys + 1, 4, none⟩ = some (.int .i64 H1.l) := (cell_of_block bnh 4).trans rfl
    have pnh5 : w9.cell? ⟨ys + 1, 5, none⟩ = some (.int .i64 H1.s) := (cell_of_block bnh 5).trans rfl
    go_wp2_with fail
    refine (EH w9).mono ?_
    rintro e w10 ⟨rfl, hb⟩
    replace bz := (hb.block (z) (lt_of_block bz)).trans bz
    replace bnt := (hb.block (ys) (lt_of_block bnt)).trans bnt
    replace bnh := (hb.block (ys + 1) (lt_of_block bnh)).trans bnh
    replace bx := (hb.block (yx) (lt_of_block bx)).trans bx
    replace bgt := (hb.block (yg) (lt_of_block bgt)).trans bgt
    replace bgh := (hb.block (yg + 1) (lt_of_block bgh)).trans bgh
    replace Tn : Hid (TabO (Bn) w10 (.slice an S1.length cn) (.slice en F1.length dn) S1 F1) := Tn.out.below hb
    replace Tx : Hid (TabO (Bx) w10 (.slice ax S.length cx) (.slice ex F.length dx) S F) := Tx.out.below hb
    replace Tg : Hid (TabO (Bg) w10 (.slice ag S1.length cg) (.slice eg F1.length dg) S1 F1) := Tg.out.below hb
    replace Lz : Hid (z + 1 ≤ w10.heap.size) := Nat.le_trans Lz.out hb.size
    replace Lys : Hid (ys + 1 + 1 ≤ w10.heap.size) := Nat.le_trans Lys.out hb.size
    replace Lyx : Hid (yx + 1 ≤ w10.heap.size) := Nat.le_trans Lyx.out hb.size
    replace Lyg : Hid (yg + 1 + 1 ≤ w10.heap.size) := Nat.le_trans Lyg.out hb.size
    replace HB : Hid (Below w.heap.size w w10) := bel_step HB.out hb
    clear hb pgh0 pgh1 pgh2 pgh3 pgh4 pgh5 pnh0 pnh1 pnh2 pnh3 pnh4 pnh5
    go_wp2
    have KX : ∀ w', Keeps w10 w' → w'.heap[yx]? = some (.cells #[.slice ax S.length cx, .slice ex F.length dx] 30 (0, 0)) := fun w' h => (h.below.block yx (lt_of_block bx)).trans bx
    have KZ : ∀ w', Keeps w10 w' → w'.heap[z]? = some (.cells #[.slice a S.length c, .slice b F.length d] 25 (0, 0)) := fun w' h => (h.below.block z (lt_of_block bz)).trans bz
    refine wh_begin (Keeps w10) (by kernel_rfl) ?_
    have hS0 : Keeps w10 w10.drew := Keeps.drew w10
    refine wh_take 0 (some 60) (.agg #[.slice ax S.length cx, .slice ex F.length dx]) rfl rfl (by kernel_rfl) (by kernel_rfl) (by kernel_rfl) (fun _ _ _ h => h) hS0 (by rfl) (fun w' hS => by have hq := KX _ hS; have q0 : w'.cell? ⟨yx, 0, none⟩ = some (.slice ax S.length cx) := (cell_of_block hq 0).trans rfl; have q1 : w'.cell? ⟨yx, 1, none⟩ = some (.slice ex F.length dx) := (cell_of_block hq 1).trans rfl; clear hq; go_simp) ?_
    simp only [Act.put, List.setIfInBounds_toArray, List.set_cons_zero, List.set_cons_succ]
    refine wh_take 1 (some 61) (.agg #[.slice a S.length c, .slice b F.length d]) rfl rfl (by kernel_rfl) (by kernel_rfl) (by kernel_rfl) (fun _ _ _ h => h) hS0 (by rfl) (fun w' hS => by have hq := KZ _ hS; have q0 : w'.cell? ⟨z, 0, none⟩ = some (.slice a S.length c) := (cell_of_block hq 0).trans rfl; have q1 : w'.cell? ⟨z, 1, none⟩ = some (.slice b F.length d) := (cell_of_block hq 1).trans rfl; clear hq; go_simp) ?_
    simp only [Act.put, List.setIfInBounds_toArray, List.set_cons_zero, List.set_cons_succ]
    refine wh_call 2 (some 62) 11 #[.agg #[.slice a S.length c, .slice b F.length d]] (by kernel_rfl) rfl rfl (by rfl) (by kernel_rfl) ?_
    refine (TT.out _ (bel_step HB.out hS0.below)).mono ?_
    rintro e wb ⟨v, u, rfl, Tb, hbb⟩
    have hSb : Keeps w10 wb := hS0.step hbb
    refine ⟨_, rfl, hSb, ?_⟩
    obtain ⟨ab, cb, eb, db, rfl, rfl, _, _, _⟩ := Tb.out.shape2
    have Txb : Hid (TabO Bx wb (.slice ax S.length cx) (.slice ex F.length dx) S F) := Tx.out.below hSb.below
    have EE := eqTabO Txb Tb (by omega) (by omega)
    simp only [Act.put, List.setIfInBounds_toArray, List.set_cons_zero, List.set_cons_succ]
    refine wh_call 3 (some 63) 13 #[.agg #[.slice ax S.length cx, .slice ex F.length dx], .agg #[.slice ab S.length cb, .slice eb F.length db]] (by kernel_rfl) rfl rfl (by rfl) (by kernel_rfl) ?_
    refine EE.mono ?_
    rintro e w11 ⟨rfl, hbc⟩
    have hSc : Keeps w10 w11 := hSb.step hbc
    refine ⟨_, rfl, hSc, ?_⟩
    simp only [Act.put, List.setIfInBounds_toArray, List.set_cons_zero, List.set_cons_succ]
    refine wh_val 4 (some 64) (.bool false) w11 (by kernel_rfl) rfl rfl (by rfl) (by rfl) hSc ?_
    simp only [Act.put, List.setIfInBounds_toArray, List.set_cons_zero, List.set_cons_succ]
    refine wh_done (by kernel_rfl) ?_
    have hb := hSc.below
    replace bz := (hb.block (z) (lt_of_block bz)).trans bz
    replace bnt := (hb.block (ys) (lt_of_block bnt)).trans bnt
    replace bnh := (hb.block (ys + 1) (lt_of_block bnh)).trans bnh
    replace bx := (hb.block (yx) (lt_of_block bx)).trans bx
    replace bgt := (hb.block (yg) (lt_of_block bgt)).trans bgt
    replace bgh := (hb.block (yg + 1) (lt_of_block bgh)).trans bgh
    replace Tn : Hid (TabO (Bn) w11 (.slice an S1.length cn) (.slice en F1.length dn) S1 F1) := Tn.out.below hb
    replace Tx : Hid (TabO (Bx) w11 (.slice ax S.length cx) (.slice ex F.length dx) S F) := Tx.out.below hb
    replace Tg : Hid (TabO (Bg) w11 (.slice ag S1.length cg) (.slice eg F1.length dg) S1 F1) := Tg.out.below hb
    replace Lz : Hid (z + 1 ≤ w11.heap.size) := Nat.le_trans Lz.out hb.size
    replace Lys : Hid (ys + 1 + 1 ≤ w11.heap.size) := Nat.le_trans Lys.out hb.size
    replace Lyx : Hid (yx + 1 ≤ w11.heap.size) := Nat.le_trans Lyx.out hb.size
    replace Lyg : Hid (yg + 1 + 1 ≤ w11.heap.size) := Nat.le_trans Lyg.out hb.size
    replace HB : Hid (Below w.heap.size w w11) := bel_step HB.out hb
    clear hb EE Txb Tb hbb hbc hS0 hSb hSc KX KZ
    have px0 : w11.cell? ⟨yx, 0, none⟩ = some (.slice ax S.length cx) := (cell_of_block bx 0).trans rfl
    have px1 : w11.cell? ⟨yx, 1, none⟩ = some (.slice ex F.length dx) := (cell_of_block bx 1).trans rfl
    have HORD : Hid (w.heap.size = z ∧ z + 1 ≤ Bn ∧ Bn ≤ ys ∧ ys + 1 + 1 ≤ Bx ∧ Bx ≤ yx ∧ yx + 1 ≤ Bg ∧ Bg ≤ yg ∧ yg + 1 + 1 ≤ w11.heap.size) := ⟨HB0.out.2, On.out, by have h1 := HZn.out; have h2 := HAys.out; omega, Ox.out, by have h1 := HZx.out; have h2 := HAyx.out; omega, Og.out, by have h1 := HZg.out; have h2 := HAyg.out; omega, Lyg.out⟩
    have MM := markTab Bx yx (.slice ax S.length cx) (.slice ex F.length dx) S F w11 Tx HVx lS lF (by unfold Hid; have o1 := HORD.out; omega)
    go_wp2_with fail
    refine MM.mono ?_
    rintro e w12 ⟨rfl, _, hbm, hcm⟩
    replace bz := (hbm.out.block (z) (by have o1 := HORD.out; omega)).trans bz
    replace bnt := (hbm.out.block (ys) (by have o1 := HORD.out; omega)).trans bnt
    replace bnh := (hbm.out.block (ys + 1) (by have o1 := HORD.out; omega)).trans bnh
    replace bx := (hcm.out (yx) (by have o1 := HORD.out; omega) (lt_of_block bx)).trans bx
    replace bgt := (hcm.out (yg) (by have o1 := HORD.out; omega) (lt_of_block bgt)).trans bgt
    replace bgh := (hcm.out (yg + 1) (by have o1 := HORD.out; omega) (lt_of_block bgh)).trans bgh
    replace Tn : Hid (TabO Bn w12 (.slice an S1.length cn) (.slice en F1.length dn) S1 F1) := ⟨own_keep Tn.out.hds (fun g hg => hbm.out.block g (by have o1 := HORD.out; have := HVn.out g (.inl hg); omega)), own_keep Tn.out.ints (fun g hg => hbm.out.block g (by have o1 := HORD.out; have := HVn.out g (.inr hg); omega))⟩
    replace Tg : Hid (TabO Bg w12 (.slice ag S1.length cg) (.slice eg F1.length dg) S1 F1) := Tg.out.same (fun g h1 h2 => hcm.out g (by have o1 := HORD.out; omega) h2)
    replace Lz : Hid (z + 1 ≤ w12.heap.size) := Nat.le_trans Lz.out hbm.out.size
    replace Lys : Hid (ys + 1 + 1 ≤ w12.heap.size) := Nat.le_trans Lys.out hbm.out.size
    replace Lyx : Hid (yx + 1 ≤ w12.heap.size) := Nat.le_trans Lyx.out hbm.out.size
    replace Lyg : Hid (yg + 1 + 1 ≤ w12.heap.size) := Nat.le_trans Lyg.out hbm.out.size
    replace HB : Hid (Below w.heap.size w w12) := HB.out.trans (hbm.out.mono (by have o1 := HORD.out; omega))
    have hks : ¬ (1 + 6 * (S.length : Int) + (F.length : Int)) < 0 := by omega
    have hkd : decide ((1 + 6 * (S.length : Int) + (F.length : Int)) < 0) = false := by simpa using hks
    clear MM hbm hcm Tx bx HVx px0 px1
    have pgt0 : w12.cell? ⟨yg, 0, none⟩ = some (.slice ag S1.length cg) := (cell_of_block bgt 0).trans rfl
    have pgt1 : w12.cell? ⟨yg, 1, none⟩ = some (.slice eg F1.length dg) := (cell_of_block bgt 1).trans rfl
    have pnt0 : w12.cell? ⟨ys, 0, none⟩ = some (.slice an S1.length cn) := (cell_of_block bnt 0).trans rfl
    have pnt1 : w12.cell? ⟨ys, 1, none⟩ = some (.slice en F1.length dn) := (cell_of_block bnt 1).trans rfl
    have EE := eqTabO Tg Tn (by omega) (by omega)
    go_wp2_with fail
    refine EE.mono ?_
    rintro e w13 ⟨rfl, hb⟩
    replace bz := (hb.block (z) (lt_of_block bz)).trans bz
    replace bnt := (hb.block (ys) (lt_of_block bnt)).trans bnt
    replace bnh := (hb.block (ys + 1) (lt_of_block bnh)).trans bnh
    replace bgt := (hb.block (yg) (lt_of_block bgt)).trans bgt
    replace bgh := (hb.block (yg + 1) (lt_of_block bgh)).trans bgh
    replace Tn : Hid (TabO (Bn) w13 (.slice an S1.length cn) (.slice en F1.length dn) S1 F1) := Tn.out.below hb
    replace Tg : Hid (TabO (Bg) w13 (.slice ag S1.length cg) (.slice eg F1.length dg) S1 F1) := Tg.out.below hb
    replace Lz : Hid (z + 1 ≤ w13.heap.size) := Nat.le_trans Lz.out hb.size
    replace Lys : Hid (ys + 1 + 1 ≤ w13.heap.size) := Nat.le_trans Lys.out hb.size
    replace Lyx : Hid (yx + 1 ≤ w13.heap.size) := Nat.le_trans Lyx.out hb.size
    replace Lyg : Hid (yg + 1 + 1 ≤ w13.heap.size) := Nat.le_trans Lyg.out hb.size
    replace HB : Hid (Below w.heap.size w w13) := bel_step HB.out hb
    clear hb EE pgt0 pgt1 pnt0 pnt1
    have pgh0 : w13.cell? ⟨yg + 1, 0, none⟩ = some (.bool H1.u) := (cell_of_block bgh 0).trans rfl
    have pgh1 : w13.cell? ⟨yg + 1, 1, none⟩ = some (.int .i64 H1.r) := (cell_of_block bgh 1).trans rfl
    have pgh2 : w13.cell? ⟨yg + 1, 2, none⟩ = some (.int .i64 H1.p) := (cell_of_block bgh 2).trans rfl
    have pgh3 : w13.cell? ⟨yg + 1, 3, none⟩ = some (.bool H1.o) := (cell_of_block bgh 3).trans rfl
    have pgh4 : w13.cell? ⟨yg + 1, 4, none⟩ = some (.int .i64 H1.l) := (cell_of_block bgh 4).trans rfl
    have pgh5 : w13.cell? ⟨yg + 1, 5, none⟩ = some (.int .i64 H1.s) := (cell_of_block bgh 5).trans rfl
    have pnh0 : w13.cell? ⟨ys + 1, 0, none⟩ = some (.bool H1.u) := (cell_of_block bnh 0).trans rfl
    have pnh1 : w13.cell? ⟨ys + 1, 1, none⟩ = some (.int .i64 H1.r) := (cell_of_block bnh 1).trans rfl
    have pnh2 : w13.cell? ⟨ys + 1, 2, none⟩ = some (.int .i64 H1.p) := (cell_of_block bnh 2).trans rfl
    have pnh3 : w13.cell? ⟨ys + 1, 3, none⟩ = some (.bool H1.o) := (cell_of_block bnh 3).trans rfl
    have pnh4 : w13.cell? ⟨ys + 1, 4, none⟩ = some (.int .i64 H1.l) := (cell_of_block bnh 4).trans rfl
    have pnh5 : w13.cell? ⟨ys + 1, 5, none⟩ = some (.int .i64 H1.s) := (cell_of_block bnh 5).trans rfl
    go_wp2_with fail
    refine (EH w13).mono ?_
    rintro e w14 ⟨rfl, hb⟩
    replace bz := (hb.block (z) (lt_of_block bz)).trans bz
    replace bnt := (hb.block (ys) (lt_of_block bnt)).trans bnt
    replace bnh := (hb.block (ys + 1) (lt_of_block bnh)).trans bnh
    replace bgt := (hb.block (yg) (lt_of_block bgt)).trans bgt
    replace bgh := (hb.block (yg + 1) (lt_of_block bgh)).trans bgh
    replace Tn : Hid (TabO (Bn) w14 (.slice an S1.length cn) (.slice en F1.length dn) S1 F1) := Tn.out.below hb
    replace Tg : Hid (TabO (Bg) w14 (.slice ag S1.length cg) (.slice eg F1.length dg) S1 F1) := Tg.out.below hb
    replace Lz : Hid (z + 1 ≤ w14.heap.size) := Nat.le_trans Lz.out hb.size
    replace Lys : Hid (ys + 1 + 1 ≤ w14.heap.size) := Nat.le_trans Lys.out hb.size
    replace Lyx : Hid (yx + 1 ≤ w14.heap.size) := Nat.le_trans Lyx.out hb.size
    replace Lyg : Hid (yg + 1 + 1 ≤ w14.heap.size) := Nat.le_trans Lyg.out hb.size
    replace HB : Hid (Below w.heap.size w w14) := bel_step HB.out hb
    clear hb pgh0 pgh1 pgh2 pgh3 pgh4 pgh5 pnh0 pnh1 pnh2 pnh3 pnh4 pnh5
    have pgt0 : w14.cell? ⟨yg, 0, none⟩ = some (.slice ag S1.length cg) := (cell_of_block bgt 0).trans rfl
    have pgt1 : w14.cell? ⟨yg, 1, none⟩ = some (.slice eg F1.length dg) := (cell_of_block bgt 1).trans rfl
    have MM := markTab Bg yg (.slice ag S1.length cg) (.slice eg F1.length dg) S1 F1 w14 Tg HVg lS1 lF1 (by unfold Hid; have o1 := HORD.out; have o2 := Lyg.out; omega)
    go_wp2_with fail
    refine MM.mono ?_
    rintro e w15 ⟨rfl, Tg2, hbm, hcm⟩
    replace bz := (hbm.out.block (z) (by have o1 := HORD.out; omega)).trans bz
    replace bnt := (hbm.out.block (ys) (by have o1 := HORD.out; omega)).trans bnt
    replace bnh := (hbm.out.block (ys + 1) (by have o1 := HORD.out; omega)).trans bnh
    replace bgt := (hcm.out (yg) (by have o1 := HORD.out; omega) (lt_of_block bgt)).trans bgt
    replace bgh := (hcm.out (yg + 1) (by have o1 := HORD.out; omega) (lt_of_block bgh)).trans bgh
    replace Tn : Hid (TabO Bn w15 (.slice an S1.length cn) (.slice en F1.length dn) S1 F1) := ⟨own_keep Tn.out.hds (fun g hg => hbm.out.block g (by have o1 := HORD.out; have := HVn.out g (.inl hg); omega)), own_keep Tn.out.ints (fun g hg => hbm.out.block g (by have o1 := HORD.out; have := HVn.out g (.inr hg); omega))⟩
    replace Lz : Hid (z + 1 ≤ w15.heap.size) := Nat.le_trans Lz.out hbm.out.size
    replace Lys : Hid (ys + 1 + 1 ≤ w15.heap.size) := Nat.le_trans Lys.out hbm.out.size
    replace Lyx : Hid (yx + 1 ≤ w15.heap.size) := Nat.le_trans Lyx.out hbm.out.size
    replace Lyg : Hid (yg + 1 + 1 ≤ w15.heap.size) := Nat.le_trans Lyg.out hbm.out.size
    replace HB : Hid (Below w.heap.size w w15) := HB.out.trans (hbm.out.mono (by have o1 := HORD.out; omega))
    clear MM hbm hcm hks hkd Tg pgt0 pgt1
    have Tg : Hid (Marked Bg w15 (.slice ag S1.length cg) (.slice eg F1.length dg) S1.length F1.length) := Tg2
    clear Tg2
    have pgt0 : w15.cell? ⟨yg, 0, none⟩ = some (.slice ag S1.length cg) := (cell_of_block bgt 0).trans rfl
    have pgt1 : w15.cell? ⟨yg, 1, none⟩ = some (.slice eg F1.length dg) := (cell_of_block bgt 1).trans rfl
    have MM := heldTab Bg (.slice ag S1.length cg) (.slice eg F1.length dg) S1.length F1.length w15 Tg lS1 lF1
    go_wp2_with fail
    refine MM.mono ?_
    rintro e w16 ⟨rfl, hb⟩
    replace bz := (hb.block (z) (lt_of_block bz)).trans bz
    replace bnt := (hb.block (ys) (lt_of_block bnt)).trans bnt
    replace bnh := (hb.block (ys + 1) (lt_of_block bnh)).trans bnh
    replace bgt := (hb.block (yg) (lt_of_block bgt)).trans bgt
    replace bgh := (hb.block (yg + 1) (lt_of_block bgh)).trans bgh
    replace Tn : Hid (TabO (Bn) w16 (.slice an S1.length cn) (.slice en F1.length dn) S1 F1) := Tn.out.below hb
    replace Tg : Hid (Marked (Bg) w16 (.slice ag S1.length cg) (.slice eg F1.length dg) S1.length F1.length) := TabO.below Tg.out hb
    replace Lz : Hid (z + 1 ≤ w16.heap.size) := Nat.le_trans Lz.out hb.size
    replace Lys : Hid (ys + 1 + 1 ≤ w16.heap.size) := Nat.le_trans Lys.out hb.size
    replace Lyx : Hid (yx + 1 ≤ w16.heap.size) := Nat.le_trans Lyx.out hb.size
    replace Lyg : Hid (yg + 1 + 1 ≤ w16.heap.size) := Nat.le_trans Lyg.out hb.size
    replace HB : Hid (Below w.heap.size w w16) := bel_step HB.out hb
    clear MM hb pgt0 pgt1
    have hks : ¬ (1 + 6 * (S1.length : Int) + (F1.length : Int)) < 0 := by omega
    have pz0 : w16.cell? ⟨z, 0, none⟩ = some (.slice a S.length c) := (cell_of_block bz 0).trans rfl
    have pz1 : w16.cell? ⟨z, 1, none⟩ = some (.slice b F.length d) := (cell_of_block bz 1).trans rfl
    obtain ⟨Bi, hB⟩ : ∃ B, w16.heap.size = B := ⟨_, rfl⟩
    have HEi : Hid (w16.heap.size = Bi) := hB
    have Oi : Hid (yg + 1 + 1 ≤ Bi) := by unfold Hid; rw [← hB]; exact Lyg.out
    clear hB
    go_wp2_with fail
    refine (TT.out w16 HB.out).mono ?_
    rintro e w17 ⟨v, u, rfl, Ti, hb⟩
    replace bz := (hb.block (z) (lt_of_block bz)).trans bz
    replace bnt := (hb.block (ys) (lt_of_block bnt)).trans bnt
    replace bnh := (hb.block (ys + 1) (lt_of_block bnh)).trans bnh
    replace bgt := (hb.block (yg) (lt_of_block bgt)).trans bgt
    replace bgh := (hb.block (yg + 1) (lt_of_block bgh)).trans bgh
    replace Tn : Hid (TabO (Bn) w17 (.slice an S1.length cn) (.slice en F1.length dn) S1 F1) := Tn.out.below hb
    replace Tg : Hid (Marked (Bg) w17 (.slice ag S1.length cg) (.slice eg F1.length dg) S1.length F1.length) := TabO.below Tg.out hb
    replace Lz : Hid (z + 1 ≤ w17.heap.size) := Nat.le_trans Lz.out hb.size
    replace Lys : Hid (ys + 1 + 1 ≤ w17.heap.size) := Nat.le_trans Lys.out hb.size
    replace Lyx : Hid (yx + 1 ≤ w17.heap.size) := Nat.le_trans Lyx.out hb.size
    replace Lyg : Hid (yg + 1 + 1 ≤ w17.heap.size) := Nat.le_trans Lyg.out hb.size
    replace HB : Hid (Below w.heap.size w w17) := bel_step HB.out hb
    obtain ⟨ai, ci, ei, di, rfl, rfl, hsi, hii, hdi⟩ := Ti.out.shape2
    rw [HEi.out] at Ti
    have HZi : Hid (Bi ≤ w17.heap.size) := by unfold Hid; rw [← HEi.out]; exact hb.size
    clear hb HEi pz0 pz1
    have CC := IM.out w17 ai ei ci di lS lF hsi hii hdi
    obtain ⟨Bk, hB⟩ : ∃ B, w17.heap.size = B := ⟨_, rfl⟩
    have HEk : Hid (w17.heap.size = Bk) := hB
    have Ok : Hid (yg + 1 + 1 ≤ Bk) := by unfold Hid; rw [← hB]; exact Lyg.out
    clear hB
    go_wp2_with fail
    refine CC.mono ?_
    rintro e w18 ⟨v, u, rfl, Tk, hb⟩
    replace bz := (hb.block (z) (lt_of_block bz)).trans bz
    replace bnt := (hb.block (ys) (lt_of_block bnt)).trans bnt
    replace bnh := (hb.block (ys + 1) (lt_of_block bnh)).trans bnh
    replace bgt := (hb.block (yg) (lt_of_block bgt)).trans bgt
    replace bgh := (hb.block (yg + 1) (lt_of_block bgh)).trans bgh
    replace Tn : Hid (TabO (Bn) w18 (.slice an S1.length cn) (.slice en F1.length dn) S1 F1) := Tn.out.below hb
    replace Tg : Hid (Marked (Bg) w18 (.slice ag S1.length cg) (.slice eg F1.length dg) S1.length F1.length) := TabO.below Tg.out hb
    replace Ti : Hid (TabO (Bi) w18 (.slice ai S.length ci) (.slice ei F.length di) S F) := Ti.out.below hb
    replace Lz : Hid (z + 1 ≤ w18.heap.size) := Nat.le_trans Lz.out hb.size
    replace Lys : Hid (ys + 1 + 1 ≤ w18.heap.size) := Nat.le_trans Lys.out hb.size
    replace Lyx : Hid (yx + 1 ≤ w18.heap.size) := Nat.le_trans Lyx.out hb.size
    replace Lyg : Hid (yg + 1 + 1 ≤ w18.heap.size) := Nat.le_trans Lyg.out hb.size
    replace HB : Hid (Below w.heap.size w w18) := bel_step HB.out hb
    obtain ⟨ak, ck, ek, dk, rfl, rfl, _, _, _⟩ := Tk.out.shape2
    rw [HEk.out] at Tk
    have HZk : Hid (Bk ≤ w18.heap.size) := by unfold Hid; rw [← HEk.out]; exact hb.size
    clear hb CC  hsi hii hdi HEk
    clear Ti HZi Oi
    obtain ⟨yk, hyk⟩ : ∃ z, w18.heap.size = z := ⟨_, rfl⟩
    obtain ⟨w19, hN⟩ : ∃ W, ((w18.alloc (.cells #[.slice ak S1.length ck, .slice ek F1.length dk] 30)).alloc (.cells #[.bool H1.u, .int .i64 H1.r, .int .i64 H1.p, .bool H1.o, .int .i64 H1.l, .int .i64 H1.s] 38)) = W := ⟨_, rfl⟩
    have hb : Below w18.heap.size w18 w19 := by rw [← hN]; exact (bel_alloc (bel_alloc (Below.refl _ _) _) _)
    replace bz := (hb.block (z) (lt_of_block bz)).trans bz
    replace bnt := (hb.block (ys) (lt_of_block bnt)).trans bnt
    replace bnh := (hb.block (ys + 1) (lt_of_block bnh)).trans bnh
    replace bgt := (hb.block (yg) (lt_of_block bgt)).trans bgt
    replace bgh := (hb.block (yg + 1) (lt_of_block bgh)).trans bgh
    replace Tn : Hid (TabO (Bn) w19 (.slice an S1.length cn) (.slice en F1.length dn) S1 F1) := Tn.out.below hb
    replace Tg : Hid (Marked (Bg) w19 (.slice ag S1.length cg) (.slice eg F1.length dg) S1.length F1.length) := TabO.below Tg.out hb
    replace Tk : Hid (TabO (Bk) w19 (.slice ak S1.length ck) (.slice ek F1.length dk) S1 F1) := Tk.out.below hb
    replace Lz : Hid (z + 1 ≤ w19.heap.size) := Nat.le_trans Lz.out hb.size
    replace Lys : Hid (ys + 1 + 1 ≤ w19.heap.size) := Nat.le_trans Lys.out hb.size
    replace Lyx : Hid (yx + 1 ≤ w19.heap.size) := Nat.le_trans Lyx.out hb.size
    replace Lyg : Hid (yg + 1 + 1 ≤ w19.heap.size) := Nat.le_trans Lyg.out hb.size
    replace HB : Hid (Below w.heap.size w w19) := bel_step HB.out hb
    have bkt : w19.heap[yk]? = some (.cells #[.slice ak S1.length ck, .slice ek F1.length dk] 30 (0, 0)) := by
      have h := heap_alloc_new w18 (.cells #[.slice ak S1.length ck, .slice ek F1.length dk] 30)
      have e : w18.heap.size = yk := by exact hyk
      rw [e] at h
      rw [← hN]
      exact (Below.heap_alloc _ _ _ (lt_of_block h)).trans h
    have bkh : w19.heap[yk + 1]? = some (.cells #[.bool H1.u, .int .i64 H1.r, .int .i64 H1.p, .bool H1.o, .int .i64 H1.l, .int .i64 H1.s] 38 (0, 0)) := by
      have h := heap_alloc_new (w18.alloc (.cells #[.slice ak S1.length ck, .slice ek F1.length dk] 30)) (.cells #[.bool H1.u, .int .i64 H1.r, .int .i64 H1.p, .bool H1.o, .int .i64 H1.l, .int .i64 H1.s] 38)
      have e : (w18.alloc (.cells #[.slice ak S1.length ck, .slice ek F1.length dk] 30)).heap.size = yk + 1 := by simp [hyk]
      rw [e] at h
      rw [← hN]
      exact h
    have HAyk : Hid (w18.heap.size = yk) := hyk
    have Lyk : Hid (yk + 1 + 1 ≤ w19.heap.size) := by unfold Hid; rw [← hN]; simp [hyk]
    clear hb
    have pkt0 : w19.cell? ⟨yk, 0, none⟩ = some (.slice ak S1.length ck) := (cell_of_block bkt 0).trans rfl
    have pkt1 : w19.cell? ⟨yk, 1, none⟩ = some (.slice ek F1.length dk) := (cell_of_block bkt 1).trans rfl
    have pnt0 : w19.cell? ⟨ys, 0, none⟩ = some (.slice an S1.length cn) := (cell_of_block bnt 0).trans rfl
    have pnt1 : w19.cell? ⟨ys, 1, none⟩ = some (.slice en F1.length dn) := (cell_of_block bnt 1).trans rfl
    have EE := eqTabO Tk Tn (by omega) (by omega)
    go_wp2_with fail
    clear hN hyk
    refine EE.mono ?_
    rintro e w20 ⟨rfl, hb⟩
    replace bz := (hb.block (z) (lt_of_block bz)).trans bz
    replace bnt := (hb.block (ys) (lt_of_block bnt)).trans bnt
    replace bnh := (hb.block (ys + 1) (lt_of_block bnh)).trans bnh
    replace bgt := (hb.block (yg) (lt_of_block bgt)).trans bgt
    replace bgh := (hb.block (yg + 1) (lt_of_block bgh)).trans bgh
    replace bkt := (hb.block (yk) (lt_of_block bkt)).trans bkt
    replace bkh := (hb.block (yk + 1) (lt_of_block bkh)).trans bkh
    replace Tn : Hid (TabO (Bn) w20 (.slice an S1.length cn) (.slice en F1.length dn) S1 F1) := Tn.out.below hb
    replace Tg : Hid (Marked (Bg) w20 (.slice ag S1.length cg) (.slice eg F1.length dg) S1.length F1.length) := TabO.below Tg.out hb
    replace Tk : Hid (TabO (Bk) w20 (.slice ak S1.length ck) (.slice ek F1.length dk) S1 F1) := Tk.out.below hb
    replace Lz : Hid (z + 1 ≤ w20.heap.size) := Nat.le_trans Lz.out hb.size
    replace Lys : Hid (ys + 1 + 1 ≤ w20.heap.size) := Nat.le_trans Lys.out hb.size
    replace Lyx : Hid (yx + 1 ≤ w20.heap.size) := Nat.le_trans Lyx.out hb.size
    replace Lyg : Hid (yg + 1 + 1 ≤ w20.heap.size) := Nat.le_trans Lyg.out hb.size
    replace Lyk : Hid (yk + 1 + 1 ≤ w20.heap.size) := Nat.le_trans Lyk.out hb.size
    replace HB : Hid (Below w.heap.size w w20) := bel_step HB.out hb
    clear hb EE pkt0 pkt1 pnt0 pnt1
    have pkh0 : w20.cell? ⟨yk + 1, 0, none⟩ = some (.bool H1.u) := (cell_of_block bkh 0).trans rfl
    have pkh1 : w20.cell? ⟨yk + 1, 1, none⟩ = some (.int .i64 H1.r) := (cell_of_block bkh 1).trans rfl
    have pkh2 : w20.cell? ⟨yk + 1, 2, none⟩ = some (.int .i64 H1.p) := (cell_of_block bkh 2).trans rfl
    have pkh3 : w20.cell? ⟨yk + 1, 3, none⟩ = some (.bool H1.o) := (cell_of_block bkh 3).trans rfl
    have pkh4 : w20.cell? ⟨yk + 1, 4, none⟩ = some (.int .i64 H1.l) := (cell_of_block bkh 4).trans rfl
    have pkh5 : w20.cell? ⟨yk + 1, 5, none⟩ = some (.int .i64 H1.s) := (cell_of_block bkh 5).trans rfl
    have pnh0 : w20.cell? ⟨ys + 1, 0, none⟩ = some (.bool H1.u) := (cell_of_block bnh 0).trans rfl
    have pnh1 : w20.cell? ⟨ys + 1, 1, none⟩ = some (.int .i64 H1.r) := (cell_of_block bnh 1).trans rfl
    have pnh2 : w20.cell? ⟨ys + 1, 2, none⟩ = some (.int .i64 H1.p) := (cell_of_block bnh 2).trans rfl
    have pnh3 : w20.cell? ⟨ys + 1, 3, none⟩ = some (.bool H1.o) := (cell_of_block bnh 3).trans rfl
    have pnh4 : w20.cell? ⟨ys + 1, 4, none⟩ = some (.int .i64 H1.l) := (cell_of_block bnh 4).trans rfl
    have pnh5 : w20.cell? ⟨ys + 1, 5, none⟩ = some (.int .i64 H1.s) := (cell_of_block bnh 5).trans rfl
    go_wp2_with fail
    refine (EH w20).mono ?_
    rintro e w21 ⟨rfl, hb⟩
    replace bz := (hb.block (z) (lt_of_block bz)).trans bz
    replace bnt := (hb.block (ys) (lt_of_block bnt)).trans bnt
    replace bnh := (hb.block (ys + 1) (lt_of_block bnh)).trans bnh
    replace bgt := (hb.block (yg) (lt_of_block bgt)).trans bgt
    replace bgh := (hb.block (yg + 1) (lt_of_block bgh)).trans bgh
    replace bkt := (hb.block (yk) (lt_of_block bkt)).trans bkt
    replace bkh := (hb.block (yk + 1) (lt_of_block bkh)).trans bkh
    replace Tn : Hid (TabO (Bn) w21 (.slice an S1.length cn) (.slice en F1.length dn) S1 F1) := Tn.out.below hb
    replace Tg : Hid (Marked (Bg) w21 (.slice ag S1.length cg) (.slice eg F1.length dg) S1.length F1.length) := TabO.below Tg.out hb
    replace Tk : Hid (TabO (Bk) w21 (.slice ak S1.length ck) (.slice ek F1.length dk) S1 F1) := Tk.out.below hb
    replace Lz : Hid (z + 1 ≤ w21.heap.size) := Nat.le_trans Lz.out hb.size
    replace Lys : Hid (ys + 1 + 1 ≤ w21.heap.size) := Nat.le_trans Lys.out hb.size
    replace Lyx : Hid (yx + 1 ≤ w21.heap.size) := Nat.le_trans Lyx.out hb.size
    replace Lyg : Hid (yg + 1 + 1 ≤ w21.heap.size) := Nat.le_trans Lyg.out hb.size
    replace Lyk : Hid (yk + 1 + 1 ≤ w21.heap.size) := Nat.le_trans Lyk.out hb.size
    replace HB : Hid (Below w.heap.size w w21) := bel_step HB.out hb
    clear hb pkh0 pkh1 pkh2 pkh3 pkh4 pkh5 pnh0 pnh1 pnh2 pnh3 pnh4 pnh5
    have pgt0 : w21.cell? ⟨yg, 0, none⟩ = some (.slice ag S1.length cg) := (cell_of_block bgt 0).trans rfl
    have pgt1 : w21.cell? ⟨yg, 1, none⟩ = some (.slice eg F1.length dg) := (cell_of_block bgt 1).trans rfl
    have MM := heldTab Bg (.slice ag S1.length cg) (.slice eg F1.length dg) S1.length F1.length w21 Tg lS1 lF1
    go_wp2_with fail
    refine MM.mono ?_
    rintro e w22 ⟨rfl, hb⟩
    replace bz := (hb.block (z) (lt_of_block bz)).trans bz
    replace bnt := (hb.block (ys) (lt_of_block bnt)).trans bnt
    replace bnh := (hb.block (ys + 1) (lt_of_block bnh)).trans bnh
    replace bgt := (hb.block (yg) (lt_of_block bgt)).trans bgt
    replace bgh := (hb.block (yg + 1) (lt_of_block bgh)).trans bgh
    replace bkt := (hb.block (yk) (lt_of_block bkt)).trans bkt
    replace bkh := (hb.block (yk + 1) (lt_of_block bkh)).trans bkh
    replace Tn : Hid (TabO (Bn) w22 (.slice an S1.length cn) (.slice en F1.length dn) S1 F1) := Tn.out.below hb
    replace Tg : Hid (Marked (Bg) w22 (.slice ag S1.length cg) (.slice eg F1.length dg) S1.length F1.length) := TabO.below Tg.out hb
    replace Tk : Hid (TabO (Bk) w22 (.slice ak S1.length ck) (.slice ek F1.length dk) S1 F1) := Tk.out.below hb
    replace Lz : Hid (z + 1 ≤ w22.heap.size) := Nat.le_trans Lz.out hb.size
    replace Lys : Hid (ys + 1 + 1 ≤ w22.heap.size) := Nat.le_trans Lys.out hb.size
    replace Lyx : Hid (yx + 1 ≤ w22.heap.size) := Nat.le_trans Lyx.out hb.size
    replace Lyg : Hid (yg + 1 + 1 ≤ w22.heap.size) := Nat.le_trans Lyg.out hb.size
    replace Lyk : Hid (yk + 1 + 1 ≤ w22.heap.size) := Nat.le_trans Lyk.out hb.size
    replace HB : Hid (Below w.heap.size w w22) := bel_step HB.out hb
    clear MM hb pgt0 pgt1
    go_wp2
    go_ret
    exact ⟨rfl, HB.out⟩

end Go.Proofs.Ytfblofcmjplfhaa
