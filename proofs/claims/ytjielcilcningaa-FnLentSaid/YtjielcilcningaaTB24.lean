/-
  A handle is put in a table: the program's side. (Made by a generator.)
-/
import Derived.Test.YtjielcilcningaaTB20
namespace Go.Proofs.Ytjielcilcningaa
open Go.ChangeShapes Go.WideShapes Go.ChangeAt Go.RowKit Go.Maps

set_option maxRecDepth 100000 in
set_option maxHeartbeats 800000 in
theorem implFull (B y m : Nat) (v : Value) (S : List Hd) (F : List Int) (w : World) (hot : Hid (OT B w y m S F v)) (r : Bool) (hr : Hid ((decide (S.length = 40) && decide (F.length = 0)) = r)) :
    Calls Try.prog 23 #[.pointer (some ⟨y, 0, none⟩)] w fun e w' => e = .returned (.bool r) ∧ w' = w := by
  obtain ⟨av, cv, rfl, _, _⟩ := own_hds hot.out.row
  have p0 : w.cell? ⟨y, 0, none⟩ = some (.slice av S.length cv) := (cell_of_block hot.out.xb 0).trans rfl
  have p1 : w.cell? ⟨y, 1, none⟩ = some (.map (some m)) := (cell_of_block hot.out.xb 1).trans rfl
  have hlen := hot.out.free.len
  obtain ⟨n, hn⟩ : ∃ n, S.length = n := ⟨_, rfl⟩
  obtain ⟨k, hk⟩ : ∃ n, F.length = n := ⟨_, rfl⟩
  rw [hn] at p0 hr
  rw [hk] at hlen hr
  clear hot hn hk
  by_cases h1 : n = 40
  · have e1 : ((n : Int) == 40) = true := by simpa using (by omega : (n : Int) = 40)
    have e2 : ((k : Int) == 0) = r := by rw [← hr.out, h1]; by_cases h : k = 0 <;> simp [h]
    clear h1 hr
    go_enter Try.func23, Try.ntmps23
    go_wp2
    go_ret
    exact ⟨rfl, rfl⟩
  · have e1 : ((n : Int) == 40) = false := by simpa using (by omega : ¬ (n : Int) = 40)
    have e2 : r = false := by rw [← hr.out]; simp [h1]
    subst e2
    clear h1 hr
    go_enter Try.func23, Try.ntmps23
    go_wp2
    go_ret
    exact ⟨rfl, rfl⟩

set_option maxRecDepth 100000 in
set_option maxHeartbeats 3200000 in
theorem implPutA (B y m : Nat) (v : Value) (S : List Hd) (h : Hd) (w : World) (hot : Hid (OT B w y m S [] v)) (lS : S.length ≤ 1000) :
    Calls Try.prog 24 #[.pointer (some ⟨y, 0, none⟩), hdV h] w fun e w' => e = .returned (.int .i64 (S.length : Int)) ∧ ∃ v', Hid (OT B w' y m (S ++ [h]) [] v') ∧ Below B w w' := by
  obtain ⟨av, cv, rfl, _, _⟩ := own_hds hot.out.row
  obtain ⟨g, hg⟩ : ∃ g, w.heap.size = g := ⟨_, rfl⟩
  obtain ⟨V, hV⟩ : ∃ W, w.alloc (.cells #[.bool h.u, .int .i64 h.r, .int .i64 h.p, .bool h.o, .int .i64 h.l, .int .i64 h.s] 28) = W := ⟨_, rfl⟩
  have hbV : Below w.heap.size w V := by rw [← hV]; exact bel_alloc (Below.refl _ _) _
  have bq : V.heap[g]? = some (.cells #[.bool h.u, .int .i64 h.r, .int .i64 h.p, .bool h.o, .int .i64 h.l, .int .i64 h.s] 28 (0, 0)) := by rw [← hV, ← hg]; exact heap_alloc_new _ _
  have hO := hot.out.below hbV
  have OR := implOrder y m ([] : List Int) V ((cell_of_block hO.xb 1).trans rfl) (lt_of_block hO.xb) hO.free (by simp; try omega)
  have HVB : Hid (∀ j, (Value.slice av S.length cv).ownBlock = some j → j < w.heap.size) := fun j hj => (hot.out.row.lt j hj).2
  have HBw : Hid (B ≤ w.heap.size) := by unfold Hid; have h1 := hot.out.xB; have h2 := lt_of_block hot.out.xb; omega
  have HG : Hid (w.heap.size = g) := hg
  have HO : Hid (OT B V y m S ([] : List Int) (.slice av S.length cv)) := hO
  have HB : Hid (Below B w V) := hbV.mono HBw.out
  unfold hdV
  clear hot hO hbV
  go_enter Try.func24, Try.ntmps24
  go_wp2_with fail
  clear hV hg
  refine OR.mono ?_
  rintro e w1 ⟨u, rfl, hu, hb⟩
  obtain ⟨bd, dp, rfl, hints⟩ := ints_of_row hu
  replace bq := (hb.block g (lt_of_block bq)).trans bq
  replace HO : Hid (OT B w1 y m S ([] : List Int) (.slice av S.length cv)) := HO.out.below hb
  replace HB : Hid (Below B w w1) := HB.out.trans (hb.mono (Nat.le_trans HBw.out HB.out.size))
  clear hb OR hu
  clear hints
  obtain ⟨i0, i0i, i00, i01, i02⟩ := info_parts Try.infoHd
  go_wp2
  refine wh_begin (fun w' : World => w'.heap[g]? = some (.cells #[.bool h.u, .int .i64 h.r, .int .i64 h.p, .bool h.o, .int .i64 h.l, .int .i64 h.s] 28 (0, 0))) (by kernel_rfl) ?_
  obtain ⟨w2, hD⟩ : ∃ W, w1.drew = W := ⟨_, rfl⟩
  have hb : Below w1.heap.size w1 w2 := by rw [← hD]; exact (Below.refl _ _).drew
  rw [hD]
  replace bq := (hb.block g (lt_of_block bq)).trans bq
  replace HO : Hid (OT B w2 y m S [] (.slice av S.length cv)) := HO.out.below hb
  replace HB : Hid (Below B w w2) := HB.out.trans (hb.mono (Nat.le_trans HBw.out HB.out.size))
  clear hb hD
  refine wh_take 0 (some 12) (.pointer (some ⟨y, 0, none⟩)) rfl rfl (by kernel_rfl) (by kernel_rfl) (by kernel_rfl) (fun _ _ _ h => h) bq (by rfl) (fun w' hS => by kernel_rfl) ?_
  simp only [Act.put, List.setIfInBounds_toArray, List.set_cons_zero, List.set_cons_succ]
  refine wh_take 1 (some 13) (.pointer (some ⟨y, 0, none⟩)) rfl rfl (by kernel_rfl) (by kernel_rfl) (by kernel_rfl) (fun _ _ _ h => h) bq (by rfl) (fun w' hS => by kernel_rfl) ?_
  simp only [Act.put, List.setIfInBounds_toArray, List.set_cons_zero, List.set_cons_succ]
  refine wh_take 2 (some 14) (.pointer (some ⟨y, 0, none⟩)) rfl rfl (by kernel_rfl) (by kernel_rfl) (by kernel_rfl) (fun _ _ _ h => h) bq (by rfl) (fun w' hS => by kernel_rfl) ?_
  simp only [Act.put, List.setIfInBounds_toArray, List.set_cons_zero, List.set_cons_succ]
  refine wh_take 3 (some 15) (.pointer (some ⟨y, 0, none⟩)) rfl rfl (by kernel_rfl) (by kernel_rfl) (by kernel_rfl) (fun _ _ _ h => h) bq (by rfl) (fun w' hS => by kernel_rfl) ?_
  simp only [Act.put, List.setIfInBounds_toArray, List.set_cons_zero, List.set_cons_succ]
  refine wh_take 5 (some 17) (.agg #[.bool h.u, .int .i64 h.r, .int .i64 h.p, .bool h.o, .int .i64 h.l, .int .i64 h.s]) rfl rfl (by kernel_rfl) (by kernel_rfl) (by kernel_rfl) (fun _ _ _ h => h) bq (by rfl) (fun w' hS => by have hq : w'.heap[g]? = some (.cells #[.bool h.u, .int .i64 h.r, .int .i64 h.p, .bool h.o, .int .i64 h.l, .int .i64 h.s] 28 (0, 0)) := hS; have q0 : w'.cell? ⟨g, 0, none⟩ = some (.bool h.u) := (cell_of_block hq 0).trans rfl; have q1 : w'.cell? ⟨g, 1, none⟩ = some (.int .i64 h.r) := (cell_of_block hq 1).trans rfl; have q2 : w'.cell? ⟨g, 2, none⟩ = some (.int .i64 h.p) := (cell_of_block hq 2).trans rfl; have q3 : w'.cell? ⟨g, 3, none⟩ = some (.bool h.o) := (cell_of_block hq 3).trans rfl; have q4 : w'.cell? ⟨g, 4, none⟩ = some (.int .i64 h.l) := (cell_of_block hq 4).trans rfl; have q5 : w'.cell? ⟨g, 5, none⟩ = some (.int .i64 h.s) := (cell_of_block hq 5).trans rfl; clear hq hS; go_simp) ?_
  simp only [Act.put, List.setIfInBounds_toArray, List.set_cons_zero, List.set_cons_succ]
  obtain ⟨z, hz⟩ : ∃ z, w2.heap.size = z := ⟨_, rfl⟩
  obtain ⟨w3, hA⟩ : ∃ W, w2.alloc (.cells #[.bool h.u, .int .i64 h.r, .int .i64 h.p, .bool h.o, .int .i64 h.l, .int .i64 h.s] 28) = W := ⟨_, rfl⟩
  have hb3 : Below w2.heap.size w2 w3 := by rw [← hA]; exact bel_alloc (Below.refl _ _) _
  have bz : w3.heap[z]? = some (.cells #[.bool h.u, .int .i64 h.r, .int .i64 h.p, .bool h.o, .int .i64 h.l, .int .i64 h.s] 28 (0, 0)) := by rw [← hA, ← hz]; exact heap_alloc_new _ _
  have bq3 := (hb3.block g (lt_of_block bq)).trans bq
  have HO3 : Hid (OT B w3 y m S [] (.slice av S.length cv)) := HO.out.below hb3
  have HB3 : Hid (Below B w w3) := HB.out.trans (hb3.mono (Nat.le_trans HBw.out HB.out.size))
  have py2 : w2.cell? ⟨y, 0, none⟩ = some (.slice av S.length cv) := (cell_of_block HO.out.xb 0).trans rfl
  have py3 : w3.cell? ⟨y, 0, none⟩ = some (.slice av S.length cv) := (cell_of_block HO3.out.xb 0).trans rfl
  obtain ⟨v', w4, hrun, hown, hgr, _⟩ := run_append_own (P := Try.prog) w3 B 23 23 28 i0 (.agg #[.bool false, .int .i64 0, .int .i64 0, .bool false, .int .i64 0, .int .i64 0]) 6 48 Try.underlying23 i0i i00 i01 i02 rfl (by decide) _ _ _ HO3.out.row ⟨z, 0, none⟩ 1 1 (hdC h) rfl (fun j u hu => by
      have hj : j < 6 := by rcases Nat.lt_or_ge j 6 with h' | h'; exact h'; rw [List.getElem?_eq_none (by simpa [hdC] using h')] at hu; cases hu
      rw [Addr.add_lit, Nat.zero_add, cell_of_block bz, ← hu]
      have hjj : j = 0 ∨ j = 1 ∨ j = 2 ∨ j = 3 ∨ j = 4 ∨ j = 5 := by omega
      rcases hjj with rfl | rfl | rfl | rfl | rfl | rfl <;> rfl) (by intro u hu; exact hv_one [h] u (by simpa [hv] using hu)) (by unfold maxLen; omega) (by omega) (Nat.le_trans HBw.out HB3.out.size)
  have hown2 : w4.ownsRow B 28 6 v' (S ++ [h]).length (hv (S ++ [h])) := by rw [List.length_append, ← hv_app]; simpa [hv] using hown
  obtain ⟨aA, cA, rfl, _⟩ := ownT_shape hown
  have hgy : w4.heap[y]? = some (.cells #[.slice av S.length cv, .map (some m)] 63 (0, 0)) := (hgr.block y (lt_of_block HO3.out.xb) (fun e => by obtain ⟨cur, hc, _⟩ := own_at HO3.out.row e.symm; have hx := HO3.out.xb; rw [hc] at hx; simp at hx)).trans HO3.out.xb
  have hgm : FreeM w4 m [] := HO3.out.free.kept (hgr.block m HO3.out.free.lt (fun e => by obtain ⟨cur, hc, _⟩ := own_at HO3.out.row e.symm; exact map_ne hc HO3.out.free rfl))
  have hgq : w4.heap[g]? = some (.cells #[.bool h.u, .int .i64 h.r, .int .i64 h.p, .bool h.o, .int .i64 h.l, .int .i64 h.s] 28 (0, 0)) := (hgr.block g (lt_of_block bq3) (fun e => by have h1 := HVB.out g e.symm; have h2 := HG.out; omega)).trans bq3
  have HB4 : Hid (Below B w w4) := HB3.out.grown hgr (Nat.le_trans HBw.out HB3.out.size) (fun j hj => (HO3.out.row.lt j hj).1)
  obtain ⟨G, hG⟩ : ∃ G, w4.setCell ⟨y, 0, none⟩ (.slice aA (S.length + 1) cA) = G := ⟨_, rfl⟩
  have hGy : G.heap[y]? = some (.cells #[.slice aA (S.length + 1) cA, .map (some m)] 63 (0, 0)) := by rw [← hG]; exact heap_setCell_same _ _ _ _ _ _ hgy
  have HOG : Hid (OT B G y m (S ++ [h]) [] (.slice aA (S.length + 1) cA)) := by
    have hk : ∀ j, j ≠ y → G.heap[j]? = w4.heap[j]? := fun j hj => by rw [← hG]; exact heap_setCell_other _ ⟨y, 0, none⟩ j _ hj
    refine ⟨HO3.out.xB, HO3.out.mB, hGy, own_keep hown2 (fun j hj => hk j (fun e => ?_)), hgm.kept (hk m (fun e => map_ne hgy hgm e.symm))⟩
    obtain ⟨cur, hc, _⟩ := own_at hown2 hj
    rw [e, hgy] at hc
    simp at hc
  have HBG : Hid (Below B w G) := by unfold Hid; rw [← hG]; exact HB4.out.setCell HO3.out.xB _
  have hGq : G.heap[g]? = some (.cells #[.bool h.u, .int .i64 h.r, .int .i64 h.p, .bool h.o, .int .i64 h.l, .int .i64 h.s] 28 (0, 0)) := by rw [← hG]; exact (heap_setCell_other _ ⟨y, 0, none⟩ g _ (fun e => by have e' : g = y := e; rw [e', hgy] at hgq; simp at hgq)).trans hgq
  have pG : G.cell? ⟨y, 0, none⟩ = some (.slice aA (S.length + 1) cA) := (cell_of_block hGy 0).trans rfl
  have p40 : w4.cell? ⟨y, 0, none⟩ = some (.slice av S.length cv) := (cell_of_block hgy 0).trans rfl
  have f40 := free_of_block hgy 0
  clear hown2 hgy hgm hgr hown HB4 bz HO3 HB3 hGy
  refine wh_two 4 6 (by kernel_rfl) ?_ ?_
  · refine wo_val (some 16) (.slice av S.length cv) w2 rfl rfl (by rfl) (by go_simp) bq ?_
    simp only [Act.put, List.setIfInBounds_toArray, List.set_cons_zero, List.set_cons_succ]
    refine wh_val 6 (some 18) (.slice (some ⟨z, 0, none⟩) 1 1) w3 (by kernel_rfl) rfl rfl (by rfl) (by rw [← hA, ← hz]; go_simp) bq3 ?_
    simp only [Act.put, List.setIfInBounds_toArray, List.set_cons_zero, List.set_cons_succ]
    refine wh_val 7 (some 19) (.slice aA (S.length + 1) cA) w4 (by kernel_rfl) rfl rfl (by rfl) (by simp [execOp, resolve, invoke, builtin, Act.eval, hrun, Result.andThen]) hgq ?_
    simp only [Act.put, List.setIfInBounds_toArray, List.set_cons_zero, List.set_cons_succ]
    refine wh_val 8 (some 20) (.pointer (some ⟨y, 0, none⟩)) w4 (by kernel_rfl) rfl rfl (by rfl) (by rfl) hgq ?_
    simp only [Act.put, List.setIfInBounds_toArray, List.set_cons_zero, List.set_cons_succ]
    refine wh_val 9 (some 21) (.pointer (some ⟨y, 0, none⟩)) w4 (by kernel_rfl) rfl rfl (by rfl) (by rfl) hgq ?_
    simp only [Act.put, List.setIfInBounds_toArray, List.set_cons_zero, List.set_cons_succ]
    refine wh_skip 10 none G (by kernel_rfl) rfl rfl (by rfl) (by rw [← hG]; go_simp) hGq ?_
    simp only [Act.put]
    refine wh_done (by kernel_rfl) ?_
    clear hrun hG p40 f40 py2 py3 bq bq3 hgq hGq HO HB
    go_wp2
    go_ret
    exact ⟨by simp, _, HOG, HBG.out⟩
  · refine wo_val (some 18) (.slice (some ⟨z, 0, none⟩) 1 1) w3 rfl rfl (by rfl) (by rw [← hA, ← hz]; go_simp) bq3 ?_
    simp only [Act.put, List.setIfInBounds_toArray, List.set_cons_zero, List.set_cons_succ]
    refine wh_val 4 (some 16) (.slice av S.length cv) w3 (by kernel_rfl) rfl rfl (by rfl) (by go_simp) bq3 ?_
    simp only [Act.put, List.setIfInBounds_toArray, List.set_cons_zero, List.set_cons_succ]
    refine wh_val 7 (some 19) (.slice aA (S.length + 1) cA) w4 (by kernel_rfl) rfl rfl (by rfl) (by simp [execOp, resolve, invoke, builtin, Act.eval, hrun, Result.andThen]) hgq ?_
    simp only [Act.put, List.setIfInBounds_toArray, List.set_cons_zero, List.set_cons_succ]
    refine wh_val 8 (some 20) (.pointer (some ⟨y, 0, none⟩)) w4 (by kernel_rfl) rfl rfl (by rfl) (by rfl) hgq ?_
    simp only [Act.put, List.setIfInBounds_toArray, List.set_cons_zero, List.set_cons_succ]
    refine wh_val 9 (some 21) (.pointer (some ⟨y, 0, none⟩)) w4 (by kernel_rfl) rfl rfl (by rfl) (by rfl) hgq ?_
    simp only [Act.put, List.setIfInBounds_toArray, List.set_cons_zero, List.set_cons_succ]
    refine wh_skip 10 none G (by kernel_rfl) rfl rfl (by rfl) (by rw [← hG]; go_simp) hGq ?_
    simp only [Act.put]
    refine wh_done (by kernel_rfl) ?_
    clear hrun hG p40 f40 py2 py3 bq bq3 hgq hGq HO HB
    go_wp2
    go_ret
    exact ⟨by simp, _, HOG, HBG.out⟩

set_option maxRecDepth 100000 in
set_option maxHeartbeats 3200000 in
theorem implPutB (B y m : Nat) (v : Value) (S : List Hd) (F0 : List Int) (k : Nat) (h : Hd) (w : World) (hot : Hid (OT B w y m S (F0 ++ [(k : Int)]) v)) (hk : k < S.length) (lS : S.length ≤ 1000) (lF : F0.length ≤ 1000) :
    Calls Try.prog 24 #[.pointer (some ⟨y, 0, none⟩), hdV h] w fun e w' => e = .returned (.int .i64 (k : Int)) ∧ ∃ v', Hid (OT B w' y m (S.set k h) F0 v') ∧ Below B w w' := by
  obtain ⟨av, cv, rfl, _, _⟩ := own_hds hot.out.row
  obtain ⟨g, hg⟩ : ∃ g, w.heap.size = g := ⟨_, rfl⟩
  obtain ⟨V, hV⟩ : ∃ W, w.alloc (.cells #[.bool h.u, .int .i64 h.r, .int .i64 h.p, .bool h.o, .int .i64 h.l, .int .i64 h.s] 28) = W := ⟨_, rfl⟩
  have hbV : Below w.heap.size w V := by rw [← hV]; exact bel_alloc (Below.refl _ _) _
  have bq : V.heap[g]? = some (.cells #[.bool h.u, .int .i64 h.r, .int .i64 h.p, .bool h.o, .int .i64 h.l, .int .i64 h.s] 28 (0, 0)) := by rw [← hV, ← hg]; exact heap_alloc_new _ _
  have hO := hot.out.below hbV
  have OR := implOrder y m (F0 ++ [(k : Int)]) V ((cell_of_block hO.xb 1).trans rfl) (lt_of_block hO.xb) hO.free (by simp; try omega)
  have HVB : Hid (∀ j, (Value.slice av S.length cv).ownBlock = some j → j < w.heap.size) := fun j hj => (hot.out.row.lt j hj).2
  have HBw : Hid (B ≤ w.heap.size) := by unfold Hid; have h1 := hot.out.xB; have h2 := lt_of_block hot.out.xb; omega
  have HG : Hid (w.heap.size = g) := hg
  have HO : Hid (OT B V y m S (F0 ++ [(k : Int)]) (.slice av S.length cv)) := hO
  have HB : Hid (Below B w V) := hbV.mono HBw.out
  unfold hdV
  clear hot hO hbV
  go_enter Try.func24, Try.ntmps24
  go_wp2_with fail
  clear hV hg
  refine OR.mono ?_
  rintro e w1 ⟨u, rfl, hu, hb⟩
  obtain ⟨bd, dp, rfl, hints⟩ := ints_of_row hu
  replace bq := (hb.block g (lt_of_block bq)).trans bq
  replace HO : Hid (OT B w1 y m S (F0 ++ [(k : Int)]) (.slice av S.length cv)) := HO.out.below hb
  replace HB : Hid (Below B w w1) := HB.out.trans (hb.mono (Nat.le_trans HBw.out HB.out.size))
  clear hb OR hu
  obtain ⟨q, rfl, hq1, hq2⟩ := row_pos HO.out.row (by omega)
  obtain ⟨bb, off, rfl, hbb, hcc⟩ := hints.at F0.length (by simp)
  rw [List.getElem_append_right (Nat.le_refl _)] at hcc
  simp only [Nat.sub_self, List.getElem_cons_zero] at hcc
  obtain ⟨w2, hdel, hf2, ht2⟩ := HO.out.free.del (WalkArith.wf_i64 (n := (k : Int)) (by omega)) 0
  have hne : some g ≠ some m := by have h1 := map_ne bq HO.out.free; simpa using h1
  replace bq := (ht2.grown.block g (lt_of_block bq) hne).trans bq
  replace HB : Hid (Below B w w2) := turned_below HB.out ht2 HO.out.mB (Nat.le_trans HBw.out HB.out.size)
  have p1 : w1.cell? ⟨y, 1, none⟩ = some (.map (some m)) := (cell_of_block HO.out.xb 1).trans rfl
  replace HO : Hid (OT B w2 y m S F0 (.slice (some ⟨q, 0, none⟩) S.length cv)) := HO.out.turned ht2 hf2
  have hlen0 : (F0 ++ [(k : Int)]).length = F0.length + 1 := by simp
  rw [hlen0]
  have hl2 : ¬ ((F0.length : Int) + 1) = 0 := by omega
  clear hf2 ht2 hne hints hlen0
  go_wp2
  clear hdel hcc p1
  have by_ := HO.out.xb
  refine wh_begin (fun w' : World => w'.heap[y]? = some (.cells #[.slice (some ⟨q, 0, none⟩) S.length cv, .map (some m)] 63 (0, 0)) ∧ w'.heap[g]? = some (.cells #[.bool h.u, .int .i64 h.r, .int .i64 h.p, .bool h.o, .int .i64 h.l, .int .i64 h.s] 28 (0, 0))) (by kernel_rfl) ?_
  obtain ⟨w3, hD⟩ : ∃ W, w2.drew = W := ⟨_, rfl⟩
  have hb : Below w2.heap.size w2 w3 := by rw [← hD]; exact (Below.refl _ _).drew
  rw [hD]
  replace bq := (hb.block g (lt_of_block bq)).trans bq
  replace HO : Hid (OT B w3 y m S F0 (.slice (some ⟨q, 0, none⟩) S.length cv)) := HO.out.below hb
  replace HB : Hid (Below B w w3) := HB.out.trans (hb.mono (Nat.le_trans HBw.out HB.out.size))
  replace by_ := HO.out.xb
  clear hb hD
  refine wh_take 0 (some 39) (.pointer (some ⟨y, 0, none⟩)) rfl rfl (by kernel_rfl) (by kernel_rfl) (by kernel_rfl) (fun _ _ _ h => h) ⟨by_, bq⟩ (by rfl) (fun w' hS => by kernel_rfl) ?_
  simp only [Act.put, List.setIfInBounds_toArray, List.set_cons_zero, List.set_cons_succ]
  refine wh_take 1 (some 40) (.pointer (some ⟨y, 0, none⟩)) rfl rfl (by kernel_rfl) (by kernel_rfl) (by kernel_rfl) (fun _ _ _ h => h) ⟨by_, bq⟩ (by rfl) (fun w' hS => by kernel_rfl) ?_
  simp only [Act.put, List.setIfInBounds_toArray, List.set_cons_zero, List.set_cons_succ]
  refine wh_take 2 (some 41) (.pointer (some ⟨y, 0, none⟩)) rfl rfl (by kernel_rfl) (by kernel_rfl) (by kernel_rfl) (fun _ _ _ h => h) ⟨by_, bq⟩ (by rfl) (fun w' hS => by kernel_rfl) ?_
  simp only [Act.put, List.setIfInBounds_toArray, List.set_cons_zero, List.set_cons_succ]
  refine wh_take 3 (some 42) (.slice (some ⟨q, 0, none⟩) S.length cv) rfl rfl (by kernel_rfl) (by kernel_rfl) (by kernel_rfl) (fun _ _ _ h => h) ⟨by_, bq⟩ (by rfl) (fun w' hS => by have hq : w'.heap[y]? = some (.cells #[.slice (some ⟨q, 0, none⟩) S.length cv, .map (some m)] 63 (0, 0)) := hS.1; have q0 : w'.cell? ⟨y, 0, none⟩ = some (.slice (some ⟨q, 0, none⟩) S.length cv) := (cell_of_block hq 0).trans rfl; clear hq hS; go_simp) ?_
  simp only [Act.put, List.setIfInBounds_toArray, List.set_cons_zero, List.set_cons_succ]
  refine wh_take 4 (some 43) (.int .i64 (k : Int)) rfl rfl (by kernel_rfl) (by kernel_rfl) (by kernel_rfl) (fun _ _ _ h => h) ⟨by_, bq⟩ (by rfl) (fun w' hS => by kernel_rfl) ?_
  simp only [Act.put, List.setIfInBounds_toArray, List.set_cons_zero, List.set_cons_succ]
  refine wh_take 5 (some 44) (.agg #[.bool h.u, .int .i64 h.r, .int .i64 h.p, .bool h.o, .int .i64 h.l, .int .i64 h.s]) rfl rfl (by kernel_rfl) (by kernel_rfl) (by kernel_rfl) (fun _ _ _ h => h) ⟨by_, bq⟩ (by rfl) (fun w' hS => by have hq : w'.heap[g]? = some (.cells #[.bool h.u, .int .i64 h.r, .int .i64 h.p, .bool h.o, .int .i64 h.l, .int .i64 h.s] 28 (0, 0)) := hS.2; have q0 : w'.cell? ⟨g, 0, none⟩ = some (.bool h.u) := (cell_of_block hq 0).trans rfl; have q1 : w'.cell? ⟨g, 1, none⟩ = some (.int .i64 h.r) := (cell_of_block hq 1).trans rfl; have q2 : w'.cell? ⟨g, 2, none⟩ = some (.int .i64 h.p) := (cell_of_block hq 2).trans rfl; have q3 : w'.cell? ⟨g, 3, none⟩ = some (.bool h.o) := (cell_of_block hq 3).trans rfl; have q4 : w'.cell? ⟨g, 4, none⟩ = some (.int .i64 h.l) := (cell_of_block hq 4).trans rfl; have q5 : w'.cell? ⟨g, 5, none⟩ = some (.int .i64 h.s) := (cell_of_block hq 5).trans rfl; clear hq hS; go_simp) ?_
  simp only [Act.put, List.setIfInBounds_toArray, List.set_cons_zero, List.set_cons_succ]
  refine wh_take 6 (some 45) (.pointer (some ⟨q, k * 6, none⟩)) rfl rfl (by kernel_rfl) (by kernel_rfl) (by kernel_rfl) (fun _ _ _ h => h) ⟨by_, bq⟩ (by rfl) (fun w' hS => by clear hS; go_simp) ?_
  simp only [Act.put, List.setIfInBounds_toArray, List.set_cons_zero, List.set_cons_succ]
  obtain ⟨⟨c0, c1, c2, c3, c4, c5⟩, hfz⟩ := row_six HO.out.row rfl k hk
  have fz0 := hfz 0 (by omega)
  have fz1 := hfz 1 (by omega)
  have fz2 := hfz 2 (by omega)
  have fz3 := hfz 3 (by omega)
  have fz4 := hfz 4 (by omega)
  have fz5 := hfz 5 (by omega)
  rw [Nat.add_zero] at fz0
  clear hfz
  obtain ⟨G, hG⟩ : ∃ G, ((((((w3.setCell ⟨q, k * 6, none⟩ (.bool h.u)).setCell ⟨q, k * 6 + 1, none⟩ (.int .i64 h.r)).setCell ⟨q, k * 6 + 2, none⟩ (.int .i64 h.p)).setCell ⟨q, k * 6 + 3, none⟩ (.bool h.o)).setCell ⟨q, k * 6 + 4, none⟩ (.int .i64 h.l)).setCell ⟨q, k * 6 + 5, none⟩ (.int .i64 h.s)) = G := ⟨_, rfl⟩
  obtain ⟨r1, r2, r3, r4⟩ := row_set6 HO.out.row rfl k hk h hG
  have HOG : Hid (OT B G y m (S.set k h) F0 (.slice (some ⟨q, 0, none⟩) S.length cv)) := HO.out.set6 r1 r2
  have HBG : Hid (Below B w G) := r4 _ _ hq1 HB.out
  have hGq : G.heap[g]? = some (.cells #[.bool h.u, .int .i64 h.r, .int .i64 h.p, .bool h.o, .int .i64 h.l, .int .i64 h.s] 28 (0, 0)) := (r2 g (fun e => by have h1 := HVB.out q rfl; have h2 := HG.out; omega)).trans bq
  refine wh_skip 7 none G (by kernel_rfl) rfl rfl (by rfl) (by rw [← hG]; go_simp) ⟨HOG.out.xb, hGq⟩ ?_
  simp only [Act.put]
  refine wh_done (by kernel_rfl) ?_
  clear hG r1 r2 r3 r4 c0 c1 c2 c3 c4 c5 fz0 fz1 fz2 fz3 fz4 fz5 bq by_ hGq HO HB
  go_wp2
  go_ret
  exact ⟨rfl, _, HOG, HBG.out⟩

end Go.Proofs.Ytjielcilcningaa
