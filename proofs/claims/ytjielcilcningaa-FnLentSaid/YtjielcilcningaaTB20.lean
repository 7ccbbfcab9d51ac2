/-
  A handle is taken out of a table: what is told; the program's side. (Made by a generator.)
-/
import Derived.Test.YtjielcilcningaaTB19
namespace Go.Proofs.Ytjielcilcningaa
open Go.ChangeShapes Go.WideShapes Go.ChangeAt Go.RowKit Go.Maps

theorem hv_set6 (S : List Hd) (k : Nat) (hk : k < S.length) (h : Hd) : ((((((hv S).set (k * 6) (.bool h.u)).set (k * 6 + 1) (.int .i64 h.r)).set (k * 6 + 2) (.int .i64 h.p)).set (k * 6 + 3) (.bool h.o)).set (k * 6 + 4) (.int .i64 h.l)).set (k * 6 + 5) (.int .i64 h.s) = hv (S.set k h) := by
  apply List.ext_getElem?
  intro i
  simp only [List.getElem?_set, List.length_set, hv_len]
  rw [hv_get, hv_get, List.getElem?_set]
  by_cases e : k = i / 6
  · subst e
    have hm : i % 6 = 0 ∨ i % 6 = 1 ∨ i % 6 = 2 ∨ i % 6 = 3 ∨ i % 6 = 4 ∨ i % 6 = 5 := by omega
    simp only [hk, if_true, Option.bind_some]
    rcases hm with hm | hm | hm | hm | hm | hm
    · rw [hm, if_neg (by omega), if_neg (by omega), if_neg (by omega), if_neg (by omega), if_neg (by omega), if_pos (by omega), if_pos (by omega)]; rfl
    · rw [hm, if_neg (by omega), if_neg (by omega), if_neg (by omega), if_neg (by omega), if_pos (by omega), if_pos (by omega)]; rfl
    · rw [hm, if_neg (by omega), if_neg (by omega), if_neg (by omega), if_pos (by omega), if_pos (by omega)]; rfl
    · rw [hm, if_neg (by omega), if_neg (by omega), if_pos (by omega), if_pos (by omega)]; rfl
    · rw [hm, if_neg (by omega), if_pos (by omega), if_pos (by omega)]; rfl
    · rw [hm, if_pos (by omega), if_pos (by omega)]; rfl
  · rw [if_neg (by omega), if_neg (by omega), if_neg (by omega), if_neg (by omega), if_neg (by omega), if_neg (by omega), if_neg e]
/-- A whole handle is laid in a row. -/
theorem row_set6 {W : World} {B q n c : Nat} {S : List Hd} (h : W.ownsRow B 28 6 (.slice (some ⟨q, 0, none⟩) n c) S.length (hv S)) (hn : S.length = n) (k : Nat) (hk : k < S.length) (f : Hd) {G : World} (hG : (((((W.setCell ⟨q, k * 6, none⟩ (.bool f.u)).setCell ⟨q, k * 6 + 1, none⟩ (.int .i64 f.r)).setCell ⟨q, k * 6 + 2, none⟩ (.int .i64 f.p)).setCell ⟨q, k * 6 + 3, none⟩ (.bool f.o)).setCell ⟨q, k * 6 + 4, none⟩ (.int .i64 f.l)).setCell ⟨q, k * 6 + 5, none⟩ (.int .i64 f.s) = G) :
    G.ownsRow B 28 6 (.slice (some ⟨q, 0, none⟩) n c) (S.set k f).length (hv (S.set k f)) ∧ (∀ g, g ≠ q → G.heap[g]? = W.heap[g]?) ∧ G.heap.size = W.heap.size ∧ ∀ (B : Nat) (w : World), B ≤ q → Below B w W → Below B w G := by
  subst hG
  refine ⟨?_, fun g hg => ?_, by simp, fun B w hB hb => (((((hb.setCell hB _).setCell hB _).setCell hB _).setCell hB _).setCell hB _).setCell hB _⟩
  · rw [hn] at h
    rw [List.length_set, ← hv_set6 S k hk f, hn]
    exact own_set (own_set (own_set (own_set (own_set (own_set h _ _) _ _) _ _) _ _) _ _) _ _
  · exact (heap_setCell_other _ _ _ _ (by simpa using hg)).trans ((heap_setCell_other _ _ _ _ (by simpa using hg)).trans ((heap_setCell_other _ _ _ _ (by simpa using hg)).trans ((heap_setCell_other _ _ _ _ (by simpa using hg)).trans ((heap_setCell_other _ _ _ _ (by simpa using hg)).trans (heap_setCell_other _ _ _ _ (by simpa using hg))))))
/-- Six cells of a row, and that they may be written. -/
theorem row_six {W : World} {B q n c : Nat} {S : List Hd} (h : W.ownsRow B 28 6 (.slice (some ⟨q, 0, none⟩) n c) S.length (hv S)) (hn : S.length = n) (k : Nat) (hk : k < S.length) : HdAt W q (k * 6) S[k] ∧ (∀ j, j < 6 → W.frozen? ⟨q, k * 6 + j, none⟩ = false) := by
  rw [hn] at h
  have hc : ∀ j u, (hv S)[j]? = some u → W.cell? ⟨q, j, none⟩ = some u ∧ W.frozen? ⟨q, j, none⟩ = false := fun j u hu => own_cell h hu
  refine ⟨⟨(hc _ _ (hv_at S k hk 0 (by omega))).1, (hc _ _ (hv_at S k hk 1 (by omega))).1, (hc _ _ (hv_at S k hk 2 (by omega))).1, (hc _ _ (hv_at S k hk 3 (by omega))).1, (hc _ _ (hv_at S k hk 4 (by omega))).1, (hc _ _ (hv_at S k hk 5 (by omega))).1⟩, fun j hj => ?_⟩
  obtain ⟨u, hu⟩ : ∃ u, (hv S)[k * 6 + j]? = some u := ⟨_, List.getElem?_eq_getElem (by rw [hv_len]; omega)⟩
  exact (hc _ _ hu).2
theorem OT.set6 {B : Nat} {w G : World} {y m q n c : Nat} {S S' : List Hd} {F : List Int} (h : OT B w y m S F (.slice (some ⟨q, 0, none⟩) n c)) (hr : G.ownsRow B 28 6 (.slice (some ⟨q, 0, none⟩) n c) S'.length (hv S')) (hs : ∀ g, g ≠ q → G.heap[g]? = w.heap[g]?) : OT B G y m S' F (.slice (some ⟨q, 0, none⟩) n c) := by
  obtain ⟨cur, hc, _⟩ := own_at h.row rfl
  refine ⟨h.xB, h.mB, (hs y (fun e => ?_)).trans h.xb, hr, h.free.kept (hs m (fun e => map_ne hc h.free e.symm))⟩
  have hx := h.xb
  rw [e, hc] at hx
  simp at hx

set_option maxRecDepth 100000 in
set_option maxHeartbeats 3200000 in
theorem implRemove (B y m q c k : Nat) (S : List Hd) (F : List Int) (w : World) (hot : Hid (OT B w y m S F (.slice (some ⟨q, 0, none⟩) S.length c))) (hk : k < S.length) (hkF : (k : Int) ∉ F) (lS : S.length ≤ 1048576) (lF : F.length ≤ 1048576) :
    Calls Try.prog 30 #[.pointer (some ⟨y, 0, none⟩), .int .i64 (k : Int)] w fun e w' => e = .returned (.tuple #[]) ∧ Hid (OT B w' y m (S.set k zH) (F ++ [(k : Int)]) (.slice (some ⟨q, 0, none⟩) S.length c)) ∧ Hid (∀ j, j < w.heap.size → j ≠ q → j ≠ m → w'.heap[j]? = w.heap[j]?) ∧ Below B w w' := by
  obtain ⟨cur, hcq, hBq⟩ := own_at hot.out.row rfl
  obtain ⟨⟨c0, c1, c2, c3, c4, c5⟩, hfz⟩ := row_six hot.out.row rfl k hk
  have f0 := hfz 0 (by omega)
  have f1 := hfz 1 (by omega)
  have f2 := hfz 2 (by omega)
  have f3 := hfz 3 (by omega)
  have f4 := hfz 4 (by omega)
  have f5 := hfz 5 (by omega)
  rw [Nat.add_zero] at f0
  have py0 : w.cell? ⟨y, 0, none⟩ = some (.slice (some ⟨q, 0, none⟩) S.length c) := (cell_of_block hot.out.xb 0).trans rfl
  obtain ⟨G, hG⟩ : ∃ G, (((((w.setCell ⟨q, k * 6, none⟩ (.bool false)).setCell ⟨q, k * 6 + 1, none⟩ (.int .i64 0)).setCell ⟨q, k * 6 + 2, none⟩ (.int .i64 0)).setCell ⟨q, k * 6 + 3, none⟩ (.bool false)).setCell ⟨q, k * 6 + 4, none⟩ (.int .i64 0)).setCell ⟨q, k * 6 + 5, none⟩ (.int .i64 0) = G := ⟨_, rfl⟩
  obtain ⟨r1, r2, r3, r4⟩ := row_set6 hot.out.row rfl k hk zH hG
  have hO2 : OT B G y m (S.set k zH) F (.slice (some ⟨q, 0, none⟩) S.length c) := hot.out.set6 r1 r2
  have hD : OT B G.drew y m (S.set k zH) F (.slice (some ⟨q, 0, none⟩) S.length c) := hO2.below (Below.refl _ _).drew
  have hlen := hD.free.len
  obtain ⟨w2, hmu, hf2, ht2⟩ := hD.free.put (WalkArith.wf_i64 (n := (k : Int)) (by omega)) hkF (by omega)
  have hB : B ≤ w.heap.size := Nat.le_trans hBq (Nat.le_of_lt (lt_of_block hcq))
  have HO3 : Hid (OT B w2 y m (S.set k zH) (F ++ [(k : Int)]) (.slice (some ⟨q, 0, none⟩) S.length c)) := hD.turned ht2 hf2
  have HB3 : Hid (Below B w w2) := turned_below (V := w) (w := G.drew) ((r4 B w hBq (Below.refl _ _)).drew) ht2 hot.out.mB (by show B ≤ G.heap.size; omega)
  have HK3 : Hid (∀ j, j < w.heap.size → j ≠ q → j ≠ m → w2.heap[j]? = w.heap[j]?) := fun j h1 h2 h3 => (ht2.grown.block j (by show j < G.heap.size; omega) (by simpa using h3)).trans (r2 j h2)
  have hby : G.drew.heap[y]? = some (.cells #[.slice (some ⟨q, 0, none⟩) S.length c, .map (some m)] 63 (0, 0)) := hD.xb
  have hby2 : w2.heap[y]? = some (.cells #[.slice (some ⟨q, 0, none⟩) S.length c, .map (some m)] 63 (0, 0)) := HO3.out.xb
  clear r1 r2 r3 r4 hO2 hD hf2 ht2 hfz hcq hBq hkF
  go_enter Try.func30, Try.ntmps30
  go_wp2
  clear c0 c1 c2 c3 c4 c5 f0 f1 f2 f3 f4 f5 py0 hG
  refine wh_begin (fun w' : World => w'.heap[y]? = some (.cells #[.slice (some ⟨q, 0, none⟩) S.length c, .map (some m)] 63 (0, 0))) (by kernel_rfl) ?_
  refine wh_take 0 (some 11) (.pointer (some ⟨y, 0, none⟩)) rfl rfl (by kernel_rfl) (by kernel_rfl) (by kernel_rfl) (fun _ _ _ h => h) hby (by rfl) (fun w' hS => by kernel_rfl) ?_
  simp only [Act.put, List.setIfInBounds_toArray, List.set_cons_zero, List.set_cons_succ]
  refine wh_take 1 (some 12) (.pointer (some ⟨y, 0, none⟩)) rfl rfl (by kernel_rfl) (by kernel_rfl) (by kernel_rfl) (fun _ _ _ h => h) hby (by rfl) (fun w' hS => by kernel_rfl) ?_
  simp only [Act.put, List.setIfInBounds_toArray, List.set_cons_zero, List.set_cons_succ]
  refine wh_take 2 (some 13) (.pointer (some ⟨y, 1, none⟩)) rfl rfl (by kernel_rfl) (by kernel_rfl) (by kernel_rfl) (fun _ _ _ h => h) hby (by rfl) (fun w' hS => by kernel_rfl) ?_
  simp only [Act.put, List.setIfInBounds_toArray, List.set_cons_zero, List.set_cons_succ]
  refine wh_take 3 (some 14) (.map (some m)) rfl rfl (by kernel_rfl) (by kernel_rfl) (by kernel_rfl) (fun _ _ _ h => h) hby (by rfl) (fun w' hS => by have hq : w'.heap[y]? = some (.cells #[.slice (some ⟨q, 0, none⟩) S.length c, .map (some m)] 63 (0, 0)) := hS; have q1 : w'.cell? ⟨y, 1, none⟩ = some (.map (some m)) := (cell_of_block hq 1).trans rfl; clear hq hS; go_simp) ?_
  simp only [Act.put, List.setIfInBounds_toArray, List.set_cons_zero, List.set_cons_succ]
  refine wh_take 4 (some 15) (.int .i64 (k : Int)) rfl rfl (by kernel_rfl) (by kernel_rfl) (by kernel_rfl) (fun _ _ _ h => h) hby (by rfl) (fun w' hS => by kernel_rfl) ?_
  simp only [Act.put, List.setIfInBounds_toArray, List.set_cons_zero, List.set_cons_succ]
  refine wh_take 5 (some 16) (.pointer (some ⟨y, 0, none⟩)) rfl rfl (by kernel_rfl) (by kernel_rfl) (by kernel_rfl) (fun _ _ _ h => h) hby (by rfl) (fun w' hS => by kernel_rfl) ?_
  simp only [Act.put, List.setIfInBounds_toArray, List.set_cons_zero, List.set_cons_succ]
  refine wh_take 6 (some 17) (.pointer (some ⟨y, 0, none⟩)) rfl rfl (by kernel_rfl) (by kernel_rfl) (by kernel_rfl) (fun _ _ _ h => h) hby (by rfl) (fun w' hS => by kernel_rfl) ?_
  simp only [Act.put, List.setIfInBounds_toArray, List.set_cons_zero, List.set_cons_succ]
  refine wh_take 7 (some 18) (.pointer (some ⟨y, 1, none⟩)) rfl rfl (by kernel_rfl) (by kernel_rfl) (by kernel_rfl) (fun _ _ _ h => h) hby (by rfl) (fun w' hS => by kernel_rfl) ?_
  simp only [Act.put, List.setIfInBounds_toArray, List.set_cons_zero, List.set_cons_succ]
  refine wh_take 8 (some 19) (.map (some m)) rfl rfl (by kernel_rfl) (by kernel_rfl) (by kernel_rfl) (fun _ _ _ h => h) hby (by rfl) (fun w' hS => by have hq : w'.heap[y]? = some (.cells #[.slice (some ⟨q, 0, none⟩) S.length c, .map (some m)] 63 (0, 0)) := hS; have q1 : w'.cell? ⟨y, 1, none⟩ = some (.map (some m)) := (cell_of_block hq 1).trans rfl; clear hq hS; go_simp) ?_
  simp only [Act.put, List.setIfInBounds_toArray, List.set_cons_zero, List.set_cons_succ]
  refine wh_val 9 (some 20) (.int .i64 (F.length : Int)) G.drew (by kernel_rfl) rfl rfl (by rfl) (by simp [execOp, resolve, invoke, builtin, Act.eval, hlen, Result.andThen]) hby ?_
  simp only [Act.put, List.setIfInBounds_toArray, List.set_cons_zero, List.set_cons_succ]
  refine wh_skip 10 none w2 (by kernel_rfl) rfl rfl (by rfl) (by simp [execOp, Act.eval, hmu, Result.andThen]) hby2 ?_
  simp only [Act.put]
  refine wh_done (by kernel_rfl) ?_
  clear hby hby2 hlen hmu
  go_wp2
  go_end0
  exact ⟨rfl, HO3, HK3, HB3.out⟩

end Go.Proofs.Ytjielcilcningaa
