/-
  The program's check: blocks that begin.
-/
import Derived.Test.YtcgnefgdfgikdaaGreatKA1
import Derived.Test.YtcgnefgdfgikdaaGreatQ1
namespace Go.Proofs.YtcgnefgdfgikdaaGreat
open Go.ChangeShapes Go.WideShapes Go.ChangeAt Go.RowKit

theorem Tryz.infoFr : (Tryz.prog.info? 112).map (fun i => (i.zero, i.size, i.bytes)) = some (some (.agg #[.int .i64 0, .int .i64 0, .int .i64 0, .bool false]), 4, 32) := by kernel_rfl

set_option maxRecDepth 100000 in
set_option maxHeartbeats 3200000 in
theorem openI (g : Nat) (E : EnvI) (at_ : Int) (s : St) (op kd : Int) (vf : Value) (w : World) (h : CI w g E at_ s vf) (hl : Lim s) :
    Calls Tryz.prog 46 #[.pointer (some ⟨g, 0, none⟩), .int .i64 op, .int .i64 kd] w fun e w' => e = .returned (.tuple #[]) ∧ (∃ vf', CI w' g E at_ (beginS op kd s) vf') ∧ Below g w w' := by
  obtain ⟨i0, i0i, i00, i01, i02⟩ := info_parts Tryz.infoFr
  obtain ⟨⟨vs, h0, h1, h2⟩, hv⟩ := h
  rw [ivs_len] at h1
  obtain ⟨a, cs, rfl, _⟩ := own_shape h1
  obtain ⟨n, hn⟩ : ∃ n, s.opn.length = n := ⟨_, rfl⟩
  obtain ⟨k, hk⟩ : ∃ k, s.vals.length = k := ⟨_, rfl⟩
  rw [hn] at h2
  rw [hk] at h0 h1
  have hn2 : n ≤ 300 := by have := hl.2; omega
  have hlt := lt_of_block h0
  have H0 : Hid (w.heap[g]? = some (.cells (mkI E at_ s.most vf (.slice a k cs)) 72 (0, 0))) := h0
  have H1 : Hid (w.ownsRow (g + 1) 3 1 (.slice a k cs) k (ivs 0 s.vals)) := h1
  have H2 : Hid (w.ownsRow (g + 1) 112 4 vf n (fvI s.opn)) := h2
  have HK : Hid (s.vals.length = k ∧ s.opn.length = n ∧ n ≤ 300 ∧ g < w.heap.size) := ⟨hk, hn, hn2, hlt⟩
  have HV : Hid (VarB w E) := hv
  clear h0 h1 h2 hl hn hk hn2 hlt hv
  go_enter Tryz.func46, Tryz.ntmps46
  go_wp2_with fail
  refine wa_begin (by kernel_rfl) ?_
  refine wa_take 0 (some 6) (.pointer (some ⟨g, 0, none⟩)) rfl rfl (by kernel_rfl) (by kernel_rfl) (by kernel_rfl) (fun _ _ _ h => h) (by rfl) (fun _ => by rfl) ?_
  simp only [Act.put, List.setIfInBounds_toArray, List.set_cons_zero, List.set_cons_succ]
  refine wa_take 1 (some 7) (.pointer (some ⟨g, 0, none⟩)) rfl rfl (by kernel_rfl) (by kernel_rfl) (by kernel_rfl) (fun _ _ _ h => h) (by rfl) (fun _ => by rfl) ?_
  simp only [Act.put, List.setIfInBounds_toArray, List.set_cons_zero, List.set_cons_succ]
  refine wa_take 2 (some 8) (.pointer (some ⟨g, 0, none⟩)) rfl rfl (by kernel_rfl) (by kernel_rfl) (by kernel_rfl) (fun _ _ _ h => h) (by rfl) (fun _ => by rfl) ?_
  simp only [Act.put, List.setIfInBounds_toArray, List.set_cons_zero, List.set_cons_succ]
  refine wa_take 3 (some 9) (.pointer (some ⟨g, 9, none⟩)) rfl rfl (by kernel_rfl) (by kernel_rfl) (by kernel_rfl) (fun _ _ _ h => h) (by rfl) (fun _ => by kernel_rfl) ?_
  simp only [Act.put, List.setIfInBounds_toArray, List.set_cons_zero, List.set_cons_succ]
  refine wa_take 5 (some 11) (.int .i64 op) rfl rfl (by kernel_rfl) (by kernel_rfl) (by kernel_rfl) (fun _ _ _ h => h) (by rfl) (fun _ => by rfl) ?_
  simp only [Act.put, List.setIfInBounds_toArray, List.set_cons_zero, List.set_cons_succ]
  refine wa_take 6 (some 12) (.int .i64 kd) rfl rfl (by kernel_rfl) (by kernel_rfl) (by kernel_rfl) (fun _ _ _ h => h) (by rfl) (fun _ => by rfl) ?_
  simp only [Act.put, List.setIfInBounds_toArray, List.set_cons_zero, List.set_cons_succ]
  refine wa_take 7 (some 13) (.pointer (some ⟨g, 0, none⟩)) rfl rfl (by kernel_rfl) (by kernel_rfl) (by kernel_rfl) (fun _ _ _ h => h) (by rfl) (fun _ => by rfl) ?_
  simp only [Act.put, List.setIfInBounds_toArray, List.set_cons_zero, List.set_cons_succ]
  refine wa_take 8 (some 14) (.pointer (some ⟨g, 0, none⟩)) rfl rfl (by kernel_rfl) (by kernel_rfl) (by kernel_rfl) (fun _ _ _ h => h) (by rfl) (fun _ => by rfl) ?_
  simp only [Act.put, List.setIfInBounds_toArray, List.set_cons_zero, List.set_cons_succ]
  refine wa_take 9 (some 15) (.pointer (some ⟨g, 10, none⟩)) rfl rfl (by kernel_rfl) (by kernel_rfl) (by kernel_rfl) (fun _ _ _ h => h) (by rfl) (fun _ => by kernel_rfl) ?_
  simp only [Act.put, List.setIfInBounds_toArray, List.set_cons_zero, List.set_cons_succ]
  have c9 : w.drew.cell? ⟨g, 9, none⟩ = some vf := (cell_of_block H0.out 9).trans rfl
  have c10 : w.drew.cell? ⟨g, 10, none⟩ = some (.slice a k cs) := (cell_of_block H0.out 10).trans rfl
  obtain ⟨av, cv, hvf, _⟩ := own_shape H2.out
  subst hvf
  refine wa_first 4 (some 10) (.slice av n cv) (fun w' => w'.cell? ⟨g, 9, none⟩ = some (.slice av n cv)) rfl rfl (by kernel_rfl) (by kernel_rfl) (by kernel_rfl) (fun _ _ _ h => h) (by rfl) (fun w' hS => ?_) c9 ?_
  · go_simp
  simp only [Act.put, List.setIfInBounds_toArray, List.set_cons_zero, List.set_cons_succ]
  refine wb_val 10 (some 16) (.slice a k cs) w.drew (by kernel_rfl) (by kernel_rfl) rfl rfl (by rfl) (by go_simp) c9 ?_
  simp only [Act.put, List.setIfInBounds_toArray, List.set_cons_zero, List.set_cons_succ]
  refine wb_val 11 (some 17) (.int .i64 (k : Int)) w.drew (by kernel_rfl) (by kernel_rfl) rfl rfl (by rfl) (by go_simp) c9 ?_
  simp only [Act.put, List.setIfInBounds_toArray, List.set_cons_zero, List.set_cons_succ]
  refine wb_val 12 (some 18) (.agg #[.int .i64 op, .int .i64 kd, .int .i64 (k : Int), .bool false]) w.drew (by kernel_rfl) (by kernel_rfl) rfl rfl (by rfl) (by go_simp) c9 ?_
  simp only [Act.put, List.setIfInBounds_toArray, List.set_cons_zero, List.set_cons_succ]
  refine wb_val 13 (some 19) (.slice (some ⟨w.heap.size, 0, none⟩) 1 1) (w.drew.alloc (.cells #[.int .i64 op, .int .i64 kd, .int .i64 (k : Int), .bool false] 112)) (by kernel_rfl) (by kernel_rfl) rfl rfl (by rfl) (by go_simp) ?_ ?_
  · exact pastCell (w := w.drew) (show g < w.drew.heap.size from HK.out.2.2.2) c9
  simp only [Act.put, List.setIfInBounds_toArray, List.set_cons_zero, List.set_cons_succ]
  refine wb_wp 14 (by kernel_rfl) (by kernel_rfl) rfl (by rfl) ?_
  have hb0 : Below w.heap.size w w.drew := (Below.refl _ _).drew
  have hown0 : (w.drew.alloc (.cells #[.int .i64 op, .int .i64 kd, .int .i64 (k : Int), .bool false] 112)).ownsRow (g + 1) 112 4 (.slice av n cv) n (fvI s.opn) := (own_kept H2.out hb0).alloc _
  refine wp_append_lies _ (.tmp 10) (.tmp 19) 70 rfl (g + 1) 112 i0 (.agg #[.int .i64 0, .int .i64 0, .int .i64 0, .bool false]) 4 32 Tryz.underlying70 i0i i00 i01 i02 rfl (by decide) (.slice av n cv) n (fvI s.opn) rfl hown0 ⟨w.heap.size, 0, none⟩ 1 1 [.int .i64 op, .int .i64 kd, .int .i64 (k : Int), .bool false] rfl rfl (row_new' w.drew #[.int .i64 op, .int .i64 kd, .int .i64 (k : Int), .bool false] 112 w.heap.size rfl) (by intro u hu; simp at hu; rcases hu with rfl | rfl | rfl | rfl <;> rfl) (by decide) (by have := HK.out.2.2.1; unfold maxLen; omega) (by have := HK.out.2.2.1; omega) (by have := HK.out.2.2.2; simp; omega) (w.heap.size + 1) (by simp) ?_
  intro gf cf w1 hown hgrow hlie hlt1
  simp only [Act.put, List.setIfInBounds_toArray]
  have hA0 : (w.drew.alloc (.cells #[.int .i64 op, .int .i64 kd, .int .i64 (k : Int), .bool false] 112)).heap[g]? = some (.cells (mkI E at_ s.most (.slice av n cv) (.slice a k cs)) 72 (0, 0)) := (Below.heap_alloc w.drew _ g HK.out.2.2.2).trans H0.out
  have hg1 := grow_block hown0 hgrow hA0
  have hs1 := grow_keeps hown0 hgrow ((own_kept H1.out hb0).alloc _) (by decide)
  have hv1 : VarB w1 E := (HV.out.keep (hb0.alloc (Nat.le_refl _) _)).grow hown0 hgrow (by decide)
  have hb1 : Below g w w1 := grow_below hown0 hgrow ((Below.refl _ _).drew.alloc (Nat.le_of_lt HK.out.2.2.2) _) (Nat.le_refl _) (by simp; have := HK.out.2.2.2; omega)
  refine wa_take 15 (some 21) (.pointer (some ⟨g, 0, none⟩)) rfl rfl (by kernel_rfl) (by kernel_rfl) (by kernel_rfl) (fun _ _ _ h => h) (by rfl) (fun _ => by rfl) ?_
  simp only [Act.put]
  refine wa_take 16 (some 22) (.pointer (some ⟨g, 9, none⟩)) rfl rfl (by kernel_rfl) (by kernel_rfl) (by kernel_rfl) (fun _ _ _ h => h) (by rfl) (fun _ => by kernel_rfl) ?_
  simp only [Act.put]
  have e9 : w1.cell? ⟨g, 9, none⟩ = some (.slice av n cv) := (cell_of_block hg1 9).trans rfl
  have f9 : w1.frozen? ⟨g, 9, none⟩ = false := free_of_block hg1 9
  refine wa_store 17 none (w1.setCell ⟨g, 9, none⟩ (.slice (some ⟨gf, 0, none⟩) (n + 1) cf)) (by kernel_rfl) rfl rfl (by rfl) (by go_simp) ?_
  refine wa_done (by kernel_rfl) ?_
  simp only [Act.put]
  have HE : CI (w1.setCell ⟨g, 9, none⟩ (.slice (some ⟨gf, 0, none⟩) (n + 1) cf)) g E at_ (beginS op kd s) (.slice (some ⟨gf, 0, none⟩) (n + 1) cf) := by
    unfold CI beginS
    simp only
    refine ⟨ck_set hg1 (mk' := mkI E at_ s.most) (vf' := .slice (some ⟨gf, 0, none⟩) (n + 1) cf) (vs' := .slice a k cs) 9 _ rfl ?_ ?_, hv1.set hg1 (by decide) _ _⟩
    · rw [ivs_len, HK.out.1]; exact hs1
    · rw [List.length_cons, HK.out.2.1, fvI_cons]
      have e : fv1 ⟨op, kd, s.vals.length, false, false⟩ = [.int .i64 op, .int .i64 kd, .int .i64 (k : Int), .bool false] := by unfold fv1; simp [HK.out.1]
      rw [e]
      exact hown
  have HB : Below g w (w1.setCell ⟨g, 9, none⟩ (.slice (some ⟨gf, 0, none⟩) (n + 1) cf)) := hb1.setCell (Nat.le_refl _) _
  go_end0
  exact ⟨rfl, ⟨_, HE⟩, HB⟩

end Go.Proofs.YtcgnefgdfgikdaaGreat
