/-
  The law's check of a func.
-/
import Derived.Test.YtcgnefgdfgikdaaGreatKA6
import Derived.Test.YtcgnefgdfgikdaaGreatKA8
import Derived.Test.YtcgnefgdfgikdaaGreatKA12
import Derived.Test.YtcgnefgdfgikdaaGreatM5
import Derived.Test.YtcgnefgdfgikdaaGreatA1
namespace Go.Proofs.YtcgnefgdfgikdaaGreat
open Go.ChangeShapes Go.WideShapes Go.ChangeAt Go.RowKit

/-- A check of f that is under way, on the law's side: ahead of instruction j. -/
def GoingS (M : Mod7) (f : Fun7) (g : Nat) (E : EnvS) (j : Nat) (w : World) : Prop :=
  ∃ s F vf, runS M (f.ps ++ f.ls) f.res 0 f.body (firstS f.res) = runS M (f.ps ++ f.ls) f.res j (f.body.drop j) s ∧ Inv F s j ∧ goodW F (ops (f.body.drop j)) ∧ CS w g E 0 s vf

set_option maxRecDepth 100000 in
set_option maxHeartbeats 3200000 in
theorem specCheck7 (l : Loc7) (M : Mod7) (k : Nat) (f : Fun7) (w : World) (hM : ModAt w l M) (hk : k < M.fs.length) (hf : M.fs[k] = f) (hS : Hid (Shaped M)) (hpt : Hid (∀ f ∈ M.fs, ∀ t ∈ f.ps, 125 ≤ t ∧ t ≤ 127)) :
    Calls Tryz.prog 17 #[.agg #[.slice l.fa M.fs.length l.fc, .slice l.ga M.gs.length l.gc, .bool M.mem, .int .i64 M.pages, .int .i64 M.most, .int .i64 M.start], .int .i64 (k : Int)] w fun e w' =>
      e = .returned (.tuple #[.int .i64 (checkS M f).1, .int .i64 (checkS M f).2.1, .int .i64 (checkS M f).2.2]) ∧ Below w.heap.size w w' := by
  obtain ⟨z, hz⟩ : ∃ z, w.heap.size = z := ⟨_, rfl⟩
  obtain ⟨b, off, hfa, hb, pa, pc, la, lc, ba, bc, c0, c1, c2, c3, hrow⟩ := hM.1.at k hk
  rw [hf] at c0 c1 c2 c3 hrow
  have hfm : f ∈ M.fs := by rw [← hf]; exact List.getElem_mem _
  obtain ⟨q1, q2, q3, q4⟩ := hS.out.fs f hfm
  obtain ⟨ln, hln⟩ : ∃ n, M.fs.length = n := ⟨_, rfl⟩
  have hkl : (k : Int) < (ln : Int) := by omega
  obtain ⟨nb, hnb⟩ : ∃ n, f.body.length = n := ⟨_, rfl⟩
  have HM : Hid (ModAt w l M) := hM
  have HR : Hid (FunRows w pa la ba f) := hrow
  have HFA : Hid (l.fa = some ⟨b, off, none⟩ ∧ M.fs.length = ln ∧ k < ln ∧ b < w.heap.size) := ⟨hfa, hln, by omega, hb⟩
  have HN : Hid (f.body.length = nb) := hnb
  have HQ : Hid (f.ps.length ≤ 20 ∧ f.ls.length ≤ 20 ∧ (eo f.body).isSome = true ∧ TyOk M (f.ps ++ f.ls) f.res) := ⟨q1, q2, q3, q4⟩
  have hbA : Below w.heap.size w (w.alloc (.cells #[.slice l.fa M.fs.length l.fc, .slice l.ga M.gs.length l.gc, .bool M.mem, .int .i64 M.pages, .int .i64 M.most, .int .i64 M.start] 26)) := (Below.refl _ _).alloc (Nat.le_refl _) _
  have d0 := (hbA.cell (p := ⟨b, off + k * 4, none⟩) hb).trans c0
  have d1 := (hbA.cell (p := ⟨b, off + k * 4 + 1, none⟩) hb).trans c1
  have d2 := (hbA.cell (p := ⟨b, off + k * 4 + 2, none⟩) hb).trans c2
  have d3 := (hbA.cell (p := ⟨b, off + k * 4 + 3, none⟩) hb).trans c3
  rw [hfa, hln] at d0 d1 d2 d3 ⊢
  clear hM hk hf hrow hfm q1 q2 q3 q4 hfa hln hb hnb hbA c0 c1 c2 c3
  go_enter Tryz.func17, Tryz.ntmps17
  go_wp2_with fail
  obtain ⟨W, hW⟩ : ∃ W, (w.alloc (.cells #[.slice (some ⟨b, off, none⟩) ln l.fc, .slice l.ga M.gs.length l.gc, .bool M.mem, .int .i64 M.pages, .int .i64 M.most, .int .i64 M.start] 26)).alloc (.cells #[.slice pa f.ps.length pc, .int .i64 f.res, .slice la f.ls.length lc, .slice ba f.body.length bc] 39) = W := ⟨_, rfl⟩
  have hb0 : Below w.heap.size w W := by rw [← hW]; exact bel_new _ _ _
  have hx : W.heap[z]? = some (.cells #[.slice (some ⟨b, off, none⟩) ln l.fc, .slice l.ga M.gs.length l.gc, .bool M.mem, .int .i64 M.pages, .int .i64 M.most, .int .i64 M.start] 26 (0, 0)) := by rw [← hW, ← hz]; exact (Below.heap_alloc _ _ _ (by simp)).trans (heap_alloc_new _ _)
  have hy : W.heap[z + 1]? = some (.cells #[.slice pa f.ps.length pc, .int .i64 f.res, .slice la f.ls.length lc, .slice ba f.body.length bc] 39 (0, 0)) := by
    rw [← hW, ← hz]
    have h := heap_alloc_new (w.alloc (.cells #[.slice (some ⟨b, off, none⟩) ln l.fc, .slice l.ga M.gs.length l.gc, .bool M.mem, .int .i64 M.pages, .int .i64 M.most, .int .i64 M.start] 26)) (.cells #[.slice pa f.ps.length pc, .int .i64 f.res, .slice la f.ls.length lc, .slice ba f.body.length bc] 39)
    simpa using h
  have hltx := lt_of_block hx
  have hlty := lt_of_block hy
  have kx0 : ∀ w', Keeps W w' → w'.cell? ⟨z, 0, none⟩ = some (.slice (some ⟨b, off, none⟩) ln l.fc) := fun w' h => h.cell hltx ((cell_of_block hx 0).trans rfl)
  have kx1 : ∀ w', Keeps W w' → w'.cell? ⟨z, 1, none⟩ = some (.slice l.ga M.gs.length l.gc) := fun w' h => h.cell hltx ((cell_of_block hx 1).trans rfl)
  have kx2 : ∀ w', Keeps W w' → w'.cell? ⟨z, 2, none⟩ = some (.bool M.mem) := fun w' h => h.cell hltx ((cell_of_block hx 2).trans rfl)
  have kx3 : ∀ w', Keeps W w' → w'.cell? ⟨z, 3, none⟩ = some (.int .i64 M.pages) := fun w' h => h.cell hltx ((cell_of_block hx 3).trans rfl)
  have kx4 : ∀ w', Keeps W w' → w'.cell? ⟨z, 4, none⟩ = some (.int .i64 M.most) := fun w' h => h.cell hltx ((cell_of_block hx 4).trans rfl)
  have kx5 : ∀ w', Keeps W w' → w'.cell? ⟨z, 5, none⟩ = some (.int .i64 M.start) := fun w' h => h.cell hltx ((cell_of_block hx 5).trans rfl)
  have ky0 : ∀ w', Keeps W w' → w'.cell? ⟨z + 1, 0, none⟩ = some (.slice pa f.ps.length pc) := fun w' h => h.cell hlty ((cell_of_block hy 0).trans rfl)
  have ky1 : ∀ w', Keeps W w' → w'.cell? ⟨z + 1, 1, none⟩ = some (.int .i64 f.res) := fun w' h => h.cell hlty ((cell_of_block hy 1).trans rfl)
  have ky2 : ∀ w', Keeps W w' → w'.cell? ⟨z + 1, 2, none⟩ = some (.slice la f.ls.length lc) := fun w' h => h.cell hlty ((cell_of_block hy 2).trans rfl)
  have ky3 : ∀ w', Keeps W w' → w'.cell? ⟨z + 1, 3, none⟩ = some (.slice ba f.body.length bc) := fun w' h => h.cell hlty ((cell_of_block hy 3).trans rfl)
  have HRW : Hid (FunRows W pa la ba f) := HR.out.below hb0
  have HMW : Hid (ModAt W l M) := HM.out.below hb0
  have HB0 : Hid (Below w.heap.size w W ∧ w.heap.size = z) := ⟨hb0, hz⟩
  rw [hW]
  clear hb0 hW hz hx hy hltx hlty d0 d1 d2 d3
  refine wh_begin (Keeps W) (by kernel_rfl) ?_
  have hS0 : Keeps W W.drew := Keeps.drew W
  refine wh_take 0 (some 16) (.agg #[.slice (some ⟨b, off, none⟩) ln l.fc, .slice l.ga M.gs.length l.gc, .bool M.mem, .int .i64 M.pages, .int .i64 M.most, .int .i64 M.start]) rfl rfl (by kernel_rfl) (by kernel_rfl) (by kernel_rfl) (fun _ _ _ h => h) hS0 (by rfl) (fun w' hS => by have q0 := kx0 _ hS; have q1 := kx1 _ hS; have q2 := kx2 _ hS; have q3 := kx3 _ hS; have q4 := kx4 _ hS; have q5 := kx5 _ hS; go_simp) ?_
  simp only [Act.put, List.setIfInBounds_toArray, List.set_cons_zero, List.set_cons_succ]
  refine wh_take 1 (some 17) (.agg #[.slice pa f.ps.length pc, .int .i64 f.res, .slice la f.ls.length lc, .slice ba f.body.length bc]) rfl rfl (by kernel_rfl) (by kernel_rfl) (by kernel_rfl) (fun _ _ _ h => h) hS0 (by rfl) (fun w' hS => by have q0 := ky0 _ hS; have q1 := ky1 _ hS; have q2 := ky2 _ hS; have q3 := ky3 _ hS; go_simp) ?_
  simp only [Act.put, List.setIfInBounds_toArray, List.set_cons_zero, List.set_cons_succ]
  refine wh_take 3 (some 19) (.pointer (some ⟨z + 1, 0, none⟩)) rfl rfl (by kernel_rfl) (by kernel_rfl) (by kernel_rfl) (fun _ _ _ h => h) hS0 (by rfl) (fun _ _ => by kernel_rfl) ?_
  simp only [Act.put, List.setIfInBounds_toArray, List.set_cons_zero, List.set_cons_succ]
  refine wh_take 4 (some 20) (.slice pa f.ps.length pc) rfl rfl (by kernel_rfl) (by kernel_rfl) (by kernel_rfl) (fun _ _ _ h => h) hS0 (by rfl) (fun w' hS => by have q0 := ky0 _ hS; go_simp) ?_
  simp only [Act.put, List.setIfInBounds_toArray, List.set_cons_zero, List.set_cons_succ]
  refine wh_take 6 (some 22) (.pointer (some ⟨z + 1, 2, none⟩)) rfl rfl (by kernel_rfl) (by kernel_rfl) (by kernel_rfl) (fun _ _ _ h => h) hS0 (by rfl) (fun _ _ => by kernel_rfl) ?_
  simp only [Act.put, List.setIfInBounds_toArray, List.set_cons_zero, List.set_cons_succ]
  refine wh_take 7 (some 23) (.slice la f.ls.length lc) rfl rfl (by kernel_rfl) (by kernel_rfl) (by kernel_rfl) (fun _ _ _ h => h) hS0 (by rfl) (fun w' hS => by have q0 := ky2 _ hS; go_simp) ?_
  simp only [Act.put, List.setIfInBounds_toArray, List.set_cons_zero, List.set_cons_succ]
  have hS1 : Keeps W (W.drew.alloc (.cells #[] 3)) := hS0.step ((Below.refl _ _).alloc (Nat.le_refl _) _)
  refine wh_val 2 (some 18) (.slice (some ⟨W.drew.heap.size, 0, none⟩) 0 0) (W.drew.alloc (.cells #[] 3)) (by kernel_rfl) rfl rfl (by rfl) (by go_simp) hS1 ?_
  simp only [Act.put, List.setIfInBounds_toArray, List.set_cons_zero, List.set_cons_succ]
  have hO1 : (W.drew.alloc (.cells #[] 3)).ownsRow W.heap.size 3 1 (.slice (some ⟨W.drew.heap.size, 0, none⟩) 0 0) ([] : List Int).length (ivl []) := World.ownsRow_lit W.drew #[] 0 (Nat.le_refl _) (by decide) rfl
  refine wh_wp 5 (by kernel_rfl) rfl (by rfl) ?_
  refine wp_append_ints (.tmp 18) (.tmp 20) rfl W.heap.size _ [] f.ps pa pc rfl hO1 rfl (HRW.out.1.below hS1.below) (by simp) (by have := HQ.out.1; omega) hS1.below.size ?_
  intro v2 w2 hO2 hb2
  have hS2 : Keeps W w2 := ⟨hS1.below.trans hb2⟩
  refine ⟨hS2, ?_⟩
  simp only [Act.put, List.setIfInBounds_toArray]
  refine wh_wp 8 (by kernel_rfl) rfl (by rfl) ?_
  refine wp_append_ints (.tmp 21) (.tmp 23) rfl W.heap.size v2 f.ps f.ls la lc rfl (by simpa using hO2) rfl (HRW.out.2.1.below hS2.below) (by have := HQ.out.1; omega) (by have := HQ.out.2.1; omega) hS2.below.size ?_
  intro v3 V hO3 hb3
  have hSV : Keeps W V := ⟨hS2.below.trans hb3⟩
  refine ⟨hSV, ?_⟩
  simp only [Act.put]
  obtain ⟨oa, oc, rfl, hI⟩ := own_ints hO3
  have hme : Hid (mkS ⟨l, M, .slice pa f.ps.length pc, f.res, .slice la f.ls.length lc, .slice ba f.body.length bc, .slice oa (f.ps ++ f.ls).length oc⟩ 0 0 (.slice none 0 0) (.slice none 0 0) = #[.slice (some ⟨b, off, none⟩) ln l.fc, .slice l.ga M.gs.length l.gc, .bool M.mem, .int .i64 M.pages, .int .i64 M.most, .int .i64 M.start, .slice pa f.ps.length pc, .int .i64 f.res, .slice la f.ls.length lc, .slice ba f.body.length bc, .slice none 0 0, .slice none 0 0, .int .i64 0, .int .i64 0, .slice oa (f.ps ++ f.ls).length oc]) := by unfold Hid mkS; simp only; rw [HFA.out.1, HFA.out.2.1]; rfl
  refine wh_take 9 (some 25) (.agg (mkS ⟨l, M, .slice pa f.ps.length pc, f.res, .slice la f.ls.length lc, .slice ba f.body.length bc, .slice oa (f.ps ++ f.ls).length oc⟩ 0 0 (.slice none 0 0) (.slice none 0 0))) rfl rfl (by kernel_rfl) (by kernel_rfl) (by kernel_rfl) (fun _ _ _ h => h) hSV (by rfl) (fun _ _ => by rw [hme.out]; first | rfl | (go_simp; rfl) | go_simp) ?_
  simp only [Act.put]
  have hSG : Keeps W (V.alloc (.cells (mkS ⟨l, M, .slice pa f.ps.length pc, f.res, .slice la f.ls.length lc, .slice ba f.body.length bc, .slice oa (f.ps ++ f.ls).length oc⟩ 0 0 (.slice none 0 0) (.slice none 0 0)) 77)) := hSV.step ((Below.refl _ _).alloc (Nat.le_refl _) _)
  refine wh_val 10 (some 26) (.pointer (some ⟨V.heap.size, 0, none⟩)) (V.alloc (.cells (mkS ⟨l, M, .slice pa f.ps.length pc, f.res, .slice la f.ls.length lc, .slice ba f.body.length bc, .slice oa (f.ps ++ f.ls).length oc⟩ 0 0 (.slice none 0 0) (.slice none 0 0)) 77)) (by kernel_rfl) rfl rfl (by rfl) (by first | rfl | (go_simp; rfl) | go_simp) hSG ?_
  simp only [Act.put]
  refine wh_val 11 (some 8) (.pointer (some ⟨V.heap.size, 0, none⟩)) (V.alloc (.cells (mkS ⟨l, M, .slice pa f.ps.length pc, f.res, .slice la f.ls.length lc, .slice ba f.body.length bc, .slice oa (f.ps ++ f.ls).length oc⟩ 0 0 (.slice none 0 0) (.slice none 0 0)) 77)) (by kernel_rfl) rfl rfl (by rfl) (by rfl) hSG ?_
  simp only [Act.put]
  refine wh_done (by kernel_rfl) ?_
  have HCI : Hid (CS (V.alloc (.cells (mkS ⟨l, M, .slice pa f.ps.length pc, f.res, .slice la f.ls.length lc, .slice ba f.body.length bc, .slice oa (f.ps ++ f.ls).length oc⟩ 0 0 (.slice none 0 0) (.slice none 0 0)) 77)) V.heap.size ⟨l, M, .slice pa f.ps.length pc, f.res, .slice la f.ls.length lc, .slice ba f.body.length bc, .slice oa (f.ps ++ f.ls).length oc⟩ 0 ⟨[], [], 0⟩ (.slice none 0 0)) := ⟨.slice none 0 0, heap_alloc_new _ _, World.ownsRow_nil _ _ _ _, World.ownsRow_nil _ _ _ _⟩
  have HEN : Hid (EnvOkS V V.heap.size ⟨l, M, .slice pa f.ps.length pc, f.res, .slice la f.ls.length lc, .slice ba f.body.length bc, .slice oa (f.ps ++ f.ls).length oc⟩ (f.ps ++ f.ls)) := ⟨HMW.out.below hSV.below, ⟨oa, oc, rfl, hI⟩, Nat.le_refl _, fun f hf => (hS.out.fs f hf).1, ⟨hS.out.ns.1, hS.out.ns.2, by have h1 := HQ.out.1; have h2 := HQ.out.2.1; simp; omega⟩, HQ.out.2.2.2, hpt.out⟩
  have hyG := ky1 _ hSG
  obtain ⟨g, hg⟩ : ∃ g, V.heap.size = g := ⟨_, rfl⟩
  have HBV : Hid (Below V.heap.size V (V.alloc (.cells (mkS ⟨l, M, .slice pa f.ps.length pc, f.res, .slice la f.ls.length lc, .slice ba f.body.length bc, .slice oa (f.ps ++ f.ls).length oc⟩ 0 0 (.slice none 0 0) (.slice none 0 0)) 77)) ∧ Below W.heap.size W V) := ⟨(Below.refl _ _).alloc (Nat.le_refl _) _, hSV.below⟩
  obtain ⟨E, hE⟩ : ∃ E : EnvS, E = ⟨l, M, .slice pa f.ps.length pc, f.res, .slice la f.ls.length lc, .slice ba f.body.length bc, .slice oa (f.ps ++ f.ls).length oc⟩ := ⟨_, rfl⟩
  rw [← hE] at HCI HEN HBV hyG ⊢
  have HE : Hid (E.M = M ∧ E.res = f.res ∧ E.l = l) := by unfold Hid; rw [hE]; exact ⟨rfl, rfl, rfl⟩
  generalize V.alloc (.cells (mkS E 0 0 (.slice none 0 0) (.slice none 0 0)) 77) = G at HCI hyG HBV ⊢
  rw [hg] at HCI HEN ⊢
  have HG : Hid (V.heap.size = g) := hg
  have T := beginSp g E 0 ⟨[], [], 0⟩ 2 f.res (.slice none 0 0) G HCI.out ⟨by simp, by simp⟩
  have KY3 : Hid (∀ w', Keeps W w' → w'.cell? ⟨z + 1, 3, none⟩ = some (.slice ba nb bc)) := fun w' h => by have := ky3 w' h; rw [HN.out] at this; exact this
  clear hg hSG hSV hS0 hS1 hS2 hI hb2 hb3 hO1 hO2 hO3 kx0 kx1 kx2 kx3 kx4 kx5 ky0 ky1 ky2 ky3 hme hE
  go_wp2_with fail
  refine T.mono ?_
  rintro e w5 ⟨rfl, ⟨vf, hci⟩, hb5⟩
  obtain ⟨gw, gg, gl⟩ := goodW_body HQ.out.2.2.1
  have HB5 : Hid (Below g G w5) := hb5
  have hnb : nb ≤ 200 := by have := HN.out; omega
  have G0 : Hid (GoingS M f g E 0 w5) := ⟨firstS f.res, [true], vf, rfl, inv_first HQ.out.2.2.2.res, gw, hci⟩
  have GG : Hid (∀ k (hk : k < f.body.length), gi f.body[k].1 f.body[k].2 = true) := gg
  have HV5 : Hid (Below V.heap.size V w5) := HBV.out.1.trans (hb5.mono (by have := HG.out; omega))
  have y3 : w5.cell? ⟨z + 1, 3, none⟩ = some (.slice ba nb bc) := KY3.out _ ⟨bel_step HBV.out.2 HV5.out⟩
  clear T hci hb5 gw gg gl hyG
  go_wp2
  clear y3
  go_loopw [34] (fun i wr => ∃ j : Nat, j ≤ nb ∧ i = .int .i64 (j : Int) ∧ Hid (GoingS M f g E j wr) ∧ Hid (Below g w5 wr)) (fun i _ => nb - (intOf i).toNat)
  case atStart => exact ⟨0, by omega, rfl, G0, Below.refl _ _⟩
  case round =>
    obtain ⟨j, hj, rfl, hG, hB⟩ := hrel
    have hsz : w.heap.size ≤ g := by have h1 := HB0.out.1.size; have h2 := HBV.out.2.size; have h3 := HG.out; omega
    have hw5 : Below w.heap.size w w5 := bel_step HB0.out.1 (bel_step HBV.out.2 HV5.out)
    by_cases hlt : j < nb
    · have hjL : j < f.body.length := by have := HN.out; omega
      obtain ⟨s, F, vf', hrun, hinv, hgw, hci⟩ := hG.out
      obtain ⟨bb, bo, hba, hbb, hat⟩ := HR.out.2.2 (fun e => by rw [e] at hjL; simp at hjL)
      have hdr : f.body.drop j = f.body[j] :: f.body.drop (j + 1) := List.drop_eq_getElem_cons hjL
      have hgi := GG.out j hjL
      obtain ⟨h1, h2⟩ := hat j hjL
      obtain ⟨x, hx⟩ : ∃ x, x = f.body[j] := ⟨_, rfl⟩
      rw [hdr, ← hx] at hrun hgw
      rw [← hx] at hgi h1 h2
      obtain ⟨op, a⟩ := x
      simp only at hgi h1 h2
      have hgw2 : ∃ F', fl F op = some F' ∧ goodW F' (ops (f.body.drop (j + 1))) := hgw
      obtain ⟨F', hfl, hgw'⟩ := hgw2
      obtain ⟨b1, r1, f1, T1, hs, hF, _, _⟩ := par_top hinv.par hfl
      have hlow := hinv.fine.low
      rw [hs] at hlow
      have d0 : wr.cell? ⟨bb, bo + j * 2, none⟩ = some (.int .i64 op) := ((hB.out.cell (p := ⟨bb, bo + j * 2, none⟩) (show bb < g by omega)).trans (hw5.cell (p := ⟨bb, bo + j * 2, none⟩) hbb)).trans h1
      have d1 : wr.cell? ⟨bb, bo + j * 2 + 1, none⟩ = some (.int .i64 a) := ((hB.out.cell (p := ⟨bb, bo + j * 2 + 1, none⟩) (show bb < g by omega)).trans (hw5.cell (p := ⟨bb, bo + j * 2 + 1, none⟩) hbb)).trans h2
      have hbA : Below wr.heap.size wr (wr.alloc (.cells #[.int .i64 op, .int .i64 a] 41)) := (Below.refl _ _).alloc (Nat.le_refl _) _
      have hglt := hci.lt
      have hmd : Md (wr.alloc (.cells #[.int .i64 op, .int .i64 a] 41)) g E j (.ok s) := ⟨⟨vf', hci.keep hbA⟩, ⟨⟨b1, r1, hs, hlow.1⟩, hinv.fine.vals⟩, ⟨hinv.nv, by have := hinv.no; omega, by rw [hs]; simp⟩⟩
      have hbB : Below g w5 (wr.alloc (.cells #[.int .i64 op, .int .i64 a] 41)) := hB.out.trans (hbA.mono (Nat.le_of_lt hglt))
      have hVB : Below V.heap.size V (wr.alloc (.cells #[.int .i64 op, .int .i64 a] 41)) := HV5.out.trans (hbB.mono (by have := HG.out; omega))
      have T := insM V g E j (f.ps ++ f.ls) op a s _ hmd HEN hVB hgi hinv.fine.blks (by omega)
      rw [HE.out.1, HE.out.2.1] at T
      have HBB : Hid (Below g w5 (wr.alloc (.cells #[.int .i64 op, .int .i64 a] 41))) := hbB
      have HI : Hid (runS M (f.ps ++ f.ls) f.res 0 f.body (firstS f.res) = runS M (f.ps ++ f.ls) f.res j ((op, a) :: f.body.drop (j + 1)) s ∧ Inv F s j ∧ fl F op = some F' ∧ goodW F' (ops (f.body.drop (j + 1))) ∧ gi op a = true) := ⟨hrun, hinv, hfl, hgw', hgi⟩
      have HW5 : Hid (Below w.heap.size w w5 ∧ w.heap.size ≤ g) := ⟨hw5, hsz⟩
      subst hba
      clear hrun hinv hgw hci hbb hat hdr hgi h1 h2 hx hgw' hfl hs hF hlow hbA hmd hbB hVB hG hjL hglt hw5 hsz
      go_wp2_with fail
      refine T.mono ?_
      rintro e w3 ⟨rfl, hfin, hb3⟩
      have HB3 : Hid (Below g w5 w3) := HBB.out.trans hb3
      clear T hb3 d0 d1 hB
      rcases hr : stepS M (f.ps ++ f.ls) f.res op a s with c | s1
      · rw [hr] at hfin
        obtain ⟨hc0, s', vf2, ⟨vs2, g3, _, _⟩⟩ := hfin
        have HCK : Hid (checkS M f = (c, (j : Int), 0)) := by unfold Hid checkS; rw [HI.out.1]; simp only [runS, hr]
        have h12 : w3.cell? ⟨g, 12, none⟩ = some (.int .i64 c) := (cell_of_block g3 12).trans rfl
        have hcn : (c != 0) = true := by simpa using hc0
        clear hr g3 hc0
        go_wp2
        go_ret3
        exact ⟨by rw [HCK.out]; rfl, HW5.out.1.trans (HB3.out.mono HW5.out.2)⟩
      · rw [hr] at hfin
        obtain ⟨vf2, hci'⟩ := hfin
        have hci2 := hci'
        obtain ⟨vs2, g3, _, _⟩ := hci2
        have h12 : w3.cell? ⟨g, 12, none⟩ = some (.int .i64 0) := (cell_of_block g3 12).trans rfl
        have HG2 : Hid (GoingS M f g E (j + 1) w3) := ⟨s1, F', vf2, by rw [HI.out.1]; simp only [runS, hr], inv_step hr HI.out.2.1 HI.out.2.2.1 HI.out.2.2.2.2 HQ.out.2.2.2, HI.out.2.2.2.1, hci'⟩
        clear hr g3 hci'
        go_wp2
        go_roundw
        case rel => exact ⟨j + 1, by omega, by go_num, HG2, HB3⟩
        case measure => simp [intOf]; omega
    · obtain ⟨s, F, vf', hrun, hinv, hgw, ⟨vs2, g3, _, _⟩⟩ := hG.out
      have hdr : f.body.drop j = [] := List.drop_of_length_le (by have := HN.out; omega)
      rw [hdr] at hrun
      have HCK : Hid (checkS M f = (0, 0, (s.most : Int))) := by unfold Hid checkS; rw [hrun]; rfl
      have hglt := lt_of_block g3
      have k13 : ∀ w', Keeps wr w' → w'.cell? ⟨g, 13, none⟩ = some (.int .i64 (s.most : Int)) := fun w' h => h.cell hglt ((cell_of_block g3 13).trans rfl)
      have HBr : Hid (Below w.heap.size w wr) := hw5.trans (hB.out.mono hsz)
      clear hrun hinv hgw g3 hdr hglt hG hw5 hsz
      go_wp2_with fail
      refine region_q (C := Keeps wr) (by kernel_rfl) (by kernel_rfl) (Keeps.drew wr) ?_
      (iterate 7
    (apply wpQuiet_go _ (by rfl)
     · intro wq hq
       go_simp
       first
         | exact rfl
     simp only [Act.put, List.setIfInBounds_toArray, List.set_cons_succ, List.set_cons_zero]))
      refine wpQuiet_nil ?_
      intro wz hk
      have HBz : Hid (Below w.heap.size w wz) := bel_step HBr.out hk.below
      clear hk k13
      go_wp2
      go_ret3
      exact ⟨by rw [HCK.out]; rfl, HBz.out⟩

theorem checks7 (l : Loc7) (M : Mod7) (w : World) (hM : ModAt w l M) : ∀ n (hn : n < M.fs.length) w', Below w.heap.size w w' → shape M = true → Calls Tryz.prog 17 #[.agg #[.slice l.fa M.fs.length l.fc, .slice l.ga M.gs.length l.gc, .bool M.mem, .int .i64 M.pages, .int .i64 M.most, .int .i64 M.start], .int .i64 (n : Int)] w' fun e w'' => e = .returned (.tuple #[.int .i64 (checkS M M.fs[n]).1, .int .i64 (checkS M M.fs[n]).2.1, .int .i64 (checkS M M.fs[n]).2.2]) ∧ Below w'.heap.size w' w'' :=
  fun n hn w' hb hs => specCheck7 l M n M.fs[n] w' (hM.below hb) hn rfl (shaped_of hs).1 (shaped_of hs).2

end Go.Proofs.YtcgnefgdfgikdaaGreat

namespace Go.Proofs.YtcgnefgdfgikdaaGreat
open Go.ChangeShapes Go.WideShapes Go.ChangeAt Go.RowKit

/-- What the law's own check of a func tells. -/
def Checks (l : Loc7) (M : Mod7) (w : World) : Prop := ∀ n (hn : n < M.fs.length) w', Below w.heap.size w w' → shape M = true → Calls Tryz.prog 17 #[.agg #[.slice l.fa M.fs.length l.fc, .slice l.ga M.gs.length l.gc, .bool M.mem, .int .i64 M.pages, .int .i64 M.most, .int .i64 M.start], .int .i64 (n : Int)] w' fun e w'' => e = .returned (.tuple #[.int .i64 (checkS M M.fs[n]).1, .int .i64 (checkS M M.fs[n]).2.1, .int .i64 (checkS M M.fs[n]).2.2]) ∧ Below w'.heap.size w' w''
theorem w64n7 (n : Nat) (h : n ≤ 400) : wrap64 ((n : Int) - 1) = (n : Int) - 1 := by unfold wrap64; omega

set_option maxRecDepth 100000 in
set_option maxHeartbeats 1600000 in
theorem specCheckFunc (l : Loc7) (M : Mod7) (k : Int) (w : World) (hM : Hid (ModAt w l M)) (hs : Hid (smM M)) (HL : Hid (Checks l M w)) :
    Calls Tryz.prog 6 #[.agg #[.slice l.fa M.fs.length l.fc, .slice l.ga M.gs.length l.gc, .bool M.mem, .int .i64 M.pages, .int .i64 M.most, .int .i64 M.start], .int .i64 k] w fun e w' => e = .returned (.tuple #[.int .i64 (told7 M k).1, .int .i64 (told7 M k).2.1]) ∧ Below w.heap.size w w' := by
  obtain ⟨W, hW⟩ : ∃ W, w.alloc (.cells #[.slice l.fa M.fs.length l.fc, .slice l.ga M.gs.length l.gc, .bool M.mem, .int .i64 M.pages, .int .i64 M.most, .int .i64 M.start] 26) = W := ⟨_, rfl⟩
  obtain ⟨z, hz⟩ : ∃ z, w.heap.size = z := ⟨_, rfl⟩
  have hbW : Below w.heap.size w W := by rw [← hW]; exact (Below.refl _ _).alloc (Nat.le_refl _) _
  have hZ : W.heap[z]? = some (.cells #[.slice l.fa M.fs.length l.fc, .slice l.ga M.gs.length l.gc, .bool M.mem, .int .i64 M.pages, .int .i64 M.most, .int .i64 M.start] 26 (0, 0)) := by rw [← hW, ← hz]; exact heap_alloc_new _ _
  have HW : Hid (w.alloc (.cells #[.slice l.fa M.fs.length l.fc, .slice l.ga M.gs.length l.gc, .bool M.mem, .int .i64 M.pages, .int .i64 M.most, .int .i64 M.start] 26) = W ∧ w.heap.size = z) := ⟨hW, hz⟩
  have HB : Hid (Below w.heap.size w W) := hbW
  have HZ : Hid (W.heap[z]? = some (.cells #[.slice l.fa M.fs.length l.fc, .slice l.ga M.gs.length l.gc, .bool M.mem, .int .i64 M.pages, .int .i64 M.most, .int .i64 M.start] 26 (0, 0))) := hZ
  have T2 := specShapeM l M W (hM.out.below hbW) hs
  obtain ⟨sh, hsh⟩ : ∃ x, shape M = x := ⟨_, rfl⟩
  rw [hsh] at T2
  have HSH : Hid (shape M = sh) := hsh
  clear hW hz hbW hZ hsh
  go_enter Tryz.func6, Tryz.ntmps6
  go_wp2_with fail
  rw [HW.out.2, HW.out.1]
  refine T2.mono ?_
  rintro e w2 ⟨rfl, hb2⟩
  have HB2 : Hid (Below w.heap.size w w2) := bel_step HB.out hb2
  have hz2 := (hb2.block z (lt_of_block HZ.out)).trans HZ.out
  have e0 : w2.cell? ⟨z, 0, none⟩ = some (.slice l.fa M.fs.length l.fc) := (cell_of_block hz2 0).trans rfl
  have e1 : w2.cell? ⟨z, 1, none⟩ = some (.slice l.ga M.gs.length l.gc) := (cell_of_block hz2 1).trans rfl
  have e2 : w2.cell? ⟨z, 2, none⟩ = some (.bool M.mem) := (cell_of_block hz2 2).trans rfl
  have e3 : w2.cell? ⟨z, 3, none⟩ = some (.int .i64 M.pages) := (cell_of_block hz2 3).trans rfl
  have e4 : w2.cell? ⟨z, 4, none⟩ = some (.int .i64 M.most) := (cell_of_block hz2 4).trans rfl
  have e5 : w2.cell? ⟨z, 5, none⟩ = some (.int .i64 M.start) := (cell_of_block hz2 5).trans rfl
  clear T2 hb2 hz2
  cases sh
  · have HR : Hid (told7 M k = (1, 0, 0)) := by
      unfold Hid told7
      rw [if_neg]
      rintro ⟨_, h⟩
      rw [HSH.out] at h; simp at h
    go_wp2
    go_ret2
    exact ⟨by rw [HR.out]; rfl, HB2.out⟩
  · have hnn := (shaped_of HSH.out).1.ns.1
    have hwn := w64n7 M.fs.length (by omega)
    obtain ⟨hb, hhb⟩ : ∃ x, (decide (0 ≤ k) && decide (k ≤ wrap64 ((M.fs.length : Int) - 1))) = x := ⟨_, rfl⟩
    have HI : Hid ((decide (0 ≤ k) && decide (k ≤ wrap64 ((M.fs.length : Int) - 1))) = hb) := hhb
    rw [hwn] at hhb
    have HI2 : Hid ((decide (0 ≤ k) && decide (k ≤ (M.fs.length : Int) - 1)) = hb) := hhb
    clear hnn hwn hhb
    go_wp2_with fail
    refine (in_eq _ _ _ _ (by assumption) _).mono ?_
    rintro e w9 ⟨rfl, hw⟩
    obtain rfl := hw.symm
    cases hb
    · have HR : Hid (told7 M k = (1, 0, 0)) := by
        have h := HI2.out
        unfold Hid told7
        rw [if_neg]
        rintro ⟨⟨h1, h2⟩, _⟩
        simp [h1] at h
        omega
      go_wp2
      go_ret2
      exact ⟨by rw [HR.out]; rfl, HB2.out⟩
    · have hr : (0 ≤ k) ∧ k < (M.fs.length : Int) := by have h := HI2.out; simp at h; omega
      obtain ⟨n, rfl⟩ : ∃ n : Nat, k = n := ⟨k.toNat, by omega⟩
      have hn : n < M.fs.length := by omega
      have HR : Hid (told7 M (n : Int) = checkS M M.fs[n]) := by
        unfold Hid told7
        rw [if_pos ⟨hr, HSH.out⟩, Int.toNat_natCast, List.getElem?_eq_getElem hn]
      have T3 := HL.out n hn w2 HB2.out HSH.out
      obtain ⟨⟨v1, v2, v3⟩, hv⟩ : ∃ v, checkS M M.fs[n] = v := ⟨_, rfl⟩
      rw [hv] at T3 HR
      clear hv hr hn
      go_wp2_with fail
      refine T3.mono ?_
      rintro e w3 ⟨rfl, hb3⟩
      have HB3 : Hid (Below w.heap.size w w3) := bel_step HB2.out hb3
      clear T3 hb3 e0 e1 e2 e3 e4 e5
      go_wp2
      go_ret2
      exact ⟨by rw [HR.out]; rfl, HB3.out⟩

end Go.Proofs.YtcgnefgdfgikdaaGreat

namespace Go.Proofs.YtcgnefgdfgikdaaGreat
open Go.ChangeShapes Go.WideShapes Go.ChangeAt Go.RowKit

set_option maxRecDepth 100000 in
set_option maxHeartbeats 3200000 in
theorem specCheckModule (l : Loc7) (M : Mod7) (w : World) (hM : Hid (ModAt w l M)) (hs : Hid (smM M)) (HL : Hid (Checks l M w)) :
    Calls Tryz.prog 8 #[.agg #[.slice l.fa M.fs.length l.fc, .slice l.ga M.gs.length l.gc, .bool M.mem, .int .i64 M.pages, .int .i64 M.most, .int .i64 M.start]] w fun e w' => e = .returned (.tuple #[.int .i64 (toldM M).1, .int .i64 (toldM M).2.1, .int .i64 (toldM M).2.2]) ∧ Below w.heap.size w w' := by
  obtain ⟨W, hW⟩ : ∃ W, w.alloc (.cells #[.slice l.fa M.fs.length l.fc, .slice l.ga M.gs.length l.gc, .bool M.mem, .int .i64 M.pages, .int .i64 M.most, .int .i64 M.start] 26) = W := ⟨_, rfl⟩
  obtain ⟨z, hz⟩ : ∃ z, w.heap.size = z := ⟨_, rfl⟩
  have hbW : Below w.heap.size w W := by rw [← hW]; exact (Below.refl _ _).alloc (Nat.le_refl _) _
  have hZ : W.heap[z]? = some (.cells #[.slice l.fa M.fs.length l.fc, .slice l.ga M.gs.length l.gc, .bool M.mem, .int .i64 M.pages, .int .i64 M.most, .int .i64 M.start] 26 (0, 0)) := by rw [← hW, ← hz]; exact heap_alloc_new _ _
  have HW : Hid (w.alloc (.cells #[.slice l.fa M.fs.length l.fc, .slice l.ga M.gs.length l.gc, .bool M.mem, .int .i64 M.pages, .int .i64 M.most, .int .i64 M.start] 26) = W ∧ w.heap.size = z) := ⟨hW, hz⟩
  have HB : Hid (Below w.heap.size w W) := hbW
  have HZ : Hid (W.heap[z]? = some (.cells #[.slice l.fa M.fs.length l.fc, .slice l.ga M.gs.length l.gc, .bool M.mem, .int .i64 M.pages, .int .i64 M.most, .int .i64 M.start] 26 (0, 0))) := hZ
  have T2 := specShapeM l M W (hM.out.below hbW) hs
  obtain ⟨sh, hsh⟩ : ∃ x, shape M = x := ⟨_, rfl⟩
  rw [hsh] at T2
  have HSH : Hid (shape M = sh) := hsh
  clear hW hz hbW hZ hsh
  go_enter Tryz.func8, Tryz.ntmps8
  go_wp2_with fail
  rw [HW.out.2, HW.out.1]
  refine T2.mono ?_
  rintro e w2 ⟨rfl, hb2⟩
  have HB2 : Hid (Below w.heap.size w w2) := bel_step HB.out hb2
  have hz2 := (hb2.block z (lt_of_block HZ.out)).trans HZ.out
  have HZ2 : Hid (w2.heap[z]? = some (.cells #[.slice l.fa M.fs.length l.fc, .slice l.ga M.gs.length l.gc, .bool M.mem, .int .i64 M.pages, .int .i64 M.most, .int .i64 M.start] 26 (0, 0))) := hz2
  have e0 : w2.cell? ⟨z, 0, none⟩ = some (.slice l.fa M.fs.length l.fc) := (cell_of_block hz2 0).trans rfl
  clear T2 hb2 hz2
  cases sh
  · have HR : Hid (toldM M = (1, 0, 0)) := by unfold Hid toldM; rw [HSH.out]; rfl
    go_wp2
    go_ret3
    exact ⟨by rw [HR.out]; rfl, HB2.out⟩
  · have HR : Hid (toldM M = firstBad M 0 M.fs) := by unfold Hid toldM; rw [HSH.out]; rfl
    have HSP : Hid (Shaped M) := (shaped_of HSH.out).1
    obtain ⟨n, hn⟩ : ∃ n, M.fs.length = n := ⟨_, rfl⟩
    have HN : Hid (M.fs.length = n ∧ n ≤ 20) := ⟨hn, by have := HSP.out.ns.1; omega⟩
    rw [hn] at e0 ⊢
    clear hn
    go_wp2
    clear e0
    go_loopw [15] (fun i wr => ∃ j : Nat, j ≤ n ∧ i = .int .i64 (j : Int) ∧ Hid (firstBad M 0 M.fs = firstBad M j (M.fs.drop j)) ∧ Hid (Below w2.heap.size w2 wr)) (fun i _ => n - (intOf i).toNat)
    case atStart => exact ⟨0, by omega, rfl, rfl, Below.refl _ _⟩
    case round =>
      obtain ⟨j, hj, rfl, hG, hB⟩ := hrel
      by_cases hlt : j < n
      · have hjL : j < M.fs.length := by have := HN.out.1; omega
        have hdr : M.fs.drop j = M.fs[j] :: M.fs.drop (j + 1) := List.drop_eq_getElem_cons hjL
        have hzr := (hB.out.block z (lt_of_block HZ2.out)).trans HZ2.out
        have d0 : wr.cell? ⟨z, 0, none⟩ = some (.slice l.fa n l.fc) := by rw [cell_of_block hzr, ← HN.out.1]; rfl
        have d1 : wr.cell? ⟨z, 1, none⟩ = some (.slice l.ga M.gs.length l.gc) := (cell_of_block hzr 1).trans rfl
        have d2 : wr.cell? ⟨z, 2, none⟩ = some (.bool M.mem) := (cell_of_block hzr 2).trans rfl
        have d3 : wr.cell? ⟨z, 3, none⟩ = some (.int .i64 M.pages) := (cell_of_block hzr 3).trans rfl
        have d4 : wr.cell? ⟨z, 4, none⟩ = some (.int .i64 M.most) := (cell_of_block hzr 4).trans rfl
        have d5 : wr.cell? ⟨z, 5, none⟩ = some (.int .i64 M.start) := (cell_of_block hzr 5).trans rfl
        have T3 := HL.out j hjL wr (bel_step HB2.out hB.out) HSH.out
        rw [HN.out.1] at T3
        have hst := hG.out
        rw [hdr] at hst
        obtain ⟨⟨v1, v2, v3⟩, hv⟩ : ∃ v, checkS M M.fs[j] = v := ⟨_, rfl⟩
        rw [hv] at T3
        have HST : Hid (firstBad M 0 M.fs = if v1 = 0 then firstBad M (j + 1) (M.fs.drop (j + 1)) else (v1, (j : Int), v2)) := by unfold Hid; rw [hst, firstBad_cons, hv]
        have HLT : Hid (j < n) := hlt
        clear hst hv hdr hjL hzr hG
        go_wp2_with fail
        refine T3.mono ?_
        rintro e w3 ⟨rfl, hb3⟩
        have HB3 : Hid (Below w2.heap.size w2 w3) := bel_step hB.out hb3
        clear T3 hb3 d0 d1 d2 d3 d4 d5
        by_cases h0 : v1 = 0
        · subst h0
          have HST2 : Hid (firstBad M 0 M.fs = firstBad M (j + 1) (M.fs.drop (j + 1))) := by unfold Hid; rw [HST.out, if_pos rfl]
          have HB4 := HB3
          have HWP : Hid (wrap64 ((j : Int) + 1) = (j : Int) + 1) := w64q7 j (by have := HLT.out; have := HN.out.2; omega)
          go_wp2
          rw [HWP.out]
          go_roundw
          case rel => exact ⟨j + 1, by have := HLT.out; omega, by go_num, HST2, HB4⟩
          case measure => have := HLT.out; simp [intOf]; omega
        · have h0b : (v1 != 0) = true := by simpa using h0
          have h0c : (v1 == 0) = false := by simpa using h0
          have HST2 : Hid (firstBad M 0 M.fs = (v1, (j : Int), v2)) := by unfold Hid; rw [HST.out, if_neg h0]
          have HBz : Hid (Below w.heap.size w w3) := bel_step HB2.out HB3.out
          clear h0
          go_wp2
          go_ret3
          exact ⟨by rw [HR.out, HST2.out]; rfl, HBz.out⟩
      · have hdr : M.fs.drop j = [] := List.drop_of_length_le (by have := HN.out.1; omega)
        have HST2 : Hid (firstBad M 0 M.fs = (0, 0, 0)) := by unfold Hid; rw [hG.out, hdr]; rfl
        have HBz : Hid (Below w.heap.size w wr) := bel_step HB2.out hB.out
        clear hdr hG
        go_wp2
        go_ret3
        exact ⟨by rw [HR.out, HST2.out]; rfl, HBz.out⟩

end Go.Proofs.YtcgnefgdfgikdaaGreat
