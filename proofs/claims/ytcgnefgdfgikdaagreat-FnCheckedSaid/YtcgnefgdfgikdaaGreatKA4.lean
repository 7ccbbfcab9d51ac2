/-
  What an instruction takes and puts: the program's side, globals; what must be there.
-/
import Derived.Test.YtcgnefgdfgikdaaGreatKA3
import Derived.Test.YtcgnefgdfgikdaaGreatKA1
namespace Go.Proofs.YtcgnefgdfgikdaaGreat
open Go.ChangeShapes Go.WideShapes Go.ChangeAt Go.RowKit

theorem eff_blk (w : World) (o : Obj) : ((w.alloc o).alloc (.cells #[.slice none 0 0, .int .i64 0] 95)).heap[w.heap.size + 1]? = some (.cells #[.slice none 0 0, .int .i64 0] 95 (0, 0)) := by
  have h := heap_alloc_new (w.alloc o) (.cells #[.slice none 0 0, .int .i64 0] 95)
  simpa using h
def EffR (w : World) (r : Except Int (List Int × Int)) (e : Ending) (w' : World) : Prop :=
  match r with
  | .ok x => EffO w x e w'
  | .error c => e = .panicked (faultV c) ∧ Below w.heap.size w w'

set_option maxRecDepth 100000 in
set_option maxHeartbeats 800000 in
theorem must_yes (a n : Int) (h : a < n) (w : World) : Calls Tryz.prog 72 #[.int .i64 a, .int .i64 n] w fun e w' => e = .returned (.tuple #[]) ∧ w' = w := by
  have h1 : ¬ n ≤ a := by omega
  go_enter Tryz.func72, Tryz.ntmps72
  go_wp2
  go_end0
  exact ⟨rfl, rfl⟩

set_option maxRecDepth 100000 in
set_option maxHeartbeats 800000 in
theorem must_no (a n : Int) (h : ¬ a < n) (w : World) : Calls Tryz.prog 72 #[.int .i64 a, .int .i64 n] w fun e w' => e = .panicked (faultV 5) ∧ w' = w := by
  have h1 : n ≤ a := by omega
  clear h
  go_enter Tryz.func72, Tryz.ntmps72
  go_wp2
  exact ⟨rfl, rfl, rfl⟩

set_option maxRecDepth 100000 in
set_option maxHeartbeats 1600000 in
theorem globEffI (op : Int) (g : Glo7) (h : op = 35 ∨ op = 36) (w : World) : Calls Tryz.prog 75 #[.int .i64 op, .agg #[.int .i64 g.ty, .bool g.fixed, .int .u64 g.bits]] w fun e w' => EffR w (if op = 36 ∧ g.fixed = true then .error 7 else .ok (varEff op g.ty)) e w' := by
  obtain ⟨ty, fx, bits⟩ := g
  simp only
  have V := varEffI op ty (by rcases h with rfl | rfl <;> simp)
  by_cases hb : op = 36 ∧ fx = true
  · rw [if_pos hb]
    obtain ⟨rfl, rfl⟩ := hb
    clear V h
    go_enter Tryz.func75, Tryz.ntmps75
    go_wp2
    exact ⟨rfl, rfl, bel_new _ _ _⟩
  · rw [if_neg hb]
    have hc : (op == 36) = false ∨ (op = 36 ∧ fx = false) := by
      rcases h with rfl | rfl
      · left; rfl
      · right; exact ⟨rfl, by cases fx; rfl; exact absurd ⟨rfl, rfl⟩ hb⟩
    clear h hb
    obtain ⟨q, hq⟩ : ∃ q, varEff op ty = q := ⟨_, rfl⟩
    rw [hq] at V ⊢
    clear hq
    rcases hc with hc | ⟨rfl, rfl⟩
    all_goals
      go_enter Tryz.func75, Tryz.ntmps75
      go_wp2_with fail
      refine (V _).mono ?_
      rintro e w1 ⟨a, cap, rfl, hi, hb, hoo⟩
      have hx := (hb.block (w.heap.size + 1) (by simp)).trans (eff_blk w _)
      have x0 : w1.cell? ⟨w.heap.size + 1, 0, none⟩ = some (.slice none 0 0) := (cell_of_block hx 0).trans rfl
      have x1 : w1.cell? ⟨w.heap.size + 1, 1, none⟩ = some (.int .i64 0) := (cell_of_block hx 1).trans rfl
      have f0 := free_of_block hx 0
      have f1 := free_of_block hx 1
      have ho1 := hoo (w.heap.size + 1) (by simp)
      have HI : Hid (Ints w1 a q.1) := hi
      have HB : Hid (Below w.heap.size w w1) := bel_step (bel_new _ _ _) hb
      clear V hx hi hb
      go_wp2
      exact bodyPost_ret (v := .agg #[.slice a q.1.length cap, .int .i64 q.2]) (by simp [results, Tryz.results75, go_sem, x0, x1]) rfl ⟨a, cap, rfl, (HI.out.set ho1 _ _).set ho1 _ _, (HB.out.setCell (show w.heap.size ≤ w.heap.size + 1 by omega) _).setCell (show w.heap.size ≤ w.heap.size + 1 by omega) _, fun m hm => hoo m (by simp; omega)⟩

/-- What a check leans on: the module's rows and its own types lie below it. -/
structure EnvOk (V : World) (g : Nat) (E : EnvI) (own : List Int) : Prop where
  hm : ModAt V E.l E.M
  ho : ∃ oa oc, E.own = .slice oa own.length oc ∧ Ints V oa own
  hg : V.heap.size ≤ g
  ps : ∀ f ∈ E.M.fs, f.ps.length ≤ 20
  ns : E.M.fs.length ≤ 20 ∧ E.M.gs.length ≤ 20 ∧ own.length ≤ 40

/-- The world in which an effect is reckoned: the instruction's box, the answer's cells. -/
structure EffAt (w W : World) (z : Nat) (op a : Int) : Prop where
  hx : W.heap[z]? = some (.cells #[.int .i64 op, .int .i64 a] 41 (0, 0))
  hy : W.heap[z + 1]? = some (.cells #[.slice none 0 0, .int .i64 0] 95 (0, 0))
  hb : Below w.heap.size w W
  hz : w.heap.size = z
theorem effAt_new (w : World) (op a : Int) : EffAt w ((w.alloc (.cells #[.int .i64 op, .int .i64 a] 41)).alloc (.cells #[.slice none 0 0, .int .i64 0] 95)) w.heap.size op a :=
  ⟨(Below.heap_alloc _ _ _ (by simp)).trans (heap_alloc_new _ _), by have h := heap_alloc_new (w.alloc (.cells #[.int .i64 op, .int .i64 a] 41)) (.cells #[.slice none 0 0, .int .i64 0] 95); simpa using h, bel_new _ _ _, rfl⟩
theorem EffAt.keep {w W W' : World} {z : Nat} {op a : Int} (h : EffAt w W z op a) (hb : Below W.heap.size W W') : EffAt w W' z op a :=
  ⟨(hb.block _ (lt_of_block h.hx)).trans h.hx, (hb.block _ (lt_of_block h.hy)).trans h.hy, bel_step h.hb hb, h.hz⟩
/-- An effect that is told on, behind two blocks. -/
theorem effo_two {w w1 : World} {z : Nat} {x : List Int × Int} {a : Option Addr} {cap : Nat} (hi : Ints w1 a x.1) (hb : Below w.heap.size w w1) (hz : w.heap.size = z) (ho : ∀ m, m < z + 2 → Off m a) (v0 v1 : Value) :
    EffO w x (.returned (.agg #[.slice a x.1.length cap, .int .i64 x.2])) ((w1.setCell ⟨z + 1, 0, none⟩ v0).setCell ⟨z + 1, 1, none⟩ v1) := by
  have h1 := ho (z + 1) (by omega)
  exact ⟨a, cap, rfl, (hi.set h1 _ _).set h1 _ _, (hb.setCell (show w.heap.size ≤ z + 1 by omega) _).setCell (show w.heap.size ≤ z + 1 by omega) _, fun m hm => ho m (by omega)⟩

set_option maxRecDepth 100000 in
set_option maxHeartbeats 1600000 in
theorem eff_brif (g : Nat) (E : EnvI) (at_ : Int) (s : St) (own : List Int) (a : Nat) (vf : Value) (w : World) (h : CI w g E at_ s vf) (hne : s.opn ≠ []) (hl : Lim s) (hsp : ∀ (j : Nat) b, s.opn[j]? = some b → b.split = true → b.op = 4) :
    Calls Tryz.prog 53 #[.pointer (some ⟨g, 0, none⟩), .agg #[.int .i64 13, .int .i64 (a : Int)]] w fun e w' => EffR w (effS E.M own 13 (a : Int) s) e w' := by
  have W0 := effAt_new w 13 (a : Int)
  obtain ⟨W, hW⟩ : ∃ W, (w.alloc (.cells #[.int .i64 13, .int .i64 (a : Int)] 41)).alloc (.cells #[.slice none 0 0, .int .i64 0] 95) = W := ⟨_, rfl⟩
  obtain ⟨z, hz⟩ : ∃ z, w.heap.size = z := ⟨_, rfl⟩
  rw [hW, hz] at W0
  have T := wantedI g E at_ s a vf W (h.keep W0.hb) hne hl hsp
  have HW : Hid ((w.alloc (.cells #[.int .i64 13, .int .i64 (a : Int)] 41)).alloc (.cells #[.slice none 0 0, .int .i64 0] 95) = W ∧ w.heap.size = z) := ⟨hW, hz⟩
  have HE : Hid (EffAt w W z 13 (a : Int)) := W0
  have HS : Hid (effS E.M own 13 (a : Int) s = (wantsS (a : Int) s).map fun k => ([127, k], k)) := rfl
  clear W0 hW hz h hne hl hsp
  go_enter Tryz.func53, Tryz.ntmps53
  go_wp2_with fail
  rw [HW.out.2, HW.out.1]
  refine T.mono ?_
  rintro e w1 ⟨hb1, ho⟩
  rcases hr : wantsS (a : Int) s with c | k
  · rw [hr] at ho
    have HR : Hid (effS E.M own 13 (a : Int) s = .error c) := by unfold Hid; rw [HS.out, hr]; rfl
    have HB : Hid (Below w.heap.size w w1) := bel_step HE.out.hb hb1
    subst ho
    clear hr T hb1
    first
      | exact ⟨rfl, by rw [HR.out]; exact ⟨rfl, HB.out⟩⟩
      | (go_wp2; exact ⟨rfl, by rw [HR.out]; exact ⟨rfl, HB.out⟩⟩)
  · rw [hr] at ho
    have HR : Hid (effS E.M own 13 (a : Int) s = .ok ([127, k], k)) := by unfold Hid; rw [HS.out, hr]; rfl
    subst ho
    have H1 := HE.out.keep hb1
    have y0 : w1.cell? ⟨z + 1, 0, none⟩ = some (.slice none 0 0) := (cell_of_block H1.hy 0).trans rfl
    have y1 : w1.cell? ⟨z + 1, 1, none⟩ = some (.int .i64 0) := (cell_of_block H1.hy 1).trans rfl
    have f0 := free_of_block H1.hy 0
    have f1 := free_of_block H1.hy 1
    have hlt := lt_of_block H1.hy
    have H2 : Hid (EffAt w w1 z 13 (a : Int)) := H1
    clear hr T hb1 H1
    go_wp2
    refine bodyPost_ret (v := .agg #[.slice (some ⟨w1.heap.size, 0, none⟩) 2 2, .int .i64 k]) (by simp [results, Tryz.results53, go_sem, y0, y1, hlt]) rfl ?_
    rw [HR.out]
    have hle : w.heap.size ≤ z + 1 := by have := H2.out.hz; omega
    refine ⟨some ⟨w1.heap.size, 0, none⟩, 2, rfl, fun _ => ⟨w1.heap.size, 0, rfl, by simp, fun i hi => ?_⟩, bel_alloc ((H2.out.hb.setCell (show w.heap.size ≤ z + 1 from hle) _).setCell (show w.heap.size ≤ z + 1 from hle) _) _, fun m hm b off hh => ?_⟩
    · have h := row_new' ((w1.setCell ⟨z + 1, 0, none⟩ (.slice (some ⟨w1.heap.size, 0, none⟩) 2 2)).setCell ⟨z + 1, 1, none⟩ (.int .i64 k)) #[.int .i64 127, .int .i64 k] 3 w1.heap.size (by simp) i (.int .i64 [127, k][i]) (by
        match i, hi with
        | 0, _ => rfl
        | 1, _ => rfl)
      rw [Addr.add_lit] at h
      exact h
    · simp at hh
      have := H2.out.hb.size
      omega

end Go.Proofs.YtcgnefgdfgikdaaGreat

namespace Go.Proofs.YtcgnefgdfgikdaaGreat
open Go.ChangeShapes Go.WideShapes Go.ChangeAt Go.RowKit

set_option maxRecDepth 100000 in
set_option maxHeartbeats 1600000 in
theorem eff_call (V : World) (g : Nat) (E : EnvI) (at_ : Int) (s : St) (own : List Int) (a : Nat) (vf : Value) (w : World) (h : CI w g E at_ s vf) (hV : EnvOk V g E own) (hb : Below V.heap.size V w) :
    Calls Tryz.prog 53 #[.pointer (some ⟨g, 0, none⟩), .agg #[.int .i64 16, .int .i64 (a : Int)]] w fun e w' => EffR w (effS E.M own 16 (a : Int) s) e w' := by
  have W0 := effAt_new w 16 (a : Int)
  obtain ⟨W, hW⟩ : ∃ W, (w.alloc (.cells #[.int .i64 16, .int .i64 (a : Int)] 41)).alloc (.cells #[.slice none 0 0, .int .i64 0] 95) = W := ⟨_, rfl⟩
  obtain ⟨z, hz⟩ : ∃ z, w.heap.size = z := ⟨_, rfl⟩
  rw [hW, hz] at W0
  have HW : Hid ((w.alloc (.cells #[.int .i64 16, .int .i64 (a : Int)] 41)).alloc (.cells #[.slice none 0 0, .int .i64 0] 95) = W ∧ w.heap.size = z) := ⟨hW, hz⟩
  have HE : Hid (EffAt w W z 16 (a : Int)) := W0
  obtain ⟨⟨vs, h0, _, _⟩, _⟩ := h.keep W0.hb
  have hlt := lt_of_block h0
  have hltz := lt_of_block W0.hx
  have x0 : W.cell? ⟨z, 0, none⟩ = some (.int .i64 16) := (cell_of_block W0.hx 0).trans rfl
  have x1 : W.cell? ⟨z, 1, none⟩ = some (.int .i64 (a : Int)) := (cell_of_block W0.hx 1).trans rfl
  have kx0 : ∀ w', Keeps W w' → w'.cell? ⟨z, 0, none⟩ = some (.int .i64 16) := fun w' h => h.cell hltz x0
  have kx1 : ∀ w', Keeps W w' → w'.cell? ⟨z, 1, none⟩ = some (.int .i64 (a : Int)) := fun w' h => h.cell hltz x1
  have HS : Hid (effS E.M own 16 (a : Int) s = match E.M.fs[a]? with | none => .error 5 | some f => .ok (f.ps.reverse, f.res)) := rfl
  obtain ⟨n, hn⟩ : ∃ n, E.M.fs.length = n := ⟨_, rfl⟩
  have c0 : W.cell? ⟨g, 0, none⟩ = some (.slice E.l.fa n E.l.fc) := by rw [cell_of_block h0, ← hn]; rfl
  have k0 : ∀ w', Keeps W w' → w'.cell? ⟨g, 0, none⟩ = some (.slice E.l.fa n E.l.fc) := fun w' h => h.cell hlt c0
  have HVW : Hid (Below V.heap.size V W) := bel_step hb W0.hb
  have HN : Hid (E.M.fs.length = n) := hn
  have HV : Hid (EnvOk V g E own) := hV
  obtain ⟨fa, hfa⟩ : ∃ x, E.l.fa = x := ⟨_, rfl⟩
  obtain ⟨fc, hfc⟩ : ∃ x, E.l.fc = x := ⟨_, rfl⟩
  rw [hfa, hfc] at k0
  have HFA : Hid (E.l.fa = fa) := hfa
  by_cases ha : a < n
  · have haL : a < E.M.fs.length := by omega
    have hF := (hV.hm.below HVW.out).1
    rw [hfa] at hF
    obtain ⟨b, off, rfl, hbW, pa, pc, la, lc, ba, bc, d0, d1, d2, d3, hrow⟩ := hF.at a haL
    have hps := hV.ps E.M.fs[a] (List.getElem_mem _)
    have HR : Hid (effS E.M own 16 (a : Int) s = .ok (E.M.fs[a].ps.reverse, E.M.fs[a].res)) := by unfold Hid; rw [HS.out, List.getElem?_eq_getElem haL]
    obtain ⟨f, hf⟩ : ∃ f, E.M.fs[a] = f := ⟨_, rfl⟩
    rw [hf] at d0 d1 d2 d3 hrow hps HR
    have j0 : ∀ w', Keeps W w' → w'.cell? ⟨b, off + a * 4, none⟩ = some _ := fun w' h => h.cell hbW d0
    have j1 : ∀ w', Keeps W w' → w'.cell? ⟨b, off + a * 4 + 1, none⟩ = some _ := fun w' h => h.cell hbW d1
    have j2 : ∀ w', Keeps W w' → w'.cell? ⟨b, off + a * 4 + 2, none⟩ = some _ := fun w' h => h.cell hbW d2
    have j3 : ∀ w', Keeps W w' → w'.cell? ⟨b, off + a * 4 + 3, none⟩ = some _ := fun w' h => h.cell hbW d3
    have han : (a : Int) < (n : Int) := by omega
    have C : Hid (∀ w', Below W.heap.size W w' → Calls Tryz.prog 73 #[.agg #[.slice pa f.ps.length pc, .int .i64 f.res, .slice la f.ls.length lc, .slice ba f.body.length bc]] w' fun e w'' => EffO w' (f.ps.reverse, f.res) e w'') := fun w' hb => callEffI pa la ba pc lc bc f w' (hrow.out.below hb) hps
    clear h hV hb W0 hW hz hn h0 hlt hltz x0 x1 c0 hfa hfc hF d0 d1 d2 d3 hrow hps hf hbW haL ha HS HV
    go_enter Tryz.func53, Tryz.ntmps53
    go_wp2_with fail
    rw [HW.out.2, HW.out.1]
    refine region_qtail (C := Keeps W) 8 (by kernel_rfl) (by kernel_rfl) (Keeps.drew W) ?_
    (iterate 8
    (apply wpQuiet_go _ (by rfl)
     · intro wq hq
       go_simp
       first
         | exact rfl
     simp only [Act.put, List.setIfInBounds_toArray, List.set_cons_succ, List.set_cons_zero]))
    refine wpQuiet_nil ?_
    intro W1 hk
    obtain ⟨n0, hn0⟩ : ∃ x : Nat, x = x ∧ True := ⟨0, rfl, trivial⟩
    clear hn0 n0
    have M := must_yes (a : Int) (n : Int) han W1
    have hk1 : Keeps W1 W1.drew := Keeps.drew W1
    have HK1 : Hid (Keeps W W1) := hk
    have kk : ∀ w', Keeps W1 w' → Keeps W w' := fun w' h => ⟨bel_step hk.below h.below⟩
    have k0' : ∀ w', Keeps W1 w' → w'.cell? ⟨g, 0, none⟩ = some (.slice (some ⟨b, off, none⟩) n fc) := fun w' h => k0 w' (kk w' h)
    have x1' : ∀ w', Keeps W1 w' → w'.cell? ⟨z, 1, none⟩ = some (.int .i64 (a : Int)) := fun w' h => kx1 w' (kk w' h)
    have j0' : ∀ w', Keeps W1 w' → w'.cell? ⟨b, off + a * 4, none⟩ = some (.slice pa f.ps.length pc) := fun w' h => j0 w' (kk w' h)
    have j1' : ∀ w', Keeps W1 w' → w'.cell? ⟨b, off + a * 4 + 1, none⟩ = some (.int .i64 f.res) := fun w' h => j1 w' (kk w' h)
    have j2' : ∀ w', Keeps W1 w' → w'.cell? ⟨b, off + a * 4 + 2, none⟩ = some (.slice la f.ls.length lc) := fun w' h => j2 w' (kk w' h)
    have j3' : ∀ w', Keeps W1 w' → w'.cell? ⟨b, off + a * 4 + 3, none⟩ = some (.slice ba f.body.length bc) := fun w' h => j3 w' (kk w' h)
    clear hk hk1 kk k0 kx0 kx1 j0 j1 j2 j3
    go_wp2_with (go_at_call 72; refine M.mono ?_; rintro e w2 ⟨rfl, hw⟩; obtain rfl := hw.symm; clear M)
    refine region_qtail (C := Keeps W1) 9 (by kernel_rfl) (by kernel_rfl) (Keeps.drew W1) ?_
    (iterate 9
    (apply wpQuiet_go _ (by rfl)
     · intro wq hq
       go_simp
       first
         | exact rfl
     simp only [Act.put, List.setIfInBounds_toArray, List.set_cons_succ, List.set_cons_zero]))
    refine wpQuiet_nil ?_
    intro W2 hk
    have HB2 : Hid (Below W.heap.size W W2) := bel_step HK1.out.below hk.below
    have H2 : Hid (EffAt w W2 z 16 (a : Int)) := HE.out.keep HB2.out
    have C2 := C.out W2 HB2.out
    clear hk k0' x1' j0' j1' j2' j3' C
    go_wp2_with fail
    refine C2.mono ?_
    rintro e w5 ⟨a', cap', rfl, hi, hb5, hoo⟩
    have H5 := H2.out.keep hb5
    have y0 : w5.cell? ⟨z + 1, 0, none⟩ = some (.slice none 0 0) := (cell_of_block H5.hy 0).trans rfl
    have y1 : w5.cell? ⟨z + 1, 1, none⟩ = some (.int .i64 0) := (cell_of_block H5.hy 1).trans rfl
    have f0 := free_of_block H5.hy 0
    have f1 := free_of_block H5.hy 1
    have HI : Hid (Ints w5 a' (f.ps.reverse)) := hi
    have HB5 : Hid (Below w.heap.size w w5 ∧ w.heap.size = z) := ⟨H5.hb, H5.hz⟩
    have hl2 := lt_of_block H2.out.hy
    clear C2 hi hb5 H5
    go_wp2
    refine bodyPost_ret (v := .agg #[.slice a' f.ps.reverse.length cap', .int .i64 f.res]) (by simp [results, Tryz.results53, go_sem, y0, y1]) rfl ?_
    rw [HR.out]
    exact effo_two (x := (f.ps.reverse, f.res)) HI.out HB5.out.1 HB5.out.2 (fun m hm => hoo m (by omega)) _ _
  · have HR : Hid (effS E.M own 16 (a : Int) s = .error 5) := by unfold Hid; rw [HS.out, List.getElem?_eq_none (by omega)]
    have han : ¬ (a : Int) < (n : Int) := by omega
    clear h hV hb W0 hW hz hn h0 hlt hltz x0 x1 c0 hfa hfc ha HS HV
    go_enter Tryz.func53, Tryz.ntmps53
    go_wp2_with fail
    rw [HW.out.2, HW.out.1]
    refine region_qtail (C := Keeps W) 8 (by kernel_rfl) (by kernel_rfl) (Keeps.drew W) ?_
    (iterate 8
    (apply wpQuiet_go _ (by rfl)
     · intro wq hq
       go_simp
       first
         | exact rfl
     simp only [Act.put, List.setIfInBounds_toArray, List.set_cons_succ, List.set_cons_zero]))
    refine wpQuiet_nil ?_
    intro W1 hk
    have M := must_no (a : Int) (n : Int) (by omega) W1
    have HB : Hid (Below w.heap.size w W1) := bel_step HE.out.hb hk.below
    clear hk k0 kx0 kx1
    go_wp2_with (go_at_call 72; refine M.mono ?_; rintro e w2 ⟨rfl, hw⟩; obtain rfl := hw.symm; clear M)
    first
      | exact ⟨rfl, by rw [HR.out]; exact ⟨rfl, HB.out⟩⟩
      | (go_wp2; exact ⟨rfl, by rw [HR.out]; exact ⟨rfl, HB.out⟩⟩)

set_option maxRecDepth 100000 in
set_option maxHeartbeats 3200000 in
theorem eff_var (V : World) (g : Nat) (E : EnvI) (at_ : Int) (s : St) (own : List Int) (a : Nat) (vf : Value) (w : World) (h : CI w g E at_ s vf) (hV : EnvOk V g E own) (hb : Below V.heap.size V w) (op : Int) (hop : op = 32 ∨ op = 33 ∨ op = 34) :
    Calls Tryz.prog 53 #[.pointer (some ⟨g, 0, none⟩), .agg #[.int .i64 op, .int .i64 (a : Int)]] w fun e w' => EffR w (effS E.M own op (a : Int) s) e w' := by
  have W0 := effAt_new w op (a : Int)
  obtain ⟨W, hW⟩ : ∃ W, (w.alloc (.cells #[.int .i64 op, .int .i64 (a : Int)] 41)).alloc (.cells #[.slice none 0 0, .int .i64 0] 95) = W := ⟨_, rfl⟩
  obtain ⟨z, hz⟩ : ∃ z, w.heap.size = z := ⟨_, rfl⟩
  rw [hW, hz] at W0
  have HW : Hid ((w.alloc (.cells #[.int .i64 op, .int .i64 (a : Int)] 41)).alloc (.cells #[.slice none 0 0, .int .i64 0] 95) = W ∧ w.heap.size = z) := ⟨hW, hz⟩
  have HE : Hid (EffAt w W z op (a : Int)) := W0
  obtain ⟨⟨vs, h0, _, _⟩, _⟩ := h.keep W0.hb
  have hlt := lt_of_block h0
  have hltz := lt_of_block W0.hx
  have x0 : W.cell? ⟨z, 0, none⟩ = some (.int .i64 op) := (cell_of_block W0.hx 0).trans rfl
  have x1 : W.cell? ⟨z, 1, none⟩ = some (.int .i64 (a : Int)) := (cell_of_block W0.hx 1).trans rfl
  have kx0 : ∀ w', Keeps W w' → w'.cell? ⟨z, 0, none⟩ = some (.int .i64 op) := fun w' h => h.cell hltz x0
  have kx1 : ∀ w', Keeps W w' → w'.cell? ⟨z, 1, none⟩ = some (.int .i64 (a : Int)) := fun w' h => h.cell hltz x1
  have HS : Hid (effS E.M own op (a : Int) s = match own[a]? with | none => .error 5 | some t => .ok (varEff op t)) := by unfold Hid; rcases hop with rfl | rfl | rfl <;> rfl
  obtain ⟨oa, oc, hown, hI⟩ := hV.ho
  obtain ⟨n, hn⟩ : ∃ n, own.length = n := ⟨_, rfl⟩
  rw [hn] at hown
  have c0 : W.cell? ⟨g, 6, none⟩ = some (.slice oa n oc) := by rw [cell_of_block h0, ← hown]; rfl
  have k0 : ∀ w', Keeps W w' → w'.cell? ⟨g, 6, none⟩ = some (.slice oa n oc) := fun w' h => h.cell hlt c0
  have HVW : Hid (Below V.heap.size V W) := bel_step hb W0.hb
  by_cases ha : a < n
  · have haL : a < own.length := by omega
    obtain ⟨b, off, rfl, hbW, d0⟩ := (hI.below HVW.out).at a haL
    obtain ⟨t, ht⟩ : ∃ t, own[a] = t := ⟨_, rfl⟩
    rw [ht] at d0
    obtain ⟨q, hq⟩ : ∃ q, varEff op t = q := ⟨_, rfl⟩
    have HR : Hid (effS E.M own op (a : Int) s = .ok q) := by unfold Hid; rw [HS.out, List.getElem?_eq_getElem haL, ht, ← hq]
    have j0 : ∀ w', Keeps W w' → w'.cell? ⟨b, off + a, none⟩ = some (.int .i64 t) := fun w' h => h.cell hbW d0
    have C := varEffI op t (by omega)
    rw [hq] at C
    have han : (a : Int) < (n : Int) := by omega
    clear h hV hb W0 hW hz hn h0 hlt hltz x0 x1 c0 hown hI d0 ht hq hbW haL ha HS
    obtain ⟨OP, hOP⟩ : ∃ x : Int, x = op := ⟨_, rfl⟩
    have HOP : Hid (OP = op) := hOP
    clear hOP
    rcases hop with rfl | rfl | rfl
    all_goals
      go_enter Tryz.func53, Tryz.ntmps53
      go_wp2_with fail
      rw [HW.out.2, HW.out.1]
      refine region_qtail (C := Keeps W) 7 (by kernel_rfl) (by kernel_rfl) (Keeps.drew W) ?_
      (iterate 7
    (apply wpQuiet_go _ (by rfl)
     · intro wq hq
       go_simp
       first
         | exact rfl
     simp only [Act.put, List.setIfInBounds_toArray, List.set_cons_succ, List.set_cons_zero]))
      refine wpQuiet_nil ?_
      intro W1 hk
      have M := must_yes (a : Int) (n : Int) han W1
      have HK1 : Hid (Keeps W W1) := hk
      have kk : ∀ w', Keeps W1 w' → Keeps W w' := fun w' h => ⟨bel_step hk.below h.below⟩
      have k0' : ∀ w', Keeps W1 w' → w'.cell? ⟨g, 6, none⟩ = some (.slice (some ⟨b, off, none⟩) n oc) := fun w' h => k0 w' (kk w' h)
      have x0' : ∀ w', Keeps W1 w' → w'.cell? ⟨z, 0, none⟩ = some (.int .i64 _) := fun w' h => kx0 w' (kk w' h)
      have x1' : ∀ w', Keeps W1 w' → w'.cell? ⟨z, 1, none⟩ = some (.int .i64 (a : Int)) := fun w' h => kx1 w' (kk w' h)
      have j0' : ∀ w', Keeps W1 w' → w'.cell? ⟨b, off + a, none⟩ = some (.int .i64 t) := fun w' h => j0 w' (kk w' h)
      clear hk kk k0 kx0 kx1 j0
      go_wp2_with (go_at_call 72; refine M.mono ?_; rintro e w2 ⟨rfl, hw⟩; obtain rfl := hw.symm; clear M)
      refine region_qtail (C := Keeps W1) 10 (by kernel_rfl) (by kernel_rfl) (Keeps.drew W1) ?_
      (iterate 10
    (apply wpQuiet_go _ (by rfl)
     · intro wq hq
       go_simp
       first
         | exact rfl
     simp only [Act.put, List.setIfInBounds_toArray, List.set_cons_succ, List.set_cons_zero]))
      refine wpQuiet_nil ?_
      intro W2 hk
      have HB2 : Hid (Below W.heap.size W W2) := bel_step HK1.out.below hk.below
      have H2 := HE.out.keep HB2.out
      have H2 : Hid (EffAt w W2 z _ (a : Int)) := H2
      have C2 := C W2
      clear hk k0' x0' x1' j0' C
      go_wp2_with fail
      refine C2.mono ?_
      rintro e w5 ⟨a', cap', rfl, hi, hb5, hoo⟩
      have H5 := H2.out.keep hb5
      have y0 : w5.cell? ⟨z + 1, 0, none⟩ = some (.slice none 0 0) := (cell_of_block H5.hy 0).trans rfl
      have y1 : w5.cell? ⟨z + 1, 1, none⟩ = some (.int .i64 0) := (cell_of_block H5.hy 1).trans rfl
      have f0 := free_of_block H5.hy 0
      have f1 := free_of_block H5.hy 1
      have HI : Hid (Ints w5 a' q.1) := hi
      have HB5 : Hid (Below w.heap.size w w5 ∧ w.heap.size = z) := ⟨H5.hb, H5.hz⟩
      have hl2 := lt_of_block H2.out.hy
      clear C2 hi hb5 H5
      go_wp2
      refine bodyPost_ret (v := .agg #[.slice a' q.1.length cap', .int .i64 q.2]) (by simp [results, Tryz.results53, go_sem, y0, y1]) rfl ?_
      rw [HR.out]
      exact effo_two (x := q) HI.out HB5.out.1 HB5.out.2 (fun m hm => hoo m (by omega)) _ _
  · have HR : Hid (effS E.M own op (a : Int) s = .error 5) := by unfold Hid; rw [HS.out, List.getElem?_eq_none (by omega)]
    have han : (n : Int) ≤ (a : Int) := by omega
    clear h hV hb W0 hW hz hn h0 hlt hltz x0 x1 c0 hown hI ha HS
    rcases hop with rfl | rfl | rfl
    all_goals
      go_enter Tryz.func53, Tryz.ntmps53
      go_wp2_with fail
      rw [HW.out.2, HW.out.1]
      refine region_qtail (C := Keeps W) 7 (by kernel_rfl) (by kernel_rfl) (Keeps.drew W) ?_
      (iterate 7
    (apply wpQuiet_go _ (by rfl)
     · intro wq hq
       go_simp
       first
         | exact rfl
     simp only [Act.put, List.setIfInBounds_toArray, List.set_cons_succ, List.set_cons_zero]))
      refine wpQuiet_nil ?_
      intro W1 hk
      have M := must_no (a : Int) (n : Int) (by omega) W1
      have HB : Hid (Below w.heap.size w W1) := bel_step HE.out.hb hk.below
      clear hk k0 kx0 kx1
      go_wp2_with (go_at_call 72; refine M.mono ?_; rintro e w2 ⟨rfl, hw⟩; obtain rfl := hw.symm; clear M)
      first
        | exact ⟨rfl, by rw [HR.out]; exact ⟨rfl, HB.out⟩⟩
        | (go_wp2; exact ⟨rfl, by rw [HR.out]; exact ⟨rfl, HB.out⟩⟩)

set_option maxRecDepth 100000 in
set_option maxHeartbeats 3200000 in
theorem eff_glob (V : World) (g : Nat) (E : EnvI) (at_ : Int) (s : St) (own : List Int) (a : Nat) (vf : Value) (w : World) (h : CI w g E at_ s vf) (hV : EnvOk V g E own) (hb : Below V.heap.size V w) (op : Int) (hop : op = 35 ∨ op = 36) :
    Calls Tryz.prog 53 #[.pointer (some ⟨g, 0, none⟩), .agg #[.int .i64 op, .int .i64 (a : Int)]] w fun e w' => EffR w (effS E.M own op (a : Int) s) e w' := by
  have W0 := effAt_new w op (a : Int)
  obtain ⟨W, hW⟩ : ∃ W, (w.alloc (.cells #[.int .i64 op, .int .i64 (a : Int)] 41)).alloc (.cells #[.slice none 0 0, .int .i64 0] 95) = W := ⟨_, rfl⟩
  obtain ⟨z, hz⟩ : ∃ z, w.heap.size = z := ⟨_, rfl⟩
  rw [hW, hz] at W0
  have HW : Hid ((w.alloc (.cells #[.int .i64 op, .int .i64 (a : Int)] 41)).alloc (.cells #[.slice none 0 0, .int .i64 0] 95) = W ∧ w.heap.size = z) := ⟨hW, hz⟩
  have HE : Hid (EffAt w W z op (a : Int)) := W0
  obtain ⟨⟨vs, h0, _, _⟩, _⟩ := h.keep W0.hb
  have hlt := lt_of_block h0
  have hltz := lt_of_block W0.hx
  have x0 : W.cell? ⟨z, 0, none⟩ = some (.int .i64 op) := (cell_of_block W0.hx 0).trans rfl
  have x1 : W.cell? ⟨z, 1, none⟩ = some (.int .i64 (a : Int)) := (cell_of_block W0.hx 1).trans rfl
  have kx0 : ∀ w', Keeps W w' → w'.cell? ⟨z, 0, none⟩ = some (.int .i64 op) := fun w' h => h.cell hltz x0
  have kx1 : ∀ w', Keeps W w' → w'.cell? ⟨z, 1, none⟩ = some (.int .i64 (a : Int)) := fun w' h => h.cell hltz x1
  have HS : Hid (effS E.M own op (a : Int) s = match E.M.gs[a]? with | none => .error 5 | some g => if op = 36 ∧ g.fixed = true then .error 7 else .ok (varEff op g.ty)) := by unfold Hid; rcases hop with rfl | rfl <;> rfl
  obtain ⟨n, hn⟩ : ∃ n, E.M.gs.length = n := ⟨_, rfl⟩
  obtain ⟨oa, hoa⟩ : ∃ x, E.l.ga = x := ⟨_, rfl⟩
  obtain ⟨oc, hoc⟩ : ∃ x, E.l.gc = x := ⟨_, rfl⟩
  have c0 : W.cell? ⟨g, 1, none⟩ = some (.slice oa n oc) := by rw [cell_of_block h0, ← hn, ← hoa, ← hoc]; rfl
  have k0 : ∀ w', Keeps W w' → w'.cell? ⟨g, 1, none⟩ = some (.slice oa n oc) := fun w' h => h.cell hlt c0
  have HVW : Hid (Below V.heap.size V W) := bel_step hb W0.hb
  by_cases ha : a < n
  · have haL : a < E.M.gs.length := by omega
    have hF := (hV.hm.below HVW.out).2
    rw [hoa] at hF
    obtain ⟨b, off, rfl, hbW, d0, d1, d2⟩ := hF.at a haL
    obtain ⟨gl, ht⟩ : ∃ t, E.M.gs[a] = t := ⟨_, rfl⟩
    rw [ht] at d0 d1 d2
    obtain ⟨r, hr⟩ : ∃ r, (if op = 36 ∧ gl.fixed = true then .error 7 else .ok (varEff op gl.ty) : Except Int (List Int × Int)) = r := ⟨_, rfl⟩
    have HR0 : Hid (effS E.M own op (a : Int) s = r) := by unfold Hid; rw [HS.out, List.getElem?_eq_getElem haL, ht, ← hr]
    have j0 : ∀ w', Keeps W w' → w'.cell? ⟨b, off + a * 3, none⟩ = some (.int .i64 gl.ty) := fun w' h => h.cell hbW d0
    have j1 : ∀ w', Keeps W w' → w'.cell? ⟨b, off + a * 3 + 1, none⟩ = some (.bool gl.fixed) := fun w' h => h.cell hbW d1
    have j2 : ∀ w', Keeps W w' → w'.cell? ⟨b, off + a * 3 + 2, none⟩ = some (.int .u64 gl.bits) := fun w' h => h.cell hbW d2
    have C := globEffI op gl (by omega)
    rw [hr] at C
    have han : (a : Int) < (n : Int) := by omega
    clear h hV hb W0 hW hz hn h0 hlt hltz x0 x1 c0 hoa hoc hF d0 d1 d2 ht hr hbW haL ha HS
    obtain ⟨OP, hOP⟩ : ∃ x : Int, x = op := ⟨_, rfl⟩
    have HOP : Hid (OP = op) := hOP
    clear hOP
    rcases hop with rfl | rfl
    all_goals
      go_enter Tryz.func53, Tryz.ntmps53
      go_wp2_with fail
      rw [HW.out.2, HW.out.1]
      refine region_qtail (C := Keeps W) 8 (by kernel_rfl) (by kernel_rfl) (Keeps.drew W) ?_
      (iterate 8
    (apply wpQuiet_go _ (by rfl)
     · intro wq hq
       go_simp
       first
         | exact rfl
     simp only [Act.put, List.setIfInBounds_toArray, List.set_cons_succ, List.set_cons_zero]))
      refine wpQuiet_nil ?_
      intro W1 hk
      have M := must_yes (a : Int) (n : Int) han W1
      have HK1 : Hid (Keeps W W1) := hk
      have kk : ∀ w', Keeps W1 w' → Keeps W w' := fun w' h => ⟨bel_step hk.below h.below⟩
      have k0' : ∀ w', Keeps W1 w' → w'.cell? ⟨g, 1, none⟩ = some (.slice (some ⟨b, off, none⟩) n oc) := fun w' h => k0 w' (kk w' h)
      have x0' : ∀ w', Keeps W1 w' → w'.cell? ⟨z, 0, none⟩ = some (.int .i64 _) := fun w' h => kx0 w' (kk w' h)
      have x1' : ∀ w', Keeps W1 w' → w'.cell? ⟨z, 1, none⟩ = some (.int .i64 (a : Int)) := fun w' h => kx1 w' (kk w' h)
      have j0' : ∀ w', Keeps W1 w' → w'.cell? ⟨b, off + a * 3, none⟩ = some (.int .i64 gl.ty) := fun w' h => j0 w' (kk w' h)
      have j1' : ∀ w', Keeps W1 w' → w'.cell? ⟨b, off + a * 3 + 1, none⟩ = some (.bool gl.fixed) := fun w' h => j1 w' (kk w' h)
      have j2' : ∀ w', Keeps W1 w' → w'.cell? ⟨b, off + a * 3 + 2, none⟩ = some (.int .u64 gl.bits) := fun w' h => j2 w' (kk w' h)
      clear hk kk k0 kx0 kx1 j0 j1 j2
      go_wp2_with (go_at_call 72; refine M.mono ?_; rintro e w2 ⟨rfl, hw⟩; obtain rfl := hw.symm; clear M)
      refine region_qtail (C := Keeps W1) 11 (by kernel_rfl) (by kernel_rfl) (Keeps.drew W1) ?_
      (iterate 11
    (apply wpQuiet_go _ (by rfl)
     · intro wq hq
       go_simp
       first
         | exact rfl
     simp only [Act.put, List.setIfInBounds_toArray, List.set_cons_succ, List.set_cons_zero]))
      refine wpQuiet_nil ?_
      intro W2 hk
      have HB2 : Hid (Below W.heap.size W W2) := bel_step HK1.out.below hk.below
      have H2 := HE.out.keep HB2.out
      have H2 : Hid (EffAt w W2 z _ (a : Int)) := H2
      have C2 := C W2
      clear hk k0' x0' x1' j0' j1' j2' C
      go_wp2_with fail
      refine C2.mono ?_
      rintro e w5 ho
      rcases r with c | q
      · obtain ⟨rfl, hb5⟩ := ho
        have HB5 : Hid (Below w.heap.size w w5) := bel_step H2.out.hb hb5
        clear hb5 C2
        first
          | exact ⟨rfl, by rw [HR0.out]; exact ⟨rfl, HB5.out⟩⟩
          | (go_wp2; exact ⟨rfl, by rw [HR0.out]; exact ⟨rfl, HB5.out⟩⟩)
      have HR := HR0
      obtain ⟨a', cap', rfl, hi, hb5, hoo⟩ := ho
      have H5 := H2.out.keep hb5
      have y0 : w5.cell? ⟨z + 1, 0, none⟩ = some (.slice none 0 0) := (cell_of_block H5.hy 0).trans rfl
      have y1 : w5.cell? ⟨z + 1, 1, none⟩ = some (.int .i64 0) := (cell_of_block H5.hy 1).trans rfl
      have f0 := free_of_block H5.hy 0
      have f1 := free_of_block H5.hy 1
      have HI : Hid (Ints w5 a' q.1) := hi
      have HB5 : Hid (Below w.heap.size w w5 ∧ w.heap.size = z) := ⟨H5.hb, H5.hz⟩
      have hl2 := lt_of_block H2.out.hy
      clear C2 hi hb5 H5
      go_wp2
      refine bodyPost_ret (v := .agg #[.slice a' q.1.length cap', .int .i64 q.2]) (by simp [results, Tryz.results53, go_sem, y0, y1]) rfl ?_
      rw [HR.out]
      exact effo_two (x := q) HI.out HB5.out.1 HB5.out.2 (fun m hm => hoo m (by omega)) _ _
  · have HR : Hid (effS E.M own op (a : Int) s = .error 5) := by unfold Hid; rw [HS.out, List.getElem?_eq_none (by omega)]
    have han : (n : Int) ≤ (a : Int) := by omega
    clear h hV hb W0 hW hz hn h0 hlt hltz x0 x1 c0 hoa hoc ha HS
    rcases hop with rfl | rfl
    all_goals
      go_enter Tryz.func53, Tryz.ntmps53
      go_wp2_with fail
      rw [HW.out.2, HW.out.1]
      refine region_qtail (C := Keeps W) 8 (by kernel_rfl) (by kernel_rfl) (Keeps.drew W) ?_
      (iterate 8
    (apply wpQuiet_go _ (by rfl)
     · intro wq hq
       go_simp
       first
         | exact rfl
     simp only [Act.put, List.setIfInBounds_toArray, List.set_cons_succ, List.set_cons_zero]))
      refine wpQuiet_nil ?_
      intro W1 hk
      have M := must_no (a : Int) (n : Int) (by omega) W1
      have HB : Hid (Below w.heap.size w W1) := bel_step HE.out.hb hk.below
      clear hk k0 kx0 kx1
      go_wp2_with (go_at_call 72; refine M.mono ?_; rintro e w2 ⟨rfl, hw⟩; obtain rfl := hw.symm; clear M)
      first
        | exact ⟨rfl, by rw [HR.out]; exact ⟨rfl, HB.out⟩⟩
        | (go_wp2; exact ⟨rfl, by rw [HR.out]; exact ⟨rfl, HB.out⟩⟩)

end Go.Proofs.YtcgnefgdfgikdaaGreat

namespace Go.Proofs.YtcgnefgdfgikdaaGreat
open Go.ChangeShapes Go.WideShapes Go.ChangeAt Go.RowKit

set_option maxRecDepth 100000 in
set_option maxHeartbeats 3200000 in
theorem eff_mem (g : Nat) (E : EnvI) (at_ : Int) (s : St) (own : List Int) (a : Int) (vf : Value) (w : World) (h : CI w g E at_ s vf) (op : Int) (hop : op = 40 ∨ op = 41 ∨ op = 54 ∨ op = 55 ∨ op = 63 ∨ op = 64) :
    Calls Tryz.prog 53 #[.pointer (some ⟨g, 0, none⟩), .agg #[.int .i64 op, .int .i64 a]] w fun e w' => EffR w (effS E.M own op a s) e w' := by
  have W0 := effAt_new w op a
  obtain ⟨W, hW⟩ : ∃ W, (w.alloc (.cells #[.int .i64 op, .int .i64 a] 41)).alloc (.cells #[.slice none 0 0, .int .i64 0] 95) = W := ⟨_, rfl⟩
  obtain ⟨z, hz⟩ : ∃ z, w.heap.size = z := ⟨_, rfl⟩
  rw [hW, hz] at W0
  have HW : Hid ((w.alloc (.cells #[.int .i64 op, .int .i64 a] 41)).alloc (.cells #[.slice none 0 0, .int .i64 0] 95) = W ∧ w.heap.size = z) := ⟨hW, hz⟩
  have HE : Hid (EffAt w W z op a) := W0
  obtain ⟨⟨vs, h0, _, _⟩, _⟩ := h
  have hlt := lt_of_block h0
  obtain ⟨mm, hmm⟩ : ∃ m, E.M.mem = m := ⟨_, rfl⟩
  have c2 : w.cell? ⟨g, 2, none⟩ = some (.bool mm) := by rw [cell_of_block h0, ← hmm]; rfl
  have C := memEffI op hop
  obtain ⟨q, hq⟩ : ∃ q, memEff op = q := ⟨_, rfl⟩
  have HR : Hid (effS E.M own op a s = if mm then .ok q else .error 6) := by
    unfold Hid; rw [← hq, ← hmm]
    rcases hop with rfl | rfl | rfl | rfl | rfl | rfl <;> rfl
  rw [hq] at C
  clear h0 hmm hq W0 hW hz
  cases mm
  · rcases hop with rfl | rfl | rfl | rfl | rfl | rfl
    all_goals
      go_enter Tryz.func53, Tryz.ntmps53
      go_wp2
      exact ⟨rfl, by rw [HR.out]; exact ⟨rfl, bel_new _ _ _⟩⟩
  · rcases hop with rfl | rfl | rfl | rfl | rfl | rfl
    all_goals
      go_enter Tryz.func53, Tryz.ntmps53
      go_wp2_with fail
      refine (C _).mono ?_
      rw [HW.out.2, HW.out.1]
      rintro e w5 ⟨a', cap', rfl, hi, hb5, hoo⟩
      have H5 := HE.out.keep hb5
      have y0 : w5.cell? ⟨z + 1, 0, none⟩ = some (.slice none 0 0) := (cell_of_block H5.hy 0).trans rfl
      have y1 : w5.cell? ⟨z + 1, 1, none⟩ = some (.int .i64 0) := (cell_of_block H5.hy 1).trans rfl
      have f0 := free_of_block H5.hy 0
      have f1 := free_of_block H5.hy 1
      have HI : Hid (Ints w5 a' q.1) := hi
      have HB5 : Hid (Below w.heap.size w w5 ∧ w.heap.size = z) := ⟨H5.hb, H5.hz⟩
      have hl2 := lt_of_block HE.out.hy
      clear C hi hb5 H5
      go_wp2
      refine bodyPost_ret (v := .agg #[.slice a' q.1.length cap', .int .i64 q.2]) (by simp [results, Tryz.results53, go_sem, y0, y1]) rfl ?_
      rw [HR.out]
      exact effo_two (x := q) HI.out HB5.out.1 HB5.out.2 (fun m hm => hoo m (by omega)) _ _

theorem nots2 (op : Int) (h : op ∈ plains ∨ (96 < op ∧ op ≤ 123) ∨ (128 < op ∧ op ≤ 155) ∨ (160 < op ∧ op ≤ 169)) : (op == 13) = false ∧ (op == 16) = false ∧ (op == 32) = false ∧ (op == 33) = false ∧ (op == 34) = false ∧ (op == 35) = false ∧ (op == 36) = false ∧ (op == 40) = false ∧ (op == 41) = false ∧ (op == 54) = false ∧ (op == 55) = false ∧ (op == 63) = false ∧ (op == 64) = false := by
  simp only [plains, List.mem_cons, List.not_mem_nil, or_false] at h
  simp only [beq_eq_false_iff_ne, ne_eq]
  omega

set_option maxRecDepth 100000 in
set_option maxHeartbeats 3200000 in
theorem eff_plain (g : Nat) (M : Mod7) (s : St) (own : List Int) (a : Int) (w : World) (op : Int) (hop : op ∈ plains ∨ (96 < op ∧ op ≤ 123) ∨ (128 < op ∧ op ≤ 155) ∨ (160 < op ∧ op ≤ 169)) :
    Calls Tryz.prog 53 #[.pointer (some ⟨g, 0, none⟩), .agg #[.int .i64 op, .int .i64 a]] w fun e w' => EffR w (effS M own op a s) e w' := by
  have W0 := effAt_new w op a
  obtain ⟨W, hW⟩ : ∃ W, (w.alloc (.cells #[.int .i64 op, .int .i64 a] 41)).alloc (.cells #[.slice none 0 0, .int .i64 0] 95) = W := ⟨_, rfl⟩
  obtain ⟨z, hz⟩ : ∃ z, w.heap.size = z := ⟨_, rfl⟩
  rw [hW, hz] at W0
  have HW : Hid ((w.alloc (.cells #[.int .i64 op, .int .i64 a] 41)).alloc (.cells #[.slice none 0 0, .int .i64 0] 95) = W ∧ w.heap.size = z) := ⟨hW, hz⟩
  have HE : Hid (EffAt w W z op a) := W0
  have C := plainI op hop
  obtain ⟨q, hq⟩ : ∃ q, plainEff op = q := ⟨_, rfl⟩
  obtain ⟨n1, n2, n3, n4, n5, n6, n7, n8, n9, n10, n11, n12, n13⟩ := nots2 op hop
  have HR : Hid (effS M own op a s = .ok q) := by
    unfold Hid effS
    simp only [beq_eq_false_iff_ne, ne_eq] at n1 n2 n3 n4 n5 n6 n7 n8 n9 n10 n11 n12 n13
    rw [if_neg n1, if_neg n2, if_neg (by omega), if_neg (by omega), if_neg (by omega), hq]
  rw [hq] at C
  clear hq W0 hW hz hop
  go_enter Tryz.func53, Tryz.ntmps53
  go_wp2_with fail
  refine (C _).mono ?_
  rw [HW.out.2, HW.out.1]
  rintro e w5 ⟨a', cap', rfl, hi, hb5, hoo⟩
  have H5 := HE.out.keep hb5
  have y0 : w5.cell? ⟨z + 1, 0, none⟩ = some (.slice none 0 0) := (cell_of_block H5.hy 0).trans rfl
  have y1 : w5.cell? ⟨z + 1, 1, none⟩ = some (.int .i64 0) := (cell_of_block H5.hy 1).trans rfl
  have f0 := free_of_block H5.hy 0
  have f1 := free_of_block H5.hy 1
  have HI : Hid (Ints w5 a' q.1) := hi
  have HB5 : Hid (Below w.heap.size w w5 ∧ w.heap.size = z) := ⟨H5.hb, H5.hz⟩
  have hl2 := lt_of_block HE.out.hy
  clear C hi hb5 H5
  go_wp2
  refine bodyPost_ret (v := .agg #[.slice a' q.1.length cap', .int .i64 q.2]) (by simp [results, Tryz.results53, go_sem, y0, y1]) rfl ?_
  rw [HR.out]
  exact effo_two (x := q) HI.out HB5.out.1 HB5.out.2 (fun m hm => hoo m (by omega)) _ _

/-- The instructions that have an effect alone. -/
def effOps (op : Int) : Prop := op = 13 ∨ op = 16 ∨ (op = 32 ∨ op = 33 ∨ op = 34) ∨ (op = 35 ∨ op = 36) ∨ (op = 40 ∨ op = 41 ∨ op = 54 ∨ op = 55 ∨ op = 63 ∨ op = 64) ∨ (op ∈ plains ∨ (96 < op ∧ op ≤ 123) ∨ (128 < op ∧ op ≤ 155) ∨ (160 < op ∧ op ≤ 169))
theorem effectOfI (V : World) (g : Nat) (E : EnvI) (at_ : Int) (s : St) (own : List Int) (op a : Int) (vf : Value) (w : World) (h : CI w g E at_ s vf) (hV : EnvOk V g E own) (hb : Below V.heap.size V w) (hne : s.opn ≠ []) (hl : Lim s) (hsp : ∀ (j : Nat) b, s.opn[j]? = some b → b.split = true → b.op = 4)
    (hop : effOps op) (ha : op = 13 ∨ op = 16 ∨ op = 32 ∨ op = 33 ∨ op = 34 ∨ op = 35 ∨ op = 36 → 0 ≤ a) :
    Calls Tryz.prog 53 #[.pointer (some ⟨g, 0, none⟩), .agg #[.int .i64 op, .int .i64 a]] w fun e w' => EffR w (effS E.M own op a s) e w' := by
  rcases hop with h1 | h1 | h1 | h1 | h1 | h1
  · subst h1
    obtain ⟨n, rfl⟩ : ∃ n : Nat, a = n := ⟨a.toNat, by have := ha (by simp); omega⟩
    exact eff_brif g E at_ s own n vf w h hne hl hsp
  · subst h1
    obtain ⟨n, rfl⟩ : ∃ n : Nat, a = n := ⟨a.toNat, by have := ha (by simp); omega⟩
    exact eff_call V g E at_ s own n vf w h hV hb
  · obtain ⟨n, rfl⟩ : ∃ n : Nat, a = n := ⟨a.toNat, by have := ha (by omega); omega⟩
    exact eff_var V g E at_ s own n vf w h hV hb op h1
  · obtain ⟨n, rfl⟩ : ∃ n : Nat, a = n := ⟨a.toNat, by have := ha (by omega); omega⟩
    exact eff_glob V g E at_ s own n vf w h hV hb op h1
  · exact eff_mem g E at_ s own a vf w h op h1
  · exact eff_plain g E.M s own a w op h1

end Go.Proofs.YtcgnefgdfgikdaaGreat
