/-
  The specification's trees of types and of values.
-/
import Derived.Test.YtlimlpidbjkofaaDoorVA0
import Derived.Test.YtlimlpidbjkofaaDoorQChain2
import Derived.Test.YtlimlpidbjkofaaDoorYGd5
namespace Go.Proofs.YtlimlpidbjkofaaDoor
open Go.ChangeShapes Go.WideShapes Go.ChangeAt Go.RowKit

def S3 (L : List Nd) (lo hi f : Nat) (w : World) (k : Nat) (sl : Value) : Prop := R3 (fun k => .int .i64 (kdAt L k)) (fun k => .int .i64 (nAt L k)) (kidsOf L) lo hi f w k sl
def S3v (V : List Vn) (lo hi f : Nat) (w : World) (k : Nat) (sl : Value) : Prop := R3 (fun k => .int .i64 (vnAt V k)) (fun k => .string (vtAt V k)) (kV V) lo hi f w k sl

set_option maxRecDepth 100000 in
set_option maxHeartbeats 6400000 in
theorem specTreeC (L : List Nd) (h40 : L.length ≤ 40) (b off cap : Nat) : ∀ (f k : Nat), k < L.length → L.length - k ≤ f → ∀ w : World, b < w.heap.size → ndAt w b off L →
    Calls Tryd.prog 28 #[.slice (some ⟨b, off, none⟩) L.length cap, .int .i64 (k : Int)] w fun e w' => ∃ sl, e = .returned (.agg #[.int .i64 (kdAt L k), .int .i64 (nAt L k), sl]) ∧ S3 L w.heap.size w'.heap.size f w' k sl ∧ Below w.heap.size w w' := by
  intro f
  induction f with
  | zero => intro k hk hf; omega
  | succ f ih =>
    intro k hk hf w hb hL
    obtain ⟨i0, hi, hz0, hz1, hz2⟩ := info_parts Tryd.infoTr
    have IH : Hid (∀ j, j < L.length → L.length - j ≤ f → ∀ w : World, b < w.heap.size → ndAt w b off L →
      Calls Tryd.prog 28 #[.slice (some ⟨b, off, none⟩) L.length cap, .int .i64 (j : Int)] w fun e w' => ∃ sl, e = .returned (.agg #[.int .i64 (kdAt L j), .int .i64 (nAt L j), sl]) ∧ S3 L w.heap.size w'.heap.size f w' j sl ∧ Below w.heap.size w w') := ih
    clear ih
    have HL : Hid (ndAt w b off L) := hL
    obtain ⟨c0, c1, _⟩ := hL k hk
    rw [← kdAt_get L k hk] at c0
    rw [← nAt_get L k hk] at c1
    clear hL
    obtain ⟨x, hx⟩ : ∃ x, kdAt L k = x := ⟨_, rfl⟩
    obtain ⟨y, hy⟩ : ∃ y, nAt L k = y := ⟨_, rfl⟩
    rw [hx] at c0 ⊢
    rw [hy] at c1 ⊢
    go_enter Tryd.func28, Tryd.ntmps28
    go_wp2
    go_region
    obtain ⟨W1, hW1⟩ : ∃ W1, W1 = ((w.alloc (.cells #[.int .i64 0, .int .i64 0, .slice none 0 0] 52)).alloc (.cells #[.int .i64 x, .int .i64 y, .slice none 0 0] 52)).drew := ⟨_, rfl⟩
    rw [← hW1]
    have q0 : W1.heap[w.heap.size]? = some (.cells #[.int .i64 0, .int .i64 0, .slice none 0 0] 52 (0, 0)) := by rw [hW1]; exact (Below.heap_alloc _ _ _ (by simp)).trans (heap_alloc_new _ _)
    have q1 : W1.heap[w.heap.size + 1]? = some (.cells #[.int .i64 x, .int .i64 y, .slice none 0 0] 52 (0, 0)) := by
      rw [hW1]
      have e : w.heap.size + 1 = (w.alloc (.cells #[.int .i64 0, .int .i64 0, .slice none 0 0] 52)).heap.size := by simp
      rw [e]
      exact heap_alloc_new _ _
    have q2 : W1.heap.size = w.heap.size + 2 := by rw [hW1]; simp
    have q3 : Below w.heap.size w W1 := by rw [hW1]; exact ((((Below.refl _ _).alloc (Nat.le_refl _) _).alloc (by simp) _)).drew
    clear hW1 c0 c1
    have HQ := specParts b off cap L W1 (by omega) (HL.out.below q3 hb) (by omega) k hk
    go_wp2_with fail
    refine HQ.mono ?_
    rintro e w2 ⟨vk, rfl, hown, hb2⟩
    clear HQ
    obtain ⟨z, hz⟩ : ∃ z, w.heap.size + 1 = z := ⟨_, rfl⟩
    have r0 : w2.heap[w.heap.size]? = some (.cells #[.int .i64 0, .int .i64 0, .slice none 0 0] 52 (0, 0)) := (hb2.block _ (by omega)).trans q0
    have r1 : w2.heap[z]? = some (.cells #[.int .i64 x, .int .i64 y, .slice none 0 0] 52 (0, 0)) := by rw [← hz]; exact (hb2.block _ (by omega)).trans q1
    have r3 := below2 q3 hb2
    have hkb : ∀ g, vk.ownBlock = some g → w.heap.size + 2 ≤ g := fun g hg => by have := ownsRow_block hown g hg; omega
    obtain ⟨K, hK⟩ : ∃ K, kidsOf L k = K := ⟨_, rfl⟩
    have hKL : K.length ≤ 40 := by rw [← hK]; exact Nat.le_trans (kids_le L k) h40
    have hKm : Hid (∀ j ∈ K, k < j ∧ j < L.length) := fun j hj => kids_mem (by rw [hK]; exact hj)
    rw [hK] at hown
    obtain ⟨ka, kc, rfl⟩ := ownsRow_shape hown
    have HKB : Hid (∀ g, (Value.slice ka K.length kc).ownBlock = some g → w.heap.size + 2 ≤ g) := hkb
    clear q0 q1 q2 q3 hkb hb2
    rw [hz]
    go_wp2
    go_loopw [23] (fun i wr => ∃ (m : Nat) (cur : Value) (xs : List Value), m ≤ K.length ∧ i = .int .i64 (m : Int) ∧ wr.heap[w.heap.size]? = some (.cells #[.int .i64 0, .int .i64 0, .slice none 0 0] 52 (0, 0)) ∧ wr.heap[z]? = some (.cells #[.int .i64 x, .int .i64 y, cur] 52 (0, 0)) ∧
      wr.ownsRow (w.heap.size + 2) 52 3 cur m xs ∧ wr.ownsRow (w.heap.size + 2) 3 1 (.slice ka K.length kc) K.length (nv K) ∧
      Hid (∀ i (h : i < K.length), i < m → ∃ lo hi sl', w.heap.size + 2 ≤ lo ∧ hi ≤ wr.heap.size ∧ xs[i * 3]? = some (.int .i64 (kdAt L K[i])) ∧ xs[i * 3 + 1]? = some (.int .i64 (nAt L K[i])) ∧ xs[i * 3 + 2]? = some sl' ∧ S3 L lo hi f wr K[i] sl' ∧ (∀ g, cur.ownBlock = some g → ¬ (lo ≤ g ∧ g < hi))) ∧ Below w.heap.size w wr) (fun i _ => K.length - (intOf i).toNat)
    case atStart =>
      refine ⟨0, .slice none 0 0, [], by omega, rfl, r0, r1, World.ownsRow_nil _ _ _ _, ⟨hown.1, ?_⟩, fun i _ h => absurd h (by omega), r3⟩
      rcases hown.2 with h | ⟨g, cap', cur, e1, e2, e3⟩
      · exact Or.inl h
      · exact Or.inr ⟨g, cap', cur, e1, HKB.out g (by rw [e1]; rfl), e3⟩
    case round =>
      clear r0 r1 r3 hown
      obtain ⟨m, cur, xs, hm, rfl, r0, r1, hrow, hown, hT, hnx⟩ := hrel
      have hsz := hnx.size
      have hzl := lt_of_block r1
      by_cases hlt : m < K.length
      · obtain ⟨gk, rfl, hgk⟩ : ∃ gk, ka = some ⟨gk, 0, none⟩ ∧ gk < wr.heap.size := by
          obtain ⟨g, c, e, _⟩ := own_pos hown (by omega)
          simp at e
          obtain ⟨cu, hcu, _⟩ := own_at hown (g := g) (by rw [e.1]; rfl)
          exact ⟨g, e.1, lt_of_block hcu⟩
        have hcm : wr.cell? ⟨gk, m, none⟩ = some (.int .i64 (K[m] : Int)) := (hown.cellAt m (by omega)).trans (by simp [nv, hlt])
        obtain ⟨hj1, hj2⟩ := hKm.out K[m] (List.getElem_mem hlt)
        obtain ⟨j, hj⟩ : ∃ j, K[m] = j := ⟨_, rfl⟩
        rw [hj] at hcm hj1 hj2
        have HJ : Hid (K[m] = j) := hj
        clear hj
        have hjf : L.length - j ≤ f := by omega
        obtain ⟨ca, cc, rfl⟩ := ownsRow_shape hrow
        go_wp2_with fail
        refine wa_begin (by kernel_rfl) ?_
        refine wa_take 0 (some 27) (.pointer (some ⟨z, 2, none⟩)) rfl rfl (by kernel_rfl) (by kernel_rfl) (by kernel_rfl) (fun _ _ _ h => h) (by rfl) (fun w' => by first | rfl | (go_simp; done)) ?_
        simp only [Act.put, List.setIfInBounds_toArray, List.set_cons_zero, List.set_cons_succ]
        refine wa_take 2 (some 29) (.slice (some ⟨b, off, none⟩) L.length cap) rfl rfl (by kernel_rfl) (by kernel_rfl) (by kernel_rfl) (fun _ _ _ h => h) (by rfl) (fun w' => by first | rfl | (go_simp; done)) ?_
        simp only [Act.put, List.setIfInBounds_toArray, List.set_cons_zero, List.set_cons_succ]
        refine wa_take 3 (some 30) (.int .i64 (j : Int)) rfl rfl (by kernel_rfl) (by kernel_rfl) (by kernel_rfl) (fun _ _ _ h => h) (by rfl) (fun w' => by first | rfl | (go_simp; done)) ?_
        simp only [Act.put, List.setIfInBounds_toArray, List.set_cons_zero, List.set_cons_succ]
        refine wa_first 1 (some 28) (.slice ca m cc) (fun w' => w'.heap[z]? = some (.cells #[.int .i64 x, .int .i64 y, .slice ca m cc] 52 (0, 0))) rfl rfl (by kernel_rfl) (by kernel_rfl) (by kernel_rfl) (fun _ _ _ h => h) (by rfl) (fun w' hS => by have q := (cell_of_block hS 2).trans rfl; first | rfl | (go_simp; done)) r1 ?_
        simp only [Act.put, List.setIfInBounds_toArray, List.set_cons_zero, List.set_cons_succ]
        refine wb_call 4 (some 31) 28 #[.slice (some ⟨b, off, none⟩) L.length cap, .int .i64 (j : Int)] (by kernel_rfl) (by kernel_rfl) rfl rfl (by rfl) (by kernel_rfl) ?_
        refine (IH.out j hj2 hjf wr.drew (Nat.lt_of_lt_of_le hb hsz) (HL.out.below hnx.drew hb)).mono ?_
        rintro e V1 ⟨sl, rfl, htr, hb1⟩
        have hb1' : Below wr.heap.size wr V1 := ⟨hb1.os, hb1.tape, hb1.output, hb1.size, hb1.block⟩
        have hV1 := hb1'.size
        have s1 : V1.heap[z]? = some (.cells #[.int .i64 x, .int .i64 y, .slice ca m cc] 52 (0, 0)) := (hb1'.block z hzl).trans r1
        refine ⟨_, rfl, s1, ?_⟩
        simp only [Act.put, List.setIfInBounds_toArray, List.set_cons_zero, List.set_cons_succ]
        have s2 : (V1.alloc (.cells #[.int .i64 (kdAt L j), .int .i64 (nAt L j), sl] 52)).heap[z]? = some (.cells #[.int .i64 x, .int .i64 y, .slice ca m cc] 52 (0, 0)) := (Below.heap_alloc _ _ _ (lt_of_block s1)).trans s1
        refine wb_val 5 (some 32) (.slice (some ⟨V1.heap.size, 0, none⟩) 1 1) (V1.alloc (.cells #[.int .i64 (kdAt L j), .int .i64 (nAt L j), sl] 52)) (by kernel_rfl) (by kernel_rfl) rfl rfl (by rfl) (by first | rfl | go_simp) s2 ?_
        simp only [Act.put, List.setIfInBounds_toArray, List.set_cons_zero, List.set_cons_succ]
        have hrow1 : (V1.alloc (.cells #[.int .i64 (kdAt L j), .int .i64 (nAt L j), sl] 52)).ownsRow (w.heap.size + 2) 52 3 (.slice ca m cc) m xs := (own_keep hrow fun g hg => by
          obtain ⟨cu, hcu, _⟩ := own_at hrow hg
          exact hb1'.block g (lt_of_block hcu)).alloc _
        have hcl : ∀ c, (Value.slice ca m cc).ownBlock = some c → c < wr.heap.size ∧ w.heap.size + 2 ≤ c := fun c hc => by
          obtain ⟨cu, hcu, h2⟩ := own_at hrow hc
          exact ⟨lt_of_block hcu, h2⟩
        obtain ⟨v', w5, hrun, hown5, hgrow5, _, hloc⟩ := run_append_own_at (P := Tryd.prog) (V1.alloc (.cells #[.int .i64 (kdAt L j), .int .i64 (nAt L j), sl] 52)) (w.heap.size + 2) 50 50 52 i0 (.agg #[.int .i64 0, .int .i64 0, .slice none 0 0]) 3 40 Tryd.underlying50 hi hz0 hz1 hz2 rfl (by decide) _ _ _ hrow1 ⟨V1.heap.size, 0, none⟩ 1 1 [.int .i64 (kdAt L j), .int .i64 (nAt L j), sl] rfl (tri_new _ _ _ _ _) (by intro u hu; simp at hu; rcases hu with rfl | rfl | rfl; rfl; rfl; obtain ⟨_, _, _, rfl⟩ := R3.form htr; rfl) (by unfold maxLen; omega) (by omega) (by simp; omega)
        obtain ⟨va, vc, rfl⟩ := ownsRow_shape hown5
        have KEEP : ∀ g, g < V1.heap.size → (∀ c, (Value.slice ca m cc).ownBlock = some c → g ≠ c) → w5.heap[g]? = V1.heap[g]? := fun g hg hne => by
          rw [hgrow5.block g (by simp; omega) (fun e => hne g e.symm rfl)]
          exact Below.heap_alloc _ _ _ hg
        refine wb_leave_val 6 (some 33) (.slice va (m + 1) vc) w5 (by kernel_rfl) (by kernel_rfl) rfl rfl (by rfl) (by simp [execOp, resolve, invoke, builtin, Act.eval, hrun, Result.andThen]) ?_
        simp only [Act.put, List.setIfInBounds_toArray, List.set_cons_zero, List.set_cons_succ]
        have s5 : w5.heap[z]? = some (.cells #[.int .i64 x, .int .i64 y, .slice ca m cc] 52 (0, 0)) := (KEEP z (by omega) (fun c hc => by have := (hcl c hc).2; omega)).trans s1
        have g2 := (cell_of_block s5 2).trans rfl
        have f2 := free_of_block s5 2
        refine wa_val 7 (some 34) (.pointer (some ⟨z, 2, none⟩)) w5 (by kernel_rfl) rfl rfl (by rfl) (by first | rfl | go_simp) ?_
        simp only [Act.put, List.setIfInBounds_toArray, List.set_cons_zero, List.set_cons_succ]
        refine wa_store 8 none (w5.setCell ⟨z, 2, none⟩ (.slice va (m + 1) vc)) (by kernel_rfl) rfl rfl (by rfl) (by first | rfl | (go_simp; done)) ?_
        simp only [Act.put]
        refine wa_done (by kernel_rfl) ?_
        have hW9 : ∀ g, g < V1.heap.size → g ≠ z → (∀ c, (Value.slice ca m cc).ownBlock = some c → g ≠ c) → (w5.setCell ⟨z, 2, none⟩ (.slice va (m + 1) vc)).heap[g]? = V1.heap[g]? := fun g h1 h2 h3 => (heap_setCell_other _ _ _ _ (by simpa using h2)).trans (KEEP g h1 h3)
        have t0 : (w5.setCell ⟨z, 2, none⟩ (.slice va (m + 1) vc)).heap[w.heap.size]? = some (.cells #[.int .i64 0, .int .i64 0, .slice none 0 0] 52 (0, 0)) := (hW9 _ (by omega) (by omega) (fun c hc => by have := (hcl c hc).2; omega)).trans ((hb1'.block _ (by omega)).trans r0)
        have t1 : (w5.setCell ⟨z, 2, none⟩ (.slice va (m + 1) vc)).heap[z]? = some (.cells #[.int .i64 x, .int .i64 y, .slice va (m + 1) vc] 52 (0, 0)) := by rw [heap_setCell_same _ _ _ _ _ _ s5]; rfl
        have t2 : (w5.setCell ⟨z, 2, none⟩ (.slice va (m + 1) vc)).ownsRow (w.heap.size + 2) 52 3 (.slice va (m + 1) vc) (m + 1) (xs ++ [.int .i64 (kdAt L j), .int .i64 (nAt L j), sl]) := own_keep hown5 fun g hg => heap_setCell_other _ _ _ _ (by have := ownsRow_block hown5 g hg; simp; omega)
        have t3 : (w5.setCell ⟨z, 2, none⟩ (.slice va (m + 1) vc)).ownsRow (w.heap.size + 2) 3 1 (.slice (some ⟨gk, 0, none⟩) K.length kc) K.length (nv K) := own_keep hown fun g hg => by
          obtain ⟨cu, hcu, h2⟩ := own_at hown hg
          refine (hW9 g (by have := lt_of_block hcu; omega) (by omega) (fun c hc e => ?_)).trans (hb1'.block g (lt_of_block hcu))
          subst e
          obtain ⟨cu', hcu', _⟩ := own_at hrow hc
          exact apart_types hcu' hcu (by decide) rfl
        have t4 : Below w.heap.size w (w5.setCell ⟨z, 2, none⟩ (.slice va (m + 1) vc)) := (((below2 hnx hb1').alloc (by omega) _).grown hgrow5 (by simp; omega) (fun c hc => by have := (hcl c hc).2; omega)).setCell (by simp; omega) _
        have t5 : V1.heap.size < (w5.setCell ⟨z, 2, none⟩ (.slice va (m + 1) vc)).heap.size := by
          have := hgrow5.size
          simp at this ⊢
          omega
        have t6 : Hid (∀ i (h : i < K.length), i < m + 1 → ∃ lo hi sl', w.heap.size + 2 ≤ lo ∧ hi ≤ (w5.setCell ⟨z, 2, none⟩ (.slice va (m + 1) vc)).heap.size ∧ (xs ++ [.int .i64 (kdAt L j), .int .i64 (nAt L j), sl])[i * 3]? = some (.int .i64 (kdAt L K[i])) ∧ (xs ++ [.int .i64 (kdAt L j), .int .i64 (nAt L j), sl])[i * 3 + 1]? = some (.int .i64 (nAt L K[i])) ∧ (xs ++ [.int .i64 (kdAt L j), .int .i64 (nAt L j), sl])[i * 3 + 2]? = some sl' ∧ S3 L lo hi f (w5.setCell ⟨z, 2, none⟩ (.slice va (m + 1) vc)) K[i] sl' ∧ (∀ g, (Value.slice va (m + 1) vc).ownBlock = some g → ¬ (lo ≤ g ∧ g < hi))) := fun i hi him => by
          rcases Nat.lt_or_ge i m with h | h
          · obtain ⟨lo, hh, sl', l1, l2, x1, x2, x3, tr, hne⟩ := hT.out i hi h
            refine ⟨lo, hh, sl', l1, by omega, (row3_left hrow.1 h 0 (by omega)).trans x1, (row3_left hrow.1 h 1 (by omega)).trans x2, (row3_left hrow.1 h 2 (by omega)).trans x3, ?_, ?_⟩
            · refine R3.keep tr fun g g1 g2 => ?_
              exact (hW9 g (by omega) (by omega) (fun c hc e => hne c hc (by subst e; exact ⟨g1, g2⟩))).trans (hb1'.block g (by omega))
            · intro g hg
              rcases hloc with e | e
              · exact hne g (by rw [← e]; exact hg)
              · rw [hg] at e
                simp at e
                omega
          · have him' : i = m := by omega
            subst him'
            obtain ⟨x1, x2, x3⟩ := row3_right (x := .int .i64 (kdAt L j)) (y := .int .i64 (nAt L j)) (z := sl) hrow.1
            refine ⟨wr.heap.size, V1.heap.size, sl, by omega, by omega, by rw [HJ.out]; exact x1, by rw [HJ.out]; exact x2, x3, ?_, ?_⟩
            · rw [HJ.out]
              refine R3.keep htr fun g g1 g2 => ?_
              have g1' : wr.heap.size ≤ g := g1
              exact hW9 g g2 (by omega) (fun c hc e => by have := (hcl c hc).1; omega)
            · intro g hg
              rcases hloc with e | e
              · have := (hcl g (by rw [← e]; exact hg)).1
                omega
              · rw [hg] at e
                simp at e
                omega
        clear hW9 KEEP s1 s2 s5 g2 f2 hrun hown5 hgrow5 hloc hrow1 hcl htr hb1 hb1' hT hrow hown r0 r1 hcm
        go_wp2
        go_roundw
        case rel => exact ⟨m + 1, _, _, by omega, by go_num, t0, t1, t2, t3, t6, t4⟩
        case measure => simp [intOf]; omega
      · obtain rfl : m = K.length := by omega
        obtain ⟨ca, cc, rfl⟩ := ownsRow_shape hrow
        have d0 := (cell_of_block r1 0).trans rfl
        have d1 := (cell_of_block r1 1).trans rfl
        have d2 := (cell_of_block r1 2).trans rfl
        have e0 := (cell_of_block r0 0).trans rfl
        have e1 := (cell_of_block r0 1).trans rfl
        have e2 := (cell_of_block r0 2).trans rfl
        have f0 := free_of_block r0 0
        have f1 := free_of_block r0 1
        have f2 := free_of_block r0 2
        have Z9 : (((wr.setCell ⟨w.heap.size, 0, none⟩ (.int .i64 x)).setCell ⟨w.heap.size, 1, none⟩ (.int .i64 y)).setCell ⟨w.heap.size, 2, none⟩ (.slice ca K.length cc)).heap[w.heap.size]? = some (.cells #[.int .i64 x, .int .i64 y, .slice ca K.length cc] 52 (0, 0)) := by
          rw [heap_setCell_same _ _ _ _ _ _ (heap_setCell_same _ _ _ _ _ _ (heap_setCell_same _ _ _ _ _ _ r0))]
          rfl
        have k0 := (cell_of_block Z9 0).trans rfl
        have k1 := (cell_of_block Z9 1).trans rfl
        have k2 := (cell_of_block Z9 2).trans rfl
        have HO : ∀ g, g ≠ w.heap.size → (((wr.setCell ⟨w.heap.size, 0, none⟩ (.int .i64 x)).setCell ⟨w.heap.size, 1, none⟩ (.int .i64 y)).setCell ⟨w.heap.size, 2, none⟩ (.slice ca K.length cc)).heap[g]? = wr.heap[g]? := fun g hg => (heap_setCell_other _ _ _ _ (by simpa using hg)).trans ((heap_setCell_other _ _ _ _ (by simpa using hg)).trans (heap_setCell_other _ _ _ _ (by simpa using hg)))
        have HR : Hid (S3 L w.heap.size (((wr.setCell ⟨w.heap.size, 0, none⟩ (.int .i64 x)).setCell ⟨w.heap.size, 1, none⟩ (.int .i64 y)).setCell ⟨w.heap.size, 2, none⟩ (.slice ca K.length cc)).heap.size (f + 1) (((wr.setCell ⟨w.heap.size, 0, none⟩ (.int .i64 x)).setCell ⟨w.heap.size, 1, none⟩ (.int .i64 y)).setCell ⟨w.heap.size, 2, none⟩ (.slice ca K.length cc)) k (.slice ca K.length cc)) := by
          refine ⟨ca, cc, by rw [hK], by rw [hK]; exact own_cap hrow, ?_⟩
          rw [hK]
          intro j hj
          obtain ⟨lo, hh, sl', l1, l2, x1, x2, x3, tr, _⟩ := hT.out j hj hj
          obtain ⟨g, c, e, _⟩ := own_pos hrow (by omega)
          simp at e
          obtain ⟨rfl, _⟩ := e
          obtain ⟨cu, hcu, hgb⟩ := own_at hrow (g := g) rfl
          have hgl := lt_of_block hcu
          have hg := HO g (by omega)
          have hl := hrow.1
          refine ⟨g, 0, sl', rfl, by omega, by simpa using hgl, (cell_heap hg _).trans (by rw [Nat.zero_add]; exact (hrow.cellAt _ (by omega)).trans x1), (cell_heap hg _).trans (by rw [Nat.zero_add]; exact (hrow.cellAt _ (by omega)).trans x2), (cell_heap hg _).trans (by rw [Nat.zero_add]; exact (hrow.cellAt _ (by omega)).trans x3), ?_⟩
          exact R3.wide (by omega) (by simpa using l2) (R3.keep tr fun g g1 g2 => HO g (by omega))
        clear HO Z9 hT hrow hown
        go_wp2
        exact bodyPost_ret (v := .agg #[.int .i64 x, .int .i64 y, .slice ca K.length cc]) (by simp [results, Tryd.results28, go_sem, k0, k1, k2]) rfl ⟨_, rfl, HR.out, ((hnx.setCell (Nat.le_refl _) _).setCell (Nat.le_refl _) _).setCell (Nat.le_refl _) _⟩



end Go.Proofs.YtlimlpidbjkofaaDoor

namespace Go.Proofs.YtlimlpidbjkofaaDoor
open Go.ChangeShapes Go.WideShapes Go.ChangeAt Go.RowKit

theorem Tryd.infoTrV : (Tryd.prog.info? 56).map (fun i => (i.zero, i.size, i.bytes)) = some (some (.agg #[.int .i64 0, .string ⟨#[]⟩, .slice none 0 0]), 3, 48) := by kernel_rfl

set_option maxRecDepth 100000 in
set_option maxHeartbeats 800000 in
theorem specTreeV (L : List Vn) (h100 : L.length ≤ 100) (b off cap : Nat) : ∀ (f k : Nat), k < L.length → L.length - k ≤ f → ∀ w : World, b < w.heap.size → vlAt w b off L →
    Calls Tryd.prog 29 #[.slice (some ⟨b, off, none⟩) L.length cap, .int .i64 (k : Int)] w fun e w' => ∃ sl, e = .returned (.agg #[.int .i64 (vnAt L k), .string (vtAt L k), sl]) ∧ S3v L w.heap.size w'.heap.size f w' k sl ∧ Below w.heap.size w w' := by
  intro f
  induction f with
  | zero => intro k hk hf; omega
  | succ f ih =>
    intro k hk hf w hb hL
    obtain ⟨i0, hi, hz0, hz1, hz2⟩ := info_parts Tryd.infoTrV
    have IH : Hid (∀ j, j < L.length → L.length - j ≤ f → ∀ w : World, b < w.heap.size → vlAt w b off L →
      Calls Tryd.prog 29 #[.slice (some ⟨b, off, none⟩) L.length cap, .int .i64 (j : Int)] w fun e w' => ∃ sl, e = .returned (.agg #[.int .i64 (vnAt L j), .string (vtAt L j), sl]) ∧ S3v L w.heap.size w'.heap.size f w' j sl ∧ Below w.heap.size w w') := ih
    clear ih
    have HL : Hid (vlAt w b off L) := hL
    obtain ⟨c0, c1, _⟩ := hL k hk
    rw [← vnAt_get L k hk] at c0
    rw [← vtAt_get L k hk] at c1
    clear hL
    obtain ⟨x, hx⟩ : ∃ x, vnAt L k = x := ⟨_, rfl⟩
    obtain ⟨y, hy⟩ : ∃ y, vtAt L k = y := ⟨_, rfl⟩
    rw [hx] at c0 ⊢
    rw [hy] at c1 ⊢
    go_enter Tryd.func29, Tryd.ntmps29
    go_wp2
    go_region
    obtain ⟨W1, hW1⟩ : ∃ W1, W1 = ((w.alloc (.cells #[.int .i64 0, .string ⟨#[]⟩, .slice none 0 0] 56)).alloc (.cells #[.int .i64 x, .string y, .slice none 0 0] 56)).drew := ⟨_, rfl⟩
    rw [← hW1]
    have q0 : W1.heap[w.heap.size]? = some (.cells #[.int .i64 0, .string ⟨#[]⟩, .slice none 0 0] 56 (0, 0)) := by rw [hW1]; exact (Below.heap_alloc _ _ _ (by simp)).trans (heap_alloc_new _ _)
    have q1 : W1.heap[w.heap.size + 1]? = some (.cells #[.int .i64 x, .string y, .slice none 0 0] 56 (0, 0)) := by
      rw [hW1]
      have e : w.heap.size + 1 = (w.alloc (.cells #[.int .i64 0, .string ⟨#[]⟩, .slice none 0 0] 56)).heap.size := by simp
      rw [e]
      exact heap_alloc_new _ _
    have q2 : W1.heap.size = w.heap.size + 2 := by rw [hW1]; simp
    have q3 : Below w.heap.size w W1 := by rw [hW1]; exact ((((Below.refl _ _).alloc (Nat.le_refl _) _).alloc (by simp) _)).drew
    clear hW1 c0 c1
    obtain ⟨z, hz⟩ : ∃ z, w.heap.size + 1 = z := ⟨_, rfl⟩
    have r0 := q0
    have r1 : W1.heap[z]? = some (.cells #[.int .i64 x, .string y, .slice none 0 0] 56 (0, 0)) := by rw [← hz]; exact q1
    have r3 := q3
    obtain ⟨n, hn⟩ : ∃ n, L.length = n := ⟨_, rfl⟩
    obtain ⟨U, hU⟩ : ∃ U, vuAt L = U := ⟨_, rfl⟩
    have HUP : Hid (∀ j (h : j < L.length), U j = L[j].2.2) := fun j h => by rw [← hU]; exact vuAt_get L j h
    have HN : Hid (L.length = n) := hn
    have HU : Hid (vuAt L = U) := hU
    have hwk : wrap64 ((k : Int) + 1) = (k : Int) + 1 := w64v (by omega) (by omega)
    rw [hn] at hk hf h100 IH ⊢
    have HF : Hid (n - k ≤ f + 1) := hf
    clear hn hU q0 q1 q2 q3 hf hx hy
    rw [hz]
    go_wp2
    go_loopw [6] (fun i wr => ∃ (m : Nat) (cur : Value) (xs : List Value), k < m ∧ m ≤ n ∧ i = .int .i64 (m : Int) ∧ wr.heap[w.heap.size]? = some (.cells #[.int .i64 0, .string ⟨#[]⟩, .slice none 0 0] 56 (0, 0)) ∧ wr.heap[z]? = some (.cells #[.int .i64 x, .string y, cur] 56 (0, 0)) ∧
      wr.ownsRow (w.heap.size + 2) 56 3 cur (kto U k m).length xs ∧
      Hid (∀ i (h : i < (kto U k m).length), ∃ lo hi sl', w.heap.size + 2 ≤ lo ∧ hi ≤ wr.heap.size ∧ xs[i * 3]? = some (.int .i64 (vnAt L (kto U k m)[i])) ∧ xs[i * 3 + 1]? = some (.string (vtAt L (kto U k m)[i])) ∧ xs[i * 3 + 2]? = some sl' ∧ S3v L lo hi f wr (kto U k m)[i] sl' ∧ (∀ g, cur.ownBlock = some g → ¬ (lo ≤ g ∧ g < hi))) ∧ Below w.heap.size w wr) (fun i _ => n - (intOf i).toNat)
    case atStart =>
      refine ⟨k + 1, .slice none 0 0, [], by omega, by omega, by go_num, r0, r1, ?_, ?_, r3⟩
      · rw [kto_nil]; exact World.ownsRow_nil _ _ _ _
      · intro i h; rw [kto_nil] at h; simp at h
    case round =>
      clear r0 r1 r3 hwk
      obtain ⟨m, cur, xs, hkm, hm, rfl, r0, r1, hrow, hT, hnx⟩ := hrel
      have hsz := hnx.size
      have hzl := lt_of_block r1
      have hkl := kto_le U k m
      by_cases hlt : m < n
      · have hmL : m < L.length := by rw [HN.out]; exact hlt
        obtain ⟨_, _, d2⟩ := HL.out m hmL
        rw [← HUP.out m hmL] at d2
        have c2 : wr.cell? ⟨b, off + m * 3 + 2, none⟩ = some (.int .i64 (U m)) := (hnx.cell (by exact hb)).trans d2
        clear d2
        have hltI : (m : Int) < (n : Int) := by omega
        by_cases hum : U m = (k : Int)
        · rw [hum] at c2
          have hKS : Hid (kto U k (m + 1) = kto U k m ++ [m]) := by
            unfold Hid kto
            rw [List.range_succ, List.filter_append]
            simp [hkm, hum]
          have HJF : Hid (n - m ≤ f) := by have := HF.out; unfold Hid; omega
          obtain ⟨ca, cc, rfl⟩ := ownsRow_shape hrow
          obtain ⟨kl, hkl9⟩ : ∃ kl, (kto U k m).length = kl := ⟨_, rfl⟩
          go_wp2_with fail
          refine wa_begin (by kernel_rfl) ?_
          refine wa_take 0 (some 33) (.pointer (some ⟨z, 2, none⟩)) rfl rfl (by kernel_rfl) (by kernel_rfl) (by kernel_rfl) (fun _ _ _ h => h) (by rfl) (fun w' => by first | rfl | (go_simp; done)) ?_
          simp only [Act.put, List.setIfInBounds_toArray, List.set_cons_zero, List.set_cons_succ]
          refine wa_take 2 (some 35) (.slice (some ⟨b, off, none⟩) n cap) rfl rfl (by kernel_rfl) (by kernel_rfl) (by kernel_rfl) (fun _ _ _ h => h) (by rfl) (fun w' => by first | rfl | (go_simp; done)) ?_
          simp only [Act.put, List.setIfInBounds_toArray, List.set_cons_zero, List.set_cons_succ]
          refine wa_take 3 (some 36) (.int .i64 (m : Int)) rfl rfl (by kernel_rfl) (by kernel_rfl) (by kernel_rfl) (fun _ _ _ h => h) (by rfl) (fun w' => by first | rfl | (go_simp; done)) ?_
          simp only [Act.put, List.setIfInBounds_toArray, List.set_cons_zero, List.set_cons_succ]
          refine wa_first 1 (some 34) (.slice ca (kto U k m).length cc) (fun w' => w'.heap[z]? = some (.cells #[.int .i64 x, .string y, .slice ca (kto U k m).length cc] 56 (0, 0))) rfl rfl (by kernel_rfl) (by kernel_rfl) (by kernel_rfl) (fun _ _ _ h => h) (by rfl) (fun w' hS => by have q := (cell_of_block hS 2).trans rfl; first | rfl | (go_simp; done)) r1 ?_
          simp only [Act.put, List.setIfInBounds_toArray, List.set_cons_zero, List.set_cons_succ]
          refine wb_call 4 (some 37) 29 #[.slice (some ⟨b, off, none⟩) n cap, .int .i64 (m : Int)] (by kernel_rfl) (by kernel_rfl) rfl rfl (by rfl) (by kernel_rfl) ?_
          refine (IH.out m hlt HJF.out wr.drew (Nat.lt_of_lt_of_le hb hsz) (HL.out.below hnx.drew hb)).mono ?_
          rintro e V1 ⟨sl, rfl, htr, hb1⟩
          have hb1' : Below wr.heap.size wr V1 := ⟨hb1.os, hb1.tape, hb1.output, hb1.size, hb1.block⟩
          have hV1 := hb1'.size
          have s1 : V1.heap[z]? = some (.cells #[.int .i64 x, .string y, .slice ca (kto U k m).length cc] 56 (0, 0)) := (hb1'.block z hzl).trans r1
          refine ⟨_, rfl, s1, ?_⟩
          simp only [Act.put, List.setIfInBounds_toArray, List.set_cons_zero, List.set_cons_succ]
          have s2 : (V1.alloc (.cells #[.int .i64 (vnAt L m), .string (vtAt L m), sl] 56)).heap[z]? = some (.cells #[.int .i64 x, .string y, .slice ca (kto U k m).length cc] 56 (0, 0)) := (Below.heap_alloc _ _ _ (lt_of_block s1)).trans s1
          refine wb_val 5 (some 38) (.slice (some ⟨V1.heap.size, 0, none⟩) 1 1) (V1.alloc (.cells #[.int .i64 (vnAt L m), .string (vtAt L m), sl] 56)) (by kernel_rfl) (by kernel_rfl) rfl rfl (by rfl) (by first | rfl | go_simp) s2 ?_
          simp only [Act.put, List.setIfInBounds_toArray, List.set_cons_zero, List.set_cons_succ]
          have hrow1 : (V1.alloc (.cells #[.int .i64 (vnAt L m), .string (vtAt L m), sl] 56)).ownsRow (w.heap.size + 2) 56 3 (.slice ca (kto U k m).length cc) (kto U k m).length xs := (own_keep hrow fun g hg => by
            obtain ⟨cu, hcu, _⟩ := own_at hrow hg
            exact hb1'.block g (lt_of_block hcu)).alloc _
          have hcl : ∀ c, (Value.slice ca (kto U k m).length cc).ownBlock = some c → c < wr.heap.size ∧ w.heap.size + 2 ≤ c := fun c hc => by
            obtain ⟨cu, hcu, h2⟩ := own_at hrow hc
            exact ⟨lt_of_block hcu, h2⟩
          obtain ⟨v', w5, hrun, hown5, hgrow5, _, hloc⟩ := run_append_own_at (P := Tryd.prog) (V1.alloc (.cells #[.int .i64 (vnAt L m), .string (vtAt L m), sl] 56)) (w.heap.size + 2) 54 54 56 i0 (.agg #[.int .i64 0, .string ⟨#[]⟩, .slice none 0 0]) 3 48 Tryd.underlying54 hi hz0 hz1 hz2 rfl (by decide) _ _ _ hrow1 ⟨V1.heap.size, 0, none⟩ 1 1 [.int .i64 (vnAt L m), .string (vtAt L m), sl] rfl (tri_new _ _ _ _ _) (by intro u hu; simp at hu; rcases hu with rfl | rfl | rfl; rfl; rfl; obtain ⟨_, _, _, rfl⟩ := R3.form htr; rfl) (by unfold maxLen; omega) (by omega) (by simp; omega)
          obtain ⟨va, vc, rfl⟩ := ownsRow_shape hown5
          have KEEP : ∀ g, g < V1.heap.size → (∀ c, (Value.slice ca (kto U k m).length cc).ownBlock = some c → g ≠ c) → w5.heap[g]? = V1.heap[g]? := fun g hg hne => by
            rw [hgrow5.block g (by simp; omega) (fun e => hne g e.symm rfl)]
            exact Below.heap_alloc _ _ _ hg
          refine wb_leave_val 6 (some 39) (.slice va ((kto U k m).length + 1) vc) w5 (by kernel_rfl) (by kernel_rfl) rfl rfl (by rfl) (by simp [execOp, resolve, invoke, builtin, Act.eval, hrun, Result.andThen]) ?_
          simp only [Act.put, List.setIfInBounds_toArray, List.set_cons_zero, List.set_cons_succ]
          have s5 : w5.heap[z]? = some (.cells #[.int .i64 x, .string y, .slice ca (kto U k m).length cc] 56 (0, 0)) := (KEEP z (by omega) (fun c hc => by have := (hcl c hc).2; omega)).trans s1
          have g2 := (cell_of_block s5 2).trans rfl
          have f2 := free_of_block s5 2
          refine wa_val 7 (some 40) (.pointer (some ⟨z, 2, none⟩)) w5 (by kernel_rfl) rfl rfl (by rfl) (by first | rfl | go_simp) ?_
          simp only [Act.put, List.setIfInBounds_toArray, List.set_cons_zero, List.set_cons_succ]
          refine wa_store 8 none (w5.setCell ⟨z, 2, none⟩ (.slice va ((kto U k m).length + 1) vc)) (by kernel_rfl) rfl rfl (by rfl) (by first | rfl | (go_simp; done)) ?_
          simp only [Act.put]
          refine wa_done (by kernel_rfl) ?_
          have hW9 : ∀ g, g < V1.heap.size → g ≠ z → (∀ c, (Value.slice ca (kto U k m).length cc).ownBlock = some c → g ≠ c) → (w5.setCell ⟨z, 2, none⟩ (.slice va ((kto U k m).length + 1) vc)).heap[g]? = V1.heap[g]? := fun g h1 h2 h3 => (heap_setCell_other _ _ _ _ (by simpa using h2)).trans (KEEP g h1 h3)
          have t0 : (w5.setCell ⟨z, 2, none⟩ (.slice va ((kto U k m).length + 1) vc)).heap[w.heap.size]? = some (.cells #[.int .i64 0, .string ⟨#[]⟩, .slice none 0 0] 56 (0, 0)) := (hW9 _ (by omega) (by omega) (fun c hc => by have := (hcl c hc).2; omega)).trans ((hb1'.block _ (by omega)).trans r0)
          have t1 : (w5.setCell ⟨z, 2, none⟩ (.slice va ((kto U k m).length + 1) vc)).heap[z]? = some (.cells #[.int .i64 x, .string y, .slice va ((kto U k m).length + 1) vc] 56 (0, 0)) := by rw [heap_setCell_same _ _ _ _ _ _ s5]; rfl
          have t2 : (w5.setCell ⟨z, 2, none⟩ (.slice va ((kto U k m).length + 1) vc)).ownsRow (w.heap.size + 2) 56 3 (.slice va ((kto U k m).length + 1) vc) ((kto U k m).length + 1) (xs ++ [.int .i64 (vnAt L m), .string (vtAt L m), sl]) := own_keep hown5 fun g hg => heap_setCell_other _ _ _ _ (by have := ownsRow_block hown5 g hg; simp; omega)
          have t4 : Below w.heap.size w (w5.setCell ⟨z, 2, none⟩ (.slice va ((kto U k m).length + 1) vc)) := (((below2 hnx hb1').alloc (by omega) _).grown hgrow5 (by simp; omega) (fun c hc => by have := (hcl c hc).2; omega)).setCell (by simp; omega) _
          have t5 : V1.heap.size < (w5.setCell ⟨z, 2, none⟩ (.slice va ((kto U k m).length + 1) vc)).heap.size := by
            have := hgrow5.size
            simp at this ⊢
            omega
          have t6 : Hid (∀ i (h : i < (kto U k (m + 1)).length), ∃ lo hi sl', w.heap.size + 2 ≤ lo ∧ hi ≤ (w5.setCell ⟨z, 2, none⟩ (.slice va ((kto U k m).length + 1) vc)).heap.size ∧ (xs ++ [.int .i64 (vnAt L m), .string (vtAt L m), sl])[i * 3]? = some (.int .i64 (vnAt L (kto U k (m + 1))[i])) ∧ (xs ++ [.int .i64 (vnAt L m), .string (vtAt L m), sl])[i * 3 + 1]? = some (.string (vtAt L (kto U k (m + 1))[i])) ∧ (xs ++ [.int .i64 (vnAt L m), .string (vtAt L m), sl])[i * 3 + 2]? = some sl' ∧ S3v L lo hi f (w5.setCell ⟨z, 2, none⟩ (.slice va ((kto U k m).length + 1) vc)) (kto U k (m + 1))[i] sl' ∧ (∀ g, (Value.slice va ((kto U k m).length + 1) vc).ownBlock = some g → ¬ (lo ≤ g ∧ g < hi))) := fun i hi => by
            rcases Nat.lt_or_ge i (kto U k m).length with h | h
            · have hget : (kto U k (m + 1))[i] = (kto U k m)[i] := by
                have e9 := hKS.out
                rw [List.getElem_of_eq e9, List.getElem_append_left h]
              obtain ⟨lo, hh, sl', l1, l2, x1, x2, x3, tr, hne⟩ := hT.out i h
              rw [hget]
              refine ⟨lo, hh, sl', l1, by omega, (row3_left hrow.1 h 0 (by omega)).trans x1, (row3_left hrow.1 h 1 (by omega)).trans x2, (row3_left hrow.1 h 2 (by omega)).trans x3, ?_, ?_⟩
              · refine R3.keep tr fun g g1 g2 => ?_
                exact (hW9 g (by omega) (by omega) (fun c hc e => hne c hc (by subst e; exact ⟨g1, g2⟩))).trans (hb1'.block g (by omega))
              · intro g hg
                rcases hloc with e | e
                · exact hne g (by rw [← e]; exact hg)
                · rw [hg] at e
                  simp at e
                  omega
            · have hKL2 : (kto U k (m + 1)).length = (kto U k m).length + 1 := by rw [hKS.out]; simp
              have him' : i = (kto U k m).length := by omega
              subst him'
              have hget : (kto U k (m + 1))[(kto U k m).length] = m := by
                have e9 := hKS.out
                rw [List.getElem_of_eq e9]; simp
              obtain ⟨x1, x2, x3⟩ := row3_right (x := .int .i64 (vnAt L m)) (y := .string (vtAt L m)) (z := sl) hrow.1
              rw [hget]
              refine ⟨wr.heap.size, V1.heap.size, sl, by omega, by omega, x1, x2, x3, ?_, ?_⟩
              · refine R3.keep htr fun g g1 g2 => ?_
                have g1' : wr.heap.size ≤ g := g1
                exact hW9 g g2 (by omega) (fun c hc e => by have := (hcl c hc).1; omega)
              · intro g hg
                rcases hloc with e | e
                · have := (hcl g (by rw [← e]; exact hg)).1
                  omega
                · rw [hg] at e
                  simp at e
                  omega
          have hKL : (kto U k m).length + 1 = (kto U k (m + 1)).length := by rw [hKS.out]; simp
          rw [hKL] at t0 t1 t2 t4 t6 ⊢
          obtain ⟨m1, hm1⟩ : ∃ m1, m + 1 = m1 := ⟨_, rfl⟩
          rw [hm1] at t0 t1 t2 t4 t6 ⊢
          clear hW9 KEEP s1 s2 s5 g2 f2 hrun hown5 hgrow5 hloc hrow1 hcl htr hb1 hb1' hT hrow r0 r1 c2 hKL hKS hkl9
          go_wp2
          go_roundw
          case rel => exact ⟨m1, _, _, by omega, by omega, by rw [← hm1]; go_num, t0, t1, t2, t6, t4⟩
          case measure => simp [intOf]; omega
        · have humb : (U m == (k : Int)) = false := by rw [beq_eq_false_iff_ne]; exact hum
          have hKS : kto U k (m + 1) = kto U k m := kto_pass 1 (fun j h1 h2 => (show j = m by omega) ▸ hum)
          obtain ⟨um, hum9⟩ : ∃ um, U m = um := ⟨_, rfl⟩
          rw [hum9] at c2 humb
          obtain ⟨ca, cc, rfl⟩ := ownsRow_shape hrow
          rw [← hKS] at hrow hT r1
          have hT' : Hid (_) := hT
          clear hum9 hT
          obtain ⟨m1, hm1⟩ : ∃ m1, m + 1 = m1 := ⟨_, rfl⟩
          rw [hm1] at hrow hT' r1
          go_wp2
          go_roundw
          case rel => exact ⟨m1, _, xs, by omega, by omega, by rw [← hm1]; go_num, r0, r1, hrow, hT', hnx⟩
          case measure => simp [intOf]; omega
      · obtain rfl : m = n := by omega
        obtain ⟨ca, cc, rfl⟩ := ownsRow_shape hrow
        have hltI : ¬ (m : Int) < (m : Int) := by omega
        have d0 := (cell_of_block r1 0).trans rfl
        have d1 := (cell_of_block r1 1).trans rfl
        have d2 := (cell_of_block r1 2).trans rfl
        have e0 := (cell_of_block r0 0).trans rfl
        have e1 := (cell_of_block r0 1).trans rfl
        have e2 := (cell_of_block r0 2).trans rfl
        have f0 := free_of_block r0 0
        have f1 := free_of_block r0 1
        have f2 := free_of_block r0 2
        have Z9 : (((wr.setCell ⟨w.heap.size, 0, none⟩ (.int .i64 x)).setCell ⟨w.heap.size, 1, none⟩ (.string y)).setCell ⟨w.heap.size, 2, none⟩ (.slice ca (kto U k m).length cc)).heap[w.heap.size]? = some (.cells #[.int .i64 x, .string y, .slice ca (kto U k m).length cc] 56 (0, 0)) := by
          rw [heap_setCell_same _ _ _ _ _ _ (heap_setCell_same _ _ _ _ _ _ (heap_setCell_same _ _ _ _ _ _ r0))]
          rfl
        have k0 := (cell_of_block Z9 0).trans rfl
        have k1 := (cell_of_block Z9 1).trans rfl
        have k2 := (cell_of_block Z9 2).trans rfl
        have HO : ∀ g, g ≠ w.heap.size → (((wr.setCell ⟨w.heap.size, 0, none⟩ (.int .i64 x)).setCell ⟨w.heap.size, 1, none⟩ (.string y)).setCell ⟨w.heap.size, 2, none⟩ (.slice ca (kto U k m).length cc)).heap[g]? = wr.heap[g]? := fun g hg => (heap_setCell_other _ _ _ _ (by simpa using hg)).trans ((heap_setCell_other _ _ _ _ (by simpa using hg)).trans (heap_setCell_other _ _ _ _ (by simpa using hg)))
        have HR : Hid (S3v L w.heap.size (((wr.setCell ⟨w.heap.size, 0, none⟩ (.int .i64 x)).setCell ⟨w.heap.size, 1, none⟩ (.string y)).setCell ⟨w.heap.size, 2, none⟩ (.slice ca (kto U k m).length cc)).heap.size (f + 1) (((wr.setCell ⟨w.heap.size, 0, none⟩ (.int .i64 x)).setCell ⟨w.heap.size, 1, none⟩ (.string y)).setCell ⟨w.heap.size, 2, none⟩ (.slice ca (kto U k m).length cc)) k (.slice ca (kto U k m).length cc)) := by
          have hkk : kV L k = kto U k m := by unfold kV; rw [HU.out, HN.out]
          refine ⟨ca, cc, by rw [hkk], by rw [hkk]; exact own_cap hrow, ?_⟩
          rw [hkk]
          intro j hj
          obtain ⟨lo, hh, sl', l1, l2, x1, x2, x3, tr, _⟩ := hT.out j hj
          obtain ⟨g, c, e, _⟩ := own_pos hrow (by omega)
          simp at e
          obtain ⟨rfl, _⟩ := e
          obtain ⟨cu, hcu, hgb⟩ := own_at hrow (g := g) rfl
          have hgl := lt_of_block hcu
          have hg := HO g (by omega)
          have hl := hrow.1
          refine ⟨g, 0, sl', rfl, by omega, by simpa using hgl, (cell_heap hg _).trans (by rw [Nat.zero_add]; exact (hrow.cellAt _ (by omega)).trans x1), (cell_heap hg _).trans (by rw [Nat.zero_add]; exact (hrow.cellAt _ (by omega)).trans x2), (cell_heap hg _).trans (by rw [Nat.zero_add]; exact (hrow.cellAt _ (by omega)).trans x3), ?_⟩
          exact R3.wide (by omega) (by simpa using l2) (R3.keep tr fun g g1 g2 => HO g (by omega))
        clear HO Z9 hT hrow
        go_wp2
        exact bodyPost_ret (v := .agg #[.int .i64 x, .string y, .slice ca (kto U k m).length cc]) (by simp [results, Tryd.results29, go_sem, k0, k1, k2]) rfl ⟨_, rfl, HR.out, ((hnx.setCell (Nat.le_refl _) _).setCell (Nat.le_refl _) _).setCell (Nat.le_refl _) _⟩


end Go.Proofs.YtlimlpidbjkofaaDoor

namespace Go.Proofs.YtlimlpidbjkofaaDoor
open Go.ChangeShapes Go.WideShapes Go.ChangeAt Go.RowKit

theorem sv_at {U : Nat → Int} {k : Nat} {s : List Nat} (hk : 1 ≤ k) (h : sv U (k - 1) = some s) : sv U k = if (pops (U k) s).length = 0 then none else some (k :: pops (U k) s) := by
  have := sv_next h
  rwa [show k - 1 + 1 = k by omega] at this
/-- What the specification finds at node k: whether its Up is around; and what that says. -/
theorem node_factsV {U : Nat → Int} {n k : Nat} (hk : k < n) (hz : (k = 0 ∧ U k = -1) ∨ (0 < k ∧ 0 ≤ U k ∧ U k ≤ (k : Int) - 1)) (hs : k = 0 ∨ ∃ s, sv U (k - 1) = some s) :
    ∃ (P : Bool) (t : List Nat), PathE U t ∧ (∀ x ∈ t, x < n) ∧ hdY t = (k : Int) - 1 ∧ (k = 0 → P = true ∧ t = []) ∧ (0 < k → P = decide ((pops (U k) t).length ≠ 0)) ∧ (sv U k).isSome = P := by
  rcases hz with ⟨rfl, hz⟩ | ⟨h0, hz1, hz2⟩
  · refine ⟨true, [], Or.inl rfl, by simp, by simp [hdY], fun _ => ⟨rfl, rfl⟩, fun h => absurd h (by omega), ?_⟩
    unfold sv; rw [if_pos hz]; simp
  · obtain ⟨s, hs⟩ : ∃ s, sv U (k - 1) = some s := by
      rcases hs with h | h
      · omega
      · exact h
    obtain ⟨p1, p2, p4⟩ := sv_good _ _ hs
    refine ⟨decide ((pops (U k) s).length ≠ 0), s, Or.inr p1, fun x hx => by have := p4 x hx; omega, ?_, fun h => by omega, fun _ => rfl, ?_⟩
    · cases s with
      | nil => simp [Path] at p1
      | cons a r => simp at p2; subst p2; simp [hdY]; omega
    · rw [sv_at (by omega) hs]
      by_cases hd : (pops (U k) s).length = 0
      · rw [if_pos hd]; simp [hd]
      · rw [if_neg hd]; simp [hd]
/-- A node whose Up is out of bounds. -/
theorem node_outV {U : Nat → Int} {k : Nat} (hz : ¬ ((k = 0 ∧ U k = -1) ∨ (0 < k ∧ 0 ≤ U k ∧ U k ≤ (k : Int) - 1))) (hs : k = 0 ∨ ∃ s, sv U (k - 1) = some s) : sv U k = none := by
  by_cases h0 : k = 0
  · subst h0
    unfold sv
    rw [if_neg (fun h => hz (Or.inl ⟨rfl, h⟩))]
  · obtain ⟨s, hs⟩ : ∃ s, sv U (k - 1) = some s := by
      rcases hs with h | h
      · omega
      · exact h
    rw [sv_at (by omega) hs, if_pos]
    apply Classical.byContradiction
    intro hd
    obtain ⟨j, hj, he⟩ := (pops_mem _ _).1 hd
    have := (sv_good _ _ hs).2.2 j hj
    exact hz (Or.inr ⟨by omega, by omega, by omega⟩)

/-- Which rows of values are trees of at most a hundred nodes. -/
def shpOk (V : List Vn) : Bool := shpV (vuAt V) V.length && decide (V.length ≤ 100)
theorem shpOk_bad {V : List Vn} {k : Nat} (hk : k < V.length) (h : sv (vuAt V) k = none) : shpOk V = false := by
  unfold shpOk
  rw [shpV_sv (by omega), sv_none (V.length - 1) k h (by omega)]
  rfl
theorem shpOk_end {V : List Vn} (h : V.length = 0 ∨ ∃ s, sv (vuAt V) (V.length - 1) = some s) : shpOk V = (decide (1 ≤ (V.length : Int)) && decide ((V.length : Int) ≤ 100)) := by
  unfold shpOk
  rcases h with h | ⟨s, hs⟩
  · rw [h]; simp [shpV]
  · by_cases h0 : V.length = 0
    · rw [h0]; simp [shpV]
    · rw [shpV_sv (by omega), hs]
      have : (1 : Int) ≤ (V.length : Int) := by omega
      simp [this]
      by_cases h1 : V.length ≤ 100
      · have : (V.length : Int) ≤ 100 := by omega
        simp [h1, this]
      · have : ¬ (V.length : Int) ≤ 100 := by omega
        simp [h1, this]

set_option maxRecDepth 100000 in
set_option maxHeartbeats 3200000 in
theorem specShapeV (a : Option Addr) (b off cap : Nat) (L : List Vn) (w : World) (ha : Hid (L ≠ [] → a = some ⟨b, off, none⟩ ∧ b < w.heap.size)) (hL : Hid (vlAt w b off L)) (hlen : L.length ≤ 1048576) :
    Calls Tryd.prog 26 #[.slice a L.length cap] w fun e w' => e = .returned (.bool (shpOk L)) ∧ Below w.heap.size w w' := by
  obtain ⟨R, hR⟩ : ∃ R, Hid (shpOk L = R) := ⟨_, rfl⟩
  rw [hR.out]
  go_enter Tryd.func26, Tryd.ntmps26
  go_wp2
  go_loopw [9] (fun i wr => ∃ k : Nat, k ≤ L.length ∧ i = .int .i64 (k : Int) ∧ Hid (k = 0 ∨ ∃ s, sv (vuAt L) (k - 1) = some s) ∧ Below w.heap.size w wr) (fun i _ => L.length - (intOf i).toNat)
  case atStart => exact ⟨0, by omega, rfl, Or.inl rfl, Below.refl _ _⟩
  case round =>
    obtain ⟨k, hk, rfl, hS, hnx⟩ := hrel
    have hsz := hnx.size
    by_cases hlt : k < L.length
    · obtain ⟨rfl, hb⟩ := ha.out (fun h => by simp [h] at hlt)
      have HC : Hid (∀ j, j < L.length → w.cell? ⟨b, off + j * 3 + 2, none⟩ = some (.int .i64 (vuAt L j))) := fun j hj => by rw [vuAt_get L j hj]; exact (hL.out j hj).2.2
      obtain ⟨c0, c1, c2⟩ := hL.out k hlt
      obtain ⟨x, hx⟩ : ∃ x, L[k].1 = x := ⟨_, rfl⟩
      obtain ⟨y, hy⟩ : ∃ x, L[k].2.1 = x := ⟨_, rfl⟩
      obtain ⟨z, hz⟩ : ∃ x, L[k].2.2 = x := ⟨_, rfl⟩
      have HV : Hid (vuAt L k = z) := by unfold Hid; rw [vuAt_get L k hlt]; exact hz
      rw [hx] at c0
      rw [hy] at c1
      rw [hz] at c2
      have hc0 : wr.cell? ⟨b, off + k * 3, none⟩ = some (.int .i64 x) := (hnx.cell (by exact hb)).trans c0
      have hc1 : wr.cell? ⟨b, off + k * 3 + 1, none⟩ = some (.string y) := (hnx.cell (by exact hb)).trans c1
      have hc2 : wr.cell? ⟨b, off + k * 3 + 2, none⟩ = some (.int .i64 z) := (hnx.cell (by exact hb)).trans c2
      clear hx hy hz c0 c1 c2
      obtain ⟨bk, hbk⟩ : ∃ b, ((k : Int) == 0) = b := ⟨_, rfl⟩
      obtain ⟨bz, hbz⟩ : ∃ b, (z == -1) = b := ⟨_, rfl⟩
      obtain ⟨A2, hA2⟩ : ∃ b, Hid ((decide (-1 ≤ z) && decide (z ≤ (k : Int) - 1)) = b) := ⟨_, rfl⟩
      by_cases hbad : bk ≠ bz ∨ A2 = false
      · obtain rfl : R = false := by
          rw [← hR.out]
          refine shpOk_bad hlt (node_outV ?_ hS.out)
          rw [HV.out]
          intro hz
          rcases hbad with h2 | h2
          · apply h2
            rw [← hbk, ← hbz]
            rcases hz with ⟨rfl, rfl⟩ | ⟨h0, h1, _⟩
            · rfl
            · have e1 : ((k : Int) == 0) = false := by simp; omega
              have e2 : (z == -1) = false := by simp; omega
              rw [e1, e2]
          · have := hA2.out
            rw [h2] at this
            simp at this
            omega
        cases bk <;> cases bz <;> cases A2
        all_goals first
          | (exfalso; simp at hbad; done)
          | (clear hbad
             go_wp2_with (go_at_call 42; refine (in_eq _ _ _ _ (by assumption) _).mono ?_; rintro e w1 ⟨rfl, hw⟩; obtain rfl := hw.symm)
             go_ret
             exact ⟨rfl, hnx.alloc hnx.size _⟩)
      · have hg : bk = bz ∧ A2 = true := by
          cases bk <;> cases bz <;> cases A2 <;> simp_all
        obtain ⟨hkz, rfl⟩ := hg
        clear hbad
        have hz : (k = 0 ∧ z = -1) ∨ (0 < k ∧ 0 ≤ z ∧ z ≤ (k : Int) - 1) := by
          have h2 := hA2.out
          simp at h2
          rw [← hbk, ← hbz] at hkz
          by_cases h0 : k = 0
          · subst h0
            left
            simp at hkz
            exact ⟨rfl, by simpa using hkz⟩
          · right
            have : ((k : Int) == 0) = false := by simp; omega
            rw [this] at hkz
            have : ¬ z = -1 := by simpa using hkz.symm
            omega
        subst hkz
        obtain ⟨P, t, ht1, ht2, ht3, hP0, hP1, hst⟩ := node_factsV (U := vuAt L) hlt (by rw [HV.out]; exact hz) hS.out
        rw [HV.out] at hP1
        have HP : Hid ((bk = true ∧ P = true) ∨ (bk = false ∧ P = decide ((pops z t).length ≠ 0))) := by
          by_cases h0 : k = 0
          · left; exact ⟨by rw [← hbk, h0]; rfl, (hP0 h0).1⟩
          · right; exact ⟨by rw [← hbk]; simp; omega, hP1 (by omega)⟩
        have HT1 : Hid (PathE (vuAt L) t) := ht1
        have HT2 : Hid (∀ x ∈ t, x < L.length) := ht2
        have HT3 : Hid (hdY t = (k : Int) - 1) := ht3
        have HST : Hid ((sv (vuAt L) k).isSome = P) := hst
        clear ht1 ht2 ht3 hP0 hP1 hst hz
        have hnxa := fun o => hnx.alloc hnx.size o
        obtain ⟨g, hg⟩ : ∃ g, wr.heap.size = g := ⟨_, rfl⟩
        have hgw : w.heap.size ≤ g := by omega
        have HO : Hid (P = true → k + 1 = 0 ∨ ∃ s, sv (vuAt L) (k + 1 - 1) = some s) := fun h => by
          right
          rw [show k + 1 - 1 = k by omega]
          have := HST.out
          rw [h] at this
          exact Option.isSome_iff_exists.1 this
        have HB1 : Hid (P = false → R = false) := fun h => by
          rw [← hR.out]
          have := HST.out
          rw [h] at this
          exact shpOk_bad hlt (by simpa using this)
        go_wp2_with (go_at_call 42; refine (in_eq _ _ _ _ (by assumption) _).mono ?_; rintro e w1 ⟨rfl, hw⟩; obtain rfl := hw.symm)
        go_loopw [5, 6] (fun ar at_ wx => ∃ (t' : List Nat) (A : Bool), ar = .bool A ∧ at_ = .int .i64 (hdY t') ∧ Hid (PathE (vuAt L) t') ∧ Hid (∀ x ∈ t', x < L.length) ∧ Hid ((A = true ∧ P = true) ∨ (A = false ∧ P = decide ((pops z t').length ≠ 0))) ∧
          wx.cell? ⟨g, 2, none⟩ = some (.int .i64 z) ∧ g < wx.heap.size ∧ Below w.heap.size w wx) (fun _ at_ _ => (intOf at_ + 1).toNat)
        case atStart => exact ⟨t, bk, rfl, by rw [HT3.out], HT1, HT2, HP, newCell hg.symm rfl, by simp [hg], hnxa _⟩
        case round =>
          clear hnxa hc0 hc1 hc2 hnx hsz hg HP HT1 HT2 HT3
          obtain ⟨t', A, rfl, rfl, hp, hm, hA, d2, hgl, hnx⟩ := hrel
          by_cases hgo : A = false ∧ t' ≠ []
          · obtain ⟨rfl, hne⟩ := hgo
            match t', hp, hm, hA, hne with
            | j :: r, hp, hm, hA, _ =>
              obtain ⟨p1, p2, p3⟩ := path_step (hp.out.resolve_left (by simp))
              have hjl := hm.out j (by simp)
              have hcj : wr.cell? ⟨b, off + j * 3 + 2, none⟩ = some (.int .i64 (hdY r)) := by rw [← p2]; exact (hnx.cell (by exact hb)).trans (HC.out j hjl)
              have hh : hdY (j :: r) = (j : Int) := rfl
              rw [hh]
              obtain ⟨B, hB⟩ : ∃ B, ((j : Int) == z) = B := ⟨_, rfl⟩
              have HA : Hid ((B = true ∧ P = true) ∨ (B = false ∧ P = decide ((pops z r).length ≠ 0))) := by
                have hA := hA.out
                simp at hA
                cases B with
                | true =>
                  left
                  have : (j : Int) = z := by simpa using hB
                  rw [pops_cons_eq this] at hA
                  exact ⟨rfl, by simpa using hA⟩
                | false =>
                  right
                  have : ¬ (j : Int) = z := by simpa using hB
                  rw [pops_cons_ne this] at hA
                  exact ⟨rfl, by simpa using hA⟩
              have HP1 : Hid (PathE (vuAt L) r) := p1
              have HP3 : Hid (hdY r < (j : Int)) := p3
              have HGE : Hid (-1 ≤ hdY r) := hdY_ge r
              clear p1 p2 p3 hh hA
              go_wp2
              go_roundw
              case rel => exact ⟨r, B, rfl, rfl, HP1, fun x hx => hm.out x (List.mem_cons_of_mem _ hx), HA, d2, hgl, hnx⟩
              case measure =>
                have h1 := HP3.out
                have h2 := HGE.out
                simp only [intOf]
                omega
          · have hPA : A = P := by
              have hA := hA.out
              rcases hA with ⟨h1, h2⟩ | ⟨h1, h2⟩
              · rw [h1, h2]
              · have ht : t' = [] := Classical.byContradiction fun h => hgo ⟨h1, h⟩
                subst ht
                rw [h1, h2]; simp [pops]
            subst hPA
            obtain ⟨z0, hz0⟩ : ∃ z0, decide (0 ≤ hdY t') = z0 := ⟨_, rfl⟩
            have hx : z0 = false ∨ (z0 = true ∧ A = true) := by
              cases z0 with
              | false => exact Or.inl rfl
              | true =>
                right
                refine ⟨rfl, ?_⟩
                cases A with
                | true => rfl
                | false =>
                  exfalso
                  have ht : t' = [] := Classical.byContradiction fun h => hgo ⟨rfl, h⟩
                  subst ht
                  simp [hdY] at hz0
            clear hgo hA hp hm
            cases A with
            | false =>
              obtain rfl : z0 = false := by rcases hx with h | ⟨_, h⟩; exact h; simp at h
              obtain rfl : R = false := HB1.out rfl
              clear hx
              go_wp2
              go_ret
              exact ⟨rfl, hnx⟩
            | true =>
              have o1 := HO.out rfl
              have O1 : Hid (k + 1 = 0 ∨ ∃ s, sv (vuAt L) (k + 1 - 1) = some s) := o1
              clear hx o1 HO HB1 HST
              cases z0
              all_goals
                go_wp2
                go_roundw
                case rel => exact ⟨k + 1, by omega, by go_num, O1, hnx⟩
                case measure => simp [intOf]; omega
    · obtain rfl : k = L.length := by omega
      have HI : Hid ((decide (1 ≤ (L.length : Int)) && decide ((L.length : Int) ≤ 100)) = R) := by unfold Hid; rw [← hR.out, shpOk_end hS.out]
      go_wp2_with (go_at_call 42; refine (in_eq _ _ _ _ (by assumption) _).mono ?_; rintro e w1 ⟨rfl, hw⟩; obtain rfl := hw.symm)
      go_ret
      exact ⟨rfl, hnx⟩

end Go.Proofs.YtlimlpidbjkofaaDoor

namespace Go.Proofs.YtlimlpidbjkofaaDoor
open Go.ChangeShapes Go.WideShapes Go.ChangeAt Go.RowKit

/-- Of a type's parts those that a value's parts have: x its kind, K its parts, n the value's number, c how many parts it has. -/
def tk (x : Int) (K : List Nat) (n : Int) (c : Nat) : List Nat :=
  if x = 13 then List.replicate c (K.getD 0 0)
  else if x = 14 then K
  else if x = 15 ∨ x = 18 then (K.drop n.toNat).take 1
  else if x = 17 then K.take n.toNat
  else []
def tkOk (x : Int) (K : List Nat) (n : Int) (c : Nat) : Prop := c ≤ 100 ∧ (x = 13 → K.length = 1) ∧ (x = 15 ∨ x = 18 → 0 ≤ n ∧ n < (K.length : Int)) ∧ (x = 17 → 0 ≤ n ∧ n ≤ (K.length : Int) ∧ 0 < K.length) ∧ K.length ≤ 40

theorem Row3.keep {c0 c1 : Nat → Value} {kids : Nat → List Nat} {lo hi lo' hi' f : Nat} {w w' : World} {ks : List Nat} {sl : Value} (h : Row3 c0 c1 (R3 c0 c1 kids lo hi f) lo hi w ks sl) (h1 : lo' ≤ lo) (h2 : hi ≤ hi') (hk : ∀ g, lo ≤ g → g < hi → w'.heap[g]? = w.heap[g]?) : Row3 c0 c1 (R3 c0 c1 kids lo' hi' f) lo' hi' w' ks sl := by
  obtain ⟨a, cap, e, hc, hh⟩ := h
  refine ⟨a, cap, e, hc, fun j hj => ?_⟩
  obtain ⟨g, off, sl', h3, h4, h5, h6, h7, h8, h9⟩ := hh j hj
  have hg := hk g h4 h5
  exact ⟨g, off, sl', h3, by omega, by omega, (cell_heap hg _).trans h6, (cell_heap hg _).trans h7, (cell_heap hg _).trans h8, R3.wide h1 h2 (R3.keep h9 hk)⟩
theorem Row3.up {c0 c1 : Nat → Value} {kids : Nat → List Nat} {lo hi f : Nat} {w w' : World} {ks : List Nat} {sl : Value} (h : Row3 c0 c1 (R3 c0 c1 kids lo hi f) lo hi w ks sl) (hh : hi ≤ w.heap.size) (hb : Below w.heap.size w w') : Row3 c0 c1 (R3 c0 c1 kids (min lo w.heap.size) w'.heap.size f) (min lo w.heap.size) w'.heap.size w' ks sl :=
  h.keep (by omega) (by have := hb.size; omega) (fun g _ h2 => hb.block g (by omega))
theorem Row3.cut {c0 c1 : Nat → Value} {T : World → Nat → Value → Prop} {lo hi : Nat} {w : World} {ks : List Nat} {a : Option Addr} {cap : Nat} (H : ∀ j (h : j < ks.length), ∃ g off sl', a = some ⟨g, off, none⟩ ∧ lo ≤ g ∧ g < hi ∧
    w.cell? ⟨g, off + j * 3, none⟩ = some (c0 ks[j]) ∧ w.cell? ⟨g, off + j * 3 + 1, none⟩ = some (c1 ks[j]) ∧ w.cell? ⟨g, off + j * 3 + 2, none⟩ = some sl' ∧ T w ks[j] sl') (n m : Nat) (g off : Nat) (ha : a = some ⟨g, off, none⟩) (hm : n + m ≤ ks.length) (hc : m ≤ cap) :
    Row3 c0 c1 T lo hi w ((ks.drop n).take m) (.slice (some ⟨g, off + n * 3, none⟩) m cap) := by
  have hl : ((ks.drop n).take m).length = m := by rw [List.length_take, List.length_drop]; omega
  refine ⟨_, cap, by rw [hl], by omega, fun j hj => ?_⟩
  have hj' : j < m := by omega
  obtain ⟨g', off', sl', h3, h4, h5, h6, h7, h8, h9⟩ := H (n + j) (by omega)
  rw [ha] at h3
  simp at h3
  obtain ⟨rfl, rfl⟩ := h3
  have hget : ((ks.drop n).take m)[j] = ks[n + j]'(by omega) := by rw [List.getElem_take, List.getElem_drop]
  have e0 : off + n * 3 + j * 3 = off + (n + j) * 3 := by omega
  rw [hget]
  exact ⟨g, off + n * 3, sl', rfl, h4, h5, by rw [e0]; exact h6, by rw [e0]; exact h7, by rw [e0]; exact h8, h9⟩

def KidsS (L : List Nd) (f k : Nat) : Prop := ∀ (w : World) (lo hi : Nat) (a : Option Addr) (cap : Nat) (n : Int) (s : ByteArray) (va : Option Addr) (c vc : Nat), (kidsOf L k).length ≤ cap →
  Hid (∀ j (h : j < (kidsOf L k).length), ∃ g off sl', a = some ⟨g, off, none⟩ ∧ lo ≤ g ∧ g < hi ∧
    w.cell? ⟨g, off + j * 3, none⟩ = some (.int .i64 (kdAt L (kidsOf L k)[j])) ∧ w.cell? ⟨g, off + j * 3 + 1, none⟩ = some (.int .i64 (nAt L (kidsOf L k)[j])) ∧ w.cell? ⟨g, off + j * 3 + 2, none⟩ = some sl' ∧ S3 L lo hi f w (kidsOf L k)[j] sl') → hi ≤ w.heap.size → tkOk (kdAt L k) (kidsOf L k) n c →
  Calls Tryd.prog 48 #[.agg #[.int .i64 (kdAt L k), .int .i64 (nAt L k), .slice a (kidsOf L k).length cap], .agg #[.int .i64 n, .string s, .slice va c vc]] w fun e w' => ∃ sl, e = .returned sl ∧ Row3 (fun k => .int .i64 (kdAt L k)) (fun k => .int .i64 (nAt L k)) (R3 (fun k => .int .i64 (kdAt L k)) (fun k => .int .i64 (nAt L k)) (kidsOf L) (min lo w.heap.size) w'.heap.size f) (min lo w.heap.size) w'.heap.size w' (tk (kdAt L k) (kidsOf L k) n c) sl ∧ Below w.heap.size w w'

set_option maxRecDepth 100000 in
set_option maxHeartbeats 3200000 in
theorem specKids_rest (L : List Nd) (f k : Nat) (h13 : kdAt L k ≠ 13) : KidsS L f k := by
  intro w lo hi a cap n s va c vc hcap H hhi hok
  obtain ⟨_, _, o15, o17, o40⟩ := hok
  obtain ⟨K, hK⟩ : ∃ K, kidsOf L k = K := ⟨_, rfl⟩
  have HROW : Hid (Row3 (fun k => .int .i64 (kdAt L k)) (fun k => .int .i64 (nAt L k)) (R3 (fun k => .int .i64 (kdAt L k)) (fun k => .int .i64 (nAt L k)) (kidsOf L) lo hi f) lo hi w K (.slice a K.length cap)) := by
    subst hK
    exact ⟨a, cap, rfl, hcap, H.out⟩
  have HH : Hid (∀ j (h : j < K.length), ∃ g off sl', a = some ⟨g, off, none⟩ ∧ lo ≤ g ∧ g < hi ∧
    w.cell? ⟨g, off + j * 3, none⟩ = some (.int .i64 (kdAt L K[j])) ∧ w.cell? ⟨g, off + j * 3 + 1, none⟩ = some (.int .i64 (nAt L K[j])) ∧ w.cell? ⟨g, off + j * 3 + 2, none⟩ = some sl' ∧ S3 L lo hi f w K[j] sl') := by
    subst hK; exact H.out
  rw [hK] at hcap o15 o17 o40 ⊢
  obtain ⟨x, hx⟩ : ∃ x, kdAt L k = x := ⟨_, rfl⟩
  obtain ⟨y, hy⟩ : ∃ y, nAt L k = y := ⟨_, rfl⟩
  rw [hx] at h13 o15 o17 ⊢
  rw [hy]
  clear hx hy hK H
  have e13 : (x == 13) = false := by rw [beq_eq_false_iff_ne]; exact h13
  by_cases h14 : x = 14
  · subst h14
    have ht : tk 14 K n c = K := by simp [tk]
    rw [ht]
    go_enter Tryd.func48, Tryd.ntmps48
    go_wp2
    go_ret
    refine ⟨_, rfl, HROW.out.up hhi ?_, ?_⟩ <;> (repeat (first | refine Below.alloc ?_ (by first | (simp; done) | (simp; omega)) _ | refine Below.setCell ?_ (by first | (simp; done) | (simp; omega)) _ | refine bel_dN ?_ _ | refine Below.drew ?_ | exact Below.refl _ _))
  · have e14 : (x == 14) = false := by rw [beq_eq_false_iff_ne]; exact h14
    by_cases h15 : x = 15 ∨ x = 18
    · obtain ⟨n0, n1⟩ := o15 h15
      obtain ⟨N, hN⟩ : ∃ N : Nat, n = (N : Int) := ⟨n.toNat, by omega⟩
      subst hN
      have hNK : N < K.length := by omega
      obtain ⟨g, off, _, hga, _, _, _⟩ := HH.out N hNK
      have ht : tk x K (N : Int) c = (K.drop N).take 1 := by
        unfold tk; rw [if_neg h13, if_neg h14, if_pos h15]; rfl
      have HCUT : Hid (Row3 (fun k => .int .i64 (kdAt L k)) (fun k => .int .i64 (nAt L k)) (R3 (fun k => .int .i64 (kdAt L k)) (fun k => .int .i64 (nAt L k)) (kidsOf L) lo hi f) lo hi w ((K.drop N).take 1) (.slice (some ⟨g, off + N * 3, none⟩) 1 (cap - N))) := Row3.cut HH.out N 1 g off hga (by omega) (by omega)
      subst hga
      rw [ht]
      have hw1 : wrap64 ((N : Int) + 1) = (N : Int) + 1 := w64v (by omega) (by omega)
      have hNc : ¬ (cap : Int) < (N : Int) + 1 := by omega
      clear ht
      rcases h15 with rfl | rfl
      all_goals
        go_enter Tryd.func48, Tryd.ntmps48
        go_wp2
        go_ret
        refine ⟨_, rfl, HCUT.out.up hhi ?_, ?_⟩ <;> (repeat (first | refine Below.alloc ?_ (by first | (simp; done) | (simp; omega)) _ | refine Below.setCell ?_ (by first | (simp; done) | (simp; omega)) _ | refine bel_dN ?_ _ | refine Below.drew ?_ | exact Below.refl _ _))
    · have e15 : (x == 15) = false := by rw [beq_eq_false_iff_ne]; exact fun h => h15 (Or.inl h)
      have e18 : (x == 18) = false := by rw [beq_eq_false_iff_ne]; exact fun h => h15 (Or.inr h)
      by_cases h17 : x = 17
      · obtain ⟨n0, n1, n2⟩ := o17 h17
        obtain ⟨N, hN⟩ : ∃ N : Nat, n = (N : Int) := ⟨n.toNat, by omega⟩
        subst hN
        obtain ⟨g, off, _, hga, _, _, _⟩ := HH.out 0 n2
        have ht : tk x K (N : Int) c = (K.drop 0).take N := by
          unfold tk; rw [if_neg h13, if_neg h14, if_neg h15, if_pos h17]; rfl
        have HCUT : Hid (Row3 (fun k => .int .i64 (kdAt L k)) (fun k => .int .i64 (nAt L k)) (R3 (fun k => .int .i64 (kdAt L k)) (fun k => .int .i64 (nAt L k)) (kidsOf L) lo hi f) lo hi w ((K.drop 0).take N) (.slice (some ⟨g, off + 0 * 3, none⟩) N cap)) := Row3.cut HH.out 0 N g off hga (by omega) (by omega)
        rw [Nat.zero_mul, Nat.add_zero] at HCUT
        subst hga h17
        rw [ht]
        have hNc : ¬ (cap : Int) < (N : Int) := by omega
        clear ht
        go_enter Tryd.func48, Tryd.ntmps48
        go_wp2
        go_ret
        refine ⟨_, rfl, HCUT.out.up hhi ?_, ?_⟩ <;> (repeat (first | refine Below.alloc ?_ (by first | (simp; done) | (simp; omega)) _ | refine Below.setCell ?_ (by first | (simp; done) | (simp; omega)) _ | refine bel_dN ?_ _ | refine Below.drew ?_ | exact Below.refl _ _))
      · have e17 : (x == 17) = false := by rw [beq_eq_false_iff_ne]; exact h17
        have ht : tk x K n c = [] := by
          unfold tk; rw [if_neg h13, if_neg h14, if_neg h15, if_neg h17]
        rw [ht]
        go_enter Tryd.func48, Tryd.ntmps48
        go_wp2
        go_ret
        refine ⟨_, rfl, ⟨none, 0, rfl, Nat.le_refl _, fun j h => absurd h (by simp)⟩, ?_⟩
        (repeat (first | refine Below.alloc ?_ (by first | (simp; done) | (simp; omega)) _ | refine Below.setCell ?_ (by first | (simp; done) | (simp; omega)) _ | refine bel_dN ?_ _ | refine Below.drew ?_ | exact Below.refl _ _))

set_option maxRecDepth 100000 in
set_option maxHeartbeats 3200000 in
theorem specKids_list (L : List Nd) (f k : Nat) (h13 : kdAt L k = 13) : KidsS L f k := by
  intro w lo hi a cap n s va c vc hcap H hhi hok
  obtain ⟨i0, hi0, hz0, hz1, hz2⟩ := info_parts Tryd.infoTr
  obtain ⟨hc100, o13, _, _, _⟩ := hok
  have hK1 := o13 h13
  obtain ⟨K0, hK⟩ : ∃ K0, kidsOf L k = [K0] := List.length_eq_one_iff.1 hK1
  obtain ⟨g, off, sl', rfl, g1, g2, c0, c1, c2, tr⟩ := H.out 0 (by omega)
  simp only [hK] at c0 c1 c2 tr
  simp only [List.getElem_cons_zero, Nat.zero_mul, Nat.add_zero] at c0 c1 c2 tr
  rw [h13, hK]
  have ht : tk 13 [K0] n c = List.replicate c K0 := by simp [tk]
  rw [ht]
  obtain ⟨x0, hx0⟩ : ∃ x, kdAt L K0 = x := ⟨_, rfl⟩
  obtain ⟨y0, hy0⟩ : ∃ x, nAt L K0 = x := ⟨_, rfl⟩
  rw [hx0] at c0
  rw [hy0] at c1
  have HXY : Hid (kdAt L K0 = x0 ∧ nAt L K0 = y0) := ⟨hx0, hy0⟩
  obtain ⟨sa, sn, sc, rfl⟩ := R3.form tr
  have HTR : Hid (S3 L lo hi f w K0 (.slice sa sn sc)) := tr
  obtain ⟨y, hy⟩ : ∃ y, nAt L k = y := ⟨_, rfl⟩
  rw [hy]
  rw [hK] at hcap
  clear H ht hx0 hy0 hy o13 hK1 hK h13 tr
  simp only [List.length_singleton] at hcap ⊢
  obtain ⟨z, hz⟩ : ∃ z, w.heap.size + 1 = z := ⟨_, rfl⟩
  obtain ⟨W, hW⟩ : ∃ W, (w.alloc (.cells #[.int .i64 13, .int .i64 y, .slice (some ⟨g, off, none⟩) 1 cap] 52)).alloc (.cells #[.int .i64 n, .string s, .slice va c vc] 56) = W := ⟨_, rfl⟩
  have q0 : W.heap[w.heap.size]? = some (.cells #[.int .i64 13, .int .i64 y, .slice (some ⟨g, off, none⟩) 1 cap] 52 (0, 0)) := by rw [← hW]; exact (Below.heap_alloc _ _ _ (by simp)).trans (heap_alloc_new _ _)
  have q1 : W.heap[z]? = some (.cells #[.int .i64 n, .string s, .slice va c vc] 56 (0, 0)) := by
    rw [← hW, ← hz]
    have e : w.heap.size + 1 = (w.alloc (.cells #[.int .i64 13, .int .i64 y, .slice (some ⟨g, off, none⟩) 1 cap] 52)).heap.size := by simp
    rw [e]
    exact heap_alloc_new _ _
  have q3 : Below w.heap.size w W := by rw [← hW]; exact ((Below.refl _ _).alloc (Nat.le_refl _) _).alloc (by simp) _
  have q4 : W.heap.size = w.heap.size + 2 := by rw [← hW]; simp
  have HQ4 : Hid (W.heap.size = w.heap.size + 2) := q4
  clear q4
  have a0 := (cell_of_block q0 0).trans rfl
  have a2 := (cell_of_block q0 2).trans rfl
  have a5 := (cell_of_block q1 2).trans rfl
  go_enter Tryd.func48, Tryd.ntmps48
  go_wp2
  go_loopw [5, 13] (fun v i wr => ∃ (m : Nat) (xs : List Value), m ≤ c ∧ i = .int .i64 (m : Int) ∧ wr.ownsRow (w.heap.size + 2) 52 3 v m xs ∧ Hid (∀ j, j < m → xs[j * 3]? = some (.int .i64 x0) ∧ xs[j * 3 + 1]? = some (.int .i64 y0) ∧ xs[j * 3 + 2]? = some (.slice sa sn sc)) ∧ wr.heap[w.heap.size]? = some (.cells #[.int .i64 13, .int .i64 y, .slice (some ⟨g, off, none⟩) 1 cap] 52 (0, 0)) ∧ Below w.heap.size w wr) (fun _ i _ => c - (intOf i).toNat)
  case atStart => exact ⟨0, [], by omega, rfl, World.ownsRow_nil _ _ _ _, fun j h => absurd h (by omega), q0, q3⟩
  case round =>
    clear q0 q1 q3 a0 a2 a5 hW
    obtain ⟨m, xs, hm, rfl, hrow, hX, r0, hnx⟩ := hrel
    have hsz := hnx.size
    have hl0 := lt_of_block r0
    obtain ⟨ca, cc, rfl⟩ := ownsRow_shape hrow
    by_cases hlt : m < c
    · have d0 : wr.cell? ⟨g, off, none⟩ = some (.int .i64 x0) := (hnx.cell (p := ⟨g, off, none⟩) (by show g < _; omega)).trans c0
      have d1 : wr.cell? ⟨g, off + 1, none⟩ = some (.int .i64 y0) := (hnx.cell (p := ⟨g, off + 1, none⟩) (by show g < _; omega)).trans c1
      have d2 : wr.cell? ⟨g, off + 2, none⟩ = some (.slice sa sn sc) := (hnx.cell (p := ⟨g, off + 2, none⟩) (by show g < _; omega)).trans c2
      have a2 := (cell_of_block r0 2).trans rfl
      have hltI : (m : Int) < (c : Int) := by omega
      have hcl : ∀ k, (Value.slice ca m cc).ownBlock = some k → w.heap.size + 2 ≤ k := fun k hk => ownsRow_block hrow k hk
      go_wp2_with (at_builtin; refine wpList_append_own _ rfl _ _ 50 rfl (w.heap.size + 2) 52 i0 (.agg #[.int .i64 0, .int .i64 0, .slice none 0 0]) 3 40 Tryd.underlying50 hi0 hz0 hz1 hz2 rfl (by decide) _ _ _ rfl (hrow.alloc _) ⟨wr.heap.size, 0, none⟩ 1 1 [.int .i64 x0, .int .i64 y0, .slice sa sn sc] rfl rfl (tri_new _ _ _ _ _) (by intro u hu; simp at hu; rcases hu with rfl | rfl | rfl; rfl; rfl; rfl) (by unfold maxLen; omega) (by omega) (by simp; omega) ?_)
      intro v' w3 hown3 hgrow3 _
      have hb3 : Below w.heap.size w w3 := (hnx.alloc hsz _).grown hgrow3 (by simp; omega) (fun k hk => by have := hcl k hk; omega)
      have r3 : w3.heap[w.heap.size]? = some (.cells #[.int .i64 13, .int .i64 y, .slice (some ⟨g, off, none⟩) 1 cap] 52 (0, 0)) := (hgrow3.block _ (by simp; omega) (fun e => by have := hcl _ e.symm; omega)).trans ((Below.heap_alloc _ _ _ hl0).trans r0)
      have HX3 : Hid (∀ j, j < m + 1 → (xs ++ [.int .i64 x0, .int .i64 y0, .slice sa sn sc])[j * 3]? = some (.int .i64 x0) ∧ (xs ++ [.int .i64 x0, .int .i64 y0, .slice sa sn sc])[j * 3 + 1]? = some (.int .i64 y0) ∧ (xs ++ [.int .i64 x0, .int .i64 y0, .slice sa sn sc])[j * 3 + 2]? = some (.slice sa sn sc)) := fun j hj => by
        rcases Nat.lt_or_ge j m with h | h
        · obtain ⟨x1, x2, x3⟩ := hX.out j h
          exact ⟨(row3_left hrow.1 h 0 (by omega)).trans x1, (row3_left hrow.1 h 1 (by omega)).trans x2, (row3_left hrow.1 h 2 (by omega)).trans x3⟩
        · obtain rfl : j = m := by omega
          exact row3_right hrow.1
      clear hgrow3 hcl hrow hX a2 d0 d1 d2
      go_wp2
      go_roundw
      case rel => exact ⟨m + 1, _, by omega, by go_num, hown3, HX3, r3, hb3⟩
      case measure => simp [intOf]; omega
    · obtain rfl : m = c := by omega
      have HROW : Hid (Row3 (fun k => .int .i64 (kdAt L k)) (fun k => .int .i64 (nAt L k)) (R3 (fun k => .int .i64 (kdAt L k)) (fun k => .int .i64 (nAt L k)) (kidsOf L) (min lo w.heap.size) wr.heap.size f) (min lo w.heap.size) wr.heap.size wr (List.replicate m K0) (.slice ca m cc)) := by
        refine ⟨ca, cc, by rw [List.length_replicate], by rw [List.length_replicate]; exact own_cap hrow, fun j hj => ?_⟩
        rw [List.length_replicate] at hj
        obtain ⟨x1, x2, x3⟩ := hX.out j hj
        obtain ⟨gg, c9, e, _⟩ := own_pos hrow (by omega)
        simp at e
        obtain ⟨rfl, _⟩ := e
        obtain ⟨cu, hcu, hgb⟩ := own_at hrow (g := gg) rfl
        have hgl := lt_of_block hcu
        have hl := hrow.1
        have e9 : (List.replicate m K0)[j]'(by rw [List.length_replicate]; exact hj) = K0 := List.getElem_replicate _
        rw [← HXY.out.1] at x1
        rw [← HXY.out.2] at x2
        rw [e9]
        refine ⟨gg, 0, .slice sa sn sc, rfl, by omega, by omega, by rw [Nat.zero_add]; exact (hrow.cellAt _ (by omega)).trans x1, by rw [Nat.zero_add]; exact (hrow.cellAt _ (by omega)).trans x2, by rw [Nat.zero_add]; exact (hrow.cellAt _ (by omega)).trans x3, ?_⟩
        exact R3.wide (by omega) (by omega) (R3.keep HTR.out fun k _ h2 => hnx.block k (by omega))
      have hltI : ¬ (m : Int) < (m : Int) := by omega
      clear hrow hX
      go_wp2
      go_ret
      exact ⟨_, rfl, HROW.out, hnx⟩

theorem specKids (L : List Nd) (f k : Nat) : KidsS L f k := by
  by_cases h13 : kdAt L k = 13
  · exact specKids_list L f k h13
  · exact specKids_rest L f k h13

end Go.Proofs.YtlimlpidbjkofaaDoor
