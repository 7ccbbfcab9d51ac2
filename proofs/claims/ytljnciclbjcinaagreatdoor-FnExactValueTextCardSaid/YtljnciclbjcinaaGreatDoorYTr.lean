/-
  Types as trees: what the specification makes of nodes.
-/
import Derived.Test.YtljnciclbjcinaaGreatDoorYGd5
import Derived.Test.YtljnciclbjcinaaGreatDoorQChain2
import Derived.Deep.QuietTactic
import Derived.BigQuiet
namespace Go.Proofs.YtljnciclbjcinaaGreatDoor
open Go.ChangeShapes Go.WideShapes Go.ChangeAt Go.RowKit

def kdAt (L : List Nd) (k : Nat) : Int := (L.getD k (0, 0, -1)).1
def nAt (L : List Nd) (k : Nat) : Int := (L.getD k (0, 0, -1)).2.1
theorem kdAt_get (L : List Nd) (k : Nat) (h : k < L.length) : kdAt L k = L[k].1 := by
  unfold kdAt; rw [List.getD_eq_getElem?_getD, List.getElem?_eq_getElem h]; rfl
theorem nAt_get (L : List Nd) (k : Nat) (h : k < L.length) : nAt L k = L[k].2.1 := by
  unfold nAt; rw [List.getD_eq_getElem?_getD, List.getElem?_eq_getElem h]; rfl
theorem kids_mem {L : List Nd} {k j : Nat} (h : j ∈ kidsOf L k) : k < j ∧ j < L.length := by
  unfold kidsOf at h
  simp at h
  exact ⟨h.2.1, h.1⟩

/-- The parts of node k lie behind the slice sl, in blocks from lo on and below hi. -/
def TrRep (L : List Nd) (lo hi : Nat) : Nat → World → Nat → Value → Prop
  | 0, _, _, _ => False
  | f + 1, w, k, sl => ∃ a cap, sl = .slice a (kidsOf L k).length cap ∧ ∀ j (h : j < (kidsOf L k).length), ∃ g sl', a = some ⟨g, 0, none⟩ ∧ lo ≤ g ∧ g < hi ∧
    w.cell? ⟨g, j * 3, none⟩ = some (.int .i64 (kdAt L (kidsOf L k)[j])) ∧ w.cell? ⟨g, j * 3 + 1, none⟩ = some (.int .i64 (nAt L (kidsOf L k)[j])) ∧ w.cell? ⟨g, j * 3 + 2, none⟩ = some sl' ∧ TrRep L lo hi f w (kidsOf L k)[j] sl'

theorem cell_heap {w w' : World} {g : Nat} (h : w'.heap[g]? = w.heap[g]?) (o : Nat) : w'.cell? ⟨g, o, none⟩ = w.cell? ⟨g, o, none⟩ := by
  simp [World.cell?, h]
theorem TrRep.keep {L : List Nd} {lo hi : Nat} : ∀ {f : Nat} {w w' : World} {k : Nat} {sl : Value}, TrRep L lo hi f w k sl → (∀ g, lo ≤ g → g < hi → w'.heap[g]? = w.heap[g]?) → TrRep L lo hi f w' k sl
  | 0, _, _, _, _, h, _ => h.elim
  | f + 1, w, w', k, sl, h, hk => by
    obtain ⟨a, cap, e, hh⟩ := h
    refine ⟨a, cap, e, fun j hj => ?_⟩
    obtain ⟨g, sl', h1, h2, h3, h4, h5, h6, h7⟩ := hh j hj
    have hg := hk g h2 h3
    exact ⟨g, sl', h1, h2, h3, (cell_heap hg _).trans h4, (cell_heap hg _).trans h5, (cell_heap hg _).trans h6, h7.keep hk⟩
theorem TrRep.wide {L : List Nd} {lo hi lo' hi' : Nat} (h1 : lo' ≤ lo) (h2 : hi ≤ hi') : ∀ {f : Nat} {w : World} {k : Nat} {sl : Value}, TrRep L lo hi f w k sl → TrRep L lo' hi' f w k sl
  | 0, _, _, _, h => h.elim
  | f + 1, w, k, sl, h => by
    obtain ⟨a, cap, e, hh⟩ := h
    refine ⟨a, cap, e, fun j hj => ?_⟩
    obtain ⟨g, sl', g1, g2, g3, g4, g5, g6, g7⟩ := hh j hj
    exact ⟨g, sl', g1, by omega, by omega, g4, g5, g6, TrRep.wide h1 h2 g7⟩
theorem TrRep.below {L : List Nd} {lo hi f B : Nat} {w w' : World} {k : Nat} {sl : Value} (h : TrRep L lo hi f w k sl) (hb : Below B w w') (hh : hi ≤ B) : TrRep L lo hi f w' k sl :=
  h.keep fun g _ h2 => hb.block g (by omega)

theorem tri_new (w : World) (x y z : Value) (t : TypeId) : ∀ j u, [x, y, z][j]? = some u → (w.alloc (.cells #[x, y, z] t)).cell? ((⟨w.heap.size, 0, none⟩ : Addr).add j) = some u := by
  intro j u hj
  match j, hj with
  | 0, hj => simp at hj; subst hj; simp [Addr.add]
  | 1, hj => simp at hj; subst hj; simp [Addr.add]
  | 2, hj => simp at hj; subst hj; simp [Addr.add]
theorem TrRep.one {L : List Nd} {lo hi f : Nat} {w : World} {k : Nat} {sl : Value} (h : TrRep L lo hi f w k sl) : sl.oneCell' = true := by
  cases f with
  | zero => exact h.elim
  | succ f => obtain ⟨a, cap, rfl, _⟩ := h; rfl
theorem row3_left {xs ys : List Value} {m i : Nat} (hl : xs.length = m * 3) (hi : i < m) (r : Nat) (hr : r < 3) : (xs ++ ys)[i * 3 + r]? = xs[i * 3 + r]? := List.getElem?_append_left (by omega)
theorem row3_right {xs : List Value} {m : Nat} {x y z : Value} (hl : xs.length = m * 3) : (xs ++ [x, y, z])[m * 3]? = some x ∧ (xs ++ [x, y, z])[m * 3 + 1]? = some y ∧ (xs ++ [x, y, z])[m * 3 + 2]? = some z := by
  refine ⟨?_, ?_, ?_⟩
  · rw [List.getElem?_append_right (by omega), show m * 3 - xs.length = 0 by omega]; rfl
  · rw [List.getElem?_append_right (by omega), show m * 3 + 1 - xs.length = 1 by omega]; rfl
  · rw [List.getElem?_append_right (by omega), show m * 3 + 2 - xs.length = 2 by omega]; rfl

theorem Tryz.infoTr : (Tryz.prog.info? 47).map (fun i => (i.zero, i.size, i.bytes)) = some (some (.agg #[.int .i64 0, .int .i64 0, .slice none 0 0]), 3, 40) := by kernel_rfl

set_option maxRecDepth 100000 in
set_option maxHeartbeats 6400000 in
theorem specTree (L : List Nd) (h40 : L.length ≤ 40) (b off cap : Nat) : ∀ (f k : Nat), k < L.length → L.length - k ≤ f → ∀ w : World, b < w.heap.size → ndAt w b off L →
    Calls Tryz.prog 21 #[.slice (some ⟨b, off, none⟩) L.length cap, .int .i64 (k : Int)] w fun e w' => ∃ sl, e = .returned (.agg #[.int .i64 (kdAt L k), .int .i64 (nAt L k), sl]) ∧ TrRep L w.heap.size w'.heap.size f w' k sl ∧ Below w.heap.size w w' := by
  intro f
  induction f with
  | zero => intro k hk hf; omega
  | succ f ih =>
    intro k hk hf w hb hL
    obtain ⟨i0, hi, hz0, hz1, hz2⟩ := info_parts Tryz.infoTr
    have IH : Hid (∀ j, j < L.length → L.length - j ≤ f → ∀ w : World, b < w.heap.size → ndAt w b off L →
      Calls Tryz.prog 21 #[.slice (some ⟨b, off, none⟩) L.length cap, .int .i64 (j : Int)] w fun e w' => ∃ sl, e = .returned (.agg #[.int .i64 (kdAt L j), .int .i64 (nAt L j), sl]) ∧ TrRep L w.heap.size w'.heap.size f w' j sl ∧ Below w.heap.size w w') := ih
    clear ih
    have HL : Hid (ndAt w b off L) := hL
    obtain ⟨c0, c1, _⟩ := hL k hk
    rw [← kdAt_get L k hk] at c0
    rw [← nAt_get L k hk] at c1
    clear hL
    obtain ⟨x, hx⟩ : ∃ x, kdAt L k = x := ⟨_, rfl⟩
    obtain ⟨y, hy⟩ : ∃ y, nAt L k = y := ⟨_, rfl⟩
    rw [hx] at c0 ⊢
    rw [hy] at c1 ⊢
    go_enter Tryz.func21, Tryz.ntmps21
    go_wp2
    go_region
    obtain ⟨W1, hW1⟩ : ∃ W1, W1 = ((w.alloc (.cells #[.int .i64 0, .int .i64 0, .slice none 0 0] 47)).alloc (.cells #[.int .i64 x, .int .i64 y, .slice none 0 0] 47)).drew := ⟨_, rfl⟩
    rw [← hW1]
    have q0 : W1.heap[w.heap.size]? = some (.cells #[.int .i64 0, .int .i64 0, .slice none 0 0] 47 (0, 0)) := by rw [hW1]; exact (Below.heap_alloc _ _ _ (by simp)).trans (heap_alloc_new _ _)
    have q1 : W1.heap[w.heap.size + 1]? = some (.cells #[.int .i64 x, .int .i64 y, .slice none 0 0] 47 (0, 0)) := by
      rw [hW1]
      have e : w.heap.size + 1 = (w.alloc (.cells #[.int .i64 0, .int .i64 0, .slice none 0 0] 47)).heap.size := by simp
      rw [e]
      exact heap_alloc_new _ _
    have q2 : W1.heap.size = w.heap.size + 2 := by rw [hW1]; simp
    have q3 : Below w.heap.size w W1 := by rw [hW1]; exact ((((Below.refl _ _).alloc (Nat.le_refl _) _).alloc (by simp) _)).drew
    clear hW1 c0 c1
    have HQ := specParts b off cap L W1 (by omega) (HL.out.below q3 hb) (by omega) k hk
    go_wp2_with fail
    refine HQ.mono ?_
    rintro e w2 ⟨vk, rfl, hown, hb2⟩
    clear HQ
    obtain ⟨z, hz⟩ : ∃ z, w.heap.size + 1 = z := ⟨_, rfl⟩
    have r0 : w2.heap[w.heap.size]? = some (.cells #[.int .i64 0, .int .i64 0, .slice none 0 0] 47 (0, 0)) := (hb2.block _ (by omega)).trans q0
    have r1 : w2.heap[z]? = some (.cells #[.int .i64 x, .int .i64 y, .slice none 0 0] 47 (0, 0)) := by rw [← hz]; exact (hb2.block _ (by omega)).trans q1
    have r3 := below2 q3 hb2
    have hkb : ∀ g, vk.ownBlock = some g → w.heap.size + 2 ≤ g := fun g hg => by have := ownsRow_block hown g hg; omega
    obtain ⟨K, hK⟩ : ∃ K, kidsOf L k = K := ⟨_, rfl⟩
    have hKL : K.length ≤ 40 := by rw [← hK]; exact Nat.le_trans (kids_le L k) h40
    have hKm : Hid (∀ j ∈ K, k < j ∧ j < L.length) := fun j hj => kids_mem (by rw [hK]; exact hj)
    rw [hK] at hown
    obtain ⟨ka, kc, rfl⟩ := ownsRow_shape hown
    have HKB : Hid (∀ g, (Value.slice ka K.length kc).ownBlock = some g → w.heap.size + 2 ≤ g) := hkb
    clear q0 q1 q2 q3 hkb hb2
    rw [hz]
    go_wp2
    go_loopw [23] (fun i wr => ∃ (m : Nat) (cur : Value) (xs : List Value), m ≤ K.length ∧ i = .int .i64 (m : Int) ∧ wr.heap[w.heap.size]? = some (.cells #[.int .i64 0, .int .i64 0, .slice none 0 0] 47 (0, 0)) ∧ wr.heap[z]? = some (.cells #[.int .i64 x, .int .i64 y, cur] 47 (0, 0)) ∧
      wr.ownsRow (w.heap.size + 2) 47 3 cur m xs ∧ wr.ownsRow (w.heap.size + 2) 3 1 (.slice ka K.length kc) K.length (nv K) ∧
      Hid (∀ i (h : i < K.length), i < m → ∃ lo hi sl', w.heap.size + 2 ≤ lo ∧ hi ≤ wr.heap.size ∧ xs[i * 3]? = some (.int .i64 (kdAt L K[i])) ∧ xs[i * 3 + 1]? = some (.int .i64 (nAt L K[i])) ∧ xs[i * 3 + 2]? = some sl' ∧ TrRep L lo hi f wr K[i] sl' ∧ (∀ g, cur.ownBlock = some g → ¬ (lo ≤ g ∧ g < hi))) ∧ Below w.heap.size w wr) (fun i _ => K.length - (intOf i).toNat)
    case atStart =>
      refine ⟨0, .slice none 0 0, [], by omega, rfl, r0, r1, World.ownsRow_nil _ _ _ _, ⟨hown.1, ?_⟩, fun i _ h => absurd h (by omega), r3⟩
      rcases hown.2 with h | ⟨g, cap', cur, e1, e2, e3⟩
      · exact Or.inl h
      · exact Or.inr ⟨g, cap', cur, e1, HKB.out g (by rw [e1]; rfl), e3⟩
    case round =>
      clear r0 r1 r3 hown
      obtain ⟨m, cur, xs, hm, rfl, r0, r1, hrow, hown, hT, hnx⟩ := hrel
      have hsz := hnx.size
      have hzl := lt_of_block r1
      by_cases hlt : m < K.length
      · obtain ⟨gk, rfl, hgk⟩ : ∃ gk, ka = some ⟨gk, 0, none⟩ ∧ gk < wr.heap.size := by
          obtain ⟨g, c, e, _⟩ := own_pos hown (by omega)
          simp at e
          obtain ⟨cu, hcu, _⟩ := own_at hown (g := g) (by rw [e.1]; rfl)
          exact ⟨g, e.1, lt_of_block hcu⟩
        have hcm : wr.cell? ⟨gk, m, none⟩ = some (.int .i64 (K[m] : Int)) := (hown.cellAt m (by omega)).trans (by simp [nv, hlt])
        obtain ⟨hj1, hj2⟩ := hKm.out K[m] (List.getElem_mem hlt)
        obtain ⟨j, hj⟩ : ∃ j, K[m] = j := ⟨_, rfl⟩
        rw [hj] at hcm hj1 hj2
        have HJ : Hid (K[m] = j) := hj
        clear hj
        have hjf : L.length - j ≤ f := by omega
        obtain ⟨ca, cc, rfl⟩ := ownsRow_shape hrow
        go_wp2_with fail
        refine wa_begin (by kernel_rfl) ?_
        refine wa_take 0 (some 27) (.pointer (some ⟨z, 2, none⟩)) rfl rfl (by kernel_rfl) (by kernel_rfl) (by kernel_rfl) (fun _ _ _ h => h) (by rfl) (fun w' => by first | rfl | (go_simp; done)) ?_
        simp only [Act.put, List.setIfInBounds_toArray, List.set_cons_zero, List.set_cons_succ]
        refine wa_take 2 (some 29) (.slice (some ⟨b, off, none⟩) L.length cap) rfl rfl (by kernel_rfl) (by kernel_rfl) (by kernel_rfl) (fun _ _ _ h => h) (by rfl) (fun w' => by first | rfl | (go_simp; done)) ?_
        simp only [Act.put, List.setIfInBounds_toArray, List.set_cons_zero, List.set_cons_succ]
        refine wa_take 3 (some 30) (.int .i64 (j : Int)) rfl rfl (by kernel_rfl) (by kernel_rfl) (by kernel_rfl) (fun _ _ _ h => h) (by rfl) (fun w' => by first | rfl | (go_simp; done)) ?_
        simp only [Act.put, List.setIfInBounds_toArray, List.set_cons_zero, List.set_cons_succ]
        refine wa_first 1 (some 28) (.slice ca m cc) (fun w' => w'.heap[z]? = some (.cells #[.int .i64 x, .int .i64 y, .slice ca m cc] 47 (0, 0))) rfl rfl (by kernel_rfl) (by kernel_rfl) (by kernel_rfl) (fun _ _ _ h => h) (by rfl) (fun w' hS => by have q := (cell_of_block hS 2).trans rfl; first | rfl | (go_simp; done)) r1 ?_
        simp only [Act.put, List.setIfInBounds_toArray, List.set_cons_zero, List.set_cons_succ]
        refine wb_call 4 (some 31) 21 #[.slice (some ⟨b, off, none⟩) L.length cap, .int .i64 (j : Int)] (by kernel_rfl) (by kernel_rfl) rfl rfl (by rfl) (by kernel_rfl) ?_
        refine (IH.out j hj2 hjf wr.drew (Nat.lt_of_lt_of_le hb hsz) (HL.out.below hnx.drew hb)).mono ?_
        rintro e V1 ⟨sl, rfl, htr, hb1⟩
        have hb1' : Below wr.heap.size wr V1 := ⟨hb1.os, hb1.tape, hb1.output, hb1.size, hb1.block⟩
        have hV1 := hb1'.size
        have s1 : V1.heap[z]? = some (.cells #[.int .i64 x, .int .i64 y, .slice ca m cc] 47 (0, 0)) := (hb1'.block z hzl).trans r1
        refine ⟨_, rfl, s1, ?_⟩
        simp only [Act.put, List.setIfInBounds_toArray, List.set_cons_zero, List.set_cons_succ]
        have s2 : (V1.alloc (.cells #[.int .i64 (kdAt L j), .int .i64 (nAt L j), sl] 47)).heap[z]? = some (.cells #[.int .i64 x, .int .i64 y, .slice ca m cc] 47 (0, 0)) := (Below.heap_alloc _ _ _ (lt_of_block s1)).trans s1
        refine wb_val 5 (some 32) (.slice (some ⟨V1.heap.size, 0, none⟩) 1 1) (V1.alloc (.cells #[.int .i64 (kdAt L j), .int .i64 (nAt L j), sl] 47)) (by kernel_rfl) (by kernel_rfl) rfl rfl (by rfl) (by first | rfl | go_simp) s2 ?_
        simp only [Act.put, List.setIfInBounds_toArray, List.set_cons_zero, List.set_cons_succ]
        have hrow1 : (V1.alloc (.cells #[.int .i64 (kdAt L j), .int .i64 (nAt L j), sl] 47)).ownsRow (w.heap.size + 2) 47 3 (.slice ca m cc) m xs := (own_keep hrow fun g hg => by
          obtain ⟨cu, hcu, _⟩ := own_at hrow hg
          exact hb1'.block g (lt_of_block hcu)).alloc _
        have hcl : ∀ c, (Value.slice ca m cc).ownBlock = some c → c < wr.heap.size ∧ w.heap.size + 2 ≤ c := fun c hc => by
          obtain ⟨cu, hcu, h2⟩ := own_at hrow hc
          exact ⟨lt_of_block hcu, h2⟩
        obtain ⟨v', w5, hrun, hown5, hgrow5, _, hloc⟩ := run_append_own_at (P := Tryz.prog) (V1.alloc (.cells #[.int .i64 (kdAt L j), .int .i64 (nAt L j), sl] 47)) (w.heap.size + 2) 45 45 47 i0 (.agg #[.int .i64 0, .int .i64 0, .slice none 0 0]) 3 40 Tryz.underlying45 hi hz0 hz1 hz2 rfl (by decide) _ _ _ hrow1 ⟨V1.heap.size, 0, none⟩ 1 1 [.int .i64 (kdAt L j), .int .i64 (nAt L j), sl] rfl (tri_new _ _ _ _ _) (by intro u hu; simp at hu; rcases hu with rfl | rfl | rfl; rfl; rfl; exact htr.one) (by unfold maxLen; omega) (by omega) (by simp; omega)
        obtain ⟨va, vc, rfl⟩ := ownsRow_shape hown5
        have KEEP : ∀ g, g < V1.heap.size → (∀ c, (Value.slice ca m cc).ownBlock = some c → g ≠ c) → w5.heap[g]? = V1.heap[g]? := fun g hg hne => by
          rw [hgrow5.block g (by simp; omega) (fun e => hne g e.symm rfl)]
          exact Below.heap_alloc _ _ _ hg
        refine wb_leave_val 6 (some 33) (.slice va (m + 1) vc) w5 (by kernel_rfl) (by kernel_rfl) rfl rfl (by rfl) (by simp [execOp, resolve, invoke, builtin, Act.eval, hrun, Result.andThen]) ?_
        simp only [Act.put, List.setIfInBounds_toArray, List.set_cons_zero, List.set_cons_succ]
        have s5 : w5.heap[z]? = some (.cells #[.int .i64 x, .int .i64 y, .slice ca m cc] 47 (0, 0)) := (KEEP z (by omega) (fun c hc => by have := (hcl c hc).2; omega)).trans s1
        have g2 := (cell_of_block s5 2).trans rfl
        have f2 := free_of_block s5 2
        refine wa_val 7 (some 34) (.pointer (some ⟨z, 2, none⟩)) w5 (by kernel_rfl) rfl rfl (by rfl) (by first | rfl | go_simp) ?_
        simp only [Act.put, List.setIfInBounds_toArray, List.set_cons_zero, List.set_cons_succ]
        refine wa_store 8 none (w5.setCell ⟨z, 2, none⟩ (.slice va (m + 1) vc)) (by kernel_rfl) rfl rfl (by rfl) (by first | rfl | (go_simp; done)) ?_
        simp only [Act.put]
        refine wa_done (by kernel_rfl) ?_
        have hW9 : ∀ g, g < V1.heap.size → g ≠ z → (∀ c, (Value.slice ca m cc).ownBlock = some c → g ≠ c) → (w5.setCell ⟨z, 2, none⟩ (.slice va (m + 1) vc)).heap[g]? = V1.heap[g]? := fun g h1 h2 h3 => (heap_setCell_other _ _ _ _ (by simpa using h2)).trans (KEEP g h1 h3)
        have t0 : (w5.setCell ⟨z, 2, none⟩ (.slice va (m + 1) vc)).heap[w.heap.size]? = some (.cells #[.int .i64 0, .int .i64 0, .slice none 0 0] 47 (0, 0)) := (hW9 _ (by omega) (by omega) (fun c hc => by have := (hcl c hc).2; omega)).trans ((hb1'.block _ (by omega)).trans r0)
        have t1 : (w5.setCell ⟨z, 2, none⟩ (.slice va (m + 1) vc)).heap[z]? = some (.cells #[.int .i64 x, .int .i64 y, .slice va (m + 1) vc] 47 (0, 0)) := by rw [heap_setCell_same _ _ _ _ _ _ s5]; rfl
        have t2 : (w5.setCell ⟨z, 2, none⟩ (.slice va (m + 1) vc)).ownsRow (w.heap.size + 2) 47 3 (.slice va (m + 1) vc) (m + 1) (xs ++ [.int .i64 (kdAt L j), .int .i64 (nAt L j), sl]) := own_keep hown5 fun g hg => heap_setCell_other _ _ _ _ (by have := ownsRow_block hown5 g hg; simp; omega)
        have t3 : (w5.setCell ⟨z, 2, none⟩ (.slice va (m + 1) vc)).ownsRow (w.heap.size + 2) 3 1 (.slice (some ⟨gk, 0, none⟩) K.length kc) K.length (nv K) := own_keep hown fun g hg => by
          obtain ⟨cu, hcu, h2⟩ := own_at hown hg
          refine (hW9 g (by have := lt_of_block hcu; omega) (by omega) (fun c hc e => ?_)).trans (hb1'.block g (lt_of_block hcu))
          subst e
          obtain ⟨cu', hcu', _⟩ := own_at hrow hc
          exact apart_types hcu' hcu (by decide) rfl
        have t4 : Below w.heap.size w (w5.setCell ⟨z, 2, none⟩ (.slice va (m + 1) vc)) := (((below2 hnx hb1').alloc (by omega) _).grown hgrow5 (by simp; omega) (fun c hc => by have := (hcl c hc).2; omega)).setCell (by simp; omega) _
        have t5 : V1.heap.size < (w5.setCell ⟨z, 2, none⟩ (.slice va (m + 1) vc)).heap.size := by
          have := hgrow5.size
          simp at this ⊢
          omega
        have t6 : Hid (∀ i (h : i < K.length), i < m + 1 → ∃ lo hi sl', w.heap.size + 2 ≤ lo ∧ hi ≤ (w5.setCell ⟨z, 2, none⟩ (.slice va (m + 1) vc)).heap.size ∧ (xs ++ [.int .i64 (kdAt L j), .int .i64 (nAt L j), sl])[i * 3]? = some (.int .i64 (kdAt L K[i])) ∧ (xs ++ [.int .i64 (kdAt L j), .int .i64 (nAt L j), sl])[i * 3 + 1]? = some (.int .i64 (nAt L K[i])) ∧ (xs ++ [.int .i64 (kdAt L j), .int .i64 (nAt L j), sl])[i * 3 + 2]? = some sl' ∧ TrRep L lo hi f (w5.setCell ⟨z, 2, none⟩ (.slice va (m + 1) vc)) K[i] sl' ∧ (∀ g, (Value.slice va (m + 1) vc).ownBlock = some g → ¬ (lo ≤ g ∧ g < hi))) := fun i hi him => by
          rcases Nat.lt_or_ge i m with h | h
          · obtain ⟨lo, hh, sl', l1, l2, x1, x2, x3, tr, hne⟩ := hT.out i hi h
            refine ⟨lo, hh, sl', l1, by omega, (row3_left hrow.1 h 0 (by omega)).trans x1, (row3_left hrow.1 h 1 (by omega)).trans x2, (row3_left hrow.1 h 2 (by omega)).trans x3, ?_, ?_⟩
            · refine tr.keep fun g g1 g2 => ?_
              exact (hW9 g (by omega) (by omega) (fun c hc e => hne c hc (by subst e; exact ⟨g1, g2⟩))).trans (hb1'.block g (by omega))
            · intro g hg
              rcases hloc with e | e
              · exact hne g (by rw [← e]; exact hg)
              · rw [hg] at e
                simp at e
                omega
          · have him' : i = m := by omega
            subst him'
            obtain ⟨x1, x2, x3⟩ := row3_right (x := .int .i64 (kdAt L j)) (y := .int .i64 (nAt L j)) (z := sl) hrow.1
            refine ⟨wr.heap.size, V1.heap.size, sl, by omega, by omega, by rw [HJ.out]; exact x1, by rw [HJ.out]; exact x2, x3, ?_, ?_⟩
            · rw [HJ.out]
              refine TrRep.keep htr fun g g1 g2 => ?_
              have g1' : wr.heap.size ≤ g := g1
              exact hW9 g g2 (by omega) (fun c hc e => by have := (hcl c hc).1; omega)
            · intro g hg
              rcases hloc with e | e
              · have := (hcl g (by rw [← e]; exact hg)).1
                omega
              · rw [hg] at e
                simp at e
                omega
        clear hW9 KEEP s1 s2 s5 g2 f2 hrun hown5 hgrow5 hloc hrow1 hcl htr hb1 hb1' hT hrow hown r0 r1 hcm
        go_wp2
        go_roundw
        case rel => exact ⟨m + 1, _, _, by omega, by go_num, t0, t1, t2, t3, t6, t4⟩
        case measure => simp [intOf]; omega
      · obtain rfl : m = K.length := by omega
        obtain ⟨ca, cc, rfl⟩ := ownsRow_shape hrow
        have d0 := (cell_of_block r1 0).trans rfl
        have d1 := (cell_of_block r1 1).trans rfl
        have d2 := (cell_of_block r1 2).trans rfl
        have e0 := (cell_of_block r0 0).trans rfl
        have e1 := (cell_of_block r0 1).trans rfl
        have e2 := (cell_of_block r0 2).trans rfl
        have f0 := free_of_block r0 0
        have f1 := free_of_block r0 1
        have f2 := free_of_block r0 2
        have Z9 : (((wr.setCell ⟨w.heap.size, 0, none⟩ (.int .i64 x)).setCell ⟨w.heap.size, 1, none⟩ (.int .i64 y)).setCell ⟨w.heap.size, 2, none⟩ (.slice ca K.length cc)).heap[w.heap.size]? = some (.cells #[.int .i64 x, .int .i64 y, .slice ca K.length cc] 47 (0, 0)) := by
          rw [heap_setCell_same _ _ _ _ _ _ (heap_setCell_same _ _ _ _ _ _ (heap_setCell_same _ _ _ _ _ _ r0))]
          rfl
        have k0 := (cell_of_block Z9 0).trans rfl
        have k1 := (cell_of_block Z9 1).trans rfl
        have k2 := (cell_of_block Z9 2).trans rfl
        have HO : ∀ g, g ≠ w.heap.size → (((wr.setCell ⟨w.heap.size, 0, none⟩ (.int .i64 x)).setCell ⟨w.heap.size, 1, none⟩ (.int .i64 y)).setCell ⟨w.heap.size, 2, none⟩ (.slice ca K.length cc)).heap[g]? = wr.heap[g]? := fun g hg => (heap_setCell_other _ _ _ _ (by simpa using hg)).trans ((heap_setCell_other _ _ _ _ (by simpa using hg)).trans (heap_setCell_other _ _ _ _ (by simpa using hg)))
        have HR : Hid (TrRep L w.heap.size (((wr.setCell ⟨w.heap.size, 0, none⟩ (.int .i64 x)).setCell ⟨w.heap.size, 1, none⟩ (.int .i64 y)).setCell ⟨w.heap.size, 2, none⟩ (.slice ca K.length cc)).heap.size (f + 1) (((wr.setCell ⟨w.heap.size, 0, none⟩ (.int .i64 x)).setCell ⟨w.heap.size, 1, none⟩ (.int .i64 y)).setCell ⟨w.heap.size, 2, none⟩ (.slice ca K.length cc)) k (.slice ca K.length cc)) := by
          refine ⟨ca, cc, by rw [hK], ?_⟩
          rw [hK]
          intro j hj
          obtain ⟨lo, hh, sl', l1, l2, x1, x2, x3, tr, _⟩ := hT.out j hj hj
          obtain ⟨g, c, e, _⟩ := own_pos hrow (by omega)
          simp at e
          obtain ⟨rfl, _⟩ := e
          obtain ⟨cu, hcu, hgb⟩ := own_at hrow (g := g) rfl
          have hgl := lt_of_block hcu
          have hg := HO g (by omega)
          have hl := hrow.1
          refine ⟨g, sl', rfl, by omega, by simpa using hgl, (cell_heap hg _).trans ((hrow.cellAt _ (by omega)).trans x1), (cell_heap hg _).trans ((hrow.cellAt _ (by omega)).trans x2), (cell_heap hg _).trans ((hrow.cellAt _ (by omega)).trans x3), ?_⟩
          exact TrRep.wide (by omega) (by simpa using l2) (tr.keep fun g g1 g2 => HO g (by omega))
        clear HO Z9 hT hrow hown
        go_wp2
        exact bodyPost_ret (v := .agg #[.int .i64 x, .int .i64 y, .slice ca K.length cc]) (by simp [results, Tryz.results21, go_sem, k0, k1, k2]) rfl ⟨_, rfl, HR.out, ((hnx.setCell (Nat.le_refl _) _).setCell (Nat.le_refl _) _).setCell (Nat.le_refl _) _⟩

end Go.Proofs.YtljnciclbjcinaaGreatDoor
