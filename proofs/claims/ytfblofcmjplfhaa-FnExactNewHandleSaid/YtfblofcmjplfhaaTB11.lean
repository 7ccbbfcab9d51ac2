/-
  A table is marked whole, and the marks are looked for.
-/
import Derived.Test.YtfblofcmjplfhaaTB10
namespace Go.Proofs.Ytfblofcmjplfhaa
open Go.ChangeShapes Go.WideShapes Go.ChangeAt Go.RowKit

/-- The marks of a table of n slots and m numbers. -/
def Marked (B : Nat) (w : World) (v u : Value) (n m : Nat) : Prop := TabO B w v u (marksH n) (marksK (1 + 6 * (n : Int)) m)
theorem ownT_row {w : World} {B : Nat} {e : TypeId} {s n k : Nat} {v : Value} {xs : List Value} (h : w.ownsRow B e s v n xs) (hk : k = n) : w.ownsRow B e s v k xs := by rw [hk]; exact h

set_option maxRecDepth 100000 in
set_option maxHeartbeats 1600000 in
theorem markTab (B V : Nat) (v u : Value) (S : List Hd) (F : List Int) (w : World) (hT : Hid (TabO B w v u S F)) (hV : Hid (∀ g, v.ownBlock = some g ∨ u.ownBlock = some g → g < V)) (lS : S.length ≤ 1048576) (lF : F.length ≤ 1048576) (hB : Hid (B ≤ w.heap.size)) :
    Calls Try.prog 17 #[.agg #[v, u], .int .i64 1] w fun e w' => e = .returned (.int .i64 (1 + 6 * (S.length : Int) + (F.length : Int))) ∧ Hid (Marked B w' v u S.length F.length) ∧ Hid (Below B w w') ∧ Hid (∀ g, V ≤ g → g < w.heap.size → w'.heap[g]? = w.heap[g]?) := by
  obtain ⟨W, hW⟩ : ∃ W, w.alloc (.cells #[v, u] 30) = W := ⟨_, rfl⟩
  obtain ⟨z, hz⟩ : ∃ z, w.heap.size = z := ⟨_, rfl⟩
  have hb0 : Below w.heap.size w W := by rw [← hW]; exact bel_alloc (Below.refl _ _) _
  have hx0 : W.heap[z]? = some (.cells #[v, u] 30 (0, 0)) := by rw [← hW, ← hz]; exact heap_alloc_new _ _
  have hTW := hT.out.below hb0
  have M1 := markHds B v S W hTW.hds lS
  obtain ⟨n, hn⟩ : ∃ n, S.length = n := ⟨_, rfl⟩
  obtain ⟨m, hm⟩ : ∃ m, F.length = m := ⟨_, rfl⟩
  obtain ⟨a, c, b, d, rfl, rfl, _, _⟩ := hT.out.shape
  have HT : Hid (TabO B W (.slice a S.length c) (.slice b F.length d) S F) := hTW
  have HB0 : Hid (Below w.heap.size w W ∧ w.heap.size = z ∧ W.heap.size = z + 1) := ⟨hb0, hz, by rw [← hW, ← hz]; simp⟩
  have HN : Hid (S.length = n ∧ F.length = m) := ⟨hn, hm⟩
  rw [hn] at M1 hx0 hW hV lS HT ⊢
  rw [hm] at hx0 hW hV lF HT ⊢
  have p0 : W.cell? ⟨z, 0, none⟩ = some (.slice a n c) := (cell_of_block hx0 0).trans rfl
  clear hb0 hT hTW hn hm
  go_enter Try.func17, Try.ntmps17
  go_wp2_with fail
  clear hW hz p0
  refine M1.mono ?_
  rintro e w1 ⟨rfl, ho1, hg1, hs1⟩
  have hzb : some z ≠ (Value.slice a n c).ownBlock := fun e => by
    obtain ⟨cur, hc, _⟩ := own_at ho1.out e.symm
    have h2 := own_at HT.out.hds e.symm
    obtain ⟨cur2, hc2, _⟩ := h2
    rw [hx0] at hc2
    simp at hc2
  have hx1 := (hg1.out.block z (lt_of_block hx0) hzb).trans hx0
  have p1 : w1.cell? ⟨z, 1, none⟩ = some (.slice b m d) := (cell_of_block hx1 1).trans rfl
  have ho2 : w1.ownsRow B 3 1 (.slice b m d) F.length (iv F) := own_keep HT.out.ints (fun g hg => by
    obtain ⟨cur, hc, _⟩ := own_at HT.out.ints hg
    refine hg1.out.block g (lt_of_block hc) (fun e => ?_)
    obtain ⟨cur2, hc2, _⟩ := own_at HT.out.hds e.symm
    rw [hc] at hc2
    simp at hc2)
  have M2 := markIntsK B (.slice b m d) F (1 + 6 * (n : Int)) w1 ho2 (by rw [HN.out.2]; exact lF) (by omega) (by omega)
  rw [HN.out.2] at M2
  have HO1 : Hid (w1.ownsRow B 38 6 (.slice a n c) n (hv (marksH n))) := ho1
  have HG1 : Hid (W.grownBy w1 (Value.slice a n c).ownBlock ∧ w1.heap.size = W.heap.size) := ⟨hg1.out, hs1⟩
  clear ho1 hg1 hs1 hx0 hx1 M1 hzb ho2
  obtain ⟨q, hq⟩ : ∃ q : Int, 1 + 6 * (n : Int) = q := ⟨_, rfl⟩
  rw [hq] at M2 ⊢
  have HQ : Hid (1 + 6 * (n : Int) = q) := hq
  clear hq
  go_wp2_with fail
  refine M2.mono ?_
  rintro e w2 ⟨rfl, ho2, hg2, hs2⟩
  have HO2 : Hid (w2.ownsRow B 3 1 (.slice b m d) m (iv (marksK q m))) := ho2
  have HG2 : Hid (w1.grownBy w2 (Value.slice b m d).ownBlock ∧ w2.heap.size = w1.heap.size) := ⟨hg2.out, hs2⟩
  clear ho2 hg2 hs2 M2 p1
  go_wp2
  go_ret
  have hBW : Below B w W := HB0.out.1.mono hB.out
  have hsz := HB0.out.2.1
  have hszW := HB0.out.2.2
  have hsz1 := HG1.out.2
  have hsz2 := HG2.out.2
  have hBz := hB.out
  have b1 : Below B W w1 := (Below.refl B W).grown HG1.out.1 (by omega) (fun k hk => by obtain ⟨_, _, h⟩ := own_at HO1.out hk; exact h)
  have b2 : Below B w1 w2 := (Below.refl B w1).grown HG2.out.1 (by omega) (fun k hk => by obtain ⟨_, _, h⟩ := own_at HO2.out hk; exact h)
  refine ⟨by rw [HQ.out]; rfl, ?_, hBW.trans (b1.trans b2), fun g h1 h2 => ?_⟩
  · have hk := own_keep HO1.out (w' := w2) (fun g hg => by
      obtain ⟨cur, hc, _⟩ := own_at HO1.out hg
      refine HG2.out.1.block g (lt_of_block hc) (fun e => ?_)
      obtain ⟨cur2, hc2, _⟩ := own_at HT.out.ints e.symm
      obtain ⟨cur3, hc3, _⟩ := own_at HT.out.hds hg
      rw [hc3] at hc2
      simp at hc2)
    refine ⟨?_, ?_⟩
    · rw [marksH_len]; exact hk
    · rw [marksK_len, HQ.out]; exact HO2.out
  · have hv1 : ∀ k, (Value.slice a n c).ownBlock = some k → k < V := fun k hk => hV.out k (.inl hk)
    have hv2 : ∀ k, (Value.slice b m d).ownBlock = some k → k < V := fun k hk => hV.out k (.inr hk)
    refine (HG2.out.1.block g (by omega) (fun e => ?_)).trans ((HG1.out.1.block g (by omega) (fun e => ?_)).trans (HB0.out.1.block g h2))
    · have := hv2 g e.symm; omega
    · have := hv1 g e.symm; omega

set_option maxRecDepth 100000 in
set_option maxHeartbeats 1600000 in
theorem heldTab (B : Nat) (v u : Value) (n m : Nat) (w : World) (hT : Hid (Marked B w v u n m)) (lS : n ≤ 1048576) (lF : m ≤ 1048576) :
    Calls Try.prog 18 #[.agg #[v, u], .int .i64 1] w fun e w' => e = .returned (.int .i64 (1 + 6 * (n : Int) + (m : Int))) ∧ Below w.heap.size w w' := by
  obtain ⟨a, c, b, d, rfl, rfl, h1, h2⟩ := hT.out.shape
  rw [marksH_len, marksK_len]
  have H1 : Hid (∀ w', Below w.heap.size w w' → Calls Try.prog 44 #[.slice a n c, .int .i64 1] w' fun e w'' => e = .returned (.int .i64 (1 + 6 * (n : Int))) ∧ Below w'.heap.size w' w'') := fun w' hb => heldHds a n c w' (h1.below hb) lS
  have H2 : Hid (∀ w', Below w.heap.size w w' → Calls Try.prog 45 #[.slice b m d, .int .i64 (1 + 6 * (n : Int))] w' fun e w'' => e = .returned (.int .i64 (1 + 6 * (n : Int) + (m : Int))) ∧ Below w'.heap.size w' w'') := fun w' hb => heldIntsK b m d _ w' (h2.below hb) lF (by omega) (by omega)
  obtain ⟨z, hz⟩ : ∃ z, w.heap.size = z := ⟨_, rfl⟩
  clear hT h1 h2
  have hb0 : Below w.heap.size w (w.alloc (.cells #[.slice a n c, .slice b m d] 30)) := bel_alloc (Below.refl _ _) _
  have x0 : (w.alloc (.cells #[.slice a n c, .slice b m d] 30)).heap[z]? = some (.cells #[.slice a n c, .slice b m d] 30 (0, 0)) := by rw [← hz]; exact heap_alloc_new _ _
  obtain ⟨q, hq⟩ : ∃ q : Int, 1 + 6 * (n : Int) = q := ⟨_, rfl⟩
  have hqb : 0 ≤ q ∧ q ≤ 10000000 := by omega
  rw [hq] at H1 H2 ⊢
  clear hq
  go_enter Try.func18, Try.ntmps18
  go_wp2_with fail
  refine (H1.out _ hb0).mono ?_
  rintro e w1 ⟨rfl, hb1⟩
  have x1 := (hb1.block z (lt_of_block x0)).trans x0
  have HB1 : Hid (Below w.heap.size w w1) := bel_step hb0 hb1
  have c1 : w1.cell? ⟨z, 1, none⟩ = some (.slice b m d) := (cell_of_block x1 1).trans rfl
  clear hb1 hb0 x0 x1 H1
  have hq0 : ¬ q < 0 := by omega
  go_wp2_with fail
  refine (H2.out _ HB1.out).mono ?_
  rintro e w2 ⟨rfl, hb2⟩
  have HB2 : Hid (Below w.heap.size w w2) := bel_step HB1.out hb2
  clear hb2 c1 HB1 H2
  have hq1 : ¬ q + (m : Int) < 0 := by omega
  go_wp2
  go_ret
  exact ⟨rfl, HB2.out⟩

end Go.Proofs.Ytfblofcmjplfhaa
