/-
  Rows whose blocks are known: a module that is copied, where it lies.
-/
import Derived.Test.YtdcfflmfimepfaaGreatJA11
import Derived.Test.YtdcfflmfimepfaaGreatJA8
import Derived.Test.YtdcfflmfimepfaaGreatJA12
namespace Go.Proofs.YtdcfflmfimepfaaGreat
open Go.ChangeShapes Go.WideShapes Go.ChangeAt Go.RowKit

/-- The row of n elements behind a lies in a block of its own, from its front. -/
def RowB (w : World) (T : TypeId) (sz : Nat) (a : Option Addr) (n : Nat) : Prop := 0 < n → ∃ b arr, a = some ⟨b, 0, none⟩ ∧ w.heap[b]? = some (.cells arr T (0, 0)) ∧ n * sz ≤ arr.size
theorem RowB.below {w w' : World} {T : TypeId} {sz : Nat} {a : Option Addr} {n : Nat} (h : RowB w T sz a n) (hb : Below w.heap.size w w') : RowB w' T sz a n := fun hn => by
  obtain ⟨b, arr, e, h0, h1⟩ := h hn
  exact ⟨b, arr, e, (hb.block b (lt_of_block h0)).trans h0, h1⟩
theorem RowB.set {w : World} {T : TypeId} {sz : Nat} {a : Option Addr} {n : Nat} (h : RowB w T sz a n) {g : Nat} (ho : Off g a) (i : Nat) (v : Value) : RowB (w.setCell ⟨g, i, none⟩ v) T sz a n := fun hn => by
  obtain ⟨b, arr, e, h0, h1⟩ := h hn
  exact ⟨b, arr, e, (heap_setCell_other _ ⟨g, i, none⟩ b _ (ho b 0 e)).trans h0, h1⟩
structure IntsB (w : World) (a : Option Addr) (L : List Int) : Prop where
  ints : Ints w a L
  row : RowB w 3 1 a L.length
theorem IntsB.below {w w' : World} {a : Option Addr} {L : List Int} (h : IntsB w a L) (hb : Below w.heap.size w w') : IntsB w' a L := ⟨h.ints.below hb, h.row.below hb⟩
theorem IntsB.set {w : World} {a : Option Addr} {L : List Int} (h : IntsB w a L) {g : Nat} (ho : Off g a) (i : Nat) (v : Value) : IntsB (w.setCell ⟨g, i, none⟩ v) a L := ⟨h.ints.set ho i v, h.row.set ho i v⟩
structure InssB (w : World) (a : Option Addr) (L : List (Int × Int)) : Prop where
  inss : Inss w a L
  row : RowB w 128 2 a L.length
theorem InssB.below {w w' : World} {a : Option Addr} {L : List (Int × Int)} (h : InssB w a L) (hb : Below w.heap.size w w') : InssB w' a L := ⟨h.inss.below hb, h.row.below hb⟩
theorem InssB.set {w : World} {a : Option Addr} {L : List (Int × Int)} (h : InssB w a L) {g : Nat} (ho : Off g a) (i : Nat) (v : Value) : InssB (w.setCell ⟨g, i, none⟩ v) a L := ⟨h.inss.set ho i v, h.row.set ho i v⟩
def FunRowsB (w : World) (pa la ba : Option Addr) (f : Fun7) : Prop := IntsB w pa f.ps ∧ IntsB w la f.ls ∧ InssB w ba f.body
theorem FunRowsB.rows {w : World} {pa la ba : Option Addr} {f : Fun7} (h : FunRowsB w pa la ba f) : FunRows w pa la ba f := ⟨h.1.ints, h.2.1.ints, h.2.2.inss⟩
theorem FunRowsB.below {w w' : World} {pa la ba : Option Addr} {f : Fun7} (h : FunRowsB w pa la ba f) (hb : Below w.heap.size w w') : FunRowsB w' pa la ba f := ⟨h.1.below hb, h.2.1.below hb, h.2.2.below hb⟩
theorem FunRowsB.set {w : World} {pa la ba : Option Addr} {f : Fun7} (h : FunRowsB w pa la ba f) {g : Nat} (o1 : Off g pa) (o2 : Off g la) (o3 : Off g ba) (i : Nat) (v : Value) : FunRowsB (w.setCell ⟨g, i, none⟩ v) pa la ba f := ⟨h.1.set o1 i v, h.2.1.set o2 i v, h.2.2.set o3 i v⟩

set_option maxRecDepth 100000 in
set_option maxHeartbeats 1600000 in
theorem toIntB (a : Option Addr) (cap : Nat) (L : List Int) (w : World) (hL : Hid (Ints w a L)) (hlen : L.length ≤ 1048576) :
    Calls Tryz.prog 80 #[.slice a L.length cap] w fun e w' => e = .returned (.slice (some ⟨w.heap.size, 0, none⟩) L.length L.length) ∧ w.heap.size < w'.heap.size ∧ IntsB w' (some ⟨w.heap.size, 0, none⟩) L ∧ Below w.heap.size w w' := by
  obtain ⟨i0, hi, hz0, hz1, hz2⟩ := info_parts Tryz.info3
  obtain ⟨M, hM⟩ : ∃ M, M = madeCells (Value.int .i64 0).cells (((L.length : Nat) : Int).toNat * i0.size) := ⟨_, rfl⟩
  have hMs : M.size = L.length := by rw [hM, size_madeCells, hz1]; simp
  have hmk : ∀ W : World, (Instr.makeSlice 92 (.int .i64 (L.length : Int)) (.int .i64 (L.length : Int))).run Tryz.prog W = .ok (.slice (some ⟨W.heap.size, 0, none⟩) L.length L.length) (W.alloc (.cells M 3)) := fun W => by
    have h := run_make (P := Tryz.prog) W 92 3 i0 _ Tryz.underlying92 hi hz0 .i64 .i64 (L.length : Int) (L.length : Int) (by omega) (by omega) (by rw [hz2]; omega) (by omega)
    rw [← hM] at h
    simpa using h
  clear hM
  go_enter Tryz.func80, Tryz.ntmps80
  go_wp2
  go_loopw [4] (fun i wr => ∃ (k : Nat) (arr : Array Value), k ≤ L.length ∧ i = .int .i64 k ∧ wr.heap[w.heap.size]? = some (.cells arr 3 (0, 0)) ∧ arr.size = L.length ∧ Hid (∀ j (h : j < L.length), j < k → arr[j]? = some (.int .i64 L[j])) ∧ Below w.heap.size w wr) (fun i _ => L.length - (intOf i).toNat)
  case atStart => exact ⟨0, M, by omega, rfl, heap_alloc_new _ _, hMs, fun j _ h => absurd h (by omega), (Below.refl _ _).alloc (Nat.le_refl _) _⟩
  case round =>
    clear hmk hMs
    obtain ⟨k, arr, hk, rfl, harr, hsz, hA, hnx⟩ := hrel
    have hgl := lt_of_block harr
    by_cases hlt : k < L.length
    · obtain ⟨b, off, rfl, hb, hc⟩ := hL.out.at k hlt
      obtain ⟨x, hx⟩ : ∃ x, x = L[k] := ⟨_, rfl⟩
      rw [← hx] at hc
      have HX : Hid (x = L[k]) := hx
      clear hx
      have hc0 : wr.cell? ⟨b, off + k, none⟩ = some (.int .i64 x) := (hnx.cell (by exact hb)).trans hc
      clear hc
      have HS : Hid (arr.size = L.length) := hsz
      obtain ⟨o0, ho0⟩ : ∃ o, arr[k]? = some o := ⟨_, Array.getElem?_eq_getElem (by omega)⟩
      clear hsz
      have d0 := (icell_of_block harr k).trans ho0
      have f0 := ifree_of_block harr k
      go_wp2
      go_roundw
      case rel =>
        refine ⟨k + 1, _, by omega, by go_num, heap_setCell_same _ _ _ _ _ _ harr, by simpa using HS.out, ?_, hnx.setCell (Nat.le_refl _) _⟩
        intro j hj hjk
        by_cases e : j = k
        · subst e; rw [Array.getElem?_setIfInBounds_self_of_lt (by rw [HS.out]; exact hj), HX.out]
        · rw [Array.getElem?_setIfInBounds_ne (by omega)]; exact hA.out j hj (by omega)
      case measure => simp [intOf]; omega
    · go_wp2
      go_ret
      refine ⟨rfl, hgl, ⟨fun _ => ⟨_, _, rfl, hgl, fun j hj => ?_⟩, fun _ => ⟨_, arr, rfl, harr, by omega⟩⟩, hnx⟩
      rw [Nat.zero_add, icell_of_block harr]
      exact hA.out j hj (by omega)

set_option maxRecDepth 100000 in
set_option maxHeartbeats 1600000 in
theorem toFunB (pa la ba : Option Addr) (pc lc bc : Nat) (f : Fun7) (w : World) (hR : Hid (FunRows w pa la ba f)) (hs : Hid (smF f)) :
    Calls Tryz.prog 58 #[.agg #[.slice pa f.ps.length pc, .int .i64 f.res, .slice la f.ls.length lc, .slice ba f.body.length bc]] w fun e w' =>
      ∃ pa' la' ba' pc' lc' bc', e = .returned (.agg #[.slice pa' f.ps.length pc', .int .i64 f.res, .slice la' f.ls.length lc', .slice ba' f.body.length bc']) ∧ Hid (FunRowsB w' pa' la' ba' f ∧ ∀ g, g < w.heap.size → Off g pa' ∧ Off g la' ∧ Off g ba') ∧ Below w.heap.size w w' := by
  obtain ⟨ps, res, ls, body⟩ := f
  simp only
  go_enter Tryz.func58, Tryz.ntmps58
  go_wp2_with fail
  obtain ⟨n, hn⟩ : ∃ n, w.heap.size = n := ⟨_, rfl⟩
  obtain ⟨W0, hW0⟩ : ∃ W, (((w.alloc (.cells #[.slice pa ps.length pc, .int .i64 res, .slice la ls.length lc, .slice ba body.length bc] 95)).alloc (.cells #[.slice none 0 0, .int .i64 0, .slice none 0 0, .slice none 0 0] 100)).alloc (.cells #[.slice none 0 0, .int .i64 0, .slice none 0 0, .slice none 0 0] 100)) = W := ⟨_, rfl⟩
  have hb0 : Below w.heap.size w W0 := by rw [← hW0]; exact bel_alloc (bel_alloc (bel_alloc (Below.refl _ _) _) _) _
  have hz0 : W0.heap.size = n + 1 + 1 + 1 := by rw [← hW0, ← hn]; simp
  have hx0 : W0.heap[n]? = some (.cells #[.slice pa ps.length pc, .int .i64 res, .slice la ls.length lc, .slice ba body.length bc] 95 (0, 0)) := by
    rw [← hW0, ← hn]
    exact ((Below.heap_alloc _ _ _ (by simp; omega)).trans (Below.heap_alloc _ _ _ (by simp))).trans (heap_alloc_new _ _)
  have hg0 : W0.heap[n + 1 + 1]? = some (.cells #[.slice none 0 0, .int .i64 0, .slice none 0 0, .slice none 0 0] 100 (0, 0)) := by
    rw [← hW0, ← hn]
    have h := heap_alloc_new ((w.alloc (.cells #[.slice pa ps.length pc, .int .i64 res, .slice la ls.length lc, .slice ba body.length bc] 95)).alloc (.cells #[.slice none 0 0, .int .i64 0, .slice none 0 0, .slice none 0 0] 100)) (.cells #[.slice none 0 0, .int .i64 0, .slice none 0 0, .slice none 0 0] 100)
    simpa using h
  have hr0 : W0.heap[n + 1]? = some (.cells #[.slice none 0 0, .int .i64 0, .slice none 0 0, .slice none 0 0] 100 (0, 0)) := by
    rw [← hW0, ← hn]
    have h := heap_alloc_new (w.alloc (.cells #[.slice pa ps.length pc, .int .i64 res, .slice la ls.length lc, .slice ba body.length bc] 95)) (.cells #[.slice none 0 0, .int .i64 0, .slice none 0 0, .slice none 0 0] 100)
    exact (Below.heap_alloc _ _ _ (by simp)).trans (by simpa using h)
  have T1 := toIntB pa pc ps W0 (hR.out.1.below hb0) hs.out.1
  have HB0 : Hid (Below w.heap.size w W0) := hb0
  have HN : Hid (w.heap.size = n) := hn
  rw [hW0, hn]
  rw [hz0] at T1
  clear hb0 hW0 hn
  refine T1.mono ?_
  rintro e w1 ⟨rfl, hl1, hI1, hb1⟩
  have hx1 := (hb1.block n (by omega)).trans hx0
  have hg1 := (hb1.block (n + 1 + 1) (by omega)).trans hg0
  have hr1 := (hb1.block (n + 1) (by omega)).trans hr0
  have HB1 : Hid (Below w.heap.size w w1) := HB0.out.trans (hb1.mono (by have := HB0.out.size; omega))
  have HI1 : Hid (IntsB w1 (some ⟨n + 1 + 1 + 1, 0, none⟩) ps) := hI1
  clear T1 hb1 hx0 hg0 hr0 hz0 HB0 hI1
  have c1 := (cell_of_block hx1 1).trans rfl
  have d0 := (cell_of_block hg1 0).trans rfl
  have d1 := (cell_of_block hg1 1).trans rfl
  have f0 := free_of_block hg1 0
  have f1 := free_of_block hg1 1
  have c2 := (cell_of_block hx1 2).trans rfl
  go_wp2_with fail
  obtain ⟨W2, hW2⟩ : ∃ W, (w1.setCell ⟨n + 1 + 1, 0, none⟩ (.slice (some ⟨n + 1 + 1 + 1, 0, none⟩) ps.length ps.length)).setCell ⟨n + 1 + 1, 1, none⟩ (.int .i64 res) = W := ⟨_, rfl⟩
  obtain ⟨z2, hz2⟩ : ∃ z, W2.heap.size = z := ⟨_, rfl⟩
  have hzz : n + 1 + 1 + 1 < z2 := by rw [← hz2, ← hW2]; simpa using hl1
  have hx2 : W2.heap[n]? = some (.cells #[.slice pa ps.length pc, .int .i64 res, .slice la ls.length lc, .slice ba body.length bc] 95 (0, 0)) := by
    rw [← hW2]; exact ((heap_setCell_other _ ⟨n + 1 + 1, 1, none⟩ n _ (show n ≠ n + 1 + 1 by omega)).trans (heap_setCell_other _ ⟨n + 1 + 1, 0, none⟩ n _ (show n ≠ n + 1 + 1 by omega))).trans hx1
  have hg2 : W2.heap[n + 1 + 1]? = some (.cells #[.slice (some ⟨n + 1 + 1 + 1, 0, none⟩) ps.length ps.length, .int .i64 res, .slice none 0 0, .slice none 0 0] 100 (0, 0)) := by
    rw [← hW2]; exact heap_setCell_same _ _ _ _ _ _ (heap_setCell_same _ _ _ _ _ _ hg1)
  have hr2 : W2.heap[n + 1]? = some (.cells #[.slice none 0 0, .int .i64 0, .slice none 0 0, .slice none 0 0] 100 (0, 0)) := by
    rw [← hW2]; exact ((heap_setCell_other _ ⟨n + 1 + 1, 1, none⟩ (n + 1) _ (show n + 1 ≠ n + 1 + 1 by omega)).trans (heap_setCell_other _ ⟨n + 1 + 1, 0, none⟩ (n + 1) _ (show n + 1 ≠ n + 1 + 1 by omega))).trans hr1
  have HB2 : Hid (Below w.heap.size w W2) := by
    have hle : w.heap.size ≤ n + 1 + 1 := by have := HN.out; omega
    unfold Hid; rw [← hW2]; exact (HB1.out.setCell hle _).setCell hle _
  have HI2 : Hid (IntsB W2 (some ⟨n + 1 + 1 + 1, 0, none⟩) ps) := by
    have ho : Off (n + 1 + 1) (some ⟨n + 1 + 1 + 1, 0, none⟩) := fun b off h => by simp at h; omega
    unfold Hid; rw [← hW2]; exact (HI1.out.set ho _ _).set ho _ _
  have T2 := toIntB la lc ls W2 (hR.out.2.1.below HB2.out) hs.out.2.1
  rw [hz2] at T2
  rw [hW2]
  clear hW2 HB1 HI1 hx1 hg1 hr1 c1 d0 d1 f0 f1 c2
  refine T2.mono ?_
  rintro e w3 ⟨rfl, hl3, hI3, hb3⟩
  have hx3 := (hb3.block n (by omega)).trans hx2
  have hg3 := (hb3.block (n + 1 + 1) (by omega)).trans hg2
  have hr3 := (hb3.block (n + 1) (by omega)).trans hr2
  have HB3 : Hid (Below w.heap.size w w3) := HB2.out.trans (hb3.mono (by have := HB2.out.size; omega))
  have HI3 : Hid (IntsB w3 (some ⟨n + 1 + 1 + 1, 0, none⟩) ps) := HI2.out.below (by rw [hz2]; exact hb3)
  have HJ3 : Hid (IntsB w3 (some ⟨z2, 0, none⟩) ls) := hI3
  clear T2 hb3 hx2 hg2 hr2 HB2 HI2 hI3 hz2
  have c1 := (cell_of_block hx3 3).trans rfl
  have d0 := (cell_of_block hg3 2).trans rfl
  have f0 := free_of_block hg3 2
  go_wp2_with fail
  obtain ⟨W4, hW4⟩ : ∃ W, (w3.setCell ⟨n + 1 + 1, 2, none⟩ (.slice (some ⟨z2, 0, none⟩) ls.length ls.length)) = W := ⟨_, rfl⟩
  obtain ⟨z4, hz4⟩ : ∃ z, W4.heap.size = z := ⟨_, rfl⟩
  have hz34 : z2 < z4 := by rw [← hz4, ← hW4]; simpa using hl3
  have hg4 : W4.heap[n + 1 + 1]? = some (.cells #[.slice (some ⟨n + 1 + 1 + 1, 0, none⟩) ps.length ps.length, .int .i64 res, .slice (some ⟨z2, 0, none⟩) ls.length ls.length, .slice none 0 0] 100 (0, 0)) := by
    rw [← hW4]; exact heap_setCell_same _ _ _ _ _ _ hg3
  have hr4 : W4.heap[n + 1]? = some (.cells #[.slice none 0 0, .int .i64 0, .slice none 0 0, .slice none 0 0] 100 (0, 0)) := by
    rw [← hW4]; exact (heap_setCell_other _ ⟨n + 1 + 1, 2, none⟩ (n + 1) _ (show n + 1 ≠ n + 1 + 1 by omega)).trans hr3
  have hle : w.heap.size ≤ n + 1 + 1 := by have := HN.out; omega
  have HB4 : Hid (Below w.heap.size w W4) := by unfold Hid; rw [← hW4]; exact HB3.out.setCell hle _
  have HI4 : Hid (IntsB W4 (some ⟨n + 1 + 1 + 1, 0, none⟩) ps) := by
    unfold Hid; rw [← hW4]; exact HI3.out.set (fun b off h => by simp at h; omega) _ _
  have HJ4 : Hid (IntsB W4 (some ⟨z2, 0, none⟩) ls) := by
    unfold Hid; rw [← hW4]; exact HJ3.out.set (fun b off h => by simp at h; omega) _ _
  obtain ⟨bb, bo, hbb, hbi⟩ := (hR.out.2.2.below HB4.out).parts
  have T3 := toInsB ba bb bo bc body W4 hbb hbi hs.out.2.2.1
  rw [hz4] at T3
  rw [hW4]
  clear hW4 HB3 HI3 HJ3 hx3 hg3 hr3 c1 d0 f0
  refine T3.mono ?_
  rintro e w5 ⟨rfl, hl5, hI5, ⟨arr5, ha5, hs5⟩, hb5⟩
  have hg5 := (hb5.block (n + 1 + 1) (by omega)).trans hg4
  have hr5 := (hb5.block (n + 1) (by omega)).trans hr4
  have HB5 : Hid (Below w.heap.size w w5) := HB4.out.trans (hb5.mono (by have := HB4.out.size; omega))
  have HI5 : Hid (IntsB w5 (some ⟨n + 1 + 1 + 1, 0, none⟩) ps) := HI4.out.below (by rw [hz4]; exact hb5)
  have HJ5 : Hid (IntsB w5 (some ⟨z2, 0, none⟩) ls) := HJ4.out.below (by rw [hz4]; exact hb5)
  have HK5 : Hid (InssB w5 (some ⟨z4, 0, none⟩) body) := ⟨fun _ => ⟨z4, 0, rfl, hl5, hI5⟩, fun _ => ⟨z4, arr5, rfl, ha5, by omega⟩⟩
  clear T3 hb5 hg4 hr4 HB4 HI4 HJ4 hI5 hz4 ha5 hs5
  have c0 := (cell_of_block hg5 0).trans rfl
  have c1 := (cell_of_block hg5 1).trans rfl
  have c2 := (cell_of_block hg5 2).trans rfl
  have d0 := (cell_of_block hg5 3).trans rfl
  have f0 := free_of_block hg5 3
  have q0 := (cell_of_block hr5 0).trans rfl
  have q1 := (cell_of_block hr5 1).trans rfl
  have q2 := (cell_of_block hr5 2).trans rfl
  have q3 := (cell_of_block hr5 3).trans rfl
  have k0 := free_of_block hr5 0
  have k1 := free_of_block hr5 1
  have k2 := free_of_block hr5 2
  have k3 := free_of_block hr5 3
  go_wp2
  have hle2 : w.heap.size ≤ n + 1 := by have := HN.out; omega
  refine bodyPost_ret (v := .agg #[.slice (some ⟨n + 1 + 1 + 1, 0, none⟩) ps.length ps.length, .int .i64 res, .slice (some ⟨z2, 0, none⟩) ls.length ls.length, .slice (some ⟨z4, 0, none⟩) body.length body.length]) (by simp [results, Tryz.results58, go_sem, q0, q1, q2, q3]) rfl ⟨_, _, _, _, _, _, rfl, ⟨?_, fun g hg => ?_⟩, ((((HB5.out.setCell hle _).setCell hle2 _).setCell hle2 _).setCell hle2 _).setCell hle2 _⟩
  · have o1 : ∀ m, m ≤ n + 1 + 1 → Off m (some ⟨n + 1 + 1 + 1, 0, none⟩) := fun m hm b off h => by simp at h; omega
    have o2 : ∀ m, m ≤ n + 1 + 1 → Off m (some ⟨z2, 0, none⟩) := fun m hm b off h => by simp at h; omega
    have o3 : ∀ m, m ≤ n + 1 + 1 → Off m (some ⟨z4, 0, none⟩) := fun m hm b off h => by simp at h; omega
    have hF : FunRowsB w5 (some ⟨n + 1 + 1 + 1, 0, none⟩) (some ⟨z2, 0, none⟩) (some ⟨z4, 0, none⟩) ⟨ps, res, ls, body⟩ := ⟨HI5.out, HJ5.out, HK5.out⟩
    have K : ∀ m, m ≤ n + 1 + 1 → ∀ (w : World) i v, FunRowsB w (some ⟨n + 1 + 1 + 1, 0, none⟩) (some ⟨z2, 0, none⟩) (some ⟨z4, 0, none⟩) ⟨ps, res, ls, body⟩ → FunRowsB (w.setCell ⟨m, i, none⟩ v) (some ⟨n + 1 + 1 + 1, 0, none⟩) (some ⟨z2, 0, none⟩) (some ⟨z4, 0, none⟩) ⟨ps, res, ls, body⟩ :=
      fun m hm w i v h => h.set (o1 m hm) (o2 m hm) (o3 m hm) i v
    exact K _ (by omega) _ _ _ (K _ (by omega) _ _ _ (K _ (by omega) _ _ _ (K _ (by omega) _ _ _ (K _ (by omega) _ _ _ hF))))
  · have hn := HN.out
    exact ⟨fun b off h => by simp at h; omega, fun b off h => by simp at h; omega, fun b off h => by simp at h; omega⟩

/-- What the row of funcs that is laid holds so far. -/
def FunLaidB (w : World) (g : Nat) (arr : Array Value) (L : List Fun7) (k : Nat) : Prop :=
  ∀ j (h : j < L.length), j < k → ∃ pa pc la lc ba bc, arr[j * 4]? = some (.slice pa L[j].ps.length pc) ∧ arr[j * 4 + 1]? = some (.int .i64 L[j].res) ∧ arr[j * 4 + 2]? = some (.slice la L[j].ls.length lc) ∧ arr[j * 4 + 3]? = some (.slice ba L[j].body.length bc) ∧ FunRowsB w pa la ba L[j] ∧ Offs (g + 1) pa ∧ Offs (g + 1) la ∧ Offs (g + 1) ba
theorem FunLaidB.below {w w' : World} {g : Nat} {arr : Array Value} {L : List Fun7} {k : Nat} (h : FunLaidB w g arr L k) (hb : Below w.heap.size w w') : FunLaidB w' g arr L k := fun j hj hk => by
  obtain ⟨pa, pc, la, lc, ba, bc, h0, h1, h2, h3, hr, ho⟩ := h j hj hk
  exact ⟨pa, pc, la, lc, ba, bc, h0, h1, h2, h3, hr.below hb, ho⟩
theorem FunLaidB.set {w : World} {g : Nat} {arr : Array Value} {L : List Fun7} {k : Nat} (h : FunLaidB w g arr L k) (i : Nat) (v : Value) : FunLaidB (w.setCell ⟨g, i, none⟩ v) g arr L k := fun j hj hk => by
  obtain ⟨pa, pc, la, lc, ba, bc, h0, h1, h2, h3, hr, o1, o2, o3⟩ := h j hj hk
  exact ⟨pa, pc, la, lc, ba, bc, h0, h1, h2, h3, hr.set (o1 g (by omega)) (o2 g (by omega)) (o3 g (by omega)) i v, o1, o2, o3⟩
theorem FunLaidB.more {w : World} {g : Nat} {arr A : Array Value} {L : List Fun7} {k : Nat} (h : FunLaidB w g arr L k) (hk : k < L.length) {pa la ba : Option Addr} {pc lc bc : Nat}
    (hA : A[k * 4]? = some (.slice pa L[k].ps.length pc) ∧ A[k * 4 + 1]? = some (.int .i64 L[k].res) ∧ A[k * 4 + 2]? = some (.slice la L[k].ls.length lc) ∧ A[k * 4 + 3]? = some (.slice ba L[k].body.length bc) ∧ ∀ j, j < k * 4 → A[j]? = arr[j]?)
    (hr : FunRowsB w pa la ba L[k]) (ho : Offs (g + 1) pa ∧ Offs (g + 1) la ∧ Offs (g + 1) ba) : FunLaidB w g A L (k + 1) := fun j hj hjk => by
  by_cases e : j = k
  · subst e
    exact ⟨pa, pc, la, lc, ba, bc, hA.1, hA.2.1, hA.2.2.1, hA.2.2.2.1, hr, ho⟩
  · obtain ⟨pa, pc, la, lc, ba, bc, h0, h1, h2, h3, hr, ho⟩ := h j hj (by omega)
    have K := hA.2.2.2.2
    exact ⟨pa, pc, la, lc, ba, bc, (K _ (by omega)).trans h0, (K _ (by omega)).trans h1, (K _ (by omega)).trans h2, (K _ (by omega)).trans h3, hr, ho⟩

set_option maxRecDepth 100000 in
set_option maxHeartbeats 1600000 in
theorem toFunsB (a : Option Addr) (cap : Nat) (L : List Fun7) (w : World) (hF : Hid (Funs w a L)) (hs : Hid (∀ f ∈ L, smF f)) (hlen : L.length ≤ 1048576) :
    Calls Tryz.prog 37 #[.slice a L.length cap] w fun e w' => e = .returned (.slice (some ⟨w.heap.size, 0, none⟩) L.length L.length) ∧ w.heap.size < w'.heap.size ∧ (∃ arr, w'.heap[w.heap.size]? = some (.cells arr 100 (0, 0)) ∧ arr.size = L.length * 4 ∧ FunLaidB w' w.heap.size arr L L.length) ∧ Below w.heap.size w w' := by
  obtain ⟨i0, hi, hz0, hz1, hz2⟩ := info_parts Tryz.info100
  obtain ⟨M, hM⟩ : ∃ M, M = madeCells (Value.agg #[.slice none 0 0, .int .i64 0, .slice none 0 0, .slice none 0 0]).cells (((L.length : Nat) : Int).toNat * i0.size) := ⟨_, rfl⟩
  have hMs : M.size = L.length * 4 := by rw [hM, size_madeCells, hz1]; simp
  have hmk : ∀ W : World, (Instr.makeSlice 35 (.int .i64 (L.length : Int)) (.int .i64 (L.length : Int))).run Tryz.prog W = .ok (.slice (some ⟨W.heap.size, 0, none⟩) L.length L.length) (W.alloc (.cells M 100)) := fun W => by
    have h := run_make (P := Tryz.prog) W 35 100 i0 _ Tryz.underlying35 hi hz0 .i64 .i64 (L.length : Int) (L.length : Int) (by omega) (by omega) (by rw [hz2]; omega) (by omega)
    rw [← hM] at h
    simpa using h
  clear hM
  go_enter Tryz.func37, Tryz.ntmps37
  go_wp2
  go_loopw [4] (fun i wr => ∃ (k : Nat) (arr : Array Value), k ≤ L.length ∧ i = .int .i64 k ∧ wr.heap[w.heap.size]? = some (.cells arr 100 (0, 0)) ∧ arr.size = L.length * 4 ∧ Hid (FunLaidB wr w.heap.size arr L k) ∧ Below w.heap.size w wr) (fun i _ => L.length - (intOf i).toNat)
  case atStart => exact ⟨0, M, by omega, rfl, heap_alloc_new _ _, hMs, fun j _ h => absurd h (by omega), (Below.refl _ _).alloc (Nat.le_refl _) _⟩
  case round =>
    clear hmk hMs
    obtain ⟨k, arr, hk, rfl, harr, hsz, hA, hnx⟩ := hrel
    have hgl := lt_of_block harr
    by_cases hlt : k < L.length
    · obtain ⟨b, off, rfl, hb, hc⟩ := hF.out.at k hlt
      have hsm := hs.out L[k] (List.getElem_mem _)
      obtain ⟨pa, pc, la, lc, ba, bc, c0, c1, c2, c3, hR⟩ := hc
      obtain ⟨f, hf⟩ : ∃ f, L[k] = f := ⟨_, rfl⟩
      rw [hf] at c0 c1 c2 c3 hR hsm
      have HF : Hid (L[k] = f) := hf
      clear hf
      have hR2 : Hid (FunRows wr pa la ba f) := by
        unfold Hid; exact hR.out.below (hnx)
      have d0 : wr.cell? ⟨b, off + k * 4, none⟩ = some (.slice pa f.ps.length pc) := (hnx.cell (by exact hb)).trans c0
      have d1 : wr.cell? ⟨b, off + k * 4 + 1, none⟩ = some (.int .i64 f.res) := (hnx.cell (by exact hb)).trans c1
      have d2 : wr.cell? ⟨b, off + k * 4 + 2, none⟩ = some (.slice la f.ls.length lc) := (hnx.cell (by exact hb)).trans c2
      have d3 : wr.cell? ⟨b, off + k * 4 + 3, none⟩ = some (.slice ba f.body.length bc) := (hnx.cell (by exact hb)).trans c3
      have HS : Hid (arr.size = L.length * 4) := hsz
      have HSM : Hid (smF f) := hsm
      obtain ⟨o0, ho0⟩ : ∃ o, arr[k * 4]? = some o := ⟨_, Array.getElem?_eq_getElem (by omega)⟩
      obtain ⟨o1, ho1⟩ : ∃ o, arr[k * 4 + 1]? = some o := ⟨_, Array.getElem?_eq_getElem (by omega)⟩
      obtain ⟨o2, ho2⟩ : ∃ o, arr[k * 4 + 2]? = some o := ⟨_, Array.getElem?_eq_getElem (by omega)⟩
      obtain ⟨o3, ho3⟩ : ∃ o, arr[k * 4 + 3]? = some o := ⟨_, Array.getElem?_eq_getElem (by omega)⟩
      clear hsz c0 c1 c2 c3 hR hsm
      go_wp2_with fail
      refine (toFunB pa la ba pc lc bc f wr hR2 HSM.out).mono ?_
      rintro e w1 ⟨pa', la', ba', pc', lc', bc', rfl, hR1, hb1⟩
      have harr1 := (hb1.block _ hgl).trans harr
      have e0 := (cell_of_block harr1 (k * 4)).trans ho0
      have e1 := (cell_of_block harr1 (k * 4 + 1)).trans ho1
      have e2 := (cell_of_block harr1 (k * 4 + 2)).trans ho2
      have e3 := (cell_of_block harr1 (k * 4 + 3)).trans ho3
      have f0 := free_of_block harr1 (k * 4)
      have f1 := free_of_block harr1 (k * 4 + 1)
      have f2 := free_of_block harr1 (k * 4 + 2)
      have f3 := free_of_block harr1 (k * 4 + 3)
      have HL : Hid (FunLaidB w1 w.heap.size arr L k) := hA.out.below hb1
      have HB : Hid (Below w.heap.size w w1) := below2 hnx hb1
      have HO : Offs (w.heap.size + 1) pa' ∧ Offs (w.heap.size + 1) la' ∧ Offs (w.heap.size + 1) ba' := ⟨fun m hm => (hR1.out.2 m (by omega)).1, fun m hm => (hR1.out.2 m (by omega)).2.1, fun m hm => (hR1.out.2 m (by omega)).2.2⟩
      have HR : Hid (FunRowsB w1 pa' la' ba' f) := hR1.out.1
      have HOO : Hid (Offs (w.heap.size + 1) pa' ∧ Offs (w.heap.size + 1) la' ∧ Offs (w.heap.size + 1) ba') := HO
      clear hA hb1 hR1 HO harr d0 d1 d2 d3 hR2 HSM hF
      go_wp2
      go_roundw
      case rel =>
        have hA2 := put4_at arr k (by have := HS.out; omega) (.slice pa' f.ps.length pc') (.int .i64 f.res) (.slice la' f.ls.length lc') (.slice ba' f.body.length bc') _ rfl
        have HF2 := HF.out
        refine ⟨k + 1, _, by omega, by go_num, heap_setCell_same _ _ _ _ _ _ (heap_setCell_same _ _ _ _ _ _ (heap_setCell_same _ _ _ _ _ _ (heap_setCell_same _ _ _ _ _ _ harr1))), by simpa using HS.out, ?_, (((HB.out.setCell (Nat.le_refl _) _).setCell (Nat.le_refl _) _).setCell (Nat.le_refl _) _).setCell (Nat.le_refl _) _⟩
        refine FunLaidB.more ((((HL.out.set _ _).set _ _).set _ _).set _ _) hlt (pa := pa') (la := la') (ba := ba') (pc := pc') (lc := lc') (bc := bc') ?_ ?_ HOO.out
        · rw [HF2]; exact hA2
        · rw [HF2]
          obtain ⟨p1, p2, p3⟩ := HOO.out
          have o1 := p1 w.heap.size (by omega)
          have o2 := p2 w.heap.size (by omega)
          have o3 := p3 w.heap.size (by omega)
          exact (((HR.out.set o1 o2 o3 _ _).set o1 o2 o3 _ _).set o1 o2 o3 _ _).set o1 o2 o3 _ _
      case measure => simp [intOf]; omega
    · go_wp2
      go_ret
      obtain rfl : k = L.length := by omega
      exact ⟨rfl, hgl, ⟨arr, harr, hsz, hA.out⟩, hnx⟩

set_option maxRecDepth 100000 in
set_option maxHeartbeats 1600000 in
theorem toGlosB (a : Option Addr) (cap : Nat) (L : List Glo7) (w : World) (hF : Hid (Glos w a L)) (hlen : L.length ≤ 1048576) :
    Calls Tryz.prog 38 #[.slice a L.length cap] w fun e w' => e = .returned (.slice (some ⟨w.heap.size, 0, none⟩) L.length L.length) ∧ w.heap.size < w'.heap.size ∧ (Glos w' (some ⟨w.heap.size, 0, none⟩) L ∧ RowB w' 82 3 (some ⟨w.heap.size, 0, none⟩) L.length) ∧ Below w.heap.size w w' := by
  obtain ⟨i0, hi, hz0, hz1, hz2⟩ := info_parts Tryz.info82
  obtain ⟨M, hM⟩ : ∃ M, M = madeCells (Value.agg #[.int .i64 0, .bool false, .int .u64 0]).cells (((L.length : Nat) : Int).toNat * i0.size) := ⟨_, rfl⟩
  have hMs : M.size = L.length * 3 := by rw [hM, size_madeCells, hz1]; simp
  have hmk : ∀ W : World, (Instr.makeSlice 36 (.int .i64 (L.length : Int)) (.int .i64 (L.length : Int))).run Tryz.prog W = .ok (.slice (some ⟨W.heap.size, 0, none⟩) L.length L.length) (W.alloc (.cells M 82)) := fun W => by
    have h := run_make (P := Tryz.prog) W 36 82 i0 _ Tryz.underlying36 hi hz0 .i64 .i64 (L.length : Int) (L.length : Int) (by omega) (by omega) (by rw [hz2]; omega) (by omega)
    rw [← hM] at h
    simpa using h
  clear hM
  go_enter Tryz.func38, Tryz.ntmps38
  go_wp2
  go_loopw [4] (fun i wr => ∃ (k : Nat) (arr : Array Value), k ≤ L.length ∧ i = .int .i64 k ∧ wr.heap[w.heap.size]? = some (.cells arr 82 (0, 0)) ∧ arr.size = L.length * 3 ∧ Hid (GloLaid arr L k) ∧ Below w.heap.size w wr) (fun i _ => L.length - (intOf i).toNat)
  case atStart => exact ⟨0, M, by omega, rfl, heap_alloc_new _ _, hMs, fun j _ h => absurd h (by omega), (Below.refl _ _).alloc (Nat.le_refl _) _⟩
  case round =>
    clear hmk hMs
    obtain ⟨k, arr, hk, rfl, harr, hsz, hA, hnx⟩ := hrel
    have hgl := lt_of_block harr
    by_cases hlt : k < L.length
    · obtain ⟨b, off, rfl, hb, hc⟩ := hF.out.at k hlt
      obtain ⟨c0, c1, c2⟩ := hc
      obtain ⟨f, hf⟩ : ∃ f, L[k] = f := ⟨_, rfl⟩
      rw [hf] at c0 c1 c2
      have HF : Hid (L[k] = f) := hf
      clear hf
      have d0 : wr.cell? ⟨b, off + k * 3, none⟩ = some (.int .i64 f.ty) := (hnx.cell (by exact hb)).trans c0
      have d1 : wr.cell? ⟨b, off + k * 3 + 1, none⟩ = some (.bool f.fixed) := (hnx.cell (by exact hb)).trans c1
      have d2 : wr.cell? ⟨b, off + k * 3 + 2, none⟩ = some (.int .u64 f.bits) := (hnx.cell (by exact hb)).trans c2
      have HS : Hid (arr.size = L.length * 3) := hsz
      obtain ⟨o0, ho0⟩ : ∃ o, arr[k * 3]? = some o := ⟨_, Array.getElem?_eq_getElem (by omega)⟩
      obtain ⟨o1, ho1⟩ : ∃ o, arr[k * 3 + 1]? = some o := ⟨_, Array.getElem?_eq_getElem (by omega)⟩
      obtain ⟨o2, ho2⟩ : ∃ o, arr[k * 3 + 2]? = some o := ⟨_, Array.getElem?_eq_getElem (by omega)⟩
      clear hsz c0 c1 c2
      go_wp2_with fail
      refine (toGlo1 f.ty f.fixed f.bits wr).mono ?_
      rintro e w1 ⟨rfl, hb1⟩
      have harr1 := (hb1.block _ hgl).trans harr
      have e0 := (cell_of_block harr1 (k * 3)).trans ho0
      have e1 := (cell_of_block harr1 (k * 3 + 1)).trans ho1
      have e2 := (cell_of_block harr1 (k * 3 + 2)).trans ho2
      have f0 := free_of_block harr1 (k * 3)
      have f1 := free_of_block harr1 (k * 3 + 1)
      have f2 := free_of_block harr1 (k * 3 + 2)
      have HB : Hid (Below w.heap.size w w1) := below2 hnx hb1
      clear hb1 harr d0 d1 d2 hF
      go_wp2
      go_roundw
      case rel =>
        have hA2 := put3_at arr k (by have := HS.out; omega) (.int .i64 f.ty) (.bool f.fixed) (.int .u64 f.bits) _ rfl
        have HF2 := HF.out
        refine ⟨k + 1, _, by omega, by go_num, heap_setCell_same _ _ _ _ _ _ (heap_setCell_same _ _ _ _ _ _ (heap_setCell_same _ _ _ _ _ _ harr1)), by simpa using HS.out, ?_, ((HB.out.setCell (Nat.le_refl _) _).setCell (Nat.le_refl _) _).setCell (Nat.le_refl _) _⟩
        exact hA.out.more hlt (by rw [HF2]; exact hA2)
      case measure => simp [intOf]; omega
    · go_wp2
      go_ret
      refine ⟨rfl, hgl, ⟨fun _ => ⟨w.heap.size, 0, rfl, hgl, fun j hj => ?_⟩, fun _ => ⟨_, arr, rfl, harr, by omega⟩⟩, hnx⟩
      obtain ⟨h0, h1, h2⟩ := hA.out j hj (by omega)
      rw [Nat.zero_add]
      exact ⟨(cell_of_block harr _).trans h0, (cell_of_block harr _).trans h1, (cell_of_block harr _).trans h2⟩

end Go.Proofs.YtdcfflmfimepfaaGreat

namespace Go.Proofs.YtdcfflmfimepfaaGreat
open Go.ChangeShapes Go.WideShapes Go.ChangeAt Go.RowKit

/-- Funcs in block n, their rows in blocks behind it. -/
def FunsB (n : Nat) (w : World) (L : List Fun7) : Prop := ∃ arr, w.heap[n]? = some (.cells arr 100 (0, 0)) ∧ arr.size = L.length * 4 ∧ FunLaidB w n arr L L.length
theorem FunsB.below {n : Nat} {w w' : World} {L : List Fun7} (h : FunsB n w L) (hb : Below w.heap.size w w') : FunsB n w' L := by
  obtain ⟨arr, h0, h1, h2⟩ := h
  exact ⟨arr, (hb.block n (lt_of_block h0)).trans h0, h1, h2.below hb⟩
theorem FunsB.set {n : Nat} {w : World} {L : List Fun7} (h : FunsB n w L) {m : Nat} (hm : m < n) (i : Nat) (v : Value) : FunsB n (w.setCell ⟨m, i, none⟩ v) L := by
  obtain ⟨arr, h0, h1, h2⟩ := h
  refine ⟨arr, (heap_setCell_other _ ⟨m, i, none⟩ n _ (show n ≠ m by omega)).trans h0, h1, fun j hj hk => ?_⟩
  obtain ⟨pa, pc, la, lc, ba, bc, e0, e1, e2, e3, hr, o1, o2, o3⟩ := h2 j hj hk
  exact ⟨pa, pc, la, lc, ba, bc, e0, e1, e2, e3, hr.set (o1 m (by omega)) (o2 m (by omega)) (o3 m (by omega)) i v, o1, o2, o3⟩
theorem FunsB.funs {n : Nat} {w : World} {L : List Fun7} (h : FunsB n w L) : Funs w (some ⟨n, 0, none⟩) L := fun _ => by
  obtain ⟨arr, h0, h1, h2⟩ := h
  refine ⟨n, 0, rfl, lt_of_block h0, fun i hi => ?_⟩
  obtain ⟨pa, pc, la, lc, ba, bc, e0, e1, e2, e3, hr, _⟩ := h2 i hi hi
  rw [Nat.zero_add]
  exact ⟨pa, pc, la, lc, ba, bc, (cell_of_block h0 _).trans e0, (cell_of_block h0 _).trans e1, (cell_of_block h0 _).trans e2, (cell_of_block h0 _).trans e3, hr.rows⟩
def GlosB (w : World) (z : Nat) (L : List Glo7) : Prop := Glos w (some ⟨z, 0, none⟩) L ∧ RowB w 82 3 (some ⟨z, 0, none⟩) L.length
theorem GlosB.below {w w' : World} {z : Nat} {L : List Glo7} (h : GlosB w z L) (hb : Below w.heap.size w w') : GlosB w' z L := ⟨h.1.below hb, h.2.below hb⟩
theorem GlosB.set {w : World} {z : Nat} {L : List Glo7} (h : GlosB w z L) {m : Nat} (hm : z ≠ m) (i : Nat) (v : Value) : GlosB (w.setCell ⟨m, i, none⟩ v) z L := ⟨h.1.set hm i v, h.2.set (fun b off e => by simp at e; omega) i v⟩
/-- A module whose rows lie in blocks from B on. -/
def ModB (B : Nat) (w : World) (l : Loc7) (M : Mod7) : Prop := ∃ g z, l.fa = some ⟨g, 0, none⟩ ∧ l.ga = some ⟨z, 0, none⟩ ∧ B ≤ g ∧ B ≤ z ∧ FunsB g w M.fs ∧ GlosB w z M.gs
theorem ModB.mod {B : Nat} {w : World} {l : Loc7} {M : Mod7} (h : ModB B w l M) : ModAt w l M := by
  obtain ⟨g, z, e1, e2, _, _, h1, h2⟩ := h
  exact ⟨by rw [e1]; exact h1.funs, by rw [e2]; exact h2.1⟩
theorem ModB.below {B : Nat} {w w' : World} {l : Loc7} {M : Mod7} (h : ModB B w l M) (hb : Below w.heap.size w w') : ModB B w' l M := by
  obtain ⟨g, z, e1, e2, b1, b2, h1, h2⟩ := h
  exact ⟨g, z, e1, e2, b1, b2, h1.below hb, h2.below hb⟩

set_option maxRecDepth 100000 in
set_option maxHeartbeats 3200000 in
theorem toModB (l : Loc7) (M : Mod7) (w : World) (hM : Hid (ModAt w l M)) (hs : Hid (smM M)) :
    Calls Tryz.prog 19 #[modV l M] w fun e w' => ∃ l', e = .returned (modV l' M) ∧ Hid (ModB w.heap.size w' l' M) ∧ Below w.heap.size w w' := by
  obtain ⟨fa, fc, ga, gc⟩ := l
  obtain ⟨fs, gs, mem, pages, most, start⟩ := M
  unfold modV
  simp only
  go_enter Tryz.func19, Tryz.ntmps19
  go_wp2_with fail
  obtain ⟨n, hn⟩ : ∃ n, w.heap.size = n := ⟨_, rfl⟩
  obtain ⟨W0, hW0⟩ : ∃ W, (((w.alloc (.cells #[.slice fa fs.length fc, .slice ga gs.length gc, .bool mem, .int .i64 pages, .int .i64 most, .int .i64 start] 25)).alloc (.cells #[.slice none 0 0, .slice none 0 0, .bool false, .int .i64 0, .int .i64 0, .int .i64 0] 38)).alloc (.cells #[.slice none 0 0, .slice none 0 0, .bool false, .int .i64 0, .int .i64 0, .int .i64 0] 38)) = W := ⟨_, rfl⟩
  have hb0 : Below w.heap.size w W0 := by rw [← hW0]; exact bel_alloc (bel_alloc (bel_alloc (Below.refl _ _) _) _) _
  have hz0 : W0.heap.size = n + 1 + 1 + 1 := by rw [← hW0, ← hn]; simp
  have hx0 : W0.heap[n]? = some (.cells #[.slice fa fs.length fc, .slice ga gs.length gc, .bool mem, .int .i64 pages, .int .i64 most, .int .i64 start] 25 (0, 0)) := by
    rw [← hW0, ← hn]
    exact ((Below.heap_alloc _ _ _ (by simp; omega)).trans (Below.heap_alloc _ _ _ (by simp))).trans (heap_alloc_new _ _)
  have hr0 : W0.heap[n + 1]? = some (.cells #[.slice none 0 0, .slice none 0 0, .bool false, .int .i64 0, .int .i64 0, .int .i64 0] 38 (0, 0)) := by
    rw [← hW0, ← hn]
    have h := heap_alloc_new (w.alloc (.cells #[.slice fa fs.length fc, .slice ga gs.length gc, .bool mem, .int .i64 pages, .int .i64 most, .int .i64 start] 25)) (.cells #[.slice none 0 0, .slice none 0 0, .bool false, .int .i64 0, .int .i64 0, .int .i64 0] 38)
    exact (Below.heap_alloc _ _ _ (by simp)).trans (by simpa using h)
  have hg0 : W0.heap[n + 1 + 1]? = some (.cells #[.slice none 0 0, .slice none 0 0, .bool false, .int .i64 0, .int .i64 0, .int .i64 0] 38 (0, 0)) := by
    rw [← hW0, ← hn]
    have h := heap_alloc_new ((w.alloc (.cells #[.slice fa fs.length fc, .slice ga gs.length gc, .bool mem, .int .i64 pages, .int .i64 most, .int .i64 start] 25)).alloc (.cells #[.slice none 0 0, .slice none 0 0, .bool false, .int .i64 0, .int .i64 0, .int .i64 0] 38)) (.cells #[.slice none 0 0, .slice none 0 0, .bool false, .int .i64 0, .int .i64 0, .int .i64 0] 38)
    simpa using h
  have T1 := toFunsB fa fc fs W0 (hM.out.1.below hb0) hs.out.2.2.1 hs.out.1
  have HB0 : Hid (Below w.heap.size w W0) := hb0
  have HN : Hid (w.heap.size = n) := hn
  rw [hW0, hn]
  rw [hz0] at T1
  clear hb0 hW0 hn
  refine T1.mono ?_
  rintro e w1 ⟨rfl, hl1, hI1, hb1⟩
  have hx1 := (hb1.block n (by omega)).trans hx0
  have hg1 := (hb1.block (n + 1 + 1) (by omega)).trans hg0
  have hr1 := (hb1.block (n + 1) (by omega)).trans hr0
  have HB1 : Hid (Below w.heap.size w w1) := HB0.out.trans (hb1.mono (by have := HB0.out.size; omega))
  have HI1 : Hid (FunsB (n + 1 + 1 + 1) w1 fs) := hI1
  clear T1 hb1 hx0 hg0 hr0 hz0 HB0 hI1
  have c1 := (cell_of_block hx1 1).trans rfl
  have d0 := (cell_of_block hg1 0).trans rfl
  have f0 := free_of_block hg1 0
  go_wp2_with fail
  obtain ⟨W2, hW2⟩ : ∃ W, w1.setCell ⟨n + 1 + 1, 0, none⟩ (.slice (some ⟨n + 1 + 1 + 1, 0, none⟩) fs.length fs.length) = W := ⟨_, rfl⟩
  obtain ⟨z2, hz2⟩ : ∃ z, W2.heap.size = z := ⟨_, rfl⟩
  have hzz : n + 1 + 1 + 1 < z2 := by rw [← hz2, ← hW2]; simpa using hl1
  have hle : w.heap.size ≤ n + 1 + 1 := by have := HN.out; omega
  have hx2 : W2.heap[n]? = some (.cells #[.slice fa fs.length fc, .slice ga gs.length gc, .bool mem, .int .i64 pages, .int .i64 most, .int .i64 start] 25 (0, 0)) := by
    rw [← hW2]; exact (heap_setCell_other _ ⟨n + 1 + 1, 0, none⟩ n _ (show n ≠ n + 1 + 1 by omega)).trans hx1
  have hr2 : W2.heap[n + 1]? = some (.cells #[.slice none 0 0, .slice none 0 0, .bool false, .int .i64 0, .int .i64 0, .int .i64 0] 38 (0, 0)) := by
    rw [← hW2]; exact (heap_setCell_other _ ⟨n + 1 + 1, 0, none⟩ (n + 1) _ (show n + 1 ≠ n + 1 + 1 by omega)).trans hr1
  have hg2 : W2.heap[n + 1 + 1]? = some (.cells #[.slice (some ⟨n + 1 + 1 + 1, 0, none⟩) fs.length fs.length, .slice none 0 0, .bool false, .int .i64 0, .int .i64 0, .int .i64 0] 38 (0, 0)) := by
    rw [← hW2]; exact heap_setCell_same _ _ _ _ _ _ hg1
  have HB2 : Hid (Below w.heap.size w W2) := by unfold Hid; rw [← hW2]; exact HB1.out.setCell hle _
  have HI2 : Hid (FunsB (n + 1 + 1 + 1) W2 fs) := by unfold Hid; rw [← hW2]; exact HI1.out.set (by omega) _ _
  have T2 := toGlosB ga gc gs W2 (hM.out.2.below HB2.out) hs.out.2.1
  rw [hz2] at T2
  rw [hW2]
  clear hW2 HB1 HI1 hx1 hg1 hr1 c1 d0 f0
  refine T2.mono ?_
  rintro e w3 ⟨rfl, hl3, hI3, hb3⟩
  have hx3 := (hb3.block n (by omega)).trans hx2
  have hg3 := (hb3.block (n + 1 + 1) (by omega)).trans hg2
  have hr3 := (hb3.block (n + 1) (by omega)).trans hr2
  have HB3 : Hid (Below w.heap.size w w3) := HB2.out.trans (hb3.mono (by have := HB2.out.size; omega))
  have HI3 : Hid (FunsB (n + 1 + 1 + 1) w3 fs) := HI2.out.below (by rw [hz2]; exact hb3)
  have HJ3 : Hid (GlosB w3 z2 gs) := hI3
  clear T2 hb3 hx2 hg2 hr2 HB2 HI2 hI3 hz2
  have x2 := (cell_of_block hx3 2).trans rfl
  have x3 := (cell_of_block hx3 3).trans rfl
  have x4 := (cell_of_block hx3 4).trans rfl
  have x5 := (cell_of_block hx3 5).trans rfl
  have g0 := (cell_of_block hg3 0).trans rfl
  have g1 := (cell_of_block hg3 1).trans rfl
  have g2 := (cell_of_block hg3 2).trans rfl
  have g3 := (cell_of_block hg3 3).trans rfl
  have g4 := (cell_of_block hg3 4).trans rfl
  have g5 := (cell_of_block hg3 5).trans rfl
  have f1 := free_of_block hg3 1
  have f2 := free_of_block hg3 2
  have f3 := free_of_block hg3 3
  have f4 := free_of_block hg3 4
  have f5 := free_of_block hg3 5
  have q0 := (cell_of_block hr3 0).trans rfl
  have q1 := (cell_of_block hr3 1).trans rfl
  have q2 := (cell_of_block hr3 2).trans rfl
  have q3 := (cell_of_block hr3 3).trans rfl
  have q4 := (cell_of_block hr3 4).trans rfl
  have q5 := (cell_of_block hr3 5).trans rfl
  have k0 := free_of_block hr3 0
  have k1 := free_of_block hr3 1
  have k2 := free_of_block hr3 2
  have k3 := free_of_block hr3 3
  have k4 := free_of_block hr3 4
  have k5 := free_of_block hr3 5
  go_wp2
  have hle2 : w.heap.size ≤ n + 1 := by have := HN.out; omega
  refine bodyPost_ret (v := .agg #[.slice (some ⟨n + 1 + 1 + 1, 0, none⟩) fs.length fs.length, .slice (some ⟨z2, 0, none⟩) gs.length gs.length, .bool mem, .int .i64 pages, .int .i64 most, .int .i64 start]) (by simp [results, Tryz.results19, go_sem, q0, q1, q2, q3, q4, q5]) rfl ⟨⟨some ⟨n + 1 + 1 + 1, 0, none⟩, fs.length, some ⟨z2, 0, none⟩, gs.length⟩, rfl, ⟨n + 1 + 1 + 1, z2, rfl, rfl, by have := HN.out; omega, by have := HN.out; omega, ?_, ?_⟩, ?_⟩
  · repeat refine FunsB.set ?_ (by omega) _ _
    exact HI3.out
  · repeat refine GlosB.set ?_ (by omega) _ _
    exact HJ3.out
  · repeat (first | refine Below.setCell ?_ hle _ | refine Below.setCell ?_ hle2 _)
    exact HB3.out

/-- The world has changed in blocks of S alone, each of them as long as it was. -/
structure Chg (S : Nat → Prop) (w w' : World) : Prop where
  os : w'.os = w.os
  tape : w'.tape = w.tape
  output : w'.output = w.output
  size : w'.heap.size = w.heap.size
  same : ∀ (k : Nat), ¬ S k → w'.heap[k]? = w.heap[k]?
  long : ∀ (k : Nat) (arr : Array Value) (T : TypeId), w.heap[k]? = some (.cells arr T (0, 0)) → ∃ arr', w'.heap[k]? = some (.cells arr' T (0, 0)) ∧ arr'.size = arr.size
theorem Chg.refl (S : Nat → Prop) (w : World) : Chg S w w := ⟨rfl, rfl, rfl, rfl, fun _ _ => rfl, fun _ arr _ h => ⟨arr, h, rfl⟩⟩
theorem Chg.trans {S : Nat → Prop} {a b c : World} (h : Chg S a b) (k : Chg S b c) : Chg S a c :=
  ⟨k.os.trans h.os, k.tape.trans h.tape, k.output.trans h.output, k.size.trans h.size, fun x hx => (k.same x hx).trans (h.same x hx), fun x arr T hx => by
    obtain ⟨a1, h1, s1⟩ := h.long x arr T hx
    obtain ⟨a2, h2, s2⟩ := k.long x a1 T h1
    exact ⟨a2, h2, s2.trans s1⟩⟩
theorem Chg.mono {S S' : Nat → Prop} {w w' : World} (h : Chg S w w') (hs : ∀ k, S k → S' k) : Chg S' w w' := ⟨h.os, h.tape, h.output, h.size, fun k hk => h.same k (fun h' => hk (hs k h')), h.long⟩
theorem Chg.set {S : Nat → Prop} {w w' : World} (h : Chg S w w') {b : Nat} (hb : S b) {arr : Array Value} {T : TypeId} (h0 : w'.heap[b]? = some (.cells arr T (0, 0))) (i : Nat) (v : Value) : Chg S w (w'.setCell ⟨b, i, none⟩ v) := by
  refine ⟨h.os, h.tape, h.output, by simpa [World.setCell] using h.size, fun k hk => (heap_setCell_other _ ⟨b, i, none⟩ k _ (show k ≠ b from fun e => hk (e ▸ hb))).trans (h.same k hk), fun k a1 T1 h1 => ?_⟩
  obtain ⟨a2, h2, s2⟩ := h.long k a1 T1 h1
  by_cases e : k = b
  · subst e
    rw [h0] at h2
    simp only [Option.some.injEq, Obj.cells.injEq] at h2
    obtain ⟨rfl, rfl, _⟩ := h2
    exact ⟨_, heap_setCell_same _ _ _ _ _ _ h0, by simpa using s2⟩
  · exact ⟨a2, (heap_setCell_other _ ⟨b, i, none⟩ k _ (show k ≠ b from e)).trans h2, s2⟩
theorem Chg.row {S : Nat → Prop} {w w' : World} (h : Chg S w w') {T : TypeId} {sz : Nat} {a : Option Addr} {n : Nat} (hr : RowB w T sz a n) : RowB w' T sz a n := fun hn => by
  obtain ⟨b, arr, e, h0, h1⟩ := hr hn
  obtain ⟨arr', h2, h3⟩ := h.long b arr T h0
  exact ⟨b, arr', e, h2, by omega⟩
theorem Chg.below {S : Nat → Prop} {w w' : World} (h : Chg S w w') {B : Nat} (hB : ∀ k, S k → B ≤ k) : Below B w w' := ⟨h.os, h.tape, h.output, by rw [h.size]; exact Nat.le_refl _, fun k hk => h.same k (fun h' => by have := hB k h'; omega)⟩

set_option maxRecDepth 100000 in
set_option maxHeartbeats 1600000 in
theorem markIntB (a : Option Addr) (n c : Nat) (k : Int) (w : World) (hr : Hid (RowB w 3 1 a n)) (hn : n ≤ 1048576) (k0 : 0 ≤ k) (k1 : k ≤ 1000000000000000) :
    Calls Tryz.prog 72 #[.slice a n c, .int .i64 k] w fun e w' => e = .returned (.int .i64 (k + (n : Int))) ∧ Chg (fun x => 0 < n ∧ a = some ⟨x, 0, none⟩) w w' := by
  go_enter Tryz.func72, Tryz.ntmps72
  go_wp2
  go_loopw [1, 5] (fun m i wr => ∃ j : Nat, j ≤ n ∧ i = .int .i64 (j : Int) ∧ m = .int .i64 (k + (j : Int)) ∧ Hid (Chg (fun x => 0 < n ∧ a = some ⟨x, 0, none⟩) w wr)) (fun _ i _ => n - (intOf i).toNat)
  case atStart => exact ⟨0, by omega, rfl, by simp, Chg.refl _ _⟩
  case round =>
    obtain ⟨j, hj, rfl, rfl, hC⟩ := hrel
    by_cases hlt : j < n
    · obtain ⟨b, arr, e, h0, h1⟩ := (hC.out.row hr.out) (by omega)
      subst e
      obtain ⟨o0, ho0⟩ : ∃ o, arr[j]? = some o := ⟨_, Array.getElem?_eq_getElem (by omega)⟩
      have d0 := (cell_of_block h0 j).trans ho0
      have f0 := free_of_block h0 j
      have H0 : Hid (wr.heap[b]? = some (.cells arr 3 (0, 0))) := h0
      clear h0 h1
      go_wp2
      go_roundw
      case rel => exact ⟨j + 1, by omega, by go_num, by go_num, hC.out.set ⟨by omega, rfl⟩ H0.out _ _⟩
      case measure => simp [intOf]; omega
    · obtain rfl : j = n := by omega
      go_wp2
      go_ret
      exact ⟨rfl, hC.out⟩

set_option maxRecDepth 100000 in
set_option maxHeartbeats 1600000 in
theorem markInsB (a : Option Addr) (n c : Nat) (k : Int) (w : World) (hr : Hid (RowB w 128 2 a n)) (hn : n ≤ 1048576) (k0 : 0 ≤ k) (k1 : k ≤ 1000000000000000) :
    Calls Tryz.prog 73 #[.slice a n c, .int .i64 k] w fun e w' => e = .returned (.int .i64 (k + 2 * (n : Int))) ∧ Chg (fun x => 0 < n ∧ a = some ⟨x, 0, none⟩) w w' := by
  go_enter Tryz.func73, Tryz.ntmps73
  go_wp2
  go_loopw [1, 5] (fun m i wr => ∃ j : Nat, j ≤ n ∧ i = .int .i64 (j : Int) ∧ m = .int .i64 (k + 2 * (j : Int)) ∧ Hid (Chg (fun x => 0 < n ∧ a = some ⟨x, 0, none⟩) w wr)) (fun _ i _ => n - (intOf i).toNat)
  case atStart => exact ⟨0, by omega, rfl, by simp, Chg.refl _ _⟩
  case round =>
    obtain ⟨j, hj, rfl, rfl, hC⟩ := hrel
    by_cases hlt : j < n
    · obtain ⟨b, arr, e, h0, h1⟩ := (hC.out.row hr.out) (by omega)
      subst e
      obtain ⟨o0, ho0⟩ : ∃ o, arr[j * 2]? = some o := ⟨_, Array.getElem?_eq_getElem (by omega)⟩
      obtain ⟨o1, ho1⟩ : ∃ o, arr[j * 2 + 1]? = some o := ⟨_, Array.getElem?_eq_getElem (by omega)⟩
      have d0 := (cell_of_block h0 (j * 2)).trans ho0
      have f0 := free_of_block h0 (j * 2)
      have hc1 : (wr.setCell ⟨b, j * 2, none⟩ (.int .i64 (k + 2 * (j : Int)))).heap[b]? = some (.cells (arr.setIfInBounds (j * 2) (.int .i64 (k + 2 * (j : Int)))) 128 (0, 0)) := heap_setCell_same _ _ _ _ _ _ h0
      have d1 := (cell_of_block hc1 (j * 2 + 1)).trans ((Array.getElem?_setIfInBounds_ne (by omega)).trans ho1)
      have f1 := free_of_block hc1 (j * 2 + 1)
      have H0 : Hid (wr.heap[b]? = some (.cells arr 128 (0, 0))) := h0
      have HC1 : Hid ((wr.setCell ⟨b, j * 2, none⟩ (.int .i64 (k + 2 * (j : Int)))).heap[b]? = some (.cells (arr.setIfInBounds (j * 2) (.int .i64 (k + 2 * (j : Int)))) 128 (0, 0))) := hc1
      clear h0 h1 hc1
      go_wp2
      go_roundw
      case rel => exact ⟨j + 1, by omega, by go_num, by go_num, (hC.out.set ⟨by omega, rfl⟩ H0.out _ _).set ⟨by omega, rfl⟩ HC1.out _ _⟩
      case measure => simp [intOf]; omega
    · obtain rfl : j = n := by omega
      go_wp2
      go_ret
      exact ⟨rfl, hC.out⟩

end Go.Proofs.YtdcfflmfimepfaaGreat

namespace Go.Proofs.YtdcfflmfimepfaaGreat
open Go.ChangeShapes Go.WideShapes Go.ChangeAt Go.RowKit

theorem cell_set_ne {w : World} {g : Nat} {arr : Array Value} {T : TypeId} (h0 : w.heap[g]? = some (.cells arr T (0, 0))) (i j : Nat) (hij : i ≠ j) (v : Value) : (w.setCell ⟨g, i, none⟩ v).cell? ⟨g, j, none⟩ = w.cell? ⟨g, j, none⟩ := by
  rw [cell_of_block (heap_setCell_same _ _ _ _ _ _ h0), cell_of_block h0, Array.getElem?_setIfInBounds_ne hij]
theorem chg_cell {S : Nat → Prop} {w w' : World} (h : Chg S w w') {g : Nat} (hg : ¬ S g) (j : Nat) : w'.cell? ⟨g, j, none⟩ = w.cell? ⟨g, j, none⟩ := World.cell?_of_block (a := ⟨g, j, none⟩) (h.same g hg)
theorem rowb_lt {w : World} {T : TypeId} {sz : Nat} {a : Option Addr} {n x : Nat} (h : RowB w T sz a n) (hn : 0 < n) (hx : a = some ⟨x, 0, none⟩) : x < w.heap.size := by
  obtain ⟨b, arr, e, h0, _⟩ := h hn
  rw [hx] at e
  simp at e
  subst e
  exact lt_of_block h0
/-- The cells of the row of funcs that lead on. -/
def Kept4 (w wr : World) (g n : Nat) : Prop := ∀ i d, i < n → (d = 0 ∨ d = 2 ∨ d = 3) → wr.cell? ⟨g, i * 4 + d, none⟩ = w.cell? ⟨g, i * 4 + d, none⟩

set_option maxRecDepth 100000 in
set_option maxHeartbeats 3200000 in
theorem markFunsB (g c : Nat) (L : List Fun7) (V w : World) (hF : Hid (FunsB g V L)) (hV : Hid (Below V.heap.size V w)) (hs : Hid (∀ f ∈ L, smF f)) (hlen : L.length ≤ 1048576) :
    Calls Tryz.prog 51 #[.slice (some ⟨g, 0, none⟩) L.length c, .int .i64 1] w fun e w' => ∃ k : Int, e = .returned (.int .i64 k) ∧ 0 ≤ k ∧ k ≤ 100000000000000 ∧ Chg (fun x => g ≤ x ∧ x < V.heap.size) w w' := by
  obtain ⟨n, hn⟩ : ∃ n, L.length = n := ⟨_, rfl⟩
  have HN : Hid (L.length = n) := hn
  rw [hn] at hlen ⊢
  clear hn
  have hgw : Hid (g < V.heap.size) := by obtain ⟨arr, h0, _⟩ := hF.out; exact lt_of_block h0
  go_enter Tryz.func51, Tryz.ntmps51
  go_wp2
  go_loopw [1, 5] (fun m i wr => ∃ (j : Nat) (k : Int), j ≤ n ∧ i = .int .i64 (j : Int) ∧ m = .int .i64 k ∧ Hid (0 ≤ k ∧ k ≤ 1 + (j : Int) * 5000000) ∧ Hid (Chg (fun x => g ≤ x ∧ x < V.heap.size) w wr) ∧ Hid (Kept4 w wr g n)) (fun _ i _ => n - (intOf i).toNat)
  case atStart => exact ⟨0, 1, by omega, rfl, rfl, ⟨by omega, by omega⟩, Chg.refl _ _, fun _ _ _ _ => rfl⟩
  case round =>
    obtain ⟨j, k, hj, rfl, rfl, hK, hC, hX⟩ := hrel
    by_cases hlt : j < n
    · have hjL : j < L.length := by have := HN.out; omega
      obtain ⟨arr0, h0V, hs0, hl0⟩ := hF.out
      have h00 := (hV.out.block g (lt_of_block h0V)).trans h0V
      obtain ⟨pa, pc, la, lc, ba, bc, e0, _, e2, e3, ⟨hp, hq, hb⟩, o1, o2, o3⟩ := hl0 j hjL hjL
      obtain ⟨s1, s2, s3, _⟩ := hs.out _ (List.getElem_mem hjL)
      obtain ⟨arr, h0, hsz⟩ := hC.out.long g arr0 _ h00
      obtain ⟨np, hnp⟩ : ∃ x, L[j].ps.length = x := ⟨_, rfl⟩
      obtain ⟨nl, hnl⟩ : ∃ x, L[j].ls.length = x := ⟨_, rfl⟩
      obtain ⟨nb, hnb⟩ : ∃ x, L[j].body.length = x := ⟨_, rfl⟩
      have hrp := hp.row
      have hrq := hq.row
      have hrb := hb.row
      rw [hnp] at e0 s1 hrp
      rw [hnl] at e2 s2 hrq
      rw [hnb] at e3 s3 hrb
      have d0 : wr.cell? ⟨g, j * 4, none⟩ = some (.slice pa np pc) := (hX.out j 0 hlt (.inl rfl)).trans ((cell_of_block h00 _).trans e0)
      have hK2 := hK.out
      have T1 := markIntB pa np pc k wr (hC.out.row (hrp.below hV.out)) s1 hK2.1 (by omega)
      have HR : Hid (RowB V 3 1 pa np ∧ RowB V 3 1 la nl ∧ RowB V 128 2 ba nb) := ⟨hrp, hrq, hrb⟩
      have HO : Hid (Offs (g + 1) pa ∧ Offs (g + 1) la ∧ Offs (g + 1) ba) := ⟨o1, o2, o3⟩
      have HE : Hid (arr0[j * 4 + 2]? = some (.slice la nl lc) ∧ arr0[j * 4 + 3]? = some (.slice ba nb bc) ∧ w.heap[g]? = some (.cells arr0 100 (0, 0)) ∧ arr0.size = L.length * 4) := ⟨e2, e3, h00, hs0⟩
      have HA : Hid (wr.heap[g]? = some (.cells arr 100 (0, 0)) ∧ arr.size = arr0.size) := ⟨h0, hsz⟩
      have HSS : Hid (np ≤ 1048576 ∧ nl ≤ 1048576 ∧ nb ≤ 1048576) := ⟨s1, s2, s3⟩
      clear hl0 e0 e2 e3 hp hq hb o1 o2 o3 s1 s2 s3 h00 h0V hs0 h0 hsz hrp hrq hrb hnp hnl hnb hK2
      have subS : ∀ (a : Option Addr) (m : Nat) (T : TypeId) (sz : Nat), RowB V T sz a m → Offs (g + 1) a → ∀ x, (0 < m ∧ a = some ⟨x, 0, none⟩) → g ≤ x ∧ x < V.heap.size := fun a m T sz hr ho x hx => by
        have h1 := rowb_lt hr hx.1 hx.2
        have h2 : ¬ x < g + 1 := fun h => ho x h x 0 hx.2 rfl
        omega
      have notS : ∀ (a : Option Addr) (m : Nat), Offs (g + 1) a → ¬ (0 < m ∧ a = some ⟨g, 0, none⟩) := fun a m ho hx => ho g (by omega) g 0 hx.2 rfl
      have HSU : Hid (∀ (a : Option Addr) (m : Nat) (T : TypeId) (sz : Nat), RowB V T sz a m → Offs (g + 1) a → ∀ x, (0 < m ∧ a = some ⟨x, 0, none⟩) → g ≤ x ∧ x < V.heap.size) := subS
      have HNS : Hid (∀ (a : Option Addr) (m : Nat), Offs (g + 1) a → ¬ (0 < m ∧ a = some ⟨g, 0, none⟩)) := notS
      clear subS notS
      go_wp2_with fail
      refine T1.mono ?_
      rintro e w1 ⟨rfl, hc1⟩
      clear T1 d0
      have hC1 : Hid (Chg (fun x => g ≤ x ∧ x < V.heap.size) w w1) := hC.out.trans (hc1.mono (HSU.out pa np _ _ HR.out.1 HO.out.1))
      have ha1 : w1.heap[g]? = some (.cells arr 100 (0, 0)) := (hc1.same g (HNS.out pa np HO.out.1)).trans HA.out.1
      obtain ⟨ov, hov⟩ : ∃ o, arr[j * 4 + 1]? = some o := ⟨_, Array.getElem?_eq_getElem (by have h1 := HA.out.2; have h2 := HE.out.2.2.2; have h3 := HN.out; omega)⟩
      have c1 := (cell_of_block ha1 (j * 4 + 1)).trans hov
      have f1 := free_of_block ha1 (j * 4 + 1)
      have HX1 : Hid (Kept4 w w1 g n) := fun i d hi hd => (chg_cell hc1 (HNS.out pa np HO.out.1) _).trans (hX.out i d hi hd)
      obtain ⟨k1, hk1⟩ : ∃ x, k + (np : Int) = x := ⟨_, rfl⟩
      have hK1 : 0 ≤ k1 ∧ k1 ≤ 1 + (j : Int) * 5000000 + 1048576 := by have h1 := hK.out; have h2 := HSS.out; omega
      rw [hk1]
      obtain ⟨W2, hW2⟩ : ∃ W, w1.setCell ⟨g, j * 4 + 1, none⟩ (.int .i64 k1) = W := ⟨_, rfl⟩
      have hC2 : Hid (Chg (fun x => g ≤ x ∧ x < V.heap.size) w W2) := by unfold Hid; rw [← hW2]; exact hC1.out.set ⟨Nat.le_refl _, hgw.out⟩ ha1 _ _
      have HX2 : Hid (Kept4 w W2 g n) := fun i d hi hd => by rw [← hW2]; exact (cell_set_ne ha1 _ _ (by omega) _).trans (HX1.out i d hi hd)
      have d2 : W2.cell? ⟨g, j * 4 + 2, none⟩ = some (.slice la nl lc) := (HX2.out j 2 hlt (.inr (.inl rfl))).trans ((cell_of_block HE.out.2.2.1 _).trans HE.out.1)
      have HW2 : Hid (w1.setCell ⟨g, j * 4 + 1, none⟩ (.int .i64 k1) = W2) := hW2
      have d2' : (w1.setCell ⟨g, j * 4 + 1, none⟩ (.int .i64 k1)).cell? ⟨g, j * 4 + 2, none⟩ = some (.slice la nl lc) := by rw [hW2]; exact d2
      have hjn : (j : Int) ≤ 1048576 := by omega
      have hkw : k1 + 1 ≤ 1000000000000000 := by omega
      have T2 := markIntB la nl lc (k1 + 1) W2 (hC2.out.row (HR.out.2.1.below hV.out)) HSS.out.2.1 (by omega) hkw
      clear hW2 hc1 ha1 hov hk1 d2
      go_wp2_with fail
      rw [HW2.out]
      refine T2.mono ?_
      rintro e w3 ⟨rfl, hc3⟩
      clear T2 c1 f1 d2'
      have hC3 : Hid (Chg (fun x => g ≤ x ∧ x < V.heap.size) w w3) := hC2.out.trans (hc3.mono (HSU.out la nl _ _ HR.out.2.1 HO.out.2.1))
      have HX3 : Hid (Kept4 w w3 g n) := fun i d hi hd => (chg_cell hc3 (HNS.out la nl HO.out.2.1) _).trans (HX2.out i d hi hd)
      have d3 : w3.cell? ⟨g, j * 4 + 3, none⟩ = some (.slice ba nb bc) := (HX3.out j 3 hlt (.inr (.inr rfl))).trans ((cell_of_block HE.out.2.2.1 _).trans HE.out.2.1)
      obtain ⟨k3, hk3⟩ : ∃ x, k1 + 1 + (nl : Int) = x := ⟨_, rfl⟩
      have hK3 : 0 ≤ k3 ∧ k3 ≤ 1 + (j : Int) * 5000000 + 1048576 + 1 + 1048576 := by have h2 := HSS.out; omega
      rw [hk3]
      have T3 := markInsB ba nb bc k3 w3 (hC3.out.row (HR.out.2.2.below hV.out)) HSS.out.2.2 hK3.1 (by omega)
      have HK3 : Hid (0 ≤ k3 ∧ k3 ≤ 1 + (j : Int) * 5000000 + 1048576 + 1 + 1048576) := hK3
      clear hc3 hk3 hK1 hkw hK3
      go_wp2_with fail
      refine T3.mono ?_
      rintro e w4 ⟨rfl, hc4⟩
      clear T3 d3
      have hC4 : Hid (Chg (fun x => g ≤ x ∧ x < V.heap.size) w w4) := hC3.out.trans (hc4.mono (HSU.out ba nb _ _ HR.out.2.2 HO.out.2.2))
      have HX4 : Hid (Kept4 w w4 g n) := fun i d hi hd => (chg_cell hc4 (HNS.out ba nb HO.out.2.2) _).trans (HX3.out i d hi hd)
      have HK4 : Hid (0 ≤ k3 + 2 * (nb : Int) ∧ k3 + 2 * (nb : Int) ≤ 1 + ((j + 1 : Nat) : Int) * 5000000) := by unfold Hid; have h1 := HK3.out; have h2 := HSS.out; omega
      clear hc4
      go_wp2
      go_roundw
      case rel => exact ⟨j + 1, k3 + 2 * (nb : Int), by omega, by go_num, rfl, HK4, hC4, HX4⟩
      case measure => simp [intOf]; omega
    · have hK2 := hK.out
      go_wp2
      go_ret
      exact ⟨k, rfl, hK2.1, by omega, hC.out⟩

set_option maxRecDepth 100000 in
set_option maxHeartbeats 1600000 in
theorem markGlosB (a : Option Addr) (n c : Nat) (k : Int) (w : World) (hr : Hid (RowB w 82 3 a n)) (hn : n ≤ 1048576) (k0 : 0 ≤ k) (k1 : k ≤ 1000000000000000) :
    Calls Tryz.prog 52 #[.slice a n c, .int .i64 k] w fun e w' => e = .returned (.int .i64 (k + 3 * (n : Int))) ∧ Chg (fun x => 0 < n ∧ a = some ⟨x, 0, none⟩) w w' := by
  go_enter Tryz.func52, Tryz.ntmps52
  go_wp2
  go_loopw [1, 5] (fun m i wr => ∃ j : Nat, j ≤ n ∧ i = .int .i64 (j : Int) ∧ m = .int .i64 (k + 3 * (j : Int)) ∧ Hid (Chg (fun x => 0 < n ∧ a = some ⟨x, 0, none⟩) w wr)) (fun _ i _ => n - (intOf i).toNat)
  case atStart => exact ⟨0, by omega, rfl, by simp, Chg.refl _ _⟩
  case round =>
    obtain ⟨j, hj, rfl, rfl, hC⟩ := hrel
    by_cases hlt : j < n
    · obtain ⟨b, arr, e, h0, h1⟩ := (hC.out.row hr.out) (by omega)
      subst e
      obtain ⟨o0, ho0⟩ : ∃ o, arr[j * 3]? = some o := ⟨_, Array.getElem?_eq_getElem (by omega)⟩
      obtain ⟨o1, ho1⟩ : ∃ o, arr[j * 3 + 1]? = some o := ⟨_, Array.getElem?_eq_getElem (by omega)⟩
      obtain ⟨o2, ho2⟩ : ∃ o, arr[j * 3 + 2]? = some o := ⟨_, Array.getElem?_eq_getElem (by omega)⟩
      obtain ⟨m, hm⟩ : ∃ m, k + 3 * (j : Int) = m := ⟨_, rfl⟩
      have hm0 : 0 ≤ m ∧ m ≤ 1000000010000000 := by omega
      rw [hm]
      have d0 := (cell_of_block h0 (j * 3)).trans ho0
      have f0 := free_of_block h0 (j * 3)
      have hc1 : (wr.setCell ⟨b, j * 3, none⟩ (.int .i64 m)).heap[b]? = some (.cells (arr.setIfInBounds (j * 3) (.int .i64 m)) 82 (0, 0)) := heap_setCell_same _ _ _ _ _ _ h0
      have d1 := (cell_of_block hc1 (j * 3 + 1)).trans ((Array.getElem?_setIfInBounds_ne (by omega)).trans ho1)
      have f1 := free_of_block hc1 (j * 3 + 1)
      have hc2 := fun v => heap_setCell_same _ _ (j * 3 + 1) _ _ v hc1
      have d2 := fun v => (cell_of_block (hc2 v) (j * 3 + 2)).trans ((Array.getElem?_setIfInBounds_ne (by omega)).trans ((Array.getElem?_setIfInBounds_ne (by omega)).trans ho2))
      have f2 := fun v => free_of_block (hc2 v) (j * 3 + 2)
      have H0 : Hid (wr.heap[b]? = some (.cells arr 82 (0, 0))) := h0
      have HC1 : Hid ((wr.setCell ⟨b, j * 3, none⟩ (.int .i64 m)).heap[b]? = some (.cells (arr.setIfInBounds (j * 3) (.int .i64 m)) 82 (0, 0))) := hc1
      have HM : Hid (k + 3 * (j : Int) = m) := hm
      clear h0 h1 hc1 hc2 hm
      go_wp2
      go_roundw
      case rel => exact ⟨j + 1, by omega, by go_num, by have h := HM.out; rw [show m + 1 + 1 + 1 = k + 3 * ((j + 1 : Nat) : Int) by omega], ((hC.out.set ⟨by omega, rfl⟩ H0.out _ _).set ⟨by omega, rfl⟩ HC1.out _ _).set ⟨by omega, rfl⟩ (heap_setCell_same _ _ _ _ _ _ HC1.out) _ _⟩
      case measure => simp [intOf]; omega
    · obtain rfl : j = n := by omega
      go_wp2
      go_ret
      exact ⟨rfl, hC.out⟩

set_option maxRecDepth 100000 in
set_option maxHeartbeats 1600000 in
theorem markModB (B : Nat) (l : Loc7) (M : Mod7) (V w : World) (hM : Hid (ModB B V l M)) (hV : Hid (Below V.heap.size V w)) (hs : Hid (smM M)) :
    Calls Tryz.prog 27 #[.agg #[.slice l.fa M.fs.length l.fc, .slice l.ga M.gs.length l.gc, .bool M.mem, .int .i64 M.pages, .int .i64 M.most, .int .i64 M.start], .int .i64 1] w fun e w' => ∃ (k : Int) (w0 : World), e = .returned (.int .i64 k) ∧ 0 ≤ k ∧ Below w.heap.size w w0 ∧ Chg (fun x => B ≤ x ∧ x < V.heap.size) w0 w' := by
  obtain ⟨g, z, e1, e2, b1, b2, h1, h2⟩ := hM.out
  rw [e1, e2]
  obtain ⟨W, hW⟩ : ∃ W, w.alloc (.cells #[.slice (some ⟨g, 0, none⟩) M.fs.length l.fc, .slice (some ⟨z, 0, none⟩) M.gs.length l.gc, .bool M.mem, .int .i64 M.pages, .int .i64 M.most, .int .i64 M.start] 38) = W := ⟨_, rfl⟩
  have hb0 : Below w.heap.size w W := by rw [← hW]; exact (Below.refl _ _).alloc (Nat.le_refl _) _
  have hx0 : W.heap[w.heap.size]? = some (.cells #[.slice (some ⟨g, 0, none⟩) M.fs.length l.fc, .slice (some ⟨z, 0, none⟩) M.gs.length l.gc, .bool M.mem, .int .i64 M.pages, .int .i64 M.most, .int .i64 M.start] 38 (0, 0)) := by rw [← hW]; exact heap_alloc_new _ _
  have hVW : Below V.heap.size V W := bel_step hV.out hb0
  have T1 := markFunsB g l.fc M.fs V W h1 hVW hs.out.2.2.1 hs.out.1
  have HW : Hid (w.alloc (.cells #[.slice (some ⟨g, 0, none⟩) M.fs.length l.fc, .slice (some ⟨z, 0, none⟩) M.gs.length l.gc, .bool M.mem, .int .i64 M.pages, .int .i64 M.most, .int .i64 M.start] 38) = W) := hW
  have HB0 : Hid (Below w.heap.size w W) := hb0
  have HG : Hid (GlosB V z M.gs ∧ B ≤ g ∧ B ≤ z ∧ Below V.heap.size V W ∧ V.heap.size ≤ w.heap.size) := ⟨h2, b1, b2, hVW, hV.out.size⟩
  clear hW hb0 hVW h1 h2 b1 b2 e1 e2
  go_enter Tryz.func27, Tryz.ntmps27
  go_wp2_with fail
  rw [HW.out]
  refine T1.mono ?_
  rintro e w1 ⟨k, rfl, k0, k1, hc1⟩
  have hx1 := (hc1.same w.heap.size (fun h => by have := HG.out.2.2.2.2; omega)).trans hx0
  have x1 := (cell_of_block hx1 1).trans rfl
  have T2 := markGlosB (some ⟨z, 0, none⟩) M.gs.length l.gc k w1 (hc1.row (HG.out.1.2.below HG.out.2.2.2.1)) hs.out.2.1 k0 (by omega)
  have HC1 : Hid (Chg (fun x => B ≤ x ∧ x < V.heap.size) W w1) := hc1.mono (fun x hx => ⟨Nat.le_trans HG.out.2.1 hx.1, hx.2⟩)
  clear T1 hc1 hx0 hx1
  have hns : M.gs.length ≤ 1048576 := hs.out.2.1
  obtain ⟨ng, hng⟩ : ∃ n, M.gs.length = n := ⟨_, rfl⟩
  rw [hng] at T2 x1 hns
  have HNG : Hid (M.gs.length = ng) := hng
  clear hng
  go_wp2_with fail
  refine T2.mono ?_
  rintro e w2 ⟨rfl, hc2⟩
  have HC2 : Hid (Chg (fun x => B ≤ x ∧ x < V.heap.size) W w2) := HC1.out.trans (hc2.mono (fun x hx => by
    obtain ⟨hn, he⟩ := hx
    have hlt := rowb_lt HG.out.1.2 (by rw [HNG.out]; exact hn) he
    simp at he
    have := HG.out.2.2.1
    omega))
  clear T2 hc2 x1
  go_wp2
  go_ret
  exact ⟨k + 3 * (ng : Int), W, rfl, by omega, HB0.out, HC2.out⟩

/-- The marks of words. -/
def MarkedW (w : World) (a : Option Addr) (n : Nat) : Prop := 0 < n → ∃ b arr, a = some ⟨b, 0, none⟩ ∧ w.heap[b]? = some (.cells arr 80 (0, 0)) ∧ ∀ j, j < n → arr[j * 2]? = some (.int .i64 (1 + 2 * (j : Int))) ∧ arr[j * 2 + 1]? = some (.int .u64 (1 + 2 * (j : Int) + 1))
theorem MarkedW.below {w w' : World} {a : Option Addr} {n : Nat} (h : MarkedW w a n) (hb : Below w.heap.size w w') : MarkedW w' a n := fun hn => by
  obtain ⟨b, arr, e, h0, h1⟩ := h hn
  exact ⟨b, arr, e, (hb.block b (lt_of_block h0)).trans h0, h1⟩

set_option maxRecDepth 100000 in
set_option maxHeartbeats 1600000 in
theorem markWds (a : Option Addr) (n c : Nat) (w : World) (hr : Hid (RowB w 80 2 a n)) (hn : n ≤ 1048576) :
    Calls Tryz.prog 28 #[.slice a n c, .int .i64 1] w fun e w' => e = .returned (.int .i64 (1 + 2 * (n : Int))) ∧ Chg (fun x => 0 < n ∧ a = some ⟨x, 0, none⟩) w w' ∧ MarkedW w' a n := by
  go_enter Tryz.func28, Tryz.ntmps28
  go_wp2
  go_loopw [1, 5] (fun m i wr => ∃ j : Nat, j ≤ n ∧ i = .int .i64 (j : Int) ∧ m = .int .i64 (1 + 2 * (j : Int)) ∧ Hid (Chg (fun x => 0 < n ∧ a = some ⟨x, 0, none⟩) w wr) ∧ Hid (0 < n → ∃ b arr, a = some ⟨b, 0, none⟩ ∧ wr.heap[b]? = some (.cells arr 80 (0, 0)) ∧ n * 2 ≤ arr.size ∧ ∀ i, i < j → arr[i * 2]? = some (.int .i64 (1 + 2 * (i : Int))) ∧ arr[i * 2 + 1]? = some (.int .u64 (1 + 2 * (i : Int) + 1)))) (fun _ i _ => n - (intOf i).toNat)
  case atStart => exact ⟨0, by omega, rfl, by simp, Chg.refl _ _, fun h => by obtain ⟨b, arr, e, h0, h1⟩ := hr.out h; exact ⟨b, arr, e, h0, h1, fun i hi => absurd hi (by omega)⟩⟩
  case round =>
    obtain ⟨j, hj, rfl, rfl, hC, hA⟩ := hrel
    by_cases hlt : j < n
    · obtain ⟨b, arr, e, h0, h1, h2⟩ := hA.out (by omega)
      subst e
      obtain ⟨o0, ho0⟩ : ∃ o, arr[j * 2]? = some o := ⟨_, Array.getElem?_eq_getElem (by omega)⟩
      obtain ⟨o1, ho1⟩ : ∃ o, arr[j * 2 + 1]? = some o := ⟨_, Array.getElem?_eq_getElem (by omega)⟩
      have d0 := (cell_of_block h0 (j * 2)).trans ho0
      have f0 := free_of_block h0 (j * 2)
      have hc1 : (wr.setCell ⟨b, j * 2, none⟩ (.int .i64 (1 + 2 * (j : Int)))).heap[b]? = some (.cells (arr.setIfInBounds (j * 2) (.int .i64 (1 + 2 * (j : Int)))) 80 (0, 0)) := heap_setCell_same _ _ _ _ _ _ h0
      have d1 := (cell_of_block hc1 (j * 2 + 1)).trans ((Array.getElem?_setIfInBounds_ne (by omega)).trans ho1)
      have f1 := free_of_block hc1 (j * 2 + 1)
      have H0 : Hid (wr.heap[b]? = some (.cells arr 80 (0, 0)) ∧ n * 2 ≤ arr.size) := ⟨h0, h1⟩
      have HC1 : Hid ((wr.setCell ⟨b, j * 2, none⟩ (.int .i64 (1 + 2 * (j : Int)))).heap[b]? = some (.cells (arr.setIfInBounds (j * 2) (.int .i64 (1 + 2 * (j : Int)))) 80 (0, 0))) := hc1
      have H2 : Hid (∀ i, i < j → arr[i * 2]? = some (.int .i64 (1 + 2 * (i : Int))) ∧ arr[i * 2 + 1]? = some (.int .u64 (1 + 2 * (i : Int) + 1))) := h2
      clear h0 h1 hc1 h2
      go_wp2
      go_roundw
      case rel =>
        refine ⟨j + 1, by omega, by go_num, by go_num, (hC.out.set ⟨by omega, rfl⟩ H0.out.1 _ _).set ⟨by omega, rfl⟩ HC1.out _ _, fun _ => ⟨b, _, rfl, heap_setCell_same _ _ _ _ _ _ HC1.out, by simpa using H0.out.2, fun i hi => ?_⟩⟩
        have hsz := H0.out.2
        by_cases e : i = j
        · subst e
          exact ⟨by rw [Array.getElem?_setIfInBounds_ne (by omega), Array.getElem?_setIfInBounds_self_of_lt (by omega)], by rw [Array.getElem?_setIfInBounds_self_of_lt (by simp; omega)]⟩
        · have h := H2.out i (by omega)
          exact ⟨by rw [Array.getElem?_setIfInBounds_ne (by omega), Array.getElem?_setIfInBounds_ne (by omega)]; exact h.1, by rw [Array.getElem?_setIfInBounds_ne (by omega), Array.getElem?_setIfInBounds_ne (by omega)]; exact h.2⟩
      case measure => simp [intOf]; omega
    · obtain rfl : j = n := by omega
      go_wp2
      go_ret
      exact ⟨rfl, hC.out, fun h => by obtain ⟨b, arr, e, h0, _, h2⟩ := hA.out h; exact ⟨b, arr, e, h0, h2⟩⟩

set_option maxRecDepth 100000 in
set_option maxHeartbeats 1600000 in
theorem heldWds (a : Option Addr) (n c : Nat) (w : World) (hr : Hid (MarkedW w a n)) (hn : n ≤ 1048576) :
    Calls Tryz.prog 29 #[.slice a n c, .int .i64 1] w fun e w' => e = .returned (.int .i64 (1 + 2 * (n : Int))) ∧ w' = w := by
  go_enter Tryz.func29, Tryz.ntmps29
  go_wp2
  go_loopw [1, 5] (fun m i wr => ∃ j : Nat, j ≤ n ∧ i = .int .i64 (j : Int) ∧ m = .int .i64 (1 + 2 * (j : Int)) ∧ wr = w) (fun _ i _ => n - (intOf i).toNat)
  case atStart => exact ⟨0, by omega, rfl, by simp, rfl⟩
  case round =>
    obtain ⟨j, hj, rfl, rfl, rfl⟩ := hrel
    by_cases hlt : j < n
    · obtain ⟨b, arr, e, h0, h1⟩ := hr.out (by omega)
      subst e
      have d0 := (cell_of_block h0 (j * 2)).trans (h1 j hlt).1
      have d1 := (cell_of_block h0 (j * 2 + 1)).trans (h1 j hlt).2
      clear h0 h1
      go_wp2
      go_roundw
      case rel => exact ⟨j + 1, by omega, by go_num, by go_num, trivial⟩
      case measure => simp [intOf]; omega
    · obtain rfl : j = n := by omega
      go_wp2
      go_ret
      exact ⟨rfl, rfl⟩

end Go.Proofs.YtdcfflmfimepfaaGreat
