/-
  A module is copied.
-/
import Derived.Test.YtdcfflmfimepfaaGreatJA3
import Derived.Deep.RegionWith
namespace Go.Proofs.YtdcfflmfimepfaaGreat
open Go.ChangeShapes Go.WideShapes Go.ChangeAt Go.RowKit

theorem put4_at (arr : Array Value) (k : Nat) (hs : k * 4 + 3 < arr.size) (v0 v1 v2 v3 : Value) (A : Array Value) (hA : A = (((arr.setIfInBounds (k * 4) v0).setIfInBounds (k * 4 + 1) v1).setIfInBounds (k * 4 + 2) v2).setIfInBounds (k * 4 + 3) v3) :
    A[k * 4]? = some v0 ∧ A[k * 4 + 1]? = some v1 ∧ A[k * 4 + 2]? = some v2 ∧ A[k * 4 + 3]? = some v3 ∧ ∀ j, j < k * 4 → A[j]? = arr[j]? := by
  subst hA
  refine ⟨?_, ?_, ?_, ?_, fun j hj => ?_⟩
  · rw [Array.getElem?_setIfInBounds_ne (by omega), Array.getElem?_setIfInBounds_ne (by omega), Array.getElem?_setIfInBounds_ne (by omega), Array.getElem?_setIfInBounds_self_of_lt (by omega)]
  · rw [Array.getElem?_setIfInBounds_ne (by omega), Array.getElem?_setIfInBounds_ne (by omega), Array.getElem?_setIfInBounds_self_of_lt (by simp; omega)]
  · rw [Array.getElem?_setIfInBounds_ne (by omega), Array.getElem?_setIfInBounds_self_of_lt (by simp; omega)]
  · rw [Array.getElem?_setIfInBounds_self_of_lt (by simp; omega)]
  · rw [Array.getElem?_setIfInBounds_ne (by omega), Array.getElem?_setIfInBounds_ne (by omega), Array.getElem?_setIfInBounds_ne (by omega), Array.getElem?_setIfInBounds_ne (by omega)]
theorem put3_at (arr : Array Value) (k : Nat) (hs : k * 3 + 2 < arr.size) (v0 v1 v2 : Value) (A : Array Value) (hA : A = ((arr.setIfInBounds (k * 3) v0).setIfInBounds (k * 3 + 1) v1).setIfInBounds (k * 3 + 2) v2) :
    A[k * 3]? = some v0 ∧ A[k * 3 + 1]? = some v1 ∧ A[k * 3 + 2]? = some v2 ∧ ∀ j, j < k * 3 → A[j]? = arr[j]? := by
  subst hA
  refine ⟨?_, ?_, ?_, fun j hj => ?_⟩
  · rw [Array.getElem?_setIfInBounds_ne (by omega), Array.getElem?_setIfInBounds_ne (by omega), Array.getElem?_setIfInBounds_self_of_lt (by omega)]
  · rw [Array.getElem?_setIfInBounds_ne (by omega), Array.getElem?_setIfInBounds_self_of_lt (by simp; omega)]
  · rw [Array.getElem?_setIfInBounds_self_of_lt (by simp; omega)]
  · rw [Array.getElem?_setIfInBounds_ne (by omega), Array.getElem?_setIfInBounds_ne (by omega), Array.getElem?_setIfInBounds_ne (by omega)]

theorem Tryz.info100 : (Tryz.prog.info? 100).map (fun i => (i.zero, i.size, i.bytes)) = some (some (.agg #[.slice none 0 0, .int .i64 0, .slice none 0 0, .slice none 0 0]), 4, 80) := by kernel_rfl
theorem Tryz.info82 : (Tryz.prog.info? 82).map (fun i => (i.zero, i.size, i.bytes)) = some (some (.agg #[.int .i64 0, .bool false, .int .u64 0]), 3, 24) := by kernel_rfl

set_option maxRecDepth 100000 in
set_option maxHeartbeats 1600000 in
theorem toFun1 (pa la ba : Option Addr) (pc lc bc : Nat) (f : Fun7) (w : World) (hR : Hid (FunRows w pa la ba f)) (hs : Hid (smF f)) :
    Calls Tryz.prog 58 #[.agg #[.slice pa f.ps.length pc, .int .i64 f.res, .slice la f.ls.length lc, .slice ba f.body.length bc]] w fun e w' =>
      ∃ pa' la' ba' pc' lc' bc', e = .returned (.agg #[.slice pa' f.ps.length pc', .int .i64 f.res, .slice la' f.ls.length lc', .slice ba' f.body.length bc']) ∧ Hid (FunRows w' pa' la' ba' f ∧ ∀ g, g < w.heap.size → Off g pa' ∧ Off g la' ∧ Off g ba') ∧ Below w.heap.size w w' := by
  obtain ⟨ps, res, ls, body⟩ := f
  simp only
  go_enter Tryz.func58, Tryz.ntmps58
  go_wp2_with fail
  obtain ⟨n, hn⟩ : ∃ n, w.heap.size = n := ⟨_, rfl⟩
  obtain ⟨W0, hW0⟩ : ∃ W, (((w.alloc (.cells #[.slice pa ps.length pc, .int .i64 res, .slice la ls.length lc, .slice ba body.length bc] 95)).alloc (.cells #[.slice none 0 0, .int .i64 0, .slice none 0 0, .slice none 0 0] 100)).alloc (.cells #[.slice none 0 0, .int .i64 0, .slice none 0 0, .slice none 0 0] 100)) = W := ⟨_, rfl⟩
  have hb0 : Below w.heap.size w W0 := by rw [← hW0]; exact bel_alloc (bel_alloc (bel_alloc (Below.refl _ _) _) _) _
  have hz0 : W0.heap.size = n + 1 + 1 + 1 := by rw [← hW0, ← hn]; simp
  have hx0 : W0.heap[n]? = some (.cells #[.slice pa ps.length pc, .int .i64 res, .slice la ls.length lc, .slice ba body.length bc] 95 (0, 0)) := by
    rw [← hW0, ← hn]
    exact ((Below.heap_alloc _ _ _ (by simp; omega)).trans (Below.heap_alloc _ _ _ (by simp))).trans (heap_alloc_new _ _)
  have hg0 : W0.heap[n + 1 + 1]? = some (.cells #[.slice none 0 0, .int .i64 0, .slice none 0 0, .slice none 0 0] 100 (0, 0)) := by
    rw [← hW0, ← hn]
    have h := heap_alloc_new ((w.alloc (.cells #[.slice pa ps.length pc, .int .i64 res, .slice la ls.length lc, .slice ba body.length bc] 95)).alloc (.cells #[.slice none 0 0, .int .i64 0, .slice none 0 0, .slice none 0 0] 100)) (.cells #[.slice none 0 0, .int .i64 0, .slice none 0 0, .slice none 0 0] 100)
    simpa using h
  have hr0 : W0.heap[n + 1]? = some (.cells #[.slice none 0 0, .int .i64 0, .slice none 0 0, .slice none 0 0] 100 (0, 0)) := by
    rw [← hW0, ← hn]
    have h := heap_alloc_new (w.alloc (.cells #[.slice pa ps.length pc, .int .i64 res, .slice la ls.length lc, .slice ba body.length bc] 95)) (.cells #[.slice none 0 0, .int .i64 0, .slice none 0 0, .slice none 0 0] 100)
    exact (Below.heap_alloc _ _ _ (by simp)).trans (by simpa using h)
  have T1 := toInts pa pc ps W0 (hR.out.1.below hb0) hs.out.1
  have HB0 : Hid (Below w.heap.size w W0) := hb0
  have HN : Hid (w.heap.size = n) := hn
  rw [hW0, hn]
  rw [hz0] at T1
  clear hb0 hW0 hn
  refine T1.mono ?_
  rintro e w1 ⟨rfl, hl1, hI1, hb1⟩
  have hx1 := (hb1.block n (by omega)).trans hx0
  have hg1 := (hb1.block (n + 1 + 1) (by omega)).trans hg0
  have hr1 := (hb1.block (n + 1) (by omega)).trans hr0
  have HB1 : Hid (Below w.heap.size w w1) := HB0.out.trans (hb1.mono (by have := HB0.out.size; omega))
  have HI1 : Hid (Ints w1 (some ⟨n + 1 + 1 + 1, 0, none⟩) ps) := hI1
  clear T1 hb1 hx0 hg0 hr0 hz0 HB0 hI1
  have c1 := (cell_of_block hx1 1).trans rfl
  have d0 := (cell_of_block hg1 0).trans rfl
  have d1 := (cell_of_block hg1 1).trans rfl
  have f0 := free_of_block hg1 0
  have f1 := free_of_block hg1 1
  have c2 := (cell_of_block hx1 2).trans rfl
  go_wp2_with fail
  obtain ⟨W2, hW2⟩ : ∃ W, (w1.setCell ⟨n + 1 + 1, 0, none⟩ (.slice (some ⟨n + 1 + 1 + 1, 0, none⟩) ps.length ps.length)).setCell ⟨n + 1 + 1, 1, none⟩ (.int .i64 res) = W := ⟨_, rfl⟩
  obtain ⟨z2, hz2⟩ : ∃ z, W2.heap.size = z := ⟨_, rfl⟩
  have hzz : n + 1 + 1 + 1 < z2 := by rw [← hz2, ← hW2]; simpa using hl1
  have hx2 : W2.heap[n]? = some (.cells #[.slice pa ps.length pc, .int .i64 res, .slice la ls.length lc, .slice ba body.length bc] 95 (0, 0)) := by
    rw [← hW2]; exact ((heap_setCell_other _ ⟨n + 1 + 1, 1, none⟩ n _ (show n ≠ n + 1 + 1 by omega)).trans (heap_setCell_other _ ⟨n + 1 + 1, 0, none⟩ n _ (show n ≠ n + 1 + 1 by omega))).trans hx1
  have hg2 : W2.heap[n + 1 + 1]? = some (.cells #[.slice (some ⟨n + 1 + 1 + 1, 0, none⟩) ps.length ps.length, .int .i64 res, .slice none 0 0, .slice none 0 0] 100 (0, 0)) := by
    rw [← hW2]; exact heap_setCell_same _ _ _ _ _ _ (heap_setCell_same _ _ _ _ _ _ hg1)
  have hr2 : W2.heap[n + 1]? = some (.cells #[.slice none 0 0, .int .i64 0, .slice none 0 0, .slice none 0 0] 100 (0, 0)) := by
    rw [← hW2]; exact ((heap_setCell_other _ ⟨n + 1 + 1, 1, none⟩ (n + 1) _ (show n + 1 ≠ n + 1 + 1 by omega)).trans (heap_setCell_other _ ⟨n + 1 + 1, 0, none⟩ (n + 1) _ (show n + 1 ≠ n + 1 + 1 by omega))).trans hr1
  have HB2 : Hid (Below w.heap.size w W2) := by
    have hle : w.heap.size ≤ n + 1 + 1 := by have := HN.out; omega
    unfold Hid; rw [← hW2]; exact (HB1.out.setCell hle _).setCell hle _
  have HI2 : Hid (Ints W2 (some ⟨n + 1 + 1 + 1, 0, none⟩) ps) := by
    have ho : Off (n + 1 + 1) (some ⟨n + 1 + 1 + 1, 0, none⟩) := fun b off h => by simp at h; omega
    unfold Hid; rw [← hW2]; exact (HI1.out.set ho _ _).set ho _ _
  have T2 := toInts la lc ls W2 (hR.out.2.1.below HB2.out) hs.out.2.1
  rw [hz2] at T2
  rw [hW2]
  clear hW2 HB1 HI1 hx1 hg1 hr1 c1 d0 d1 f0 f1 c2
  refine T2.mono ?_
  rintro e w3 ⟨rfl, hl3, hI3, hb3⟩
  have hx3 := (hb3.block n (by omega)).trans hx2
  have hg3 := (hb3.block (n + 1 + 1) (by omega)).trans hg2
  have hr3 := (hb3.block (n + 1) (by omega)).trans hr2
  have HB3 : Hid (Below w.heap.size w w3) := HB2.out.trans (hb3.mono (by have := HB2.out.size; omega))
  have HI3 : Hid (Ints w3 (some ⟨n + 1 + 1 + 1, 0, none⟩) ps) := HI2.out.below (by rw [hz2]; exact hb3)
  have HJ3 : Hid (Ints w3 (some ⟨z2, 0, none⟩) ls) := hI3
  clear T2 hb3 hx2 hg2 hr2 HB2 HI2 hI3 hz2
  have c1 := (cell_of_block hx3 3).trans rfl
  have d0 := (cell_of_block hg3 2).trans rfl
  have f0 := free_of_block hg3 2
  go_wp2_with fail
  obtain ⟨W4, hW4⟩ : ∃ W, (w3.setCell ⟨n + 1 + 1, 2, none⟩ (.slice (some ⟨z2, 0, none⟩) ls.length ls.length)) = W := ⟨_, rfl⟩
  obtain ⟨z4, hz4⟩ : ∃ z, W4.heap.size = z := ⟨_, rfl⟩
  have hz34 : z2 < z4 := by rw [← hz4, ← hW4]; simpa using hl3
  have hg4 : W4.heap[n + 1 + 1]? = some (.cells #[.slice (some ⟨n + 1 + 1 + 1, 0, none⟩) ps.length ps.length, .int .i64 res, .slice (some ⟨z2, 0, none⟩) ls.length ls.length, .slice none 0 0] 100 (0, 0)) := by
    rw [← hW4]; exact heap_setCell_same _ _ _ _ _ _ hg3
  have hr4 : W4.heap[n + 1]? = some (.cells #[.slice none 0 0, .int .i64 0, .slice none 0 0, .slice none 0 0] 100 (0, 0)) := by
    rw [← hW4]; exact (heap_setCell_other _ ⟨n + 1 + 1, 2, none⟩ (n + 1) _ (show n + 1 ≠ n + 1 + 1 by omega)).trans hr3
  have hle : w.heap.size ≤ n + 1 + 1 := by have := HN.out; omega
  have HB4 : Hid (Below w.heap.size w W4) := by unfold Hid; rw [← hW4]; exact HB3.out.setCell hle _
  have HI4 : Hid (Ints W4 (some ⟨n + 1 + 1 + 1, 0, none⟩) ps) := by
    unfold Hid; rw [← hW4]; exact HI3.out.set (fun b off h => by simp at h; omega) _ _
  have HJ4 : Hid (Ints W4 (some ⟨z2, 0, none⟩) ls) := by
    unfold Hid; rw [← hW4]; exact HJ3.out.set (fun b off h => by simp at h; omega) _ _
  obtain ⟨bb, bo, hbb, hbi⟩ := (hR.out.2.2.below HB4.out).parts
  have T3 := toInsS ba bb bo bc body W4 hbb hbi hs.out.2.2.1
  rw [hz4] at T3
  rw [hW4]
  clear hW4 HB3 HI3 HJ3 hx3 hg3 hr3 c1 d0 f0
  refine T3.mono ?_
  rintro e w5 ⟨rfl, hl5, hI5, hb5⟩
  have hg5 := (hb5.block (n + 1 + 1) (by omega)).trans hg4
  have hr5 := (hb5.block (n + 1) (by omega)).trans hr4
  have HB5 : Hid (Below w.heap.size w w5) := HB4.out.trans (hb5.mono (by have := HB4.out.size; omega))
  have HI5 : Hid (Ints w5 (some ⟨n + 1 + 1 + 1, 0, none⟩) ps) := HI4.out.below (by rw [hz4]; exact hb5)
  have HJ5 : Hid (Ints w5 (some ⟨z2, 0, none⟩) ls) := HJ4.out.below (by rw [hz4]; exact hb5)
  have HK5 : Hid (insAt w5 z4 0 body) := hI5
  clear T3 hb5 hg4 hr4 HB4 HI4 HJ4 hI5 hz4
  have c0 := (cell_of_block hg5 0).trans rfl
  have c1 := (cell_of_block hg5 1).trans rfl
  have c2 := (cell_of_block hg5 2).trans rfl
  have d0 := (cell_of_block hg5 3).trans rfl
  have f0 := free_of_block hg5 3
  have q0 := (cell_of_block hr5 0).trans rfl
  have q1 := (cell_of_block hr5 1).trans rfl
  have q2 := (cell_of_block hr5 2).trans rfl
  have q3 := (cell_of_block hr5 3).trans rfl
  have k0 := free_of_block hr5 0
  have k1 := free_of_block hr5 1
  have k2 := free_of_block hr5 2
  have k3 := free_of_block hr5 3
  go_wp2
  have hle2 : w.heap.size ≤ n + 1 := by have := HN.out; omega
  refine bodyPost_ret (v := .agg #[.slice (some ⟨n + 1 + 1 + 1, 0, none⟩) ps.length ps.length, .int .i64 res, .slice (some ⟨z2, 0, none⟩) ls.length ls.length, .slice (some ⟨z4, 0, none⟩) body.length body.length]) (by simp [results, Tryz.results58, go_sem, q0, q1, q2, q3]) rfl ⟨_, _, _, _, _, _, rfl, ⟨?_, fun g hg => ?_⟩, ((((HB5.out.setCell hle _).setCell hle2 _).setCell hle2 _).setCell hle2 _).setCell hle2 _⟩
  · have o1 : ∀ m, m ≤ n + 1 + 1 → Off m (some ⟨n + 1 + 1 + 1, 0, none⟩) := fun m hm b off h => by simp at h; omega
    have o2 : ∀ m, m ≤ n + 1 + 1 → Off m (some ⟨z2, 0, none⟩) := fun m hm b off h => by simp at h; omega
    have o3 : ∀ m, m ≤ n + 1 + 1 → Off m (some ⟨z4, 0, none⟩) := fun m hm b off h => by simp at h; omega
    have hF : FunRows w5 (some ⟨n + 1 + 1 + 1, 0, none⟩) (some ⟨z2, 0, none⟩) (some ⟨z4, 0, none⟩) ⟨ps, res, ls, body⟩ := ⟨HI5.out, HJ5.out, fun _ => ⟨z4, 0, rfl, hl5, HK5.out⟩⟩
    have K : ∀ m, m ≤ n + 1 + 1 → ∀ (w : World) i v, FunRows w (some ⟨n + 1 + 1 + 1, 0, none⟩) (some ⟨z2, 0, none⟩) (some ⟨z4, 0, none⟩) ⟨ps, res, ls, body⟩ → FunRows (w.setCell ⟨m, i, none⟩ v) (some ⟨n + 1 + 1 + 1, 0, none⟩) (some ⟨z2, 0, none⟩) (some ⟨z4, 0, none⟩) ⟨ps, res, ls, body⟩ :=
      fun m hm w i v h => h.set (o1 m hm) (o2 m hm) (o3 m hm) i v
    exact K _ (by omega) _ _ _ (K _ (by omega) _ _ _ (K _ (by omega) _ _ _ (K _ (by omega) _ _ _ (K _ (by omega) _ _ _ hF))))
  · have hn := HN.out
    exact ⟨fun b off h => by simp at h; omega, fun b off h => by simp at h; omega, fun b off h => by simp at h; omega⟩

/-- An address that leads into no block below n. -/
def Offs (n : Nat) (a : Option Addr) : Prop := ∀ m, m < n → Off m a
/-- Funcs that lie in blocks from n on. -/
def FunsA (n : Nat) (w : World) (a : Option Addr) (L : List Fun7) : Prop :=
  L ≠ [] → ∃ b off, a = some ⟨b, off, none⟩ ∧ b < w.heap.size ∧ n ≤ b ∧ ∀ i (h : i < L.length), ∃ pa pc la lc ba bc, w.cell? ⟨b, off + i * 4, none⟩ = some (.slice pa L[i].ps.length pc) ∧ w.cell? ⟨b, off + i * 4 + 1, none⟩ = some (.int .i64 L[i].res) ∧ w.cell? ⟨b, off + i * 4 + 2, none⟩ = some (.slice la L[i].ls.length lc) ∧ w.cell? ⟨b, off + i * 4 + 3, none⟩ = some (.slice ba L[i].body.length bc) ∧ FunRows w pa la ba L[i] ∧ Offs n pa ∧ Offs n la ∧ Offs n ba
theorem FunsA.funs {n : Nat} {w : World} {a : Option Addr} {L : List Fun7} (h : FunsA n w a L) : Funs w a L := fun hn => by
  obtain ⟨b, off, ha, hl, _, hc⟩ := h hn
  refine ⟨b, off, ha, hl, fun i hi => ?_⟩
  obtain ⟨pa, pc, la, lc, ba, bc, h0, h1, h2, h3, hr, _⟩ := hc i hi
  exact ⟨pa, pc, la, lc, ba, bc, h0, h1, h2, h3, hr⟩
theorem FunsA.below {n : Nat} {w w' : World} {a : Option Addr} {L : List Fun7} (h : FunsA n w a L) (hb : Below w.heap.size w w') : FunsA n w' a L := fun hn => by
  obtain ⟨b, off, ha, hl, hnb, hc⟩ := h hn
  refine ⟨b, off, ha, Nat.lt_of_lt_of_le hl hb.size, hnb, fun i hi => ?_⟩
  obtain ⟨pa, pc, la, lc, ba, bc, h0, h1, h2, h3, hr, ho⟩ := hc i hi
  exact ⟨pa, pc, la, lc, ba, bc, (hb.cell (p := ⟨b, _, none⟩) hl).trans h0, (hb.cell (p := ⟨b, _, none⟩) hl).trans h1, (hb.cell (p := ⟨b, _, none⟩) hl).trans h2, (hb.cell (p := ⟨b, _, none⟩) hl).trans h3, hr.below hb, ho⟩
theorem FunsA.set {n : Nat} {w : World} {a : Option Addr} {L : List Fun7} (h : FunsA n w a L) {m : Nat} (hm : m < n) (i : Nat) (v : Value) : FunsA n (w.setCell ⟨m, i, none⟩ v) a L := fun hn => by
  obtain ⟨b, off, ha, hl, hnb, hc⟩ := h hn
  have hbm : b ≠ m := by omega
  refine ⟨b, off, ha, by simpa using hl, hnb, fun j hj => ?_⟩
  obtain ⟨pa, pc, la, lc, ba, bc, h0, h1, h2, h3, hr, o1, o2, o3⟩ := hc j hj
  exact ⟨pa, pc, la, lc, ba, bc, (setCell_other_cell _ _ _ _ _ _ hbm).trans h0, (setCell_other_cell _ _ _ _ _ _ hbm).trans h1, (setCell_other_cell _ _ _ _ _ _ hbm).trans h2, (setCell_other_cell _ _ _ _ _ _ hbm).trans h3, hr.set (o1 m hm) (o2 m hm) (o3 m hm) i v, o1, o2, o3⟩
/-- What the row of funcs that is laid holds so far. -/
def FunLaid (w : World) (g : Nat) (arr : Array Value) (L : List Fun7) (k : Nat) : Prop :=
  ∀ j (h : j < L.length), j < k → ∃ pa pc la lc ba bc, arr[j * 4]? = some (.slice pa L[j].ps.length pc) ∧ arr[j * 4 + 1]? = some (.int .i64 L[j].res) ∧ arr[j * 4 + 2]? = some (.slice la L[j].ls.length lc) ∧ arr[j * 4 + 3]? = some (.slice ba L[j].body.length bc) ∧ FunRows w pa la ba L[j] ∧ Offs (g + 1) pa ∧ Offs (g + 1) la ∧ Offs (g + 1) ba
theorem FunLaid.below {w w' : World} {g : Nat} {arr : Array Value} {L : List Fun7} {k : Nat} (h : FunLaid w g arr L k) (hb : Below w.heap.size w w') : FunLaid w' g arr L k := fun j hj hk => by
  obtain ⟨pa, pc, la, lc, ba, bc, h0, h1, h2, h3, hr, ho⟩ := h j hj hk
  exact ⟨pa, pc, la, lc, ba, bc, h0, h1, h2, h3, hr.below hb, ho⟩
theorem FunLaid.set {w : World} {g : Nat} {arr : Array Value} {L : List Fun7} {k : Nat} (h : FunLaid w g arr L k) (i : Nat) (v : Value) : FunLaid (w.setCell ⟨g, i, none⟩ v) g arr L k := fun j hj hk => by
  obtain ⟨pa, pc, la, lc, ba, bc, h0, h1, h2, h3, hr, o1, o2, o3⟩ := h j hj hk
  exact ⟨pa, pc, la, lc, ba, bc, h0, h1, h2, h3, hr.set (o1 g (by omega)) (o2 g (by omega)) (o3 g (by omega)) i v, o1, o2, o3⟩
theorem FunLaid.more {w : World} {g : Nat} {arr A : Array Value} {L : List Fun7} {k : Nat} (h : FunLaid w g arr L k) (hk : k < L.length) {pa la ba : Option Addr} {pc lc bc : Nat}
    (hA : A[k * 4]? = some (.slice pa L[k].ps.length pc) ∧ A[k * 4 + 1]? = some (.int .i64 L[k].res) ∧ A[k * 4 + 2]? = some (.slice la L[k].ls.length lc) ∧ A[k * 4 + 3]? = some (.slice ba L[k].body.length bc) ∧ ∀ j, j < k * 4 → A[j]? = arr[j]?)
    (hr : FunRows w pa la ba L[k]) (ho : Offs (g + 1) pa ∧ Offs (g + 1) la ∧ Offs (g + 1) ba) : FunLaid w g A L (k + 1) := fun j hj hjk => by
  by_cases e : j = k
  · subst e
    exact ⟨pa, pc, la, lc, ba, bc, hA.1, hA.2.1, hA.2.2.1, hA.2.2.2.1, hr, ho⟩
  · obtain ⟨pa, pc, la, lc, ba, bc, h0, h1, h2, h3, hr, ho⟩ := h j hj (by omega)
    have K := hA.2.2.2.2
    exact ⟨pa, pc, la, lc, ba, bc, (K _ (by omega)).trans h0, (K _ (by omega)).trans h1, (K _ (by omega)).trans h2, (K _ (by omega)).trans h3, hr, ho⟩

set_option maxRecDepth 100000 in
set_option maxHeartbeats 1600000 in
theorem toFuns (a : Option Addr) (cap : Nat) (L : List Fun7) (w : World) (hF : Hid (Funs w a L)) (hs : Hid (∀ f ∈ L, smF f)) (hlen : L.length ≤ 1048576) :
    Calls Tryz.prog 37 #[.slice a L.length cap] w fun e w' => e = .returned (.slice (some ⟨w.heap.size, 0, none⟩) L.length L.length) ∧ w.heap.size < w'.heap.size ∧ FunsA w.heap.size w' (some ⟨w.heap.size, 0, none⟩) L ∧ Below w.heap.size w w' := by
  obtain ⟨i0, hi, hz0, hz1, hz2⟩ := info_parts Tryz.info100
  obtain ⟨M, hM⟩ : ∃ M, M = madeCells (Value.agg #[.slice none 0 0, .int .i64 0, .slice none 0 0, .slice none 0 0]).cells (((L.length : Nat) : Int).toNat * i0.size) := ⟨_, rfl⟩
  have hMs : M.size = L.length * 4 := by rw [hM, size_madeCells, hz1]; simp
  have hmk : ∀ W : World, (Instr.makeSlice 35 (.int .i64 (L.length : Int)) (.int .i64 (L.length : Int))).run Tryz.prog W = .ok (.slice (some ⟨W.heap.size, 0, none⟩) L.length L.length) (W.alloc (.cells M 100)) := fun W => by
    have h := run_make (P := Tryz.prog) W 35 100 i0 _ Tryz.underlying35 hi hz0 .i64 .i64 (L.length : Int) (L.length : Int) (by omega) (by omega) (by rw [hz2]; omega) (by omega)
    rw [← hM] at h
    simpa using h
  clear hM
  go_enter Tryz.func37, Tryz.ntmps37
  go_wp2
  go_loopw [4] (fun i wr => ∃ (k : Nat) (arr : Array Value), k ≤ L.length ∧ i = .int .i64 k ∧ wr.heap[w.heap.size]? = some (.cells arr 100 (0, 0)) ∧ arr.size = L.length * 4 ∧ Hid (FunLaid wr w.heap.size arr L k) ∧ Below w.heap.size w wr) (fun i _ => L.length - (intOf i).toNat)
  case atStart => exact ⟨0, M, by omega, rfl, heap_alloc_new _ _, hMs, fun j _ h => absurd h (by omega), (Below.refl _ _).alloc (Nat.le_refl _) _⟩
  case round =>
    clear hmk hMs
    obtain ⟨k, arr, hk, rfl, harr, hsz, hA, hnx⟩ := hrel
    have hgl := lt_of_block harr
    by_cases hlt : k < L.length
    · obtain ⟨b, off, rfl, hb, hc⟩ := hF.out.at k hlt
      have hsm := hs.out L[k] (List.getElem_mem _)
      obtain ⟨pa, pc, la, lc, ba, bc, c0, c1, c2, c3, hR⟩ := hc
      obtain ⟨f, hf⟩ : ∃ f, L[k] = f := ⟨_, rfl⟩
      rw [hf] at c0 c1 c2 c3 hR hsm
      have HF : Hid (L[k] = f) := hf
      clear hf
      have hR2 : Hid (FunRows wr pa la ba f) := by
        unfold Hid; exact hR.out.below (hnx)
      have d0 : wr.cell? ⟨b, off + k * 4, none⟩ = some (.slice pa f.ps.length pc) := (hnx.cell (by exact hb)).trans c0
      have d1 : wr.cell? ⟨b, off + k * 4 + 1, none⟩ = some (.int .i64 f.res) := (hnx.cell (by exact hb)).trans c1
      have d2 : wr.cell? ⟨b, off + k * 4 + 2, none⟩ = some (.slice la f.ls.length lc) := (hnx.cell (by exact hb)).trans c2
      have d3 : wr.cell? ⟨b, off + k * 4 + 3, none⟩ = some (.slice ba f.body.length bc) := (hnx.cell (by exact hb)).trans c3
      have HS : Hid (arr.size = L.length * 4) := hsz
      have HSM : Hid (smF f) := hsm
      obtain ⟨o0, ho0⟩ : ∃ o, arr[k * 4]? = some o := ⟨_, Array.getElem?_eq_getElem (by omega)⟩
      obtain ⟨o1, ho1⟩ : ∃ o, arr[k * 4 + 1]? = some o := ⟨_, Array.getElem?_eq_getElem (by omega)⟩
      obtain ⟨o2, ho2⟩ : ∃ o, arr[k * 4 + 2]? = some o := ⟨_, Array.getElem?_eq_getElem (by omega)⟩
      obtain ⟨o3, ho3⟩ : ∃ o, arr[k * 4 + 3]? = some o := ⟨_, Array.getElem?_eq_getElem (by omega)⟩
      clear hsz c0 c1 c2 c3 hR hsm
      go_wp2_with fail
      refine (toFun1 pa la ba pc lc bc f wr hR2 HSM.out).mono ?_
      rintro e w1 ⟨pa', la', ba', pc', lc', bc', rfl, hR1, hb1⟩
      have harr1 := (hb1.block _ hgl).trans harr
      have e0 := (cell_of_block harr1 (k * 4)).trans ho0
      have e1 := (cell_of_block harr1 (k * 4 + 1)).trans ho1
      have e2 := (cell_of_block harr1 (k * 4 + 2)).trans ho2
      have e3 := (cell_of_block harr1 (k * 4 + 3)).trans ho3
      have f0 := free_of_block harr1 (k * 4)
      have f1 := free_of_block harr1 (k * 4 + 1)
      have f2 := free_of_block harr1 (k * 4 + 2)
      have f3 := free_of_block harr1 (k * 4 + 3)
      have HL : Hid (FunLaid w1 w.heap.size arr L k) := hA.out.below hb1
      have HB : Hid (Below w.heap.size w w1) := below2 hnx hb1
      have HO : Offs (w.heap.size + 1) pa' ∧ Offs (w.heap.size + 1) la' ∧ Offs (w.heap.size + 1) ba' := ⟨fun m hm => (hR1.out.2 m (by omega)).1, fun m hm => (hR1.out.2 m (by omega)).2.1, fun m hm => (hR1.out.2 m (by omega)).2.2⟩
      have HR : Hid (FunRows w1 pa' la' ba' f) := hR1.out.1
      have HOO : Hid (Offs (w.heap.size + 1) pa' ∧ Offs (w.heap.size + 1) la' ∧ Offs (w.heap.size + 1) ba') := HO
      clear hA hb1 hR1 HO harr d0 d1 d2 d3 hR2 HSM hF
      go_wp2
      go_roundw
      case rel =>
        have hA2 := put4_at arr k (by have := HS.out; omega) (.slice pa' f.ps.length pc') (.int .i64 f.res) (.slice la' f.ls.length lc') (.slice ba' f.body.length bc') _ rfl
        have HF2 := HF.out
        refine ⟨k + 1, _, by omega, by go_num, heap_setCell_same _ _ _ _ _ _ (heap_setCell_same _ _ _ _ _ _ (heap_setCell_same _ _ _ _ _ _ (heap_setCell_same _ _ _ _ _ _ harr1))), by simpa using HS.out, ?_, (((HB.out.setCell (Nat.le_refl _) _).setCell (Nat.le_refl _) _).setCell (Nat.le_refl _) _).setCell (Nat.le_refl _) _⟩
        refine FunLaid.more ((((HL.out.set _ _).set _ _).set _ _).set _ _) hlt (pa := pa') (la := la') (ba := ba') (pc := pc') (lc := lc') (bc := bc') ?_ ?_ HOO.out
        · rw [HF2]; exact hA2
        · rw [HF2]
          obtain ⟨p1, p2, p3⟩ := HOO.out
          have o1 := p1 w.heap.size (by omega)
          have o2 := p2 w.heap.size (by omega)
          have o3 := p3 w.heap.size (by omega)
          exact (((HR.out.set o1 o2 o3 _ _).set o1 o2 o3 _ _).set o1 o2 o3 _ _).set o1 o2 o3 _ _
      case measure => simp [intOf]; omega
    · go_wp2
      go_ret
      refine ⟨rfl, hgl, fun _ => ⟨w.heap.size, 0, rfl, hgl, Nat.le_refl _, fun j hj => ?_⟩, hnx⟩
      obtain ⟨pa, pc, la, lc, ba, bc, h0, h1, h2, h3, hr, o1, o2, o3⟩ := hA.out j hj (by omega)
      rw [Nat.zero_add]
      exact ⟨pa, pc, la, lc, ba, bc, (cell_of_block harr _).trans h0, (cell_of_block harr _).trans h1, (cell_of_block harr _).trans h2, (cell_of_block harr _).trans h3, hr, fun m hm => o1 m (by omega), fun m hm => o2 m (by omega), fun m hm => o3 m (by omega)⟩

end Go.Proofs.YtdcfflmfimepfaaGreat

namespace Go.Proofs.YtdcfflmfimepfaaGreat
open Go.ChangeShapes Go.WideShapes Go.ChangeAt Go.RowKit

set_option maxRecDepth 100000 in
set_option maxHeartbeats 800000 in
theorem toGlo1 (ty : Int) (fixed : Bool) (bits : Int) (w : World) :
    Calls Tryz.prog 59 #[.agg #[.int .i64 ty, .bool fixed, .int .u64 bits]] w fun e w' => e = .returned (.agg #[.int .i64 ty, .bool fixed, .int .u64 bits]) ∧ Below w.heap.size w w' := by
  go_enter Tryz.func59, Tryz.ntmps59
  go_wp2
  exact bodyPost_ret (v := .agg #[.int .i64 ty, .bool fixed, .int .u64 bits]) (by simp [results, Tryz.results59, go_sem]) rfl ⟨rfl, by (repeat (first | refine Below.alloc ?_ (by first | (simp; done) | (simp; omega)) _ | refine Below.setCell ?_ (by first | (simp; done) | (simp; omega)) _ | refine bel_dN ?_ _ | refine Below.drew ?_ | exact Below.refl _ _))⟩

def GloLaid (arr : Array Value) (L : List Glo7) (k : Nat) : Prop :=
  ∀ j (h : j < L.length), j < k → arr[j * 3]? = some (.int .i64 L[j].ty) ∧ arr[j * 3 + 1]? = some (.bool L[j].fixed) ∧ arr[j * 3 + 2]? = some (.int .u64 L[j].bits)
theorem GloLaid.more {arr A : Array Value} {L : List Glo7} {k : Nat} (h : GloLaid arr L k) (hk : k < L.length)
    (hA : A[k * 3]? = some (.int .i64 L[k].ty) ∧ A[k * 3 + 1]? = some (.bool L[k].fixed) ∧ A[k * 3 + 2]? = some (.int .u64 L[k].bits) ∧ ∀ j, j < k * 3 → A[j]? = arr[j]?) : GloLaid A L (k + 1) := fun j hj hjk => by
  by_cases e : j = k
  · subst e
    exact ⟨hA.1, hA.2.1, hA.2.2.1⟩
  · obtain ⟨h0, h1, h2⟩ := h j hj (by omega)
    have K := hA.2.2.2
    exact ⟨(K _ (by omega)).trans h0, (K _ (by omega)).trans h1, (K _ (by omega)).trans h2⟩

set_option maxRecDepth 100000 in
set_option maxHeartbeats 1600000 in
theorem toGlos (a : Option Addr) (cap : Nat) (L : List Glo7) (w : World) (hF : Hid (Glos w a L)) (hlen : L.length ≤ 1048576) :
    Calls Tryz.prog 38 #[.slice a L.length cap] w fun e w' => e = .returned (.slice (some ⟨w.heap.size, 0, none⟩) L.length L.length) ∧ w.heap.size < w'.heap.size ∧ Glos w' (some ⟨w.heap.size, 0, none⟩) L ∧ Below w.heap.size w w' := by
  obtain ⟨i0, hi, hz0, hz1, hz2⟩ := info_parts Tryz.info82
  obtain ⟨M, hM⟩ : ∃ M, M = madeCells (Value.agg #[.int .i64 0, .bool false, .int .u64 0]).cells (((L.length : Nat) : Int).toNat * i0.size) := ⟨_, rfl⟩
  have hMs : M.size = L.length * 3 := by rw [hM, size_madeCells, hz1]; simp
  have hmk : ∀ W : World, (Instr.makeSlice 36 (.int .i64 (L.length : Int)) (.int .i64 (L.length : Int))).run Tryz.prog W = .ok (.slice (some ⟨W.heap.size, 0, none⟩) L.length L.length) (W.alloc (.cells M 82)) := fun W => by
    have h := run_make (P := Tryz.prog) W 36 82 i0 _ Tryz.underlying36 hi hz0 .i64 .i64 (L.length : Int) (L.length : Int) (by omega) (by omega) (by rw [hz2]; omega) (by omega)
    rw [← hM] at h
    simpa using h
  clear hM
  go_enter Tryz.func38, Tryz.ntmps38
  go_wp2
  go_loopw [4] (fun i wr => ∃ (k : Nat) (arr : Array Value), k ≤ L.length ∧ i = .int .i64 k ∧ wr.heap[w.heap.size]? = some (.cells arr 82 (0, 0)) ∧ arr.size = L.length * 3 ∧ Hid (GloLaid arr L k) ∧ Below w.heap.size w wr) (fun i _ => L.length - (intOf i).toNat)
  case atStart => exact ⟨0, M, by omega, rfl, heap_alloc_new _ _, hMs, fun j _ h => absurd h (by omega), (Below.refl _ _).alloc (Nat.le_refl _) _⟩
  case round =>
    clear hmk hMs
    obtain ⟨k, arr, hk, rfl, harr, hsz, hA, hnx⟩ := hrel
    have hgl := lt_of_block harr
    by_cases hlt : k < L.length
    · obtain ⟨b, off, rfl, hb, hc⟩ := hF.out.at k hlt
      obtain ⟨c0, c1, c2⟩ := hc
      obtain ⟨f, hf⟩ : ∃ f, L[k] = f := ⟨_, rfl⟩
      rw [hf] at c0 c1 c2
      have HF : Hid (L[k] = f) := hf
      clear hf
      have d0 : wr.cell? ⟨b, off + k * 3, none⟩ = some (.int .i64 f.ty) := (hnx.cell (by exact hb)).trans c0
      have d1 : wr.cell? ⟨b, off + k * 3 + 1, none⟩ = some (.bool f.fixed) := (hnx.cell (by exact hb)).trans c1
      have d2 : wr.cell? ⟨b, off + k * 3 + 2, none⟩ = some (.int .u64 f.bits) := (hnx.cell (by exact hb)).trans c2
      have HS : Hid (arr.size = L.length * 3) := hsz
      obtain ⟨o0, ho0⟩ : ∃ o, arr[k * 3]? = some o := ⟨_, Array.getElem?_eq_getElem (by omega)⟩
      obtain ⟨o1, ho1⟩ : ∃ o, arr[k * 3 + 1]? = some o := ⟨_, Array.getElem?_eq_getElem (by omega)⟩
      obtain ⟨o2, ho2⟩ : ∃ o, arr[k * 3 + 2]? = some o := ⟨_, Array.getElem?_eq_getElem (by omega)⟩
      clear hsz c0 c1 c2
      go_wp2_with fail
      refine (toGlo1 f.ty f.fixed f.bits wr).mono ?_
      rintro e w1 ⟨rfl, hb1⟩
      have harr1 := (hb1.block _ hgl).trans harr
      have e0 := (cell_of_block harr1 (k * 3)).trans ho0
      have e1 := (cell_of_block harr1 (k * 3 + 1)).trans ho1
      have e2 := (cell_of_block harr1 (k * 3 + 2)).trans ho2
      have f0 := free_of_block harr1 (k * 3)
      have f1 := free_of_block harr1 (k * 3 + 1)
      have f2 := free_of_block harr1 (k * 3 + 2)
      have HB : Hid (Below w.heap.size w w1) := below2 hnx hb1
      clear hb1 harr d0 d1 d2 hF
      go_wp2
      go_roundw
      case rel =>
        have hA2 := put3_at arr k (by have := HS.out; omega) (.int .i64 f.ty) (.bool f.fixed) (.int .u64 f.bits) _ rfl
        have HF2 := HF.out
        refine ⟨k + 1, _, by omega, by go_num, heap_setCell_same _ _ _ _ _ _ (heap_setCell_same _ _ _ _ _ _ (heap_setCell_same _ _ _ _ _ _ harr1)), by simpa using HS.out, ?_, ((HB.out.setCell (Nat.le_refl _) _).setCell (Nat.le_refl _) _).setCell (Nat.le_refl _) _⟩
        exact hA.out.more hlt (by rw [HF2]; exact hA2)
      case measure => simp [intOf]; omega
    · go_wp2
      go_ret
      refine ⟨rfl, hgl, fun _ => ⟨w.heap.size, 0, rfl, hgl, fun j hj => ?_⟩, hnx⟩
      obtain ⟨h0, h1, h2⟩ := hA.out j hj (by omega)
      rw [Nat.zero_add]
      exact ⟨(cell_of_block harr _).trans h0, (cell_of_block harr _).trans h1, (cell_of_block harr _).trans h2⟩

theorem Glos.set {w : World} {L : List Glo7} {g : Nat} (h : Glos w (some ⟨g, 0, none⟩) L) {m : Nat} (hm : g ≠ m) (i : Nat) (v : Value) : Glos (w.setCell ⟨m, i, none⟩ v) (some ⟨g, 0, none⟩) L := fun hn => by
  obtain ⟨b, off, ha, hl, hc⟩ := h hn
  have hbm : b ≠ m := by simp at ha; omega
  refine ⟨b, off, ha, by simpa using hl, fun j hj => ?_⟩
  obtain ⟨h0, h1, h2⟩ := hc j hj
  exact ⟨(setCell_other_cell _ _ _ _ _ _ hbm).trans h0, (setCell_other_cell _ _ _ _ _ _ hbm).trans h1, (setCell_other_cell _ _ _ _ _ _ hbm).trans h2⟩

set_option maxRecDepth 100000 in
set_option maxHeartbeats 3200000 in
theorem toMod (l : Loc7) (M : Mod7) (w : World) (hM : Hid (ModAt w l M)) (hs : Hid (smM M)) :
    Calls Tryz.prog 19 #[modV l M] w fun e w' => ∃ l', e = .returned (modV l' M) ∧ Hid (ModAt w' l' M) ∧ Below w.heap.size w w' := by
  obtain ⟨fa, fc, ga, gc⟩ := l
  obtain ⟨fs, gs, mem, pages, most, start⟩ := M
  unfold modV
  simp only
  go_enter Tryz.func19, Tryz.ntmps19
  go_wp2_with fail
  obtain ⟨n, hn⟩ : ∃ n, w.heap.size = n := ⟨_, rfl⟩
  obtain ⟨W0, hW0⟩ : ∃ W, (((w.alloc (.cells #[.slice fa fs.length fc, .slice ga gs.length gc, .bool mem, .int .i64 pages, .int .i64 most, .int .i64 start] 25)).alloc (.cells #[.slice none 0 0, .slice none 0 0, .bool false, .int .i64 0, .int .i64 0, .int .i64 0] 38)).alloc (.cells #[.slice none 0 0, .slice none 0 0, .bool false, .int .i64 0, .int .i64 0, .int .i64 0] 38)) = W := ⟨_, rfl⟩
  have hb0 : Below w.heap.size w W0 := by rw [← hW0]; exact bel_alloc (bel_alloc (bel_alloc (Below.refl _ _) _) _) _
  have hz0 : W0.heap.size = n + 1 + 1 + 1 := by rw [← hW0, ← hn]; simp
  have hx0 : W0.heap[n]? = some (.cells #[.slice fa fs.length fc, .slice ga gs.length gc, .bool mem, .int .i64 pages, .int .i64 most, .int .i64 start] 25 (0, 0)) := by
    rw [← hW0, ← hn]
    exact ((Below.heap_alloc _ _ _ (by simp; omega)).trans (Below.heap_alloc _ _ _ (by simp))).trans (heap_alloc_new _ _)
  have hr0 : W0.heap[n + 1]? = some (.cells #[.slice none 0 0, .slice none 0 0, .bool false, .int .i64 0, .int .i64 0, .int .i64 0] 38 (0, 0)) := by
    rw [← hW0, ← hn]
    have h := heap_alloc_new (w.alloc (.cells #[.slice fa fs.length fc, .slice ga gs.length gc, .bool mem, .int .i64 pages, .int .i64 most, .int .i64 start] 25)) (.cells #[.slice none 0 0, .slice none 0 0, .bool false, .int .i64 0, .int .i64 0, .int .i64 0] 38)
    exact (Below.heap_alloc _ _ _ (by simp)).trans (by simpa using h)
  have hg0 : W0.heap[n + 1 + 1]? = some (.cells #[.slice none 0 0, .slice none 0 0, .bool false, .int .i64 0, .int .i64 0, .int .i64 0] 38 (0, 0)) := by
    rw [← hW0, ← hn]
    have h := heap_alloc_new ((w.alloc (.cells #[.slice fa fs.length fc, .slice ga gs.length gc, .bool mem, .int .i64 pages, .int .i64 most, .int .i64 start] 25)).alloc (.cells #[.slice none 0 0, .slice none 0 0, .bool false, .int .i64 0, .int .i64 0, .int .i64 0] 38)) (.cells #[.slice none 0 0, .slice none 0 0, .bool false, .int .i64 0, .int .i64 0, .int .i64 0] 38)
    simpa using h
  have T1 := toFuns fa fc fs W0 (hM.out.1.below hb0) hs.out.2.2.1 hs.out.1
  have HB0 : Hid (Below w.heap.size w W0) := hb0
  have HN : Hid (w.heap.size = n) := hn
  rw [hW0, hn]
  rw [hz0] at T1
  clear hb0 hW0 hn
  refine T1.mono ?_
  rintro e w1 ⟨rfl, hl1, hI1, hb1⟩
  have hx1 := (hb1.block n (by omega)).trans hx0
  have hg1 := (hb1.block (n + 1 + 1) (by omega)).trans hg0
  have hr1 := (hb1.block (n + 1) (by omega)).trans hr0
  have HB1 : Hid (Below w.heap.size w w1) := HB0.out.trans (hb1.mono (by have := HB0.out.size; omega))
  have HI1 : Hid (FunsA (n + 1 + 1 + 1) w1 (some ⟨n + 1 + 1 + 1, 0, none⟩) fs) := hI1
  clear T1 hb1 hx0 hg0 hr0 hz0 HB0 hI1
  have c1 := (cell_of_block hx1 1).trans rfl
  have d0 := (cell_of_block hg1 0).trans rfl
  have f0 := free_of_block hg1 0
  go_wp2_with fail
  obtain ⟨W2, hW2⟩ : ∃ W, w1.setCell ⟨n + 1 + 1, 0, none⟩ (.slice (some ⟨n + 1 + 1 + 1, 0, none⟩) fs.length fs.length) = W := ⟨_, rfl⟩
  obtain ⟨z2, hz2⟩ : ∃ z, W2.heap.size = z := ⟨_, rfl⟩
  have hzz : n + 1 + 1 + 1 < z2 := by rw [← hz2, ← hW2]; simpa using hl1
  have hle : w.heap.size ≤ n + 1 + 1 := by have := HN.out; omega
  have hx2 : W2.heap[n]? = some (.cells #[.slice fa fs.length fc, .slice ga gs.length gc, .bool mem, .int .i64 pages, .int .i64 most, .int .i64 start] 25 (0, 0)) := by
    rw [← hW2]; exact (heap_setCell_other _ ⟨n + 1 + 1, 0, none⟩ n _ (show n ≠ n + 1 + 1 by omega)).trans hx1
  have hr2 : W2.heap[n + 1]? = some (.cells #[.slice none 0 0, .slice none 0 0, .bool false, .int .i64 0, .int .i64 0, .int .i64 0] 38 (0, 0)) := by
    rw [← hW2]; exact (heap_setCell_other _ ⟨n + 1 + 1, 0, none⟩ (n + 1) _ (show n + 1 ≠ n + 1 + 1 by omega)).trans hr1
  have hg2 : W2.heap[n + 1 + 1]? = some (.cells #[.slice (some ⟨n + 1 + 1 + 1, 0, none⟩) fs.length fs.length, .slice none 0 0, .bool false, .int .i64 0, .int .i64 0, .int .i64 0] 38 (0, 0)) := by
    rw [← hW2]; exact heap_setCell_same _ _ _ _ _ _ hg1
  have HB2 : Hid (Below w.heap.size w W2) := by unfold Hid; rw [← hW2]; exact HB1.out.setCell hle _
  have HI2 : Hid (FunsA (n + 1 + 1 + 1) W2 (some ⟨n + 1 + 1 + 1, 0, none⟩) fs) := by unfold Hid; rw [← hW2]; exact HI1.out.set (by omega) _ _
  have T2 := toGlos ga gc gs W2 (hM.out.2.below HB2.out) hs.out.2.1
  rw [hz2] at T2
  rw [hW2]
  clear hW2 HB1 HI1 hx1 hg1 hr1 c1 d0 f0
  refine T2.mono ?_
  rintro e w3 ⟨rfl, hl3, hI3, hb3⟩
  have hx3 := (hb3.block n (by omega)).trans hx2
  have hg3 := (hb3.block (n + 1 + 1) (by omega)).trans hg2
  have hr3 := (hb3.block (n + 1) (by omega)).trans hr2
  have HB3 : Hid (Below w.heap.size w w3) := HB2.out.trans (hb3.mono (by have := HB2.out.size; omega))
  have HI3 : Hid (FunsA (n + 1 + 1 + 1) w3 (some ⟨n + 1 + 1 + 1, 0, none⟩) fs) := HI2.out.below (by rw [hz2]; exact hb3)
  have HJ3 : Hid (Glos w3 (some ⟨z2, 0, none⟩) gs) := hI3
  clear T2 hb3 hx2 hg2 hr2 HB2 HI2 hI3 hz2
  have x2 := (cell_of_block hx3 2).trans rfl
  have x3 := (cell_of_block hx3 3).trans rfl
  have x4 := (cell_of_block hx3 4).trans rfl
  have x5 := (cell_of_block hx3 5).trans rfl
  have g0 := (cell_of_block hg3 0).trans rfl
  have g1 := (cell_of_block hg3 1).trans rfl
  have g2 := (cell_of_block hg3 2).trans rfl
  have g3 := (cell_of_block hg3 3).trans rfl
  have g4 := (cell_of_block hg3 4).trans rfl
  have g5 := (cell_of_block hg3 5).trans rfl
  have f1 := free_of_block hg3 1
  have f2 := free_of_block hg3 2
  have f3 := free_of_block hg3 3
  have f4 := free_of_block hg3 4
  have f5 := free_of_block hg3 5
  have q0 := (cell_of_block hr3 0).trans rfl
  have q1 := (cell_of_block hr3 1).trans rfl
  have q2 := (cell_of_block hr3 2).trans rfl
  have q3 := (cell_of_block hr3 3).trans rfl
  have q4 := (cell_of_block hr3 4).trans rfl
  have q5 := (cell_of_block hr3 5).trans rfl
  have k0 := free_of_block hr3 0
  have k1 := free_of_block hr3 1
  have k2 := free_of_block hr3 2
  have k3 := free_of_block hr3 3
  have k4 := free_of_block hr3 4
  have k5 := free_of_block hr3 5
  go_wp2
  have hle2 : w.heap.size ≤ n + 1 := by have := HN.out; omega
  refine bodyPost_ret (v := .agg #[.slice (some ⟨n + 1 + 1 + 1, 0, none⟩) fs.length fs.length, .slice (some ⟨z2, 0, none⟩) gs.length gs.length, .bool mem, .int .i64 pages, .int .i64 most, .int .i64 start]) (by simp [results, Tryz.results19, go_sem, q0, q1, q2, q3, q4, q5]) rfl ⟨⟨some ⟨n + 1 + 1 + 1, 0, none⟩, fs.length, some ⟨z2, 0, none⟩, gs.length⟩, rfl, ⟨?_, ?_⟩, ?_⟩
  · refine FunsA.funs (n := n + 1 + 1 + 1) ?_
    repeat refine FunsA.set ?_ (by omega) _ _
    exact HI3.out
  · repeat refine Glos.set ?_ (by omega) _ _
    exact HJ3.out
  · repeat (first | refine Below.setCell ?_ hle _ | refine Below.setCell ?_ hle2 _)
    exact HB3.out

end Go.Proofs.YtdcfflmfimepfaaGreat

namespace Go.Proofs.YtdcfflmfimepfaaGreat
open Go.ChangeShapes Go.WideShapes Go.ChangeAt Go.RowKit

set_option maxRecDepth 100000 in
set_option maxHeartbeats 800000 in
theorem eqGlo1 (ty : Int) (fixed : Bool) (bits : Int) (w : World) :
    Calls Tryz.prog 69 #[.agg #[.int .i64 ty, .bool fixed, .int .u64 bits], .agg #[.int .i64 ty, .bool fixed, .int .u64 bits]] w fun e w' => e = .returned (.bool true) ∧ Below w.heap.size w w' := by
  go_enter Tryz.func69, Tryz.ntmps69
  go_wp2
  go_ret
  exact ⟨rfl, ((Below.refl _ _).alloc (Nat.le_refl _) _).alloc (by simp) _⟩

set_option maxRecDepth 100000 in
set_option maxHeartbeats 1600000 in
theorem eqGlos (a a' : Option Addr) (cap cap' : Nat) (L : List Glo7) (w : World) (hL : Hid (Glos w a L)) (hL' : Hid (Glos w a' L)) (hlen : L.length ≤ 9223372036854775807) :
    Calls Tryz.prog 47 #[.slice a L.length cap, .slice a' L.length cap'] w fun e w' => e = .returned (.bool true) ∧ Below w.heap.size w w' := by
  go_enter Tryz.func47, Tryz.ntmps47
  go_wp2
  go_loopw [5] (fun i wr => ∃ (k : Nat), k ≤ L.length ∧ i = .int .i64 k ∧ Below w.heap.size w wr) (fun i _ => L.length - (intOf i).toNat)
  case atStart => exact ⟨0, by omega, rfl, Below.refl _ _⟩
  case round =>
    obtain ⟨k, hk, rfl, hnx⟩ := hrel
    by_cases hlt : k < L.length
    · obtain ⟨b, off, rfl, hb, hc⟩ := hL.out.at k hlt
      obtain ⟨b', off', rfl, hb', hd⟩ := hL'.out.at k hlt
      obtain ⟨x, hx⟩ : ∃ x, x = L[k] := ⟨_, rfl⟩
      rw [← hx] at hc hd
      obtain ⟨ty, fixed, bits⟩ := x
      clear hx
      obtain ⟨c0, c1, c2⟩ := hc
      obtain ⟨e0, e1, e2⟩ := hd
      simp only at c0 c1 c2 e0 e1 e2
      have hc0 : wr.cell? ⟨b, off + k * 3, none⟩ = some (.int .i64 ty) := (hnx.cell (by exact hb)).trans c0
      have hc1 : wr.cell? ⟨b, off + k * 3 + 1, none⟩ = some (.bool fixed) := (hnx.cell (by exact hb)).trans c1
      have hc2 : wr.cell? ⟨b, off + k * 3 + 2, none⟩ = some (.int .u64 bits) := (hnx.cell (by exact hb)).trans c2
      have hd0 : wr.cell? ⟨b', off' + k * 3, none⟩ = some (.int .i64 ty) := (hnx.cell (by exact hb')).trans e0
      have hd1 : wr.cell? ⟨b', off' + k * 3 + 1, none⟩ = some (.bool fixed) := (hnx.cell (by exact hb')).trans e1
      have hd2 : wr.cell? ⟨b', off' + k * 3 + 2, none⟩ = some (.int .u64 bits) := (hnx.cell (by exact hb')).trans e2
      clear c0 c1 c2 e0 e1 e2
      have H := eqGlo1 ty fixed bits
      go_wp2
      go_region_with (go_at_call 69; refine (H _).mono ?_; rintro e w1 ⟨rfl, hb2⟩)
      all_goals
        go_wp2
        go_roundw
        case rel => exact ⟨k + 1, by omega, by go_num, by first | exact below2 hnx (by assumption) | exact below2 hnx.drew (by assumption) | exact below2 hnx.drew.drew (by assumption) | exact below2 hnx.drew.drew.drew (by assumption)⟩
        case measure => simp [intOf]; omega
    · go_wp2
      go_ret
      exact ⟨rfl, hnx⟩

set_option maxRecDepth 100000 in
set_option maxHeartbeats 1600000 in
theorem eqFun1 (pa la ba pa' la' ba' : Option Addr) (pc lc bc pc' lc' bc' : Nat) (f : Fun7) (w : World) (hR : Hid (FunRows w pa la ba f)) (hR' : Hid (FunRows w pa' la' ba' f)) (hs : Hid (smF f)) :
    Calls Tryz.prog 68 #[.agg #[.slice pa f.ps.length pc, .int .i64 f.res, .slice la f.ls.length lc, .slice ba f.body.length bc], .agg #[.slice pa' f.ps.length pc', .int .i64 f.res, .slice la' f.ls.length lc', .slice ba' f.body.length bc']] w fun e w' => e = .returned (.bool true) ∧ Below w.heap.size w w' := by
  obtain ⟨ps, res, ls, body⟩ := f
  simp only
  go_enter Tryz.func68, Tryz.ntmps68
  go_wp2_with fail
  obtain ⟨n, hn⟩ : ∃ n, w.heap.size = n := ⟨_, rfl⟩
  obtain ⟨W0, hW0⟩ : ∃ W, ((w.alloc (.cells #[.slice pa ps.length pc, .int .i64 res, .slice la ls.length lc, .slice ba body.length bc] 100)).alloc (.cells #[.slice pa' ps.length pc', .int .i64 res, .slice la' ls.length lc', .slice ba' body.length bc'] 100)) = W := ⟨_, rfl⟩
  have hb0 : Below w.heap.size w W0 := by rw [← hW0]; exact bel_alloc (bel_alloc (Below.refl _ _) _) _
  have hz0 : W0.heap.size = n + 1 + 1 := by rw [← hW0, ← hn]; simp
  have hx0 : W0.heap[n]? = some (.cells #[.slice pa ps.length pc, .int .i64 res, .slice la ls.length lc, .slice ba body.length bc] 100 (0, 0)) := by
    rw [← hW0, ← hn]
    exact (Below.heap_alloc _ _ _ (by simp)).trans (heap_alloc_new _ _)
  have hy0 : W0.heap[n + 1]? = some (.cells #[.slice pa' ps.length pc', .int .i64 res, .slice la' ls.length lc', .slice ba' body.length bc'] 100 (0, 0)) := by
    rw [← hW0, ← hn]
    have h := heap_alloc_new (w.alloc (.cells #[.slice pa ps.length pc, .int .i64 res, .slice la ls.length lc, .slice ba body.length bc] 100)) (.cells #[.slice pa' ps.length pc', .int .i64 res, .slice la' ls.length lc', .slice ba' body.length bc'] 100)
    simpa using h
  have T1 := eqInts pa pa' pc pc' ps W0 (hR.out.1.below hb0) (hR'.out.1.below hb0) (by have := hs.out.1; simp only at this; omega)
  have HB0 : Hid (Below w.heap.size w W0) := hb0
  rw [hW0, hn]
  clear hb0 hW0 hn
  refine T1.mono ?_
  rintro e w1 ⟨rfl, hb1⟩
  have hx1 := (hb1.block n (by omega)).trans hx0
  have hy1 := (hb1.block (n + 1) (by omega)).trans hy0
  have hz1 : n + 1 < w1.heap.size := by have := hb1.size; omega
  have HB1 : Hid (Below w.heap.size w w1) := bel_step HB0.out hb1
  clear T1 hb1 hx0 hy0 hz0 HB0
  have c1 := (cell_of_block hx1 1).trans rfl
  have c2 := (cell_of_block hx1 2).trans rfl
  have d1 := (cell_of_block hy1 1).trans rfl
  have d2 := (cell_of_block hy1 2).trans rfl
  go_wp2_with fail
  refine (eqInts la la' lc lc' ls w1 (hR.out.2.1.below HB1.out) (hR'.out.2.1.below HB1.out) (by have := hs.out.2.1; simp only at this; omega)).mono ?_
  rintro e w2 ⟨rfl, hb2⟩
  have hx2 := (hb2.block n (by omega)).trans hx1
  have hy2 := (hb2.block (n + 1) (by omega)).trans hy1
  have HB2 : Hid (Below w.heap.size w w2) := bel_step HB1.out hb2
  clear hb2 hx1 hy1 hz1 HB1 c1 c2 d1 d2
  have c3 := (cell_of_block hx2 3).trans rfl
  have d3 := (cell_of_block hy2 3).trans rfl
  obtain ⟨b1, o1, k1, i1⟩ := (hR.out.2.2.below HB2.out).parts
  obtain ⟨b2, o2, k2, i2⟩ := (hR'.out.2.2.below HB2.out).parts
  have T3 := eqInsS ba ba' b1 o1 bc b2 o2 bc' body w2 k1 k2 i1 i2 (by have := hs.out.2.2.1; simp only at this; omega)
  clear k1 k2 i1 i2
  go_wp2_with fail
  refine T3.mono ?_
  rintro e w3 ⟨rfl, hb3⟩
  have HB3 : Hid (Below w.heap.size w w3) := bel_step HB2.out hb3
  clear T3 hb3
  go_wp2
  go_ret
  exact ⟨rfl, HB3.out⟩

set_option maxRecDepth 100000 in
set_option maxHeartbeats 1600000 in
theorem eqFuns (a a' : Option Addr) (cap cap' : Nat) (L : List Fun7) (w : World) (hL : Hid (Funs w a L)) (hL' : Hid (Funs w a' L)) (hs : Hid (∀ f ∈ L, smF f)) (hlen : L.length ≤ 9223372036854775807) :
    Calls Tryz.prog 46 #[.slice a L.length cap, .slice a' L.length cap'] w fun e w' => e = .returned (.bool true) ∧ Below w.heap.size w w' := by
  go_enter Tryz.func46, Tryz.ntmps46
  go_wp2
  go_loopw [5] (fun i wr => ∃ (k : Nat), k ≤ L.length ∧ i = .int .i64 k ∧ Below w.heap.size w wr) (fun i _ => L.length - (intOf i).toNat)
  case atStart => exact ⟨0, by omega, rfl, Below.refl _ _⟩
  case round =>
    obtain ⟨k, hk, rfl, hnx⟩ := hrel
    by_cases hlt : k < L.length
    · obtain ⟨b, off, rfl, hb, hc⟩ := hL.out.at k hlt
      obtain ⟨b', off', rfl, hb', hd⟩ := hL'.out.at k hlt
      have hsm := hs.out L[k] (List.getElem_mem _)
      obtain ⟨x, hx⟩ : ∃ x, x = L[k] := ⟨_, rfl⟩
      rw [← hx] at hc hd hsm
      clear hx
      obtain ⟨pa, pc, la, lc, ba, bc, c0, c1, c2, c3, hR⟩ := hc
      obtain ⟨pa', pc', la', lc', ba', bc', e0, e1, e2, e3, hR'⟩ := hd
      have hc0 : wr.cell? ⟨b, off + k * 4, none⟩ = some (.slice pa x.ps.length pc) := (hnx.cell (by exact hb)).trans c0
      have hc1 : wr.cell? ⟨b, off + k * 4 + 1, none⟩ = some (.int .i64 x.res) := (hnx.cell (by exact hb)).trans c1
      have hc2 : wr.cell? ⟨b, off + k * 4 + 2, none⟩ = some (.slice la x.ls.length lc) := (hnx.cell (by exact hb)).trans c2
      have hc3 : wr.cell? ⟨b, off + k * 4 + 3, none⟩ = some (.slice ba x.body.length bc) := (hnx.cell (by exact hb)).trans c3
      have hd0 : wr.cell? ⟨b', off' + k * 4, none⟩ = some (.slice pa' x.ps.length pc') := (hnx.cell (by exact hb')).trans e0
      have hd1 : wr.cell? ⟨b', off' + k * 4 + 1, none⟩ = some (.int .i64 x.res) := (hnx.cell (by exact hb')).trans e1
      have hd2 : wr.cell? ⟨b', off' + k * 4 + 2, none⟩ = some (.slice la' x.ls.length lc') := (hnx.cell (by exact hb')).trans e2
      have hd3 : wr.cell? ⟨b', off' + k * 4 + 3, none⟩ = some (.slice ba' x.body.length bc') := (hnx.cell (by exact hb')).trans e3
      have hR2 : FunRows wr pa la ba x := hR.out.below hnx
      have hR3 : FunRows wr pa' la' ba' x := hR'.out.below hnx
      have H : Hid (∀ w', Below wr.heap.size wr w' → Calls Tryz.prog 68 #[.agg #[.slice pa x.ps.length pc, .int .i64 x.res, .slice la x.ls.length lc, .slice ba x.body.length bc], .agg #[.slice pa' x.ps.length pc', .int .i64 x.res, .slice la' x.ls.length lc', .slice ba' x.body.length bc']] w' fun e w'' => e = .returned (.bool true) ∧ Below w'.heap.size w' w'') := fun w' hb => eqFun1 pa la ba pa' la' ba' pc lc bc pc' lc' bc' x w' (hR2.below hb) (hR3.below hb) hsm
      clear c0 c1 c2 c3 e0 e1 e2 e3 hR hR' hsm hR2 hR3
      go_wp2
      go_region_with (go_at_call 68; refine (H.out _ (by first | exact Below.refl _ _ | exact (Below.refl _ _).drew | exact (Below.refl _ _).drew.drew | exact (Below.refl _ _).drew.drew.drew)).mono ?_; rintro e w1 ⟨rfl, hb2⟩)
      all_goals
        go_wp2
        go_roundw
        case rel => exact ⟨k + 1, by omega, by go_num, by first | exact below2 hnx (by assumption) | exact below2 hnx.drew (by assumption) | exact below2 hnx.drew.drew (by assumption) | exact below2 hnx.drew.drew.drew (by assumption)⟩
        case measure => simp [intOf]; omega
    · go_wp2
      go_ret
      exact ⟨rfl, hnx⟩

set_option maxRecDepth 100000 in
set_option maxHeartbeats 1600000 in
theorem eqMod (l l' : Loc7) (M : Mod7) (w : World) (hM : Hid (ModAt w l M)) (hM' : Hid (ModAt w l' M)) (hs : Hid (smM M)) :
    Calls Tryz.prog 23 #[modV l M, modV l' M] w fun e w' => e = .returned (.bool true) ∧ Below w.heap.size w w' := by
  obtain ⟨fa, fc, ga, gc⟩ := l
  obtain ⟨fa', fc', ga', gc'⟩ := l'
  obtain ⟨fs, gs, mem, pages, most, start⟩ := M
  unfold modV
  simp only
  go_enter Tryz.func23, Tryz.ntmps23
  go_wp2_with fail
  obtain ⟨n, hn⟩ : ∃ n, w.heap.size = n := ⟨_, rfl⟩
  obtain ⟨W0, hW0⟩ : ∃ W, ((w.alloc (.cells #[.slice fa fs.length fc, .slice ga gs.length gc, .bool mem, .int .i64 pages, .int .i64 most, .int .i64 start] 38)).alloc (.cells #[.slice fa' fs.length fc', .slice ga' gs.length gc', .bool mem, .int .i64 pages, .int .i64 most, .int .i64 start] 38)) = W := ⟨_, rfl⟩
  have hb0 : Below w.heap.size w W0 := by rw [← hW0]; exact bel_alloc (bel_alloc (Below.refl _ _) _) _
  have hz0 : W0.heap.size = n + 1 + 1 := by rw [← hW0, ← hn]; simp
  have hx0 : W0.heap[n]? = some (.cells #[.slice fa fs.length fc, .slice ga gs.length gc, .bool mem, .int .i64 pages, .int .i64 most, .int .i64 start] 38 (0, 0)) := by
    rw [← hW0, ← hn]
    exact (Below.heap_alloc _ _ _ (by simp)).trans (heap_alloc_new _ _)
  have hy0 : W0.heap[n + 1]? = some (.cells #[.slice fa' fs.length fc', .slice ga' gs.length gc', .bool mem, .int .i64 pages, .int .i64 most, .int .i64 start] 38 (0, 0)) := by
    rw [← hW0, ← hn]
    have h := heap_alloc_new (w.alloc (.cells #[.slice fa fs.length fc, .slice ga gs.length gc, .bool mem, .int .i64 pages, .int .i64 most, .int .i64 start] 38)) (.cells #[.slice fa' fs.length fc', .slice ga' gs.length gc', .bool mem, .int .i64 pages, .int .i64 most, .int .i64 start] 38)
    simpa using h
  have T1 := eqFuns fa fa' fc fc' fs W0 (hM.out.1.below hb0) (hM'.out.1.below hb0) hs.out.2.2.1 (by have := hs.out.1; simp only at this; omega)
  have HB0 : Hid (Below w.heap.size w W0) := hb0
  rw [hW0, hn]
  clear hb0 hW0 hn
  refine T1.mono ?_
  rintro e w1 ⟨rfl, hb1⟩
  have hx1 := (hb1.block n (by omega)).trans hx0
  have hy1 := (hb1.block (n + 1) (by omega)).trans hy0
  have hz1 : n + 1 < w1.heap.size := by have := hb1.size; omega
  have HB1 : Hid (Below w.heap.size w w1) := bel_step HB0.out hb1
  clear T1 hb1 hx0 hy0 hz0 HB0
  have c1 := (cell_of_block hx1 1).trans rfl
  have d1 := (cell_of_block hy1 1).trans rfl
  go_wp2_with fail
  refine (eqGlos ga ga' gc gc' gs w1 (hM.out.2.below HB1.out) (hM'.out.2.below HB1.out) (by have := hs.out.2.1; simp only at this; omega)).mono ?_
  rintro e w2 ⟨rfl, hb2⟩
  have hx2 := (hb2.block n (by omega)).trans hx1
  have hy2 := (hb2.block (n + 1) (by omega)).trans hy1
  have HB2 : Hid (Below w.heap.size w w2) := bel_step HB1.out hb2
  clear hb2 hx1 hy1 hz1 HB1 c1 d1
  have c2 := (cell_of_block hx2 2).trans rfl
  have d2 := (cell_of_block hy2 2).trans rfl
  have c3 := (cell_of_block hx2 3).trans rfl
  have d3 := (cell_of_block hy2 3).trans rfl
  have c4 := (cell_of_block hx2 4).trans rfl
  have d4 := (cell_of_block hy2 4).trans rfl
  have c5 := (cell_of_block hx2 5).trans rfl
  have d5 := (cell_of_block hy2 5).trans rfl
  go_wp2
  go_ret
  exact ⟨rfl, HB2.out⟩

end Go.Proofs.YtdcfflmfimepfaaGreat
