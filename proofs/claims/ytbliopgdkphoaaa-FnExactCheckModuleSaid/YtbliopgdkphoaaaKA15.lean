/-
  A module is copied.
-/
import Derived.Test.YtbliopgdkphoaaaGMod
import Derived.Deep.RegionWith
import Derived.Test.YtbliopgdkphoaaaCOpen
import Derived.Deep.Fields
namespace Go.Proofs.Ytbliopgdkphoaaa
open Go.ChangeShapes Go.WideShapes Go.ChangeAt Go.RowKit

theorem put4_at (arr : Array Value) (k : Nat) (hs : k * 4 + 3 < arr.size) (v0 v1 v2 v3 : Value) (A : Array Value) (hA : A = (((arr.setIfInBounds (k * 4) v0).setIfInBounds (k * 4 + 1) v1).setIfInBounds (k * 4 + 2) v2).setIfInBounds (k * 4 + 3) v3) :
    A[k * 4]? = some v0 ∧ A[k * 4 + 1]? = some v1 ∧ A[k * 4 + 2]? = some v2 ∧ A[k * 4 + 3]? = some v3 ∧ ∀ j, j < k * 4 → A[j]? = arr[j]? := by
  subst hA
  refine ⟨?_, ?_, ?_, ?_, fun j hj => ?_⟩
  · rw [Array.getElem?_setIfInBounds_ne (by omega), Array.getElem?_setIfInBounds_ne (by omega), Array.getElem?_setIfInBounds_ne (by omega), Array.getElem?_setIfInBounds_self_of_lt (by omega)]
  · rw [Array.getElem?_setIfInBounds_ne (by omega), Array.getElem?_setIfInBounds_ne (by omega), Array.getElem?_setIfInBounds_self_of_lt (by simp; omega)]
  · rw [Array.getElem?_setIfInBounds_ne (by omega), Array.getElem?_setIfInBounds_self_of_lt (by simp; omega)]
  · rw [Array.getElem?_setIfInBounds_self_of_lt (by simp; omega)]
  · rw [Array.getElem?_setIfInBounds_ne (by omega), Array.getElem?_setIfInBounds_ne (by omega), Array.getElem?_setIfInBounds_ne (by omega), Array.getElem?_setIfInBounds_ne (by omega)]
theorem put3_at (arr : Array Value) (k : Nat) (hs : k * 3 + 2 < arr.size) (v0 v1 v2 : Value) (A : Array Value) (hA : A = ((arr.setIfInBounds (k * 3) v0).setIfInBounds (k * 3 + 1) v1).setIfInBounds (k * 3 + 2) v2) :
    A[k * 3]? = some v0 ∧ A[k * 3 + 1]? = some v1 ∧ A[k * 3 + 2]? = some v2 ∧ ∀ j, j < k * 3 → A[j]? = arr[j]? := by
  subst hA
  refine ⟨?_, ?_, ?_, fun j hj => ?_⟩
  · rw [Array.getElem?_setIfInBounds_ne (by omega), Array.getElem?_setIfInBounds_ne (by omega), Array.getElem?_setIfInBounds_self_of_lt (by omega)]
  · rw [Array.getElem?_setIfInBounds_ne (by omega), Array.getElem?_setIfInBounds_self_of_lt (by simp; omega)]
  · rw [Array.getElem?_setIfInBounds_self_of_lt (by simp; omega)]
  · rw [Array.getElem?_setIfInBounds_ne (by omega), Array.getElem?_setIfInBounds_ne (by omega), Array.getElem?_setIfInBounds_ne (by omega)]

theorem Try.info75 : (Try.prog.info? 75).map (fun i => (i.zero, i.size, i.bytes)) = some (some (.agg #[.slice none 0 0, .int .i64 0, .slice none 0 0, .slice none 0 0]), 4, 80) := by kernel_rfl
theorem Try.info79 : (Try.prog.info? 79).map (fun i => (i.zero, i.size, i.bytes)) = some (some (.agg #[.int .i64 0, .bool false, .int .u64 0]), 3, 24) := by kernel_rfl

set_option maxRecDepth 100000 in
set_option maxHeartbeats 1600000 in
theorem toFun1 (pa la ba : Option Addr) (pc lc bc : Nat) (f : Fun7) (w : World) (hR : Hid (FunRows w pa la ba f)) (hs : Hid (smF f)) :
    Calls Try.prog 66 #[.agg #[.slice pa f.ps.length pc, .int .i64 f.res, .slice la f.ls.length lc, .slice ba f.body.length bc]] w fun e w' =>
      ∃ pa' la' ba' pc' lc' bc', e = .returned (.agg #[.slice pa' f.ps.length pc', .int .i64 f.res, .slice la' f.ls.length lc', .slice ba' f.body.length bc']) ∧ Hid (FunRows w' pa' la' ba' f ∧ ∀ g, g < w.heap.size → Off g pa' ∧ Off g la' ∧ Off g ba') ∧ Below w.heap.size w w' := by
  obtain ⟨ps, res, ls, body⟩ := f
  simp only
  go_enter Try.func66, Try.ntmps66
  go_wp2_with fail
  obtain ⟨n, hn⟩ : ∃ n, w.heap.size = n := ⟨_, rfl⟩
  obtain ⟨W0, hW0⟩ : ∃ W, (((w.alloc (.cells #[.slice pa ps.length pc, .int .i64 res, .slice la ls.length lc, .slice ba body.length bc] 103)).alloc (.cells #[.slice none 0 0, .int .i64 0, .slice none 0 0, .slice none 0 0] 75)).alloc (.cells #[.slice none 0 0, .int .i64 0, .slice none 0 0, .slice none 0 0] 75)) = W := ⟨_, rfl⟩
  have hb0 : Below w.heap.size w W0 := by rw [← hW0]; exact bel_alloc (bel_alloc (bel_alloc (Below.refl _ _) _) _) _
  have hz0 : W0.heap.size = n + 1 + 1 + 1 := by rw [← hW0, ← hn]; simp
  have hx0 : W0.heap[n]? = some (.cells #[.slice pa ps.length pc, .int .i64 res, .slice la ls.length lc, .slice ba body.length bc] 103 (0, 0)) := by
    rw [← hW0, ← hn]
    exact ((Below.heap_alloc _ _ _ (by simp; omega)).trans (Below.heap_alloc _ _ _ (by simp))).trans (heap_alloc_new _ _)
  have hg0 : W0.heap[n + 1 + 1]? = some (.cells #[.slice none 0 0, .int .i64 0, .slice none 0 0, .slice none 0 0] 75 (0, 0)) := by
    rw [← hW0, ← hn]
    have h := heap_alloc_new ((w.alloc (.cells #[.slice pa ps.length pc, .int .i64 res, .slice la ls.length lc, .slice ba body.length bc] 103)).alloc (.cells #[.slice none 0 0, .int .i64 0, .slice none 0 0, .slice none 0 0] 75)) (.cells #[.slice none 0 0, .int .i64 0, .slice none 0 0, .slice none 0 0] 75)
    simpa using h
  have hr0 : W0.heap[n + 1]? = some (.cells #[.slice none 0 0, .int .i64 0, .slice none 0 0, .slice none 0 0] 75 (0, 0)) := by
    rw [← hW0, ← hn]
    have h := heap_alloc_new (w.alloc (.cells #[.slice pa ps.length pc, .int .i64 res, .slice la ls.length lc, .slice ba body.length bc] 103)) (.cells #[.slice none 0 0, .int .i64 0, .slice none 0 0, .slice none 0 0] 75)
    exact (Below.heap_alloc _ _ _ (by simp)).trans (by simpa using h)
  have T1 := toInts pa pc ps W0 (hR.out.1.below hb0) hs.out.1
  have HB0 : Hid (Below w.heap.size w W0) := hb0
  have HN : Hid (w.heap.size = n) := hn
  rw [hW0, hn]
  rw [hz0] at T1
  clear hb0 hW0 hn
  refine T1.mono ?_
  rintro e w1 ⟨rfl, hl1, hI1, hb1⟩
  have hx1 := (hb1.block n (by omega)).trans hx0
  have hg1 := (hb1.block (n + 1 + 1) (by omega)).trans hg0
  have hr1 := (hb1.block (n + 1) (by omega)).trans hr0
  have HB1 : Hid (Below w.heap.size w w1) := HB0.out.trans (hb1.mono (by have := HB0.out.size; omega))
  have HI1 : Hid (Ints w1 (some ⟨n + 1 + 1 + 1, 0, none⟩) ps) := hI1
  clear T1 hb1 hx0 hg0 hr0 hz0 HB0 hI1
  have c1 := (cell_of_block hx1 1).trans rfl
  have d0 := (cell_of_block hg1 0).trans rfl
  have d1 := (cell_of_block hg1 1).trans rfl
  have f0 := free_of_block hg1 0
  have f1 := free_of_block hg1 1
  have c2 := (cell_of_block hx1 2).trans rfl
  go_wp2_with fail
  obtain ⟨W2, hW2⟩ : ∃ W, (w1.setCell ⟨n + 1 + 1, 0, none⟩ (.slice (some ⟨n + 1 + 1 + 1, 0, none⟩) ps.length ps.length)).setCell ⟨n + 1 + 1, 1, none⟩ (.int .i64 res) = W := ⟨_, rfl⟩
  obtain ⟨z2, hz2⟩ : ∃ z, W2.heap.size = z := ⟨_, rfl⟩
  have hzz : n + 1 + 1 + 1 < z2 := by rw [← hz2, ← hW2]; simpa using hl1
  have hx2 : W2.heap[n]? = some (.cells #[.slice pa ps.length pc, .int .i64 res, .slice la ls.length lc, .slice ba body.length bc] 103 (0, 0)) := by
    rw [← hW2]; exact ((heap_setCell_other _ ⟨n + 1 + 1, 1, none⟩ n _ (show n ≠ n + 1 + 1 by omega)).trans (heap_setCell_other _ ⟨n + 1 + 1, 0, none⟩ n _ (show n ≠ n + 1 + 1 by omega))).trans hx1
  have hg2 : W2.heap[n + 1 + 1]? = some (.cells #[.slice (some ⟨n + 1 + 1 + 1, 0, none⟩) ps.length ps.length, .int .i64 res, .slice none 0 0, .slice none 0 0] 75 (0, 0)) := by
    rw [← hW2]; exact heap_setCell_same _ _ _ _ _ _ (heap_setCell_same _ _ _ _ _ _ hg1)
  have hr2 : W2.heap[n + 1]? = some (.cells #[.slice none 0 0, .int .i64 0, .slice none 0 0, .slice none 0 0] 75 (0, 0)) := by
    rw [← hW2]; exact ((heap_setCell_other _ ⟨n + 1 + 1, 1, none⟩ (n + 1) _ (show n + 1 ≠ n + 1 + 1 by omega)).trans (heap_setCell_other _ ⟨n + 1 + 1, 0, none⟩ (n + 1) _ (show n + 1 ≠ n + 1 + 1 by omega))).trans hr1
  have HB2 : Hid (Below w.heap.size w W2) := by
    have hle : w.heap.size ≤ n + 1 + 1 := by have := HN.out; omega
    unfold Hid; rw [← hW2]; exact (HB1.out.setCell hle _).setCell hle _
  have HI2 : Hid (Ints W2 (some ⟨n + 1 + 1 + 1, 0, none⟩) ps) := by
    have ho : Off (n + 1 + 1) (some ⟨n + 1 + 1 + 1, 0, none⟩) := fun b off h => by simp at h; omega
    unfold Hid; rw [← hW2]; exact (HI1.out.set ho _ _).set ho _ _
  have T2 := toInts la lc ls W2 (hR.out.2.1.below HB2.out) hs.out.2.1
  rw [hz2] at T2
  rw [hW2]
  clear hW2 HB1 HI1 hx1 hg1 hr1 c1 d0 d1 f0 f1 c2
  refine T2.mono ?_
  rintro e w3 ⟨rfl, hl3, hI3, hb3⟩
  have hx3 := (hb3.block n (by omega)).trans hx2
  have hg3 := (hb3.block (n + 1 + 1) (by omega)).trans hg2
  have hr3 := (hb3.block (n + 1) (by omega)).trans hr2
  have HB3 : Hid (Below w.heap.size w w3) := HB2.out.trans (hb3.mono (by have := HB2.out.size; omega))
  have HI3 : Hid (Ints w3 (some ⟨n + 1 + 1 + 1, 0, none⟩) ps) := HI2.out.below (by rw [hz2]; exact hb3)
  have HJ3 : Hid (Ints w3 (some ⟨z2, 0, none⟩) ls) := hI3
  clear T2 hb3 hx2 hg2 hr2 HB2 HI2 hI3 hz2
  have c1 := (cell_of_block hx3 3).trans rfl
  have d0 := (cell_of_block hg3 2).trans rfl
  have f0 := free_of_block hg3 2
  go_wp2_with fail
  obtain ⟨W4, hW4⟩ : ∃ W, (w3.setCell ⟨n + 1 + 1, 2, none⟩ (.slice (some ⟨z2, 0, none⟩) ls.length ls.length)) = W := ⟨_, rfl⟩
  obtain ⟨z4, hz4⟩ : ∃ z, W4.heap.size = z := ⟨_, rfl⟩
  have hz34 : z2 < z4 := by rw [← hz4, ← hW4]; simpa using hl3
  have hg4 : W4.heap[n + 1 + 1]? = some (.cells #[.slice (some ⟨n + 1 + 1 + 1, 0, none⟩) ps.length ps.length, .int .i64 res, .slice (some ⟨z2, 0, none⟩) ls.length ls.length, .slice none 0 0] 75 (0, 0)) := by
    rw [← hW4]; exact heap_setCell_same _ _ _ _ _ _ hg3
  have hr4 : W4.heap[n + 1]? = some (.cells #[.slice none 0 0, .int .i64 0, .slice none 0 0, .slice none 0 0] 75 (0, 0)) := by
    rw [← hW4]; exact (heap_setCell_other _ ⟨n + 1 + 1, 2, none⟩ (n + 1) _ (show n + 1 ≠ n + 1 + 1 by omega)).trans hr3
  have hle : w.heap.size ≤ n + 1 + 1 := by have := HN.out; omega
  have HB4 : Hid (Below w.heap.size w W4) := by unfold Hid; rw [← hW4]; exact HB3.out.setCell hle _
  have HI4 : Hid (Ints W4 (some ⟨n + 1 + 1 + 1, 0, none⟩) ps) := by
    unfold Hid; rw [← hW4]; exact HI3.out.set (fun b off h => by simp at h; omega) _ _
  have HJ4 : Hid (Ints W4 (some ⟨z2, 0, none⟩) ls) := by
    unfold Hid; rw [← hW4]; exact HJ3.out.set (fun b off h => by simp at h; omega) _ _
  obtain ⟨bb, bo, hbb, hbi⟩ := (hR.out.2.2.below HB4.out).parts
  have T3 := toInsS ba bb bo bc body W4 hbb hbi hs.out.2.2.1
  rw [hz4] at T3
  rw [hW4]
  clear hW4 HB3 HI3 HJ3 hx3 hg3 hr3 c1 d0 f0
  refine T3.mono ?_
  rintro e w5 ⟨rfl, hl5, hI5, hb5⟩
  have hg5 := (hb5.block (n + 1 + 1) (by omega)).trans hg4
  have hr5 := (hb5.block (n + 1) (by omega)).trans hr4
  have HB5 : Hid (Below w.heap.size w w5) := HB4.out.trans (hb5.mono (by have := HB4.out.size; omega))
  have HI5 : Hid (Ints w5 (some ⟨n + 1 + 1 + 1, 0, none⟩) ps) := HI4.out.below (by rw [hz4]; exact hb5)
  have HJ5 : Hid (Ints w5 (some ⟨z2, 0, none⟩) ls) := HJ4.out.below (by rw [hz4]; exact hb5)
  have HK5 : Hid (insAt w5 z4 0 body) := hI5
  clear T3 hb5 hg4 hr4 HB4 HI4 HJ4 hI5 hz4
  have c0 := (cell_of_block hg5 0).trans rfl
  have c1 := (cell_of_block hg5 1).trans rfl
  have c2 := (cell_of_block hg5 2).trans rfl
  have d0 := (cell_of_block hg5 3).trans rfl
  have f0 := free_of_block hg5 3
  have q0 := (cell_of_block hr5 0).trans rfl
  have q1 := (cell_of_block hr5 1).trans rfl
  have q2 := (cell_of_block hr5 2).trans rfl
  have q3 := (cell_of_block hr5 3).trans rfl
  have k0 := free_of_block hr5 0
  have k1 := free_of_block hr5 1
  have k2 := free_of_block hr5 2
  have k3 := free_of_block hr5 3
  go_wp2
  have hle2 : w.heap.size ≤ n + 1 := by have := HN.out; omega
  refine bodyPost_ret (v := .agg #[.slice (some ⟨n + 1 + 1 + 1, 0, none⟩) ps.length ps.length, .int .i64 res, .slice (some ⟨z2, 0, none⟩) ls.length ls.length, .slice (some ⟨z4, 0, none⟩) body.length body.length]) (by simp [results, Try.results66, go_sem, q0, q1, q2, q3]) rfl ⟨_, _, _, _, _, _, rfl, ⟨?_, fun g hg => ?_⟩, ((((HB5.out.setCell hle _).setCell hle2 _).setCell hle2 _).setCell hle2 _).setCell hle2 _⟩
  · have o1 : ∀ m, m ≤ n + 1 + 1 → Off m (some ⟨n + 1 + 1 + 1, 0, none⟩) := fun m hm b off h => by simp at h; omega
    have o2 : ∀ m, m ≤ n + 1 + 1 → Off m (some ⟨z2, 0, none⟩) := fun m hm b off h => by simp at h; omega
    have o3 : ∀ m, m ≤ n + 1 + 1 → Off m (some ⟨z4, 0, none⟩) := fun m hm b off h => by simp at h; omega
    have hF : FunRows w5 (some ⟨n + 1 + 1 + 1, 0, none⟩) (some ⟨z2, 0, none⟩) (some ⟨z4, 0, none⟩) ⟨ps, res, ls, body⟩ := ⟨HI5.out, HJ5.out, fun _ => ⟨z4, 0, rfl, hl5, HK5.out⟩⟩
    have K : ∀ m, m ≤ n + 1 + 1 → ∀ (w : World) i v, FunRows w (some ⟨n + 1 + 1 + 1, 0, none⟩) (some ⟨z2, 0, none⟩) (some ⟨z4, 0, none⟩) ⟨ps, res, ls, body⟩ → FunRows (w.setCell ⟨m, i, none⟩ v) (some ⟨n + 1 + 1 + 1, 0, none⟩) (some ⟨z2, 0, none⟩) (some ⟨z4, 0, none⟩) ⟨ps, res, ls, body⟩ :=
      fun m hm w i v h => h.set (o1 m hm) (o2 m hm) (o3 m hm) i v
    exact K _ (by omega) _ _ _ (K _ (by omega) _ _ _ (K _ (by omega) _ _ _ (K _ (by omega) _ _ _ (K _ (by omega) _ _ _ hF))))
  · have hn := HN.out
    exact ⟨fun b off h => by simp at h; omega, fun b off h => by simp at h; omega, fun b off h => by simp at h; omega⟩

/-- An address that leads into no block below n. -/
def Offs (n : Nat) (a : Option Addr) : Prop := ∀ m, m < n → Off m a
/-- Funcs that lie in blocks from n on. -/
def FunsA (n : Nat) (w : World) (a : Option Addr) (L : List Fun7) : Prop :=
  L ≠ [] → ∃ b off, a = some ⟨b, off, none⟩ ∧ b < w.heap.size ∧ n ≤ b ∧ ∀ i (h : i < L.length), ∃ pa pc la lc ba bc, w.cell? ⟨b, off + i * 4, none⟩ = some (.slice pa L[i].ps.length pc) ∧ w.cell? ⟨b, off + i * 4 + 1, none⟩ = some (.int .i64 L[i].res) ∧ w.cell? ⟨b, off + i * 4 + 2, none⟩ = some (.slice la L[i].ls.length lc) ∧ w.cell? ⟨b, off + i * 4 + 3, none⟩ = some (.slice ba L[i].body.length bc) ∧ FunRows w pa la ba L[i] ∧ Offs n pa ∧ Offs n la ∧ Offs n ba
theorem FunsA.funs {n : Nat} {w : World} {a : Option Addr} {L : List Fun7} (h : FunsA n w a L) : Funs w a L := fun hn => by
  obtain ⟨b, off, ha, hl, _, hc⟩ := h hn
  refine ⟨b, off, ha, hl, fun i hi => ?_⟩
  obtain ⟨pa, pc, la, lc, ba, bc, h0, h1, h2, h3, hr, _⟩ := hc i hi
  exact ⟨pa, pc, la, lc, ba, bc, h0, h1, h2, h3, hr⟩
theorem FunsA.below {n : Nat} {w w' : World} {a : Option Addr} {L : List Fun7} (h : FunsA n w a L) (hb : Below w.heap.size w w') : FunsA n w' a L := fun hn => by
  obtain ⟨b, off, ha, hl, hnb, hc⟩ := h hn
  refine ⟨b, off, ha, Nat.lt_of_lt_of_le hl hb.size, hnb, fun i hi => ?_⟩
  obtain ⟨pa, pc, la, lc, ba, bc, h0, h1, h2, h3, hr, ho⟩ := hc i hi
  exact ⟨pa, pc, la, lc, ba, bc, (hb.cell (p := ⟨b, _, none⟩) hl).trans h0, (hb.cell (p := ⟨b, _, none⟩) hl).trans h1, (hb.cell (p := ⟨b, _, none⟩) hl).trans h2, (hb.cell (p := ⟨b, _, none⟩) hl).trans h3, hr.below hb, ho⟩
theorem FunsA.set {n : Nat} {w : World} {a : Option Addr} {L : List Fun7} (h : FunsA n w a L) {m : Nat} (hm : m < n) (i : Nat) (v : Value) : FunsA n (w.setCell ⟨m, i, none⟩ v) a L := fun hn => by
  obtain ⟨b, off, ha, hl, hnb, hc⟩ := h hn
  have hbm : b ≠ m := by omega
  refine ⟨b, off, ha, by simpa using hl, hnb, fun j hj => ?_⟩
  obtain ⟨pa, pc, la, lc, ba, bc, h0, h1, h2, h3, hr, o1, o2, o3⟩ := hc j hj
  exact ⟨pa, pc, la, lc, ba, bc, (setCell_other_cell _ _ _ _ _ _ hbm).trans h0, (setCell_other_cell _ _ _ _ _ _ hbm).trans h1, (setCell_other_cell _ _ _ _ _ _ hbm).trans h2, (setCell_other_cell _ _ _ _ _ _ hbm).trans h3, hr.set (o1 m hm) (o2 m hm) (o3 m hm) i v, o1, o2, o3⟩
/-- What the row of funcs that is laid holds so far. -/
def FunLaid (w : World) (g : Nat) (arr : Array Value) (L : List Fun7) (k : Nat) : Prop :=
  ∀ j (h : j < L.length), j < k → ∃ pa pc la lc ba bc, arr[j * 4]? = some (.slice pa L[j].ps.length pc) ∧ arr[j * 4 + 1]? = some (.int .i64 L[j].res) ∧ arr[j * 4 + 2]? = some (.slice la L[j].ls.length lc) ∧ arr[j * 4 + 3]? = some (.slice ba L[j].body.length bc) ∧ FunRows w pa la ba L[j] ∧ Offs (g + 1) pa ∧ Offs (g + 1) la ∧ Offs (g + 1) ba
theorem FunLaid.below {w w' : World} {g : Nat} {arr : Array Value} {L : List Fun7} {k : Nat} (h : FunLaid w g arr L k) (hb : Below w.heap.size w w') : FunLaid w' g arr L k := fun j hj hk => by
  obtain ⟨pa, pc, la, lc, ba, bc, h0, h1, h2, h3, hr, ho⟩ := h j hj hk
  exact ⟨pa, pc, la, lc, ba, bc, h0, h1, h2, h3, hr.below hb, ho⟩
theorem FunLaid.set {w : World} {g : Nat} {arr : Array Value} {L : List Fun7} {k : Nat} (h : FunLaid w g arr L k) (i : Nat) (v : Value) : FunLaid (w.setCell ⟨g, i, none⟩ v) g arr L k := fun j hj hk => by
  obtain ⟨pa, pc, la, lc, ba, bc, h0, h1, h2, h3, hr, o1, o2, o3⟩ := h j hj hk
  exact ⟨pa, pc, la, lc, ba, bc, h0, h1, h2, h3, hr.set (o1 g (by omega)) (o2 g (by omega)) (o3 g (by omega)) i v, o1, o2, o3⟩
theorem FunLaid.more {w : World} {g : Nat} {arr A : Array Value} {L : List Fun7} {k : Nat} (h : FunLaid w g arr L k) (hk : k < L.length) {pa la ba : Option Addr} {pc lc bc : Nat}
    (hA : A[k * 4]? = some (.slice pa L[k].ps.length pc) ∧ A[k * 4 + 1]? = some (.int .i64 L[k].res) ∧ A[k * 4 + 2]? = some (.slice la L[k].ls.length lc) ∧ A[k * 4 + 3]? = some (.slice ba L[k].body.length bc) ∧ ∀ j, j < k * 4 → A[j]? = arr[j]?)
    (hr : FunRows w pa la ba L[k]) (ho : Offs (g + 1) pa ∧ Offs (g + 1) la ∧ Offs (g + 1) ba) : FunLaid w g A L (k + 1) := fun j hj hjk => by
  by_cases e : j = k
  · subst e
    exact ⟨pa, pc, la, lc, ba, bc, hA.1, hA.2.1, hA.2.2.1, hA.2.2.2.1, hr, ho⟩
  · obtain ⟨pa, pc, la, lc, ba, bc, h0, h1, h2, h3, hr, ho⟩ := h j hj (by omega)
    have K := hA.2.2.2.2
    exact ⟨pa, pc, la, lc, ba, bc, (K _ (by omega)).trans h0, (K _ (by omega)).trans h1, (K _ (by omega)).trans h2, (K _ (by omega)).trans h3, hr, ho⟩

set_option maxRecDepth 100000 in
set_option maxHeartbeats 1600000 in
theorem toFuns (a : Option Addr) (cap : Nat) (L : List Fun7) (w : World) (hF : Hid (Funs w a L)) (hs : Hid (∀ f ∈ L, smF f)) (hlen : L.length ≤ 1048576) :
    Calls Try.prog 34 #[.slice a L.length cap] w fun e w' => e = .returned (.slice (some ⟨w.heap.size, 0, none⟩) L.length L.length) ∧ w.heap.size < w'.heap.size ∧ FunsA w.heap.size w' (some ⟨w.heap.size, 0, none⟩) L ∧ Below w.heap.size w w' := by
  obtain ⟨i0, hi, hz0, hz1, hz2⟩ := info_parts Try.info75
  obtain ⟨M, hM⟩ : ∃ M, M = madeCells (Value.agg #[.slice none 0 0, .int .i64 0, .slice none 0 0, .slice none 0 0]).cells (((L.length : Nat) : Int).toNat * i0.size) := ⟨_, rfl⟩
  have hMs : M.size = L.length * 4 := by rw [hM, size_madeCells, hz1]; simp
  have hmk : ∀ W : World, (Instr.makeSlice 29 (.int .i64 (L.length : Int)) (.int .i64 (L.length : Int))).run Try.prog W = .ok (.slice (some ⟨W.heap.size, 0, none⟩) L.length L.length) (W.alloc (.cells M 75)) := fun W => by
    have h := run_make (P := Try.prog) W 29 75 i0 _ Try.underlying29 hi hz0 .i64 .i64 (L.length : Int) (L.length : Int) (by omega) (by omega) (by rw [hz2]; omega) (by omega)
    rw [← hM] at h
    simpa using h
  clear hM
  go_enter Try.func34, Try.ntmps34
  go_wp2
  go_loopw [4] (fun i wr => ∃ (k : Nat) (arr : Array Value), k ≤ L.length ∧ i = .int .i64 k ∧ wr.heap[w.heap.size]? = some (.cells arr 75 (0, 0)) ∧ arr.size = L.length * 4 ∧ Hid (FunLaid wr w.heap.size arr L k) ∧ Below w.heap.size w wr) (fun i _ => L.length - (intOf i).toNat)
  case atStart => exact ⟨0, M, by omega, rfl, heap_alloc_new _ _, hMs, fun j _ h => absurd h (by omega), (Below.refl _ _).alloc (Nat.le_refl _) _⟩
  case round =>
    clear hmk hMs
    obtain ⟨k, arr, hk, rfl, harr, hsz, hA, hnx⟩ := hrel
    have hgl := lt_of_block harr
    by_cases hlt : k < L.length
    · obtain ⟨b, off, rfl, hb, hc⟩ := hF.out.at k hlt
      have hsm := hs.out L[k] (List.getElem_mem _)
      obtain ⟨pa, pc, la, lc, ba, bc, c0, c1, c2, c3, hR⟩ := hc
      obtain ⟨f, hf⟩ : ∃ f, L[k] = f := ⟨_, rfl⟩
      rw [hf] at c0 c1 c2 c3 hR hsm
      have HF : Hid (L[k] = f) := hf
      clear hf
      have hR2 : Hid (FunRows wr pa la ba f) := by
        unfold Hid; exact hR.out.below (hnx)
      have d0 : wr.cell? ⟨b, off + k * 4, none⟩ = some (.slice pa f.ps.length pc) := (hnx.cell (by exact hb)).trans c0
      have d1 : wr.cell? ⟨b, off + k * 4 + 1, none⟩ = some (.int .i64 f.res) := (hnx.cell (by exact hb)).trans c1
      have d2 : wr.cell? ⟨b, off + k * 4 + 2, none⟩ = some (.slice la f.ls.length lc) := (hnx.cell (by exact hb)).trans c2
      have d3 : wr.cell? ⟨b, off + k * 4 + 3, none⟩ = some (.slice ba f.body.length bc) := (hnx.cell (by exact hb)).trans c3
      have HS : Hid (arr.size = L.length * 4) := hsz
      have HSM : Hid (smF f) := hsm
      obtain ⟨o0, ho0⟩ : ∃ o, arr[k * 4]? = some o := ⟨_, Array.getElem?_eq_getElem (by omega)⟩
      obtain ⟨o1, ho1⟩ : ∃ o, arr[k * 4 + 1]? = some o := ⟨_, Array.getElem?_eq_getElem (by omega)⟩
      obtain ⟨o2, ho2⟩ : ∃ o, arr[k * 4 + 2]? = some o := ⟨_, Array.getElem?_eq_getElem (by omega)⟩
      obtain ⟨o3, ho3⟩ : ∃ o, arr[k * 4 + 3]? = some o := ⟨_, Array.getElem?_eq_getElem (by omega)⟩
      clear hsz c0 c1 c2 c3 hR hsm
      go_wp2_with fail
      refine (toFun1 pa la ba pc lc bc f wr hR2 HSM.out).mono ?_
      rintro e w1 ⟨pa', la', ba', pc', lc', bc', rfl, hR1, hb1⟩
      have harr1 := (hb1.block _ hgl).trans harr
      have e0 := (cell_of_block harr1 (k * 4)).trans ho0
      have e1 := (cell_of_block harr1 (k * 4 + 1)).trans ho1
      have e2 := (cell_of_block harr1 (k * 4 + 2)).trans ho2
      have e3 := (cell_of_block harr1 (k * 4 + 3)).trans ho3
      have f0 := free_of_block harr1 (k * 4)
      have f1 := free_of_block harr1 (k * 4 + 1)
      have f2 := free_of_block harr1 (k * 4 + 2)
      have f3 := free_of_block harr1 (k * 4 + 3)
      have HL : Hid (FunLaid w1 w.heap.size arr L k) := hA.out.below hb1
      have HB : Hid (Below w.heap.size w w1) := below2 hnx hb1
      have HO : Offs (w.heap.size + 1) pa' ∧ Offs (w.heap.size + 1) la' ∧ Offs (w.heap.size + 1) ba' := ⟨fun m hm => (hR1.out.2 m (by omega)).1, fun m hm => (hR1.out.2 m (by omega)).2.1, fun m hm => (hR1.out.2 m (by omega)).2.2⟩
      have HR : Hid (FunRows w1 pa' la' ba' f) := hR1.out.1
      have HOO : Hid (Offs (w.heap.size + 1) pa' ∧ Offs (w.heap.size + 1) la' ∧ Offs (w.heap.size + 1) ba') := HO
      clear hA hb1 hR1 HO harr d0 d1 d2 d3 hR2 HSM hF
      go_wp2
      go_roundw
      case rel =>
        have hA2 := put4_at arr k (by have := HS.out; omega) (.slice pa' f.ps.length pc') (.int .i64 f.res) (.slice la' f.ls.length lc') (.slice ba' f.body.length bc') _ rfl
        have HF2 := HF.out
        refine ⟨k + 1, _, by omega, by go_num, heap_setCell_same _ _ _ _ _ _ (heap_setCell_same _ _ _ _ _ _ (heap_setCell_same _ _ _ _ _ _ (heap_setCell_same _ _ _ _ _ _ harr1))), by simpa using HS.out, ?_, (((HB.out.setCell (Nat.le_refl _) _).setCell (Nat.le_refl _) _).setCell (Nat.le_refl _) _).setCell (Nat.le_refl _) _⟩
        refine FunLaid.more ((((HL.out.set _ _).set _ _).set _ _).set _ _) hlt (pa := pa') (la := la') (ba := ba') (pc := pc') (lc := lc') (bc := bc') ?_ ?_ HOO.out
        · rw [HF2]; exact hA2
        · rw [HF2]
          obtain ⟨p1, p2, p3⟩ := HOO.out
          have o1 := p1 w.heap.size (by omega)
          have o2 := p2 w.heap.size (by omega)
          have o3 := p3 w.heap.size (by omega)
          exact (((HR.out.set o1 o2 o3 _ _).set o1 o2 o3 _ _).set o1 o2 o3 _ _).set o1 o2 o3 _ _
      case measure => simp [intOf]; omega
    · go_wp2
      go_ret
      refine ⟨rfl, hgl, fun _ => ⟨w.heap.size, 0, rfl, hgl, Nat.le_refl _, fun j hj => ?_⟩, hnx⟩
      obtain ⟨pa, pc, la, lc, ba, bc, h0, h1, h2, h3, hr, o1, o2, o3⟩ := hA.out j hj (by omega)
      rw [Nat.zero_add]
      exact ⟨pa, pc, la, lc, ba, bc, (cell_of_block harr _).trans h0, (cell_of_block harr _).trans h1, (cell_of_block harr _).trans h2, (cell_of_block harr _).trans h3, hr, fun m hm => o1 m (by omega), fun m hm => o2 m (by omega), fun m hm => o3 m (by omega)⟩

end Go.Proofs.Ytbliopgdkphoaaa

namespace Go.Proofs.Ytbliopgdkphoaaa
open Go.ChangeShapes Go.WideShapes Go.ChangeAt Go.RowKit

set_option maxRecDepth 100000 in
set_option maxHeartbeats 800000 in
theorem toGlo1 (ty : Int) (fixed : Bool) (bits : Int) (w : World) :
    Calls Try.prog 67 #[.agg #[.int .i64 ty, .bool fixed, .int .u64 bits]] w fun e w' => e = .returned (.agg #[.int .i64 ty, .bool fixed, .int .u64 bits]) ∧ Below w.heap.size w w' := by
  go_enter Try.func67, Try.ntmps67
  go_wp2
  exact bodyPost_ret (v := .agg #[.int .i64 ty, .bool fixed, .int .u64 bits]) (by simp [results, Try.results67, go_sem]) rfl ⟨rfl, by (repeat (first | refine Below.alloc ?_ (by first | (simp; done) | (simp; omega)) _ | refine Below.setCell ?_ (by first | (simp; done) | (simp; omega)) _ | refine bel_dN ?_ _ | refine Below.drew ?_ | exact Below.refl _ _))⟩

def GloLaid (arr : Array Value) (L : List Glo7) (k : Nat) : Prop :=
  ∀ j (h : j < L.length), j < k → arr[j * 3]? = some (.int .i64 L[j].ty) ∧ arr[j * 3 + 1]? = some (.bool L[j].fixed) ∧ arr[j * 3 + 2]? = some (.int .u64 L[j].bits)
theorem GloLaid.more {arr A : Array Value} {L : List Glo7} {k : Nat} (h : GloLaid arr L k) (hk : k < L.length)
    (hA : A[k * 3]? = some (.int .i64 L[k].ty) ∧ A[k * 3 + 1]? = some (.bool L[k].fixed) ∧ A[k * 3 + 2]? = some (.int .u64 L[k].bits) ∧ ∀ j, j < k * 3 → A[j]? = arr[j]?) : GloLaid A L (k + 1) := fun j hj hjk => by
  by_cases e : j = k
  · subst e
    exact ⟨hA.1, hA.2.1, hA.2.2.1⟩
  · obtain ⟨h0, h1, h2⟩ := h j hj (by omega)
    have K := hA.2.2.2
    exact ⟨(K _ (by omega)).trans h0, (K _ (by omega)).trans h1, (K _ (by omega)).trans h2⟩

set_option maxRecDepth 100000 in
set_option maxHeartbeats 1600000 in
theorem toGlos (a : Option Addr) (cap : Nat) (L : List Glo7) (w : World) (hF : Hid (Glos w a L)) (hlen : L.length ≤ 1048576) :
    Calls Try.prog 35 #[.slice a L.length cap] w fun e w' => e = .returned (.slice (some ⟨w.heap.size, 0, none⟩) L.length L.length) ∧ w.heap.size < w'.heap.size ∧ Glos w' (some ⟨w.heap.size, 0, none⟩) L ∧ Below w.heap.size w w' := by
  obtain ⟨i0, hi, hz0, hz1, hz2⟩ := info_parts Try.info79
  obtain ⟨M, hM⟩ : ∃ M, M = madeCells (Value.agg #[.int .i64 0, .bool false, .int .u64 0]).cells (((L.length : Nat) : Int).toNat * i0.size) := ⟨_, rfl⟩
  have hMs : M.size = L.length * 3 := by rw [hM, size_madeCells, hz1]; simp
  have hmk : ∀ W : World, (Instr.makeSlice 30 (.int .i64 (L.length : Int)) (.int .i64 (L.length : Int))).run Try.prog W = .ok (.slice (some ⟨W.heap.size, 0, none⟩) L.length L.length) (W.alloc (.cells M 79)) := fun W => by
    have h := run_make (P := Try.prog) W 30 79 i0 _ Try.underlying30 hi hz0 .i64 .i64 (L.length : Int) (L.length : Int) (by omega) (by omega) (by rw [hz2]; omega) (by omega)
    rw [← hM] at h
    simpa using h
  clear hM
  go_enter Try.func35, Try.ntmps35
  go_wp2
  go_loopw [4] (fun i wr => ∃ (k : Nat) (arr : Array Value), k ≤ L.length ∧ i = .int .i64 k ∧ wr.heap[w.heap.size]? = some (.cells arr 79 (0, 0)) ∧ arr.size = L.length * 3 ∧ Hid (GloLaid arr L k) ∧ Below w.heap.size w wr) (fun i _ => L.length - (intOf i).toNat)
  case atStart => exact ⟨0, M, by omega, rfl, heap_alloc_new _ _, hMs, fun j _ h => absurd h (by omega), (Below.refl _ _).alloc (Nat.le_refl _) _⟩
  case round =>
    clear hmk hMs
    obtain ⟨k, arr, hk, rfl, harr, hsz, hA, hnx⟩ := hrel
    have hgl := lt_of_block harr
    by_cases hlt : k < L.length
    · obtain ⟨b, off, rfl, hb, hc⟩ := hF.out.at k hlt
      obtain ⟨c0, c1, c2⟩ := hc
      obtain ⟨f, hf⟩ : ∃ f, L[k] = f := ⟨_, rfl⟩
      rw [hf] at c0 c1 c2
      have HF : Hid (L[k] = f) := hf
      clear hf
      have d0 : wr.cell? ⟨b, off + k * 3, none⟩ = some (.int .i64 f.ty) := (hnx.cell (by exact hb)).trans c0
      have d1 : wr.cell? ⟨b, off + k * 3 + 1, none⟩ = some (.bool f.fixed) := (hnx.cell (by exact hb)).trans c1
      have d2 : wr.cell? ⟨b, off + k * 3 + 2, none⟩ = some (.int .u64 f.bits) := (hnx.cell (by exact hb)).trans c2
      have HS : Hid (arr.size = L.length * 3) := hsz
      obtain ⟨o0, ho0⟩ : ∃ o, arr[k * 3]? = some o := ⟨_, Array.getElem?_eq_getElem (by omega)⟩
      obtain ⟨o1, ho1⟩ : ∃ o, arr[k * 3 + 1]? = some o := ⟨_, Array.getElem?_eq_getElem (by omega)⟩
      obtain ⟨o2, ho2⟩ : ∃ o, arr[k * 3 + 2]? = some o := ⟨_, Array.getElem?_eq_getElem (by omega)⟩
      clear hsz c0 c1 c2
      go_wp2_with fail
      refine (toGlo1 f.ty f.fixed f.bits wr).mono ?_
      rintro e w1 ⟨rfl, hb1⟩
      have harr1 := (hb1.block _ hgl).trans harr
      have e0 := (cell_of_block harr1 (k * 3)).trans ho0
      have e1 := (cell_of_block harr1 (k * 3 + 1)).trans ho1
      have e2 := (cell_of_block harr1 (k * 3 + 2)).trans ho2
      have f0 := free_of_block harr1 (k * 3)
      have f1 := free_of_block harr1 (k * 3 + 1)
      have f2 := free_of_block harr1 (k * 3 + 2)
      have HB : Hid (Below w.heap.size w w1) := below2 hnx hb1
      clear hb1 harr d0 d1 d2 hF
      go_wp2
      go_roundw
      case rel =>
        have hA2 := put3_at arr k (by have := HS.out; omega) (.int .i64 f.ty) (.bool f.fixed) (.int .u64 f.bits) _ rfl
        have HF2 := HF.out
        refine ⟨k + 1, _, by omega, by go_num, heap_setCell_same _ _ _ _ _ _ (heap_setCell_same _ _ _ _ _ _ (heap_setCell_same _ _ _ _ _ _ harr1)), by simpa using HS.out, ?_, ((HB.out.setCell (Nat.le_refl _) _).setCell (Nat.le_refl _) _).setCell (Nat.le_refl _) _⟩
        exact hA.out.more hlt (by rw [HF2]; exact hA2)
      case measure => simp [intOf]; omega
    · go_wp2
      go_ret
      refine ⟨rfl, hgl, fun _ => ⟨w.heap.size, 0, rfl, hgl, fun j hj => ?_⟩, hnx⟩
      obtain ⟨h0, h1, h2⟩ := hA.out j hj (by omega)
      rw [Nat.zero_add]
      exact ⟨(cell_of_block harr _).trans h0, (cell_of_block harr _).trans h1, (cell_of_block harr _).trans h2⟩

theorem Glos.set {w : World} {L : List Glo7} {g : Nat} (h : Glos w (some ⟨g, 0, none⟩) L) {m : Nat} (hm : g ≠ m) (i : Nat) (v : Value) : Glos (w.setCell ⟨m, i, none⟩ v) (some ⟨g, 0, none⟩) L := fun hn => by
  obtain ⟨b, off, ha, hl, hc⟩ := h hn
  have hbm : b ≠ m := by simp at ha; omega
  refine ⟨b, off, ha, by simpa using hl, fun j hj => ?_⟩
  obtain ⟨h0, h1, h2⟩ := hc j hj
  exact ⟨(setCell_other_cell _ _ _ _ _ _ hbm).trans h0, (setCell_other_cell _ _ _ _ _ _ hbm).trans h1, (setCell_other_cell _ _ _ _ _ _ hbm).trans h2⟩

set_option maxRecDepth 100000 in
set_option maxHeartbeats 3200000 in
theorem toMod (l : Loc7) (M : Mod7) (w : World) (hM : Hid (ModAt w l M)) (hs : Hid (smM M)) :
    Calls Try.prog 11 #[modV l M] w fun e w' => ∃ l', e = .returned (modV l' M) ∧ Hid (ModAt w' l' M) ∧ Below w.heap.size w w' := by
  obtain ⟨fa, fc, ga, gc⟩ := l
  obtain ⟨fs, gs, mem, pages, most, start⟩ := M
  unfold modV
  simp only
  go_enter Try.func11, Try.ntmps11
  go_wp2_with fail
  obtain ⟨n, hn⟩ : ∃ n, w.heap.size = n := ⟨_, rfl⟩
  obtain ⟨W0, hW0⟩ : ∃ W, (((w.alloc (.cells #[.slice fa fs.length fc, .slice ga gs.length gc, .bool mem, .int .i64 pages, .int .i64 most, .int .i64 start] 25)).alloc (.cells #[.slice none 0 0, .slice none 0 0, .bool false, .int .i64 0, .int .i64 0, .int .i64 0] 32)).alloc (.cells #[.slice none 0 0, .slice none 0 0, .bool false, .int .i64 0, .int .i64 0, .int .i64 0] 32)) = W := ⟨_, rfl⟩
  have hb0 : Below w.heap.size w W0 := by rw [← hW0]; exact bel_alloc (bel_alloc (bel_alloc (Below.refl _ _) _) _) _
  have hz0 : W0.heap.size = n + 1 + 1 + 1 := by rw [← hW0, ← hn]; simp
  have hx0 : W0.heap[n]? = some (.cells #[.slice fa fs.length fc, .slice ga gs.length gc, .bool mem, .int .i64 pages, .int .i64 most, .int .i64 start] 25 (0, 0)) := by
    rw [← hW0, ← hn]
    exact ((Below.heap_alloc _ _ _ (by simp; omega)).trans (Below.heap_alloc _ _ _ (by simp))).trans (heap_alloc_new _ _)
  have hr0 : W0.heap[n + 1]? = some (.cells #[.slice none 0 0, .slice none 0 0, .bool false, .int .i64 0, .int .i64 0, .int .i64 0] 32 (0, 0)) := by
    rw [← hW0, ← hn]
    have h := heap_alloc_new (w.alloc (.cells #[.slice fa fs.length fc, .slice ga gs.length gc, .bool mem, .int .i64 pages, .int .i64 most, .int .i64 start] 25)) (.cells #[.slice none 0 0, .slice none 0 0, .bool false, .int .i64 0, .int .i64 0, .int .i64 0] 32)
    exact (Below.heap_alloc _ _ _ (by simp)).trans (by simpa using h)
  have hg0 : W0.heap[n + 1 + 1]? = some (.cells #[.slice none 0 0, .slice none 0 0, .bool false, .int .i64 0, .int .i64 0, .int .i64 0] 32 (0, 0)) := by
    rw [← hW0, ← hn]
    have h := heap_alloc_new ((w.alloc (.cells #[.slice fa fs.length fc, .slice ga gs.length gc, .bool mem, .int .i64 pages, .int .i64 most, .int .i64 start] 25)).alloc (.cells #[.slice none 0 0, .slice none 0 0, .bool false, .int .i64 0, .int .i64 0, .int .i64 0] 32)) (.cells #[.slice none 0 0, .slice none 0 0, .bool false, .int .i64 0, .int .i64 0, .int .i64 0] 32)
    simpa using h
  have T1 := toFuns fa fc fs W0 (hM.out.1.below hb0) hs.out.2.2.1 hs.out.1
  have HB0 : Hid (Below w.heap.size w W0) := hb0
  have HN : Hid (w.heap.size = n) := hn
  rw [hW0, hn]
  rw [hz0] at T1
  clear hb0 hW0 hn
  refine T1.mono ?_
  rintro e w1 ⟨rfl, hl1, hI1, hb1⟩
  have hx1 := (hb1.block n (by omega)).trans hx0
  have hg1 := (hb1.block (n + 1 + 1) (by omega)).trans hg0
  have hr1 := (hb1.block (n + 1) (by omega)).trans hr0
  have HB1 : Hid (Below w.heap.size w w1) := HB0.out.trans (hb1.mono (by have := HB0.out.size; omega))
  have HI1 : Hid (FunsA (n + 1 + 1 + 1) w1 (some ⟨n + 1 + 1 + 1, 0, none⟩) fs) := hI1
  clear T1 hb1 hx0 hg0 hr0 hz0 HB0 hI1
  have c1 := (cell_of_block hx1 1).trans rfl
  have d0 := (cell_of_block hg1 0).trans rfl
  have f0 := free_of_block hg1 0
  go_wp2_with fail
  obtain ⟨W2, hW2⟩ : ∃ W, w1.setCell ⟨n + 1 + 1, 0, none⟩ (.slice (some ⟨n + 1 + 1 + 1, 0, none⟩) fs.length fs.length) = W := ⟨_, rfl⟩
  obtain ⟨z2, hz2⟩ : ∃ z, W2.heap.size = z := ⟨_, rfl⟩
  have hzz : n + 1 + 1 + 1 < z2 := by rw [← hz2, ← hW2]; simpa using hl1
  have hle : w.heap.size ≤ n + 1 + 1 := by have := HN.out; omega
  have hx2 : W2.heap[n]? = some (.cells #[.slice fa fs.length fc, .slice ga gs.length gc, .bool mem, .int .i64 pages, .int .i64 most, .int .i64 start] 25 (0, 0)) := by
    rw [← hW2]; exact (heap_setCell_other _ ⟨n + 1 + 1, 0, none⟩ n _ (show n ≠ n + 1 + 1 by omega)).trans hx1
  have hr2 : W2.heap[n + 1]? = some (.cells #[.slice none 0 0, .slice none 0 0, .bool false, .int .i64 0, .int .i64 0, .int .i64 0] 32 (0, 0)) := by
    rw [← hW2]; exact (heap_setCell_other _ ⟨n + 1 + 1, 0, none⟩ (n + 1) _ (show n + 1 ≠ n + 1 + 1 by omega)).trans hr1
  have hg2 : W2.heap[n + 1 + 1]? = some (.cells #[.slice (some ⟨n + 1 + 1 + 1, 0, none⟩) fs.length fs.length, .slice none 0 0, .bool false, .int .i64 0, .int .i64 0, .int .i64 0] 32 (0, 0)) := by
    rw [← hW2]; exact heap_setCell_same _ _ _ _ _ _ hg1
  have HB2 : Hid (Below w.heap.size w W2) := by unfold Hid; rw [← hW2]; exact HB1.out.setCell hle _
  have HI2 : Hid (FunsA (n + 1 + 1 + 1) W2 (some ⟨n + 1 + 1 + 1, 0, none⟩) fs) := by unfold Hid; rw [← hW2]; exact HI1.out.set (by omega) _ _
  have T2 := toGlos ga gc gs W2 (hM.out.2.below HB2.out) hs.out.2.1
  rw [hz2] at T2
  rw [hW2]
  clear hW2 HB1 HI1 hx1 hg1 hr1 c1 d0 f0
  refine T2.mono ?_
  rintro e w3 ⟨rfl, hl3, hI3, hb3⟩
  have hx3 := (hb3.block n (by omega)).trans hx2
  have hg3 := (hb3.block (n + 1 + 1) (by omega)).trans hg2
  have hr3 := (hb3.block (n + 1) (by omega)).trans hr2
  have HB3 : Hid (Below w.heap.size w w3) := HB2.out.trans (hb3.mono (by have := HB2.out.size; omega))
  have HI3 : Hid (FunsA (n + 1 + 1 + 1) w3 (some ⟨n + 1 + 1 + 1, 0, none⟩) fs) := HI2.out.below (by rw [hz2]; exact hb3)
  have HJ3 : Hid (Glos w3 (some ⟨z2, 0, none⟩) gs) := hI3
  clear T2 hb3 hx2 hg2 hr2 HB2 HI2 hI3 hz2
  have x2 := (cell_of_block hx3 2).trans rfl
  have x3 := (cell_of_block hx3 3).trans rfl
  have x4 := (cell_of_block hx3 4).trans rfl
  have x5 := (cell_of_block hx3 5).trans rfl
  have g0 := (cell_of_block hg3 0).trans rfl
  have g1 := (cell_of_block hg3 1).trans rfl
  have g2 := (cell_of_block hg3 2).trans rfl
  have g3 := (cell_of_block hg3 3).trans rfl
  have g4 := (cell_of_block hg3 4).trans rfl
  have g5 := (cell_of_block hg3 5).trans rfl
  have f1 := free_of_block hg3 1
  have f2 := free_of_block hg3 2
  have f3 := free_of_block hg3 3
  have f4 := free_of_block hg3 4
  have f5 := free_of_block hg3 5
  have q0 := (cell_of_block hr3 0).trans rfl
  have q1 := (cell_of_block hr3 1).trans rfl
  have q2 := (cell_of_block hr3 2).trans rfl
  have q3 := (cell_of_block hr3 3).trans rfl
  have q4 := (cell_of_block hr3 4).trans rfl
  have q5 := (cell_of_block hr3 5).trans rfl
  have k0 := free_of_block hr3 0
  have k1 := free_of_block hr3 1
  have k2 := free_of_block hr3 2
  have k3 := free_of_block hr3 3
  have k4 := free_of_block hr3 4
  have k5 := free_of_block hr3 5
  go_wp2
  have hle2 : w.heap.size ≤ n + 1 := by have := HN.out; omega
  refine bodyPost_ret (v := .agg #[.slice (some ⟨n + 1 + 1 + 1, 0, none⟩) fs.length fs.length, .slice (some ⟨z2, 0, none⟩) gs.length gs.length, .bool mem, .int .i64 pages, .int .i64 most, .int .i64 start]) (by simp [results, Try.results11, go_sem, q0, q1, q2, q3, q4, q5]) rfl ⟨⟨some ⟨n + 1 + 1 + 1, 0, none⟩, fs.length, some ⟨z2, 0, none⟩, gs.length⟩, rfl, ⟨?_, ?_⟩, ?_⟩
  · refine FunsA.funs (n := n + 1 + 1 + 1) ?_
    repeat refine FunsA.set ?_ (by omega) _ _
    exact HI3.out
  · repeat refine Glos.set ?_ (by omega) _ _
    exact HJ3.out
  · repeat (first | refine Below.setCell ?_ hle _ | refine Below.setCell ?_ hle2 _)
    exact HB3.out

end Go.Proofs.Ytbliopgdkphoaaa

namespace Go.Proofs.Ytbliopgdkphoaaa
open Go.ChangeShapes Go.WideShapes Go.ChangeAt Go.RowKit

set_option maxRecDepth 100000 in
set_option maxHeartbeats 800000 in
theorem eqGlo1 (ty : Int) (fixed : Bool) (bits : Int) (w : World) :
    Calls Try.prog 72 #[.agg #[.int .i64 ty, .bool fixed, .int .u64 bits], .agg #[.int .i64 ty, .bool fixed, .int .u64 bits]] w fun e w' => e = .returned (.bool true) ∧ Below w.heap.size w w' := by
  go_enter Try.func72, Try.ntmps72
  go_wp2
  go_ret
  exact ⟨rfl, ((Below.refl _ _).alloc (Nat.le_refl _) _).alloc (by simp) _⟩

set_option maxRecDepth 100000 in
set_option maxHeartbeats 1600000 in
theorem eqGlos (a a' : Option Addr) (cap cap' : Nat) (L : List Glo7) (w : World) (hL : Hid (Glos w a L)) (hL' : Hid (Glos w a' L)) (hlen : L.length ≤ 9223372036854775807) :
    Calls Try.prog 39 #[.slice a L.length cap, .slice a' L.length cap'] w fun e w' => e = .returned (.bool true) ∧ Below w.heap.size w w' := by
  go_enter Try.func39, Try.ntmps39
  go_wp2
  go_loopw [5] (fun i wr => ∃ (k : Nat), k ≤ L.length ∧ i = .int .i64 k ∧ Below w.heap.size w wr) (fun i _ => L.length - (intOf i).toNat)
  case atStart => exact ⟨0, by omega, rfl, Below.refl _ _⟩
  case round =>
    obtain ⟨k, hk, rfl, hnx⟩ := hrel
    by_cases hlt : k < L.length
    · obtain ⟨b, off, rfl, hb, hc⟩ := hL.out.at k hlt
      obtain ⟨b', off', rfl, hb', hd⟩ := hL'.out.at k hlt
      obtain ⟨x, hx⟩ : ∃ x, x = L[k] := ⟨_, rfl⟩
      rw [← hx] at hc hd
      obtain ⟨ty, fixed, bits⟩ := x
      clear hx
      obtain ⟨c0, c1, c2⟩ := hc
      obtain ⟨e0, e1, e2⟩ := hd
      simp only at c0 c1 c2 e0 e1 e2
      have hc0 : wr.cell? ⟨b, off + k * 3, none⟩ = some (.int .i64 ty) := (hnx.cell (by exact hb)).trans c0
      have hc1 : wr.cell? ⟨b, off + k * 3 + 1, none⟩ = some (.bool fixed) := (hnx.cell (by exact hb)).trans c1
      have hc2 : wr.cell? ⟨b, off + k * 3 + 2, none⟩ = some (.int .u64 bits) := (hnx.cell (by exact hb)).trans c2
      have hd0 : wr.cell? ⟨b', off' + k * 3, none⟩ = some (.int .i64 ty) := (hnx.cell (by exact hb')).trans e0
      have hd1 : wr.cell? ⟨b', off' + k * 3 + 1, none⟩ = some (.bool fixed) := (hnx.cell (by exact hb')).trans e1
      have hd2 : wr.cell? ⟨b', off' + k * 3 + 2, none⟩ = some (.int .u64 bits) := (hnx.cell (by exact hb')).trans e2
      clear c0 c1 c2 e0 e1 e2
      have H := eqGlo1 ty fixed bits
      go_wp2
      go_region_with (go_at_call 72; refine (H _).mono ?_; rintro e w1 ⟨rfl, hb2⟩)
      all_goals
        go_wp2
        go_roundw
        case rel => exact ⟨k + 1, by omega, by go_num, by first | exact below2 hnx (by assumption) | exact below2 hnx.drew (by assumption) | exact below2 hnx.drew.drew (by assumption) | exact below2 hnx.drew.drew.drew (by assumption)⟩
        case measure => simp [intOf]; omega
    · go_wp2
      go_ret
      exact ⟨rfl, hnx⟩

set_option maxRecDepth 100000 in
set_option maxHeartbeats 1600000 in
theorem eqFun1 (pa la ba pa' la' ba' : Option Addr) (pc lc bc pc' lc' bc' : Nat) (f : Fun7) (w : World) (hR : Hid (FunRows w pa la ba f)) (hR' : Hid (FunRows w pa' la' ba' f)) (hs : Hid (smF f)) :
    Calls Try.prog 71 #[.agg #[.slice pa f.ps.length pc, .int .i64 f.res, .slice la f.ls.length lc, .slice ba f.body.length bc], .agg #[.slice pa' f.ps.length pc', .int .i64 f.res, .slice la' f.ls.length lc', .slice ba' f.body.length bc']] w fun e w' => e = .returned (.bool true) ∧ Below w.heap.size w w' := by
  obtain ⟨ps, res, ls, body⟩ := f
  simp only
  go_enter Try.func71, Try.ntmps71
  go_wp2_with fail
  obtain ⟨n, hn⟩ : ∃ n, w.heap.size = n := ⟨_, rfl⟩
  obtain ⟨W0, hW0⟩ : ∃ W, ((w.alloc (.cells #[.slice pa ps.length pc, .int .i64 res, .slice la ls.length lc, .slice ba body.length bc] 75)).alloc (.cells #[.slice pa' ps.length pc', .int .i64 res, .slice la' ls.length lc', .slice ba' body.length bc'] 75)) = W := ⟨_, rfl⟩
  have hb0 : Below w.heap.size w W0 := by rw [← hW0]; exact bel_alloc (bel_alloc (Below.refl _ _) _) _
  have hz0 : W0.heap.size = n + 1 + 1 := by rw [← hW0, ← hn]; simp
  have hx0 : W0.heap[n]? = some (.cells #[.slice pa ps.length pc, .int .i64 res, .slice la ls.length lc, .slice ba body.length bc] 75 (0, 0)) := by
    rw [← hW0, ← hn]
    exact (Below.heap_alloc _ _ _ (by simp)).trans (heap_alloc_new _ _)
  have hy0 : W0.heap[n + 1]? = some (.cells #[.slice pa' ps.length pc', .int .i64 res, .slice la' ls.length lc', .slice ba' body.length bc'] 75 (0, 0)) := by
    rw [← hW0, ← hn]
    have h := heap_alloc_new (w.alloc (.cells #[.slice pa ps.length pc, .int .i64 res, .slice la ls.length lc, .slice ba body.length bc] 75)) (.cells #[.slice pa' ps.length pc', .int .i64 res, .slice la' ls.length lc', .slice ba' body.length bc'] 75)
    simpa using h
  have T1 := eqInts pa pa' pc pc' ps W0 (hR.out.1.below hb0) (hR'.out.1.below hb0) (by have := hs.out.1; simp only at this; omega)
  have HB0 : Hid (Below w.heap.size w W0) := hb0
  rw [hW0, hn]
  clear hb0 hW0 hn
  refine T1.mono ?_
  rintro e w1 ⟨rfl, hb1⟩
  have hx1 := (hb1.block n (by omega)).trans hx0
  have hy1 := (hb1.block (n + 1) (by omega)).trans hy0
  have hz1 : n + 1 < w1.heap.size := by have := hb1.size; omega
  have HB1 : Hid (Below w.heap.size w w1) := bel_step HB0.out hb1
  clear T1 hb1 hx0 hy0 hz0 HB0
  have c1 := (cell_of_block hx1 1).trans rfl
  have c2 := (cell_of_block hx1 2).trans rfl
  have d1 := (cell_of_block hy1 1).trans rfl
  have d2 := (cell_of_block hy1 2).trans rfl
  go_wp2_with fail
  refine (eqInts la la' lc lc' ls w1 (hR.out.2.1.below HB1.out) (hR'.out.2.1.below HB1.out) (by have := hs.out.2.1; simp only at this; omega)).mono ?_
  rintro e w2 ⟨rfl, hb2⟩
  have hx2 := (hb2.block n (by omega)).trans hx1
  have hy2 := (hb2.block (n + 1) (by omega)).trans hy1
  have HB2 : Hid (Below w.heap.size w w2) := bel_step HB1.out hb2
  clear hb2 hx1 hy1 hz1 HB1 c1 c2 d1 d2
  have c3 := (cell_of_block hx2 3).trans rfl
  have d3 := (cell_of_block hy2 3).trans rfl
  obtain ⟨b1, o1, k1, i1⟩ := (hR.out.2.2.below HB2.out).parts
  obtain ⟨b2, o2, k2, i2⟩ := (hR'.out.2.2.below HB2.out).parts
  have T3 := eqInsS ba ba' b1 o1 bc b2 o2 bc' body w2 k1 k2 i1 i2 (by have := hs.out.2.2.1; simp only at this; omega)
  clear k1 k2 i1 i2
  go_wp2_with fail
  refine T3.mono ?_
  rintro e w3 ⟨rfl, hb3⟩
  have HB3 : Hid (Below w.heap.size w w3) := bel_step HB2.out hb3
  clear T3 hb3
  go_wp2
  go_ret
  exact ⟨rfl, HB3.out⟩

set_option maxRecDepth 100000 in
set_option maxHeartbeats 1600000 in
theorem eqFuns (a a' : Option Addr) (cap cap' : Nat) (L : List Fun7) (w : World) (hL : Hid (Funs w a L)) (hL' : Hid (Funs w a' L)) (hs : Hid (∀ f ∈ L, smF f)) (hlen : L.length ≤ 9223372036854775807) :
    Calls Try.prog 38 #[.slice a L.length cap, .slice a' L.length cap'] w fun e w' => e = .returned (.bool true) ∧ Below w.heap.size w w' := by
  go_enter Try.func38, Try.ntmps38
  go_wp2
  go_loopw [5] (fun i wr => ∃ (k : Nat), k ≤ L.length ∧ i = .int .i64 k ∧ Below w.heap.size w wr) (fun i _ => L.length - (intOf i).toNat)
  case atStart => exact ⟨0, by omega, rfl, Below.refl _ _⟩
  case round =>
    obtain ⟨k, hk, rfl, hnx⟩ := hrel
    by_cases hlt : k < L.length
    · obtain ⟨b, off, rfl, hb, hc⟩ := hL.out.at k hlt
      obtain ⟨b', off', rfl, hb', hd⟩ := hL'.out.at k hlt
      have hsm := hs.out L[k] (List.getElem_mem _)
      obtain ⟨x, hx⟩ : ∃ x, x = L[k] := ⟨_, rfl⟩
      rw [← hx] at hc hd hsm
      clear hx
      obtain ⟨pa, pc, la, lc, ba, bc, c0, c1, c2, c3, hR⟩ := hc
      obtain ⟨pa', pc', la', lc', ba', bc', e0, e1, e2, e3, hR'⟩ := hd
      have hc0 : wr.cell? ⟨b, off + k * 4, none⟩ = some (.slice pa x.ps.length pc) := (hnx.cell (by exact hb)).trans c0
      have hc1 : wr.cell? ⟨b, off + k * 4 + 1, none⟩ = some (.int .i64 x.res) := (hnx.cell (by exact hb)).trans c1
      have hc2 : wr.cell? ⟨b, off + k * 4 + 2, none⟩ = some (.slice la x.ls.length lc) := (hnx.cell (by exact hb)).trans c2
      have hc3 : wr.cell? ⟨b, off + k * 4 + 3, none⟩ = some (.slice ba x.body.length bc) := (hnx.cell (by exact hb)).trans c3
      have hd0 : wr.cell? ⟨b', off' + k * 4, none⟩ = some (.slice pa' x.ps.length pc') := (hnx.cell (by exact hb')).trans e0
      have hd1 : wr.cell? ⟨b', off' + k * 4 + 1, none⟩ = some (.int .i64 x.res) := (hnx.cell (by exact hb')).trans e1
      have hd2 : wr.cell? ⟨b', off' + k * 4 + 2, none⟩ = some (.slice la' x.ls.length lc') := (hnx.cell (by exact hb')).trans e2
      have hd3 : wr.cell? ⟨b', off' + k * 4 + 3, none⟩ = some (.slice ba' x.body.length bc') := (hnx.cell (by exact hb')).trans e3
      have hR2 : FunRows wr pa la ba x := hR.out.below hnx
      have hR3 : FunRows wr pa' la' ba' x := hR'.out.below hnx
      have H : Hid (∀ w', Below wr.heap.size wr w' → Calls Try.prog 71 #[.agg #[.slice pa x.ps.length pc, .int .i64 x.res, .slice la x.ls.length lc, .slice ba x.body.length bc], .agg #[.slice pa' x.ps.length pc', .int .i64 x.res, .slice la' x.ls.length lc', .slice ba' x.body.length bc']] w' fun e w'' => e = .returned (.bool true) ∧ Below w'.heap.size w' w'') := fun w' hb => eqFun1 pa la ba pa' la' ba' pc lc bc pc' lc' bc' x w' (hR2.below hb) (hR3.below hb) hsm
      clear c0 c1 c2 c3 e0 e1 e2 e3 hR hR' hsm hR2 hR3
      go_wp2
      go_region_with (go_at_call 71; refine (H.out _ (by first | exact Below.refl _ _ | exact (Below.refl _ _).drew | exact (Below.refl _ _).drew.drew | exact (Below.refl _ _).drew.drew.drew)).mono ?_; rintro e w1 ⟨rfl, hb2⟩)
      all_goals
        go_wp2
        go_roundw
        case rel => exact ⟨k + 1, by omega, by go_num, by first | exact below2 hnx (by assumption) | exact below2 hnx.drew (by assumption) | exact below2 hnx.drew.drew (by assumption) | exact below2 hnx.drew.drew.drew (by assumption)⟩
        case measure => simp [intOf]; omega
    · go_wp2
      go_ret
      exact ⟨rfl, hnx⟩

set_option maxRecDepth 100000 in
set_option maxHeartbeats 1600000 in
theorem eqMod (l l' : Loc7) (M : Mod7) (w : World) (hM : Hid (ModAt w l M)) (hM' : Hid (ModAt w l' M)) (hs : Hid (smM M)) :
    Calls Try.prog 13 #[modV l M, modV l' M] w fun e w' => e = .returned (.bool true) ∧ Below w.heap.size w w' := by
  obtain ⟨fa, fc, ga, gc⟩ := l
  obtain ⟨fa', fc', ga', gc'⟩ := l'
  obtain ⟨fs, gs, mem, pages, most, start⟩ := M
  unfold modV
  simp only
  go_enter Try.func13, Try.ntmps13
  go_wp2_with fail
  obtain ⟨n, hn⟩ : ∃ n, w.heap.size = n := ⟨_, rfl⟩
  obtain ⟨W0, hW0⟩ : ∃ W, ((w.alloc (.cells #[.slice fa fs.length fc, .slice ga gs.length gc, .bool mem, .int .i64 pages, .int .i64 most, .int .i64 start] 32)).alloc (.cells #[.slice fa' fs.length fc', .slice ga' gs.length gc', .bool mem, .int .i64 pages, .int .i64 most, .int .i64 start] 32)) = W := ⟨_, rfl⟩
  have hb0 : Below w.heap.size w W0 := by rw [← hW0]; exact bel_alloc (bel_alloc (Below.refl _ _) _) _
  have hz0 : W0.heap.size = n + 1 + 1 := by rw [← hW0, ← hn]; simp
  have hx0 : W0.heap[n]? = some (.cells #[.slice fa fs.length fc, .slice ga gs.length gc, .bool mem, .int .i64 pages, .int .i64 most, .int .i64 start] 32 (0, 0)) := by
    rw [← hW0, ← hn]
    exact (Below.heap_alloc _ _ _ (by simp)).trans (heap_alloc_new _ _)
  have hy0 : W0.heap[n + 1]? = some (.cells #[.slice fa' fs.length fc', .slice ga' gs.length gc', .bool mem, .int .i64 pages, .int .i64 most, .int .i64 start] 32 (0, 0)) := by
    rw [← hW0, ← hn]
    have h := heap_alloc_new (w.alloc (.cells #[.slice fa fs.length fc, .slice ga gs.length gc, .bool mem, .int .i64 pages, .int .i64 most, .int .i64 start] 32)) (.cells #[.slice fa' fs.length fc', .slice ga' gs.length gc', .bool mem, .int .i64 pages, .int .i64 most, .int .i64 start] 32)
    simpa using h
  have T1 := eqFuns fa fa' fc fc' fs W0 (hM.out.1.below hb0) (hM'.out.1.below hb0) hs.out.2.2.1 (by have := hs.out.1; simp only at this; omega)
  have HB0 : Hid (Below w.heap.size w W0) := hb0
  rw [hW0, hn]
  clear hb0 hW0 hn
  refine T1.mono ?_
  rintro e w1 ⟨rfl, hb1⟩
  have hx1 := (hb1.block n (by omega)).trans hx0
  have hy1 := (hb1.block (n + 1) (by omega)).trans hy0
  have hz1 : n + 1 < w1.heap.size := by have := hb1.size; omega
  have HB1 : Hid (Below w.heap.size w w1) := bel_step HB0.out hb1
  clear T1 hb1 hx0 hy0 hz0 HB0
  have c1 := (cell_of_block hx1 1).trans rfl
  have d1 := (cell_of_block hy1 1).trans rfl
  go_wp2_with fail
  refine (eqGlos ga ga' gc gc' gs w1 (hM.out.2.below HB1.out) (hM'.out.2.below HB1.out) (by have := hs.out.2.1; simp only at this; omega)).mono ?_
  rintro e w2 ⟨rfl, hb2⟩
  have hx2 := (hb2.block n (by omega)).trans hx1
  have hy2 := (hb2.block (n + 1) (by omega)).trans hy1
  have HB2 : Hid (Below w.heap.size w w2) := bel_step HB1.out hb2
  clear hb2 hx1 hy1 hz1 HB1 c1 d1
  have c2 := (cell_of_block hx2 2).trans rfl
  have d2 := (cell_of_block hy2 2).trans rfl
  have c3 := (cell_of_block hx2 3).trans rfl
  have d3 := (cell_of_block hy2 3).trans rfl
  have c4 := (cell_of_block hx2 4).trans rfl
  have d4 := (cell_of_block hy2 4).trans rfl
  have c5 := (cell_of_block hx2 5).trans rfl
  have d5 := (cell_of_block hy2 5).trans rfl
  go_wp2
  go_ret
  exact ⟨rfl, HB2.out⟩

end Go.Proofs.Ytbliopgdkphoaaa

namespace Go.Proofs.Ytbliopgdkphoaaa
open Go.ChangeShapes Go.WideShapes Go.ChangeAt Go.RowKit Go.Deep

section
variable {H : Type} {enc : TypeId × Value → H} {P : Program} {w : World} {base : Nat} {spare : Nat → Bool} {held : Bool}
/-- A struct's fields of one cell each. -/
theorem trod_field {t : TypeId} {fs : Array Field} {fuel : Nat} {cs : List Value} {x : DataW H × List MemPlace} (ht : P.underlying t = some (.struct fs)) (hone : oneCellFields P fs = true) (hC : P.cellsOf t = fs.size)
    (h : DataW.trod enc P w base spare held fuel t cs = some x) : cs.length = fs.size ∧ ∀ (i : Nat) (f : Field), fs[i]? = some f → ∃ v y n, cs[i]? = some v ∧ DataW.trod enc P w base spare held n f.type [v] = some y := by
  obtain ⟨xs, n, _, _, hl, hlen, hf⟩ := DataW.trod_struct ht h
  refine ⟨hl.trans hC, fun i f hi => ?_⟩
  obtain ⟨o, k⟩ := hone_of hone i f hi
  have hlt : i < fs.size := by
    rcases Nat.lt_or_ge i fs.size with h' | h'
    · exact h'
    · rw [Array.getElem?_eq_none h'] at hi; simp at hi
  have h1 := hf i f hi
  rw [o, k] at h1
  have hcl : i < cs.length := by omega
  have e1 : (cs.drop i).take 1 = [cs[i]] := by
    rw [List.drop_eq_getElem_cons hcl]; rfl
  rw [e1, List.getElem?_eq_getElem (by omega)] at h1
  exact ⟨cs[i], _, n, List.getElem?_eq_getElem hcl, h1⟩
/-- A cell that holds a slice. -/
theorem trod_sliceV {t e : TypeId} {fuel : Nat} {v : Value} {x : DataW H × List MemPlace} (ht : P.underlying t = some (.slice e)) (h : DataW.trod enc P w base spare held fuel t [v] = some x) : ∃ a len cap, v = .slice a len cap := by
  rcases DataW.trod_slice ht h with ⟨h0, _⟩ | ⟨a, len, cap, _, _, _, _, h0, _⟩
  · simp at h0; exact ⟨none, 0, 0, h0⟩
  · simp at h0; exact ⟨some a, len, cap, h0⟩
end

theorem funCells : Try.prog.cellsOf 103 = 4 := by kernel_rfl
theorem gloCells : Try.prog.cellsOf 114 = 3 := by kernel_rfl
theorem modCells : Try.prog.cellsOf 25 = 6 := by kernel_rfl

/-- A func that comes in, at four cells. -/
theorem open_fun {H : Type} {enc : TypeId × Value → H} {W : World} {fuel : Nat} {cs : List Value} {x : DataW H × List MemPlace}
    (h : DataW.trod enc Try.prog W 0 (fun _ => true) true fuel 103 cs = some x) :
    ∃ f pa pc la lc ba bc, cs[0]? = some (.slice pa f.ps.length pc) ∧ cs[1]? = some (.int .i64 f.res) ∧ cs[2]? = some (.slice la f.ls.length lc) ∧ cs[3]? = some (.slice ba f.body.length bc) ∧ FunRows W pa la ba f ∧ okF f := by
  obtain ⟨_, hf⟩ := trod_field Try.underlying103 (by kernel_rfl) funCells h
  obtain ⟨v0, y0, n0, e0, h0⟩ := hf 0 _ rfl
  obtain ⟨v1, y1, n1, e1, h1⟩ := hf 1 _ rfl
  obtain ⟨v2, y2, n2, e2, h2⟩ := hf 2 _ rfl
  obtain ⟨v3, y3, n3, e3, h3⟩ := hf 3 _ rfl
  obtain ⟨pa, pl, pc, rfl⟩ := trod_sliceV Try.underlying72 h0
  obtain ⟨res, hr, _, _⟩ := DataW.trod_int Try.underlying3 h1
  obtain ⟨la, ll, lc, rfl⟩ := trod_sliceV Try.underlying72 h2
  obtain ⟨ba, bl, bc, rfl⟩ := trod_sliceV Try.underlying101 h3
  simp at hr
  subst hr
  obtain ⟨ps, rfl, hp, hpl, _⟩ := opened_ints (enc := enc) (W := W) (d := y0.1) (p := y0.2) ⟨n0, h0⟩
  obtain ⟨ls, rfl, hq, hql, _⟩ := opened_ints (enc := enc) (W := W) (d := y2.1) (p := y2.2) ⟨n2, h2⟩
  obtain ⟨body, rfl, b, off, hb, hi, hbl, hfit⟩ := open_inss (enc := enc) (W := W) (fuel := n3) (x := y3) h3
  exact ⟨⟨ps, res, ls, body⟩, pa, pc, la, lc, ba, bc, e0, e1, e2, e3, ⟨hp, hq, fun hn => ⟨b, off, (hb hn).1, (hb hn).2, hi⟩⟩, hpl, hql, hbl, hfit⟩
/-- A global that comes in, at three cells. -/
theorem open_glo {H : Type} {enc : TypeId × Value → H} {W : World} {fuel : Nat} {cs : List Value} {x : DataW H × List MemPlace}
    (h : DataW.trod enc Try.prog W 0 (fun _ => true) true fuel 114 cs = some x) :
    ∃ g : Glo7, cs[0]? = some (.int .i64 g.ty) ∧ cs[1]? = some (.bool g.fixed) ∧ cs[2]? = some (.int .u64 g.bits) ∧ okG g := by
  obtain ⟨_, hf⟩ := trod_field Try.underlying114 (by kernel_rfl) gloCells h
  obtain ⟨v0, y0, n0, e0, h0⟩ := hf 0 _ rfl
  obtain ⟨v1, y1, n1, e1, h1⟩ := hf 1 _ rfl
  obtain ⟨v2, y2, n2, e2, h2⟩ := hf 2 _ rfl
  obtain ⟨ty, hr0, _, _⟩ := DataW.trod_int Try.underlying3 h0
  obtain ⟨fx, hr1, _⟩ := DataW.trod_bool Try.underlying4 h1
  obtain ⟨bits, hr2, _, hw⟩ := DataW.trod_int Try.underlying77 h2
  simp at hr0 hr1 hr2
  subst hr0 hr1 hr2
  exact ⟨⟨ty, fx, bits⟩, e0, e1, e2, bounds_u64 hw⟩

theorem open_funs {H : Type} {enc : TypeId × Value → H} {W : World} {a : Option Addr} {len cap : Nat} {fuel : Nat} {x : DataW H × List MemPlace}
    (h : DataW.trod enc Try.prog W 0 (fun _ => true) true fuel 22 [.slice a len cap] = some x) : ∃ L : List Fun7, len = L.length ∧ Funs W a L ∧ L.length ≤ 9223372036854775807 ∧ ∀ f ∈ L, okF f := by
  rcases open_slice Try.underlying22 h with ⟨h0, _⟩ | ⟨ad, l, c, m, n, D, Pl, hcs, _, hl, hm, hmm, _, hx⟩
  · simp at h0
    obtain ⟨rfl, rfl, rfl⟩ := h0
    exact ⟨[], rfl, fun h => absurd rfl h, by simp, by simp⟩
  · simp at hcs
    obtain ⟨rfl, rfl, rfl⟩ := hcs
    unfold maxLen at hm
    have hm' : m = cap := by simpa using hmm
    subst hm'
    have each : ∀ i, i < m → ∃ f : Fun7, (∃ pa pc la lc ba bc, W.cell? (ad.add (i * 4)) = some (.slice pa f.ps.length pc) ∧ W.cell? (ad.add (i * 4 + 1)) = some (.int .i64 f.res) ∧ W.cell? (ad.add (i * 4 + 2)) = some (.slice la f.ls.length lc) ∧ W.cell? (ad.add (i * 4 + 3)) = some (.slice ba f.body.length bc) ∧ FunRows W pa la ba f) ∧ okF f := fun i hi => by
      obtain ⟨cs', h1, h2⟩ := hx i hi
      rw [funCells] at h1
      obtain ⟨_, hlen, hcell⟩ := World.cells?_some h1
      obtain ⟨f, pa, pc, la, lc, ba, bc, e0, e1, e2, e3, hr, hok⟩ := open_fun h2
      have c0 := hcell 0 (by omega)
      have c1 := hcell 1 (by omega)
      have c2 := hcell 2 (by omega)
      have c3 := hcell 3 (by omega)
      rw [add_add] at c0 c1 c2 c3
      exact ⟨f, ⟨pa, pc, la, lc, ba, bc, by rw [← e0]; simpa using c0, by rw [← e1]; exact c1, by rw [← e2]; exact c2, by rw [← e3]; exact c3, hr⟩, hok⟩
    have inh : Inhabited Fun7 := ⟨⟨[], 0, [], []⟩⟩
    obtain ⟨f, hf⟩ := choose_lt each
    refine ⟨(List.range len).map f, by simp, fun hn => ?_, by simp; omega, fun g hg => ?_⟩
    · have h0 : 0 < len := by
        rcases Nat.eq_zero_or_pos len with h | h
        · subst h; simp at hn
        · exact h
      obtain ⟨b, off, spot⟩ := ad
      obtain ⟨⟨_, _, _, _, _, _, hc0, _⟩, _⟩ := hf 0 (by omega)
      have hspot : spot = none := by simpa [Addr.add] using World.cell?_spot hc0
      subst hspot
      have hadd : ∀ j, (⟨b, off, none⟩ : Addr).add j = ⟨b, off + j, none⟩ := fun j => by rw [Addr.add_lit]
      refine ⟨b, off, rfl, block_of_cell (by rw [hadd] at hc0; exact hc0), fun i hi => ?_⟩
      have hi' : i < len := by simpa using hi
      obtain ⟨⟨pa, pc, la, lc, ba, bc, c0, c1, c2, c3, hr⟩, _⟩ := hf i (by omega)
      rw [hadd] at c0 c1 c2 c3
      simp only [List.getElem_map, List.getElem_range]
      exact ⟨pa, pc, la, lc, ba, bc, c0, c1, c2, c3, hr⟩
    · obtain ⟨i, hi, rfl⟩ := List.mem_map.1 hg
      exact (hf i (by have := List.mem_range.1 hi; omega)).2
theorem open_glos {H : Type} {enc : TypeId × Value → H} {W : World} {a : Option Addr} {len cap : Nat} {fuel : Nat} {x : DataW H × List MemPlace}
    (h : DataW.trod enc Try.prog W 0 (fun _ => true) true fuel 23 [.slice a len cap] = some x) : ∃ L : List Glo7, len = L.length ∧ Glos W a L ∧ L.length ≤ 9223372036854775807 ∧ ∀ f ∈ L, okG f := by
  rcases open_slice Try.underlying23 h with ⟨h0, _⟩ | ⟨ad, l, c, m, n, D, Pl, hcs, _, hl, hm, hmm, _, hx⟩
  · simp at h0
    obtain ⟨rfl, rfl, rfl⟩ := h0
    exact ⟨[], rfl, fun h => absurd rfl h, by simp, by simp⟩
  · simp at hcs
    obtain ⟨rfl, rfl, rfl⟩ := hcs
    unfold maxLen at hm
    have hm' : m = cap := by simpa using hmm
    subst hm'
    have each : ∀ i, i < m → ∃ f : Glo7, (W.cell? (ad.add (i * 3)) = some (.int .i64 f.ty) ∧ W.cell? (ad.add (i * 3 + 1)) = some (.bool f.fixed) ∧ W.cell? (ad.add (i * 3 + 2)) = some (.int .u64 f.bits)) ∧ okG f := fun i hi => by
      obtain ⟨cs', h1, h2⟩ := hx i hi
      rw [gloCells] at h1
      obtain ⟨_, hlen, hcell⟩ := World.cells?_some h1
      obtain ⟨f, e0, e1, e2, hok⟩ := open_glo h2
      have c0 := hcell 0 (by omega)
      have c1 := hcell 1 (by omega)
      have c2 := hcell 2 (by omega)
      rw [add_add] at c0 c1 c2
      exact ⟨f, ⟨by rw [← e0]; simpa using c0, by rw [← e1]; exact c1, by rw [← e2]; exact c2⟩, hok⟩
    have inh : Inhabited Glo7 := ⟨⟨0, false, 0⟩⟩
    obtain ⟨f, hf⟩ := choose_lt each
    refine ⟨(List.range len).map f, by simp, fun hn => ?_, by simp; omega, fun g hg => ?_⟩
    · have h0 : 0 < len := by
        rcases Nat.eq_zero_or_pos len with h | h
        · subst h; simp at hn
        · exact h
      obtain ⟨b, off, spot⟩ := ad
      obtain ⟨⟨hc0, _⟩, _⟩ := hf 0 (by omega)
      have hspot : spot = none := by simpa [Addr.add] using World.cell?_spot hc0
      subst hspot
      have hadd : ∀ j, (⟨b, off, none⟩ : Addr).add j = ⟨b, off + j, none⟩ := fun j => by rw [Addr.add_lit]
      refine ⟨b, off, rfl, block_of_cell (by rw [hadd] at hc0; exact hc0), fun i hi => ?_⟩
      have hi' : i < len := by simpa using hi
      obtain ⟨⟨c0, c1, c2⟩, _⟩ := hf i (by omega)
      rw [hadd] at c0 c1 c2
      simp only [List.getElem_map, List.getElem_range]
      exact ⟨c0, c1, c2⟩
    · obtain ⟨i, hi, rfl⟩ := List.mem_map.1 hg
      exact (hf i (by have := List.mem_range.1 hi; omega)).2

theorem list6 {α : Type} {cs : List α} (h : cs.length = 6) : ∃ c0 c1 c2 c3 c4 c5, cs = [c0, c1, c2, c3, c4, c5] := by
  match cs, h with
  | [c0, c1, c2, c3, c4, c5], _ => exact ⟨c0, c1, c2, c3, c4, c5, rfl⟩
def IsMod (W : World) (l : Loc7) (M : Mod7) : Prop := ModAt W l M ∧ okM M ∧ (-9223372036854775808 ≤ M.start ∧ M.start ≤ 9223372036854775807)

set_option maxRecDepth 100000 in
/-- A module that comes in. -/
theorem open_mod {H : Type} {enc : TypeId × Value → H} {W : World} {b0 : Nat} {v : Value} {d : DataW H} {p : List MemPlace} (hv : Value.okWide Try.prog W .any b0 25 v)
    (h : DataW.Trod enc Try.prog W 0 (fun _ => true) true 25 v d p) : ∃ l M, v = modV l M ∧ IsMod W l M := by
  obtain ⟨⟨cs⟩, rfl, hsz⟩ := okWide_struct Try.underlying25 hv
  rw [modCells] at hsz
  obtain ⟨c0, c1, c2, c3, c4, c5, rfl⟩ := list6 (by simpa using hsz)
  obtain ⟨fuel, hf⟩ := h
  obtain ⟨_, hf⟩ := trod_field Try.underlying25 (by kernel_rfl) modCells hf
  obtain ⟨v0, y0, n0, e0, h0⟩ := hf 0 _ rfl
  obtain ⟨v1, y1, n1, e1, h1⟩ := hf 1 _ rfl
  obtain ⟨v2, y2, n2, e2, h2⟩ := hf 2 _ rfl
  obtain ⟨v3, y3, n3, e3, h3⟩ := hf 3 _ rfl
  obtain ⟨v4, y4, n4, e4, h4⟩ := hf 4 _ rfl
  obtain ⟨v5, y5, n5, e5, h5⟩ := hf 5 _ rfl
  simp [Value.cells] at e0 e1 e2 e3 e4 e5
  subst e0 e1 e2 e3 e4 e5
  obtain ⟨fa, fl, fc, rfl⟩ := trod_sliceV Try.underlying22 h0
  obtain ⟨ga, gl, gc, rfl⟩ := trod_sliceV Try.underlying23 h1
  obtain ⟨mem, r2, _⟩ := DataW.trod_bool Try.underlying4 h2
  obtain ⟨pages, r3, _, _⟩ := DataW.trod_int Try.underlying3 h3
  obtain ⟨most, r4, _, _⟩ := DataW.trod_int Try.underlying3 h4
  obtain ⟨start, r5, _, hw⟩ := DataW.trod_int Try.underlying3 h5
  simp at r2 r3 r4 r5
  subst r2 r3 r4 r5
  obtain ⟨fs, rfl, hF, hFl, hFo⟩ := open_funs h0
  obtain ⟨gs, rfl, hG, hGl, hGo⟩ := open_glos h1
  exact ⟨⟨fa, fc, ga, gc⟩, ⟨fs, gs, mem, pages, most, start⟩, rfl, ⟨hF, hG⟩, ⟨hFl, hGl, hFo, hGo⟩, bounds_i64 hw⟩

end Go.Proofs.Ytbliopgdkphoaaa
