/-
  A module is copied: globals, and all of it.
-/
import Derived.Test.YtbliopgdkphoaaaGModTo
namespace Go.Proofs.Ytbliopgdkphoaaa
open Go.ChangeShapes Go.WideShapes Go.ChangeAt Go.RowKit

set_option maxRecDepth 100000 in
set_option maxHeartbeats 800000 in
theorem toGlo1 (ty : Int) (fixed : Bool) (bits : Int) (w : World) :
    Calls Try.prog 67 #[.agg #[.int .i64 ty, .bool fixed, .int .u64 bits]] w fun e w' => e = .returned (.agg #[.int .i64 ty, .bool fixed, .int .u64 bits]) ∧ Below w.heap.size w w' := by
  go_enter Try.func67, Try.ntmps67
  go_wp2
  exact bodyPost_ret (v := .agg #[.int .i64 ty, .bool fixed, .int .u64 bits]) (by simp [results, Try.results67, go_sem]) rfl ⟨rfl, by (repeat (first | refine Below.alloc ?_ (by first | (simp; done) | (simp; omega)) _ | refine Below.setCell ?_ (by first | (simp; done) | (simp; omega)) _ | refine bel_dN ?_ _ | refine Below.drew ?_ | exact Below.refl _ _))⟩

def GloLaid (arr : Array Value) (L : List Glo7) (k : Nat) : Prop :=
  ∀ j (h : j < L.length), j < k → arr[j * 3]? = some (.int .i64 L[j].ty) ∧ arr[j * 3 + 1]? = some (.bool L[j].fixed) ∧ arr[j * 3 + 2]? = some (.int .u64 L[j].bits)
theorem GloLaid.more {arr A : Array Value} {L : List Glo7} {k : Nat} (h : GloLaid arr L k) (hk : k < L.length)
    (hA : A[k * 3]? = some (.int .i64 L[k].ty) ∧ A[k * 3 + 1]? = some (.bool L[k].fixed) ∧ A[k * 3 + 2]? = some (.int .u64 L[k].bits) ∧ ∀ j, j < k * 3 → A[j]? = arr[j]?) : GloLaid A L (k + 1) := fun j hj hjk => by
  by_cases e : j = k
  · subst e
    exact ⟨hA.1, hA.2.1, hA.2.2.1⟩
  · obtain ⟨h0, h1, h2⟩ := h j hj (by omega)
    have K := hA.2.2.2
    exact ⟨(K _ (by omega)).trans h0, (K _ (by omega)).trans h1, (K _ (by omega)).trans h2⟩

set_option maxRecDepth 100000 in
set_option maxHeartbeats 1600000 in
theorem toGlos (a : Option Addr) (cap : Nat) (L : List Glo7) (w : World) (hF : Hid (Glos w a L)) (hlen : L.length ≤ 1048576) :
    Calls Try.prog 35 #[.slice a L.length cap] w fun e w' => e = .returned (.slice (some ⟨w.heap.size, 0, none⟩) L.length L.length) ∧ w.heap.size < w'.heap.size ∧ Glos w' (some ⟨w.heap.size, 0, none⟩) L ∧ Below w.heap.size w w' := by
  obtain ⟨i0, hi, hz0, hz1, hz2⟩ := info_parts Try.info79
  obtain ⟨M, hM⟩ : ∃ M, M = madeCells (Value.agg #[.int .i64 0, .bool false, .int .u64 0]).cells (((L.length : Nat) : Int).toNat * i0.size) := ⟨_, rfl⟩
  have hMs : M.size = L.length * 3 := by rw [hM, size_madeCells, hz1]; simp
  have hmk : ∀ W : World, (Instr.makeSlice 30 (.int .i64 (L.length : Int)) (.int .i64 (L.length : Int))).run Try.prog W = .ok (.slice (some ⟨W.heap.size, 0, none⟩) L.length L.length) (W.alloc (.cells M 79)) := fun W => by
    have h := run_make (P := Try.prog) W 30 79 i0 _ Try.underlying30 hi hz0 .i64 .i64 (L.length : Int) (L.length : Int) (by omega) (by omega) (by rw [hz2]; omega) (by omega)
    rw [← hM] at h
    simpa using h
  clear hM
  go_enter Try.func35, Try.ntmps35
  go_wp2
  go_loopw [4] (fun i wr => ∃ (k : Nat) (arr : Array Value), k ≤ L.length ∧ i = .int .i64 k ∧ wr.heap[w.heap.size]? = some (.cells arr 79 (0, 0)) ∧ arr.size = L.length * 3 ∧ Hid (GloLaid arr L k) ∧ Below w.heap.size w wr) (fun i _ => L.length - (intOf i).toNat)
  case atStart => exact ⟨0, M, by omega, rfl, heap_alloc_new _ _, hMs, fun j _ h => absurd h (by omega), (Below.refl _ _).alloc (Nat.le_refl _) _⟩
  case round =>
    clear hmk hMs
    obtain ⟨k, arr, hk, rfl, harr, hsz, hA, hnx⟩ := hrel
    have hgl := lt_of_block harr
    by_cases hlt : k < L.length
    · obtain ⟨b, off, rfl, hb, hc⟩ := hF.out.at k hlt
      obtain ⟨c0, c1, c2⟩ := hc
      obtain ⟨f, hf⟩ : ∃ f, L[k] = f := ⟨_, rfl⟩
      rw [hf] at c0 c1 c2
      have HF : Hid (L[k] = f) := hf
      clear hf
      have d0 : wr.cell? ⟨b, off + k * 3, none⟩ = some (.int .i64 f.ty) := (hnx.cell (by exact hb)).trans c0
      have d1 : wr.cell? ⟨b, off + k * 3 + 1, none⟩ = some (.bool f.fixed) := (hnx.cell (by exact hb)).trans c1
      have d2 : wr.cell? ⟨b, off + k * 3 + 2, none⟩ = some (.int .u64 f.bits) := (hnx.cell (by exact hb)).trans c2
      have HS : Hid (arr.size = L.length * 3) := hsz
      obtain ⟨o0, ho0⟩ : ∃ o, arr[k * 3]? = some o := ⟨_, Array.getElem?_eq_getElem (by omega)⟩
      obtain ⟨o1, ho1⟩ : ∃ o, arr[k * 3 + 1]? = some o := ⟨_, Array.getElem?_eq_getElem (by omega)⟩
      obtain ⟨o2, ho2⟩ : ∃ o, arr[k * 3 + 2]? = some o := ⟨_, Array.getElem?_eq_getElem (by omega)⟩
      clear hsz c0 c1 c2
      go_wp2_with fail
      refine (toGlo1 f.ty f.fixed f.bits wr).mono ?_
      rintro e w1 ⟨rfl, hb1⟩
      have harr1 := (hb1.block _ hgl).trans harr
      have e0 := (cell_of_block harr1 (k * 3)).trans ho0
      have e1 := (cell_of_block harr1 (k * 3 + 1)).trans ho1
      have e2 := (cell_of_block harr1 (k * 3 + 2)).trans ho2
      have f0 := free_of_block harr1 (k * 3)
      have f1 := free_of_block harr1 (k * 3 + 1)
      have f2 := free_of_block harr1 (k * 3 + 2)
      have HB : Hid (Below w.heap.size w w1) := below2 hnx hb1
      clear hb1 harr d0 d1 d2 hF
      go_wp2
      go_roundw
      case rel =>
        have hA2 := put3_at arr k (by have := HS.out; omega) (.int .i64 f.ty) (.bool f.fixed) (.int .u64 f.bits) _ rfl
        have HF2 := HF.out
        refine ⟨k + 1, _, by omega, by go_num, heap_setCell_same _ _ _ _ _ _ (heap_setCell_same _ _ _ _ _ _ (heap_setCell_same _ _ _ _ _ _ harr1)), by simpa using HS.out, ?_, ((HB.out.setCell (Nat.le_refl _) _).setCell (Nat.le_refl _) _).setCell (Nat.le_refl _) _⟩
        exact hA.out.more hlt (by rw [HF2]; exact hA2)
      case measure => simp [intOf]; omega
    · go_wp2
      go_ret
      refine ⟨rfl, hgl, fun _ => ⟨w.heap.size, 0, rfl, hgl, fun j hj => ?_⟩, hnx⟩
      obtain ⟨h0, h1, h2⟩ := hA.out j hj (by omega)
      rw [Nat.zero_add]
      exact ⟨(cell_of_block harr _).trans h0, (cell_of_block harr _).trans h1, (cell_of_block harr _).trans h2⟩

theorem Glos.set {w : World} {L : List Glo7} {g : Nat} (h : Glos w (some ⟨g, 0, none⟩) L) {m : Nat} (hm : g ≠ m) (i : Nat) (v : Value) : Glos (w.setCell ⟨m, i, none⟩ v) (some ⟨g, 0, none⟩) L := fun hn => by
  obtain ⟨b, off, ha, hl, hc⟩ := h hn
  have hbm : b ≠ m := by simp at ha; omega
  refine ⟨b, off, ha, by simpa using hl, fun j hj => ?_⟩
  obtain ⟨h0, h1, h2⟩ := hc j hj
  exact ⟨(setCell_other_cell _ _ _ _ _ _ hbm).trans h0, (setCell_other_cell _ _ _ _ _ _ hbm).trans h1, (setCell_other_cell _ _ _ _ _ _ hbm).trans h2⟩

set_option maxRecDepth 100000 in
set_option maxHeartbeats 3200000 in
theorem toMod (l : Loc7) (M : Mod7) (w : World) (hM : Hid (ModAt w l M)) (hs : Hid (smM M)) :
    Calls Try.prog 11 #[modV l M] w fun e w' => ∃ l', e = .returned (modV l' M) ∧ Hid (ModAt w' l' M) ∧ Below w.heap.size w w' := by
  obtain ⟨fa, fc, ga, gc⟩ := l
  obtain ⟨fs, gs, mem, pages, most, start⟩ := M
  unfold modV
  simp only
  go_enter Try.func11, Try.ntmps11
  go_wp2_with fail
  obtain ⟨n, hn⟩ : ∃ n, w.heap.size = n := ⟨_, rfl⟩
  obtain ⟨W0, hW0⟩ : ∃ W, (((w.alloc (.cells #[.slice fa fs.length fc, .slice ga gs.length gc, .bool mem, .int .i64 pages, .int .i64 most, .int .i64 start] 25)).alloc (.cells #[.slice none 0 0, .slice none 0 0, .bool false, .int .i64 0, .int .i64 0, .int .i64 0] 32)).alloc (.cells #[.slice none 0 0, .slice none 0 0, .bool false, .int .i64 0, .int .i64 0, .int .i64 0] 32)) = W := ⟨_, rfl⟩
  have hb0 : Below w.heap.size w W0 := by rw [← hW0]; exact bel_alloc (bel_alloc (bel_alloc (Below.refl _ _) _) _) _
  have hz0 : W0.heap.size = n + 1 + 1 + 1 := by rw [← hW0, ← hn]; simp
  have hx0 : W0.heap[n]? = some (.cells #[.slice fa fs.length fc, .slice ga gs.length gc, .bool mem, .int .i64 pages, .int .i64 most, .int .i64 start] 25 (0, 0)) := by
    rw [← hW0, ← hn]
    exact ((Below.heap_alloc _ _ _ (by simp; omega)).trans (Below.heap_alloc _ _ _ (by simp))).trans (heap_alloc_new _ _)
  have hr0 : W0.heap[n + 1]? = some (.cells #[.slice none 0 0, .slice none 0 0, .bool false, .int .i64 0, .int .i64 0, .int .i64 0] 32 (0, 0)) := by
    rw [← hW0, ← hn]
    have h := heap_alloc_new (w.alloc (.cells #[.slice fa fs.length fc, .slice ga gs.length gc, .bool mem, .int .i64 pages, .int .i64 most, .int .i64 start] 25)) (.cells #[.slice none 0 0, .slice none 0 0, .bool false, .int .i64 0, .int .i64 0, .int .i64 0] 32)
    exact (Below.heap_alloc _ _ _ (by simp)).trans (by simpa using h)
  have hg0 : W0.heap[n + 1 + 1]? = some (.cells #[.slice none 0 0, .slice none 0 0, .bool false, .int .i64 0, .int .i64 0, .int .i64 0] 32 (0, 0)) := by
    rw [← hW0, ← hn]
    have h := heap_alloc_new ((w.alloc (.cells #[.slice fa fs.length fc, .slice ga gs.length gc, .bool mem, .int .i64 pages, .int .i64 most, .int .i64 start] 25)).alloc (.cells #[.slice none 0 0, .slice none 0 0, .bool false, .int .i64 0, .int .i64 0, .int .i64 0] 32)) (.cells #[.slice none 0 0, .slice none 0 0, .bool false, .int .i64 0, .int .i64 0, .int .i64 0] 32)
    simpa using h
  have T1 := toFuns fa fc fs W0 (hM.out.1.below hb0) hs.out.2.2.1 hs.out.1
  have HB0 : Hid (Below w.heap.size w W0) := hb0
  have HN : Hid (w.heap.size = n) := hn
  rw [hW0, hn]
  rw [hz0] at T1
  clear hb0 hW0 hn
  refine T1.mono ?_
  rintro e w1 ⟨rfl, hl1, hI1, hb1⟩
  have hx1 := (hb1.block n (by omega)).trans hx0
  have hg1 := (hb1.block (n + 1 + 1) (by omega)).trans hg0
  have hr1 := (hb1.block (n + 1) (by omega)).trans hr0
  have HB1 : Hid (Below w.heap.size w w1) := HB0.out.trans (hb1.mono (by have := HB0.out.size; omega))
  have HI1 : Hid (FunsA (n + 1 + 1 + 1) w1 (some ⟨n + 1 + 1 + 1, 0, none⟩) fs) := hI1
  clear T1 hb1 hx0 hg0 hr0 hz0 HB0 hI1
  have c1 := (cell_of_block hx1 1).trans rfl
  have d0 := (cell_of_block hg1 0).trans rfl
  have f0 := free_of_block hg1 0
  go_wp2_with fail
  obtain ⟨W2, hW2⟩ : ∃ W, w1.setCell ⟨n + 1 + 1, 0, none⟩ (.slice (some ⟨n + 1 + 1 + 1, 0, none⟩) fs.length fs.length) = W := ⟨_, rfl⟩
  obtain ⟨z2, hz2⟩ : ∃ z, W2.heap.size = z := ⟨_, rfl⟩
  have hzz : n + 1 + 1 + 1 < z2 := by rw [← hz2, ← hW2]; simpa using hl1
  have hle : w.heap.size ≤ n + 1 + 1 := by have := HN.out; omega
  have hx2 : W2.heap[n]? = some (.cells #[.slice fa fs.length fc, .slice ga gs.length gc, .bool mem, .int .i64 pages, .int .i64 most, .int .i64 start] 25 (0, 0)) := by
    rw [← hW2]; exact (heap_setCell_other _ ⟨n + 1 + 1, 0, none⟩ n _ (show n ≠ n + 1 + 1 by omega)).trans hx1
  have hr2 : W2.heap[n + 1]? = some (.cells #[.slice none 0 0, .slice none 0 0, .bool false, .int .i64 0, .int .i64 0, .int .i64 0] 32 (0, 0)) := by
    rw [← hW2]; exact (heap_setCell_other _ ⟨n + 1 + 1, 0, none⟩ (n + 1) _ (show n + 1 ≠ n + 1 + 1 by omega)).trans hr1
  have hg2 : W2.heap[n + 1 + 1]? = some (.cells #[.slice (some ⟨n + 1 + 1 + 1, 0, none⟩) fs.length fs.length, .slice none 0 0, .bool false, .int .i64 0, .int .i64 0, .int .i64 0] 32 (0, 0)) := by
    rw [← hW2]; exact heap_setCell_same _ _ _ _ _ _ hg1
  have HB2 : Hid (Below w.heap.size w W2) := by unfold Hid; rw [← hW2]; exact HB1.out.setCell hle _
  have HI2 : Hid (FunsA (n + 1 + 1 + 1) W2 (some ⟨n + 1 + 1 + 1, 0, none⟩) fs) := by unfold Hid; rw [← hW2]; exact HI1.out.set (by omega) _ _
  have T2 := toGlos ga gc gs W2 (hM.out.2.below HB2.out) hs.out.2.1
  rw [hz2] at T2
  rw [hW2]
  clear hW2 HB1 HI1 hx1 hg1 hr1 c1 d0 f0
  refine T2.mono ?_
  rintro e w3 ⟨rfl, hl3, hI3, hb3⟩
  have hx3 := (hb3.block n (by omega)).trans hx2
  have hg3 := (hb3.block (n + 1 + 1) (by omega)).trans hg2
  have hr3 := (hb3.block (n + 1) (by omega)).trans hr2
  have HB3 : Hid (Below w.heap.size w w3) := HB2.out.trans (hb3.mono (by have := HB2.out.size; omega))
  have HI3 : Hid (FunsA (n + 1 + 1 + 1) w3 (some ⟨n + 1 + 1 + 1, 0, none⟩) fs) := HI2.out.below (by rw [hz2]; exact hb3)
  have HJ3 : Hid (Glos w3 (some ⟨z2, 0, none⟩) gs) := hI3
  clear T2 hb3 hx2 hg2 hr2 HB2 HI2 hI3 hz2
  have x2 := (cell_of_block hx3 2).trans rfl
  have x3 := (cell_of_block hx3 3).trans rfl
  have x4 := (cell_of_block hx3 4).trans rfl
  have x5 := (cell_of_block hx3 5).trans rfl
  have g0 := (cell_of_block hg3 0).trans rfl
  have g1 := (cell_of_block hg3 1).trans rfl
  have g2 := (cell_of_block hg3 2).trans rfl
  have g3 := (cell_of_block hg3 3).trans rfl
  have g4 := (cell_of_block hg3 4).trans rfl
  have g5 := (cell_of_block hg3 5).trans rfl
  have f1 := free_of_block hg3 1
  have f2 := free_of_block hg3 2
  have f3 := free_of_block hg3 3
  have f4 := free_of_block hg3 4
  have f5 := free_of_block hg3 5
  have q0 := (cell_of_block hr3 0).trans rfl
  have q1 := (cell_of_block hr3 1).trans rfl
  have q2 := (cell_of_block hr3 2).trans rfl
  have q3 := (cell_of_block hr3 3).trans rfl
  have q4 := (cell_of_block hr3 4).trans rfl
  have q5 := (cell_of_block hr3 5).trans rfl
  have k0 := free_of_block hr3 0
  have k1 := free_of_block hr3 1
  have k2 := free_of_block hr3 2
  have k3 := free_of_block hr3 3
  have k4 := free_of_block hr3 4
  have k5 := free_of_block hr3 5
  go_wp2
  have hle2 : w.heap.size ≤ n + 1 := by have := HN.out; omega
  refine bodyPost_ret (v := .agg #[.slice (some ⟨n + 1 + 1 + 1, 0, none⟩) fs.length fs.length, .slice (some ⟨z2, 0, none⟩) gs.length gs.length, .bool mem, .int .i64 pages, .int .i64 most, .int .i64 start]) (by simp [results, Try.results11, go_sem, q0, q1, q2, q3, q4, q5]) rfl ⟨⟨some ⟨n + 1 + 1 + 1, 0, none⟩, fs.length, some ⟨z2, 0, none⟩, gs.length⟩, rfl, ⟨?_, ?_⟩, ?_⟩
  · refine FunsA.funs (n := n + 1 + 1 + 1) ?_
    repeat refine FunsA.set ?_ (by omega) _ _
    exact HI3.out
  · repeat refine Glos.set ?_ (by omega) _ _
    exact HJ3.out
  · repeat (first | refine Below.setCell ?_ hle _ | refine Below.setCell ?_ hle2 _)
    exact HB3.out

end Go.Proofs.Ytbliopgdkphoaaa
