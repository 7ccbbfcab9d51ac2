/-
  The cursor draws texts and places.
-/
import Derived.Test.YtnimlkobcginjaaCurW
import Derived.Test.YtnimlkobcginjaaMMade
namespace Go.Proofs.Ytnimlkobcginjaa
open Go.ChangeShapes Go.WideShapes Go.ChangeAt Go.RowKit

theorem Cur.other {w : World} {g : Nat} {a : Option Addr} {n cap B m : Nat} (C : Cur w g a n cap B m) (z j : Nat) (v : Value) (hz : z ≠ g) (hB : B ≤ z) : Cur (w.setCell ⟨z, j, none⟩ v) g a n cap B m := by
  obtain ⟨t, t0, t1, c1⟩ := C.at_
  obtain ⟨s, s0, s1, c2⟩ := C.seed
  have ne : ∀ i, (⟨z, j, none⟩ : Addr) ≠ ⟨g, i, none⟩ := fun i e => hz (congrArg Addr.block e)
  refine ⟨?_, ⟨t, t0, t1, ?_⟩, ⟨s, s0, s1, ?_⟩, C.bys.below ((Below.refl B w).setCell (p := ⟨z, j, none⟩) hB _), C.hg, by simpa using C.lt, fun i => by simpa using C.fr i⟩
  · rw [World.cell?_setCell_other _ _ _ _ (ne 0)]; exact C.code
  · rw [World.cell?_setCell_other _ _ _ _ (ne 1)]; exact c1
  · rw [World.cell?_setCell_other _ _ _ _ (ne 2)]; exact c2
theorem Aft.other {B g : Nat} {w w' : World} (h : Aft B g w w') (z j : Nat) (v : Value) (hz : w.heap.size ≤ z) (hB : B ≤ z) : Aft B g w (w'.setCell ⟨z, j, none⟩ v) :=
  ⟨h.below.setCell (p := ⟨z, j, none⟩) hB _, by simpa using h.size, fun b hb hl => by
    rw [heap_setCell_other _ _ _ _ (show b ≠ z by omega)]
    exact h.blk b hb hl⟩
/-- A row of bytes, whatever they are. -/
def byteRow (arr : Array Value) : Prop := ∀ i (h : i < arr.size), ∃ b : UInt8, arr[i] = .int .u8 (b.toNat : Int)
theorem byteRow_set (arr : Array Value) (h : byteRow arr) (j : Nat) (b : UInt8) : byteRow (arr.setIfInBounds j (.int .u8 (b.toNat : Int))) := fun i hi => by
  have hi' : i < arr.size := by simpa using hi
  by_cases e : j = i
  · subst e; exact ⟨b, by simp⟩
  · obtain ⟨c, hc⟩ := h i hi'
    exact ⟨c, by rw [Array.getElem_setIfInBounds_ne hi' e]; exact hc⟩
theorem byteRow_zero (k : Nat) : byteRow (madeCells (Value.int .u8 0).cells k) := fun i hi => by
  have hs : i < k := by simpa [madeCells] using hi
  refine ⟨0, ?_⟩
  have h := made_cell k i hs
  rw [Array.getElem?_eq_getElem hi] at h
  simpa using h
theorem byteRow_told {w : World} {z k : Nat} {arr : Array Value} (hb : w.heap[z]? = some (.cells arr 5 (0, 0))) (hs : arr.size = k) (h : byteRow arr) : ∃ s : ByteArray, s.size = k ∧ (convert 22 9 (.slice (some ⟨z, 0, none⟩) k k)).run Try.prog w = .ok (.string s) w := by
  have hx : ∀ i, ∃ b : UInt8, ∀ hi : i < arr.size, arr[i] = .int .u8 (b.toNat : Int) := fun i => by
    by_cases hi : i < arr.size
    · obtain ⟨b, hb⟩ := h i hi; exact ⟨b, fun _ => hb⟩
    · exact ⟨0, fun h => absurd h hi⟩
  obtain ⟨f, hf⟩ : ∃ f : Nat → UInt8, ∀ i (hi : i < arr.size), arr[i] = .int .u8 ((f i).toNat : Int) := ⟨fun i => (hx i).choose, fun i hi => (hx i).choose_spec hi⟩
  have H := run_convert_bytes_back (P := Try.prog) w 22 9 5 ⟨z, 0, none⟩ k ((List.range k).map f) Try.underlying22 Try.underlying5 Try.underlying9 (fun j hj => by
    have hj' : j < k := by simpa using hj
    rw [Addr.add_lit, Nat.zero_add]
    simp only [List.getElem_map, List.getElem_range]
    rw [← hf j (by omega)]
    simp [World.cell?, hb, Array.getElem?_eq_getElem (show j < arr.size by omega)])
  simp only [List.length_map, List.length_range] at H
  exact ⟨_, by simp [ByteArray.size], H⟩
def byteOf (r : Int) : UInt8 := UInt8.ofNat (r % 256).toNat
theorem byteOf_int (r : Int) : ((byteOf r).toNat : Int) = r % 256 := by unfold byteOf; rw [UInt8.toNat_ofNat']; omega
theorem w64t (k : Nat) (h : k ≤ 400) : wrap64 ((k : Int) + 1) = (k : Int) + 1 := by unfold wrap64; omega

set_option maxRecDepth 100000 in
set_option maxHeartbeats 1000000 in
theorem curText (k : Nat) (hk : k ≤ 100) (g : Nat) (a : Option Addr) (n cap B m : Nat) (hm : Hid (m ≤ 800000)) (w : World) (C : Cur w g a n cap B m) :
    Calls Try.prog 59 #[.pointer (some ⟨g, 0, none⟩), .int .i64 (k : Int)] w fun e w' => ∃ s : ByteArray, s.size = k ∧ e = .returned (.string s) ∧ Cur w' g a n cap B (m + 2 * k) ∧ Aft B g w w' := by
  have hmk := madeU8 k (by omega)
  have hCl := C.lt
  have hCg := C.hg
  obtain ⟨z, hz⟩ : ∃ z, w.heap.size = z := ⟨_, rfl⟩
  have HC0 : Hid (Cur (w.alloc (.cells (madeCells (Value.int .u8 0).cells k) 5)) g a n cap B m) := C.alloc _
  have HA0 : Hid (Aft B g w (w.alloc (.cells (madeCells (Value.int .u8 0).cells k) 5))) := Aft.alloc (by omega) _
  have HB0 : Hid ((w.alloc (.cells (madeCells (Value.int .u8 0).cells k) 5)).heap[z]? = some (.cells (madeCells (Value.int .u8 0).cells k) 5 (0, 0))) := by unfold Hid; rw [← hz]; exact heap_alloc_new _ _
  have HS0 : Hid ((madeCells (Value.int .u8 0).cells k).size = k) := by simp [Hid, madeCells]
  clear C
  go_enter Try.func59, Try.ntmps59
  go_wp2
  clear hmk
  go_loopw [11] (fun i wr => ∃ (j : Nat) (arr : Array Value), j ≤ k ∧ i = .int .i64 (j : Int) ∧ wr.heap[z]? = some (.cells arr 5 (0, 0)) ∧ arr.size = k ∧ Hid (byteRow arr) ∧ Hid (Cur wr g a n cap B (m + 2 * j)) ∧ Hid (Aft B g w wr)) (fun i _ => k - (intOf i).toNat)
  case atStart => exact ⟨0, _, by omega, rfl, HB0.out, HS0.out, byteRow_zero k, HC0.out, HA0.out⟩
  case round =>
    clear HC0 HA0 HB0 HS0
    obtain ⟨j, arr, hj, rfl, hblk, hars, hrow, hC, hA⟩ := hrel
    by_cases hlt : j < k
    · have HP := curPick 256 (by omega) (by omega) g a n cap B (m + 2 * j) (hid_le (by have := hm.out; omega)) wr hC.out
      have HBK : Hid (wr.heap[z]? = some (.cells arr 5 (0, 0))) := hblk
      have hji : (j : Int) < k := by omega
      clear hblk
      go_wp2_with fail
      refine HP.mono ?_
      rintro e w1 ⟨r, r0, r1, rfl, C1, B1⟩
      have hzl : z < wr.heap.size := lt_of_block HBK.out
      have hzg : z ≠ g := by omega
      have hbk1 : w1.heap[z]? = some (.cells arr 5 (0, 0)) := (B1.blk z hzg hzl).trans HBK.out
      obtain ⟨u, hu⟩ : ∃ u, arr[j]? = some u := ⟨_, Array.getElem?_eq_getElem (by omega)⟩
      have d0 : w1.cell? ⟨z, j, none⟩ = some u := by simp [World.cell?, hbk1, hu]
      have f0 : w1.frozen? ⟨z, j, none⟩ = false := by simp [World.frozen?, hbk1]
      have HBK1 : Hid (w1.heap[z]? = some (.cells arr 5 (0, 0))) := hbk1
      have HC1 : Hid (Cur w1 g a n cap B (m + 2 * j + 2)) := C1
      have HA1 : Hid (Aft B g w w1) := hA.out.trans B1
      have hzB : B ≤ z := by omega
      have hzw : w.heap.size ≤ z := by omega
      have hbt : ((byteOf r).toNat : Int) = r := by rw [byteOf_int]; omega
      clear hbk1 C1 B1 HP
      have hj4 : j ≤ 400 := by omega
      have HRR : Hid (0 ≤ r ∧ r < 256) := ⟨r0, r1⟩
      have hr6 : r % 256 = r := by omega
      clear r0 r1
      have hwj := w64t j hj4
      go_wp2
      go_roundw
      case rel =>
        try rw [hwj]
        clear hwj
        refine ⟨j + 1, arr.setIfInBounds j (.int .u8 ((byteOf r).toNat : Int)), by omega, by go_num, ?_, by simpa using hars, byteRow_set arr hrow.out j _, ?_, ?_⟩
        · rw [hbt]; exact heap_setCell_same _ _ _ _ _ _ HBK1.out
        · rw [show m + 2 * (j + 1) = m + 2 * j + 2 by omega]; exact HC1.out.other z j _ hzg hzB
        · exact HA1.out.other z j _ hzw hzB
      case measure => (try rw [hwj]); clear hwj; simp [intOf]; omega
    · obtain ⟨s, hs, hcv⟩ := byteRow_told hblk hars hrow.out
      obtain rfl : j = k := by omega
      go_wp2
      go_ret
      exact ⟨s, hs, rfl, hC.out, hA.out⟩

end Go.Proofs.Ytnimlkobcginjaa
