/-
  The cursor draws memories.
-/
import Derived.Test.YtlkbalmkljabhaaCurP
import Derived.Test.YtlkbalmkljabhaaMSt
import Derived.Test.YtlkbalmkljabhaaMNew
import Derived.Test.YtlkbalmkljabhaaMIntL
import Derived.Deep.RegionWith
import Derived.Test.YtlkbalmkljabhaaQChain
namespace Go.Proofs.Ytlkbalmkljabhaa
open Go.ChangeShapes Go.WideShapes Go.ChangeAt Go.RowKit

theorem storeSz (M : Int) (D : ByteArray) (h : D.size ≤ 1048576) (a : Int) (s : ByteArray) (hs0 : s.size ≤ 1048576) (ha : a ≤ 9223372036854775807) :
    ∃ M' D' c, D'.size ≤ D.size ∧ (∀ w, Calls Try.prog 87 #[.agg #[.int .i64 M, .string D], .int .i64 a, .string s] w fun e w' => e = .returned (.tuple #[.agg #[.int .i64 M', .string D'], .int .i64 c]) ∧ Below w.heap.size w w') := by
  by_cases hc : codeOf (good M D) D.size [(a, (s.size : Int))] = 0
  · refine ⟨M, laidOver D a.toNat s, 0, ?_, fun w => storeS M D h a s hs0 ha 0 hc _ _ (fun _ => ⟨rfl, rfl⟩) (fun h => absurd rfl h) w⟩
    obtain ⟨_, h1, h2, h3⟩ := code1_zero hc
    rw [size_laidOver D a.toNat s (by omega)]; exact Nat.le_refl _
  · refine ⟨(kept M D).1, (kept M D).2, _, ?_, fun w => storeS M D h a s hs0 ha _ rfl _ _ (fun h => absurd h hc) (fun _ => rfl) w⟩
    unfold kept; split
    · exact Nat.le_refl _
    · exact Nat.zero_le _

theorem newSz (p m : Int) (h0 : 0 ≤ p) (h1 : p ≤ 2) (h2 : 2 ≤ m) (h3 : m ≤ 4) :
    ∃ M D c, D.size ≤ 512 ∧ (∀ w, Calls Try.prog 86 #[.int .i64 p, .int .i64 m] w fun e w' => e = .returned (.tuple #[.agg #[.int .i64 M, .string D], .bool c]) ∧ Below w.heap.size w w') := by
  obtain ⟨p', rfl⟩ : ∃ k : Nat, p = k := ⟨p.toNat, by omega⟩
  obtain ⟨m', rfl⟩ : ∃ k : Nat, m = k := ⟨m.toNat, by omega⟩
  refine ⟨m', zeros (p' * 256), true, ?_, fun w => newS_yes p' m' (by omega) (by omega) w⟩
  rw [zeros_size]; omega
theorem Aft.quiet {B g : Nat} {w w' : World} (h : Below w.heap.size w w') (hB : B ≤ w.heap.size) : Aft B g w w' := ⟨h.mono hB, h.size, fun b _ hl => h.block b hl⟩
theorem w64_2 (r : Int) (h0 : 0 ≤ r) (h1 : r < 3) : wrap64 (2 + r) = 2 + r := by unfold wrap64; omega

set_option maxRecDepth 100000 in
set_option maxHeartbeats 1000000 in
theorem curMem (g : Nat) (a : Option Addr) (n cap B m : Nat) (hm : Hid (m ≤ 700000)) (w : World) (C : Cur w g a n cap B m) :
    Calls Try.prog 53 #[.pointer (some ⟨g, 0, none⟩)] w fun e w' => ∃ (M : Int) (D : ByteArray), D.size ≤ 600 ∧ e = .returned (.agg #[.int .i64 M, .string D]) ∧ Cur w' g a n cap B (m + 200) ∧ Aft B g w w' := by
  have hl := C.lt
  have hB := C.hg
  go_enter Try.func53, Try.ntmps53
  go_wp2_with fail
  refine (curPick 3 (by omega) (by omega) g a n cap B m (hid_le (by have := hm.out; omega)) _ (C.alloc _)).mono ?_
  rintro e w1 ⟨r1, r10, r11, rfl, C1, B1⟩
  go_wp2_with fail
  refine (curPick 3 (by omega) (by omega) g a n cap B (m + 2) (hid_le (by have := hm.out; omega)) _ C1).mono ?_
  rintro e w2 ⟨r2, r20, r21, rfl, C2, B2⟩
  have hw2 := w64_2 r2 r20 r21
  obtain ⟨M, D, c, hD, HN⟩ := newSz r1 (2 + r2) r10 (by omega) (by omega) (by omega)
  go_wp2_with fail
  refine (HN w2).mono ?_
  rintro e w3 ⟨rfl, K3⟩
  go_wp2_with fail
  have hz1 := B1.size
  have hz2 := B2.size
  have hz3 := K3.size
  simp at hz1
  have ng : w.heap.size ≠ g := by omega
  have hR : Hid ((w3.alloc (.cells #[.int .i64 M, .string D] 40)).heap[w.heap.size]? = some (.cells #[.int .i64 0, .string ⟨#[]⟩] 40 (0, 0))) := by
    unfold Hid
    rw [((Below.refl w3.heap.size w3).alloc (Nat.le_refl _) _).block _ (by omega), K3.block _ (by omega), B2.blk _ ng (by omega), B1.blk _ ng (by simp)]
    exact heap_alloc_new _ _
  have hM : Hid ((w3.alloc (.cells #[.int .i64 M, .string D] 40)).heap[w3.heap.size]? = some (.cells #[.int .i64 M, .string D] 40 (0, 0))) := heap_alloc_new _ _
  have HA : Hid (Aft B g w (w3.alloc (.cells #[.int .i64 M, .string D] 40))) := ((((Aft.alloc (by omega) _).trans B1).trans B2).trans (Aft.quiet K3 (by omega))).trans (Aft.alloc (by omega) _)
  have HC : Hid (Cur (w3.alloc (.cells #[.int .i64 M, .string D] 40)) g a n cap B (m + 4)) := (C2.kept K3).alloc _
  refine (curPick 5 (by omega) (by omega) g a n cap B (m + 4) (hid_le (by have := hm.out; omega)) _ HC.out).mono ?_
  rintro e w4 ⟨r4, r40, r41, rfl, C4, B4⟩
  have hR4 : Hid (w4.heap[w.heap.size]? = some (.cells #[.int .i64 0, .string ⟨#[]⟩] 40 (0, 0))) := (B4.blk _ ng (by simp; omega)).trans hR.out
  have hM4 : Hid (w4.heap[w3.heap.size]? = some (.cells #[.int .i64 M, .string D] 40 (0, 0))) := (B4.blk _ (by omega) (by simp)).trans hM.out
  have HA4 : Hid (Aft B g w w4) := HA.out.trans B4
  have ne1 : Hid (w.heap.size < w3.heap.size) := by unfold Hid; omega
  have ne2 : Hid (g < w.heap.size) := hl
  obtain ⟨j4, rfl⟩ : ∃ k : Nat, r4 = k := ⟨r4.toNat, by omega⟩
  have HC4 : Hid (Cur w4 g a n cap B (m + 6 + 26 * (4 - j4))) := C4.more (by omega)
  clear C1 C2 B1 B2 B4 C4 HA HC hR hM K3 HN hw2 hz1 hz2 hz3
  obtain ⟨rb, hrb⟩ : ∃ k, w.heap.size = k := ⟨_, rfl⟩
  obtain ⟨mb, hmb⟩ : ∃ k, w3.heap.size = k := ⟨_, rfl⟩
  rw [hrb] at hR4 ne1 ne2
  rw [hmb] at hM4 ne1
  rw [hrb, hmb]
  have hDD : Hid (D.size ≤ 512) := hD
  have hj4 : Hid (j4 ≤ 4) := by unfold Hid; omega
  have hwz : Hid (w.heap.size ≤ rb) := by unfold Hid; omega
  have hBr : Hid (B ≤ rb) := by unfold Hid; omega
  clear hD r40 r41 r10 r11 r20 r21 ng hl hB hrb hmb
  go_wp2_with fail
  go_loopw [5] (fun i wr => ∃ (j : Nat) (M : Int) (D : ByteArray), Hid (j ≤ 4) ∧ i = .int .i64 (j : Int) ∧ Hid (D.size ≤ 512) ∧ Hid (wr.heap[mb]? = some (.cells #[.int .i64 M, .string D] 40 (0, 0))) ∧ Hid (wr.heap[rb]? = some (.cells #[.int .i64 0, .string ⟨#[]⟩] 40 (0, 0))) ∧ Hid (Cur wr g a n cap B (m + 6 + 26 * (4 - j))) ∧ Hid (Aft B g w wr)) (fun i _ => (intOf i).toNat)
  case atStart => exact ⟨j4, M, D, hj4, rfl, hDD, hM4, hR4, HC4, HA4⟩
  case round =>
    clear hR4 hM4 HC4 HA4 hDD hj4
    obtain ⟨j, M, D, hj, rfl, hD, hM, hR, hC, hA⟩ := hrel
    by_cases h0 : 0 < j
    · have h0i : (0 : Int) < (j : Int) := by omega
      have hwj : wrap64 ((j : Int) - 1) = ((j - 1 : Nat) : Int) := by have := hj.out; unfold wrap64; omega
      have hne : mb ≠ g := by have := ne1.out; have := ne2.out; omega
      have hmbl : Hid (mb < wr.heap.size) := (Array.getElem?_eq_some_iff.1 hM.out).1
      have hrbl : Hid (rb < wr.heap.size) := (Array.getElem?_eq_some_iff.1 hR.out).1
      go_wp2_with fail
      refine wa_begin (by kernel_rfl) ?_
      refine wa_take 1 (some 23) (.pointer (some ⟨g, 0, none⟩)) rfl rfl (by kernel_rfl) (by kernel_rfl) (by kernel_rfl) (fun _ _ _ h => h) (by rfl) (fun _ => by rfl) ?_
      simp only [Act.put, List.setIfInBounds_toArray, List.set_cons_zero, List.set_cons_succ]
      refine wa_take 3 (some 25) (.pointer (some ⟨g, 0, none⟩)) rfl rfl (by kernel_rfl) (by kernel_rfl) (by kernel_rfl) (fun _ _ _ h => h) (by rfl) (fun _ => by rfl) ?_
      simp only [Act.put, List.setIfInBounds_toArray, List.set_cons_zero, List.set_cons_succ]
      refine wa_take 4 (some 26) (.pointer (some ⟨g, 0, none⟩)) rfl rfl (by kernel_rfl) (by kernel_rfl) (by kernel_rfl) (fun _ _ _ h => h) (by rfl) (fun _ => by rfl) ?_
      simp only [Act.put, List.setIfInBounds_toArray, List.set_cons_zero, List.set_cons_succ]
      refine wa_first 0 (some 22) (.agg #[.int .i64 M, .string D]) (fun w' => w'.heap[mb]? = some (.cells #[.int .i64 M, .string D] 40 (0, 0))) rfl rfl (by kernel_rfl) (by kernel_rfl) (by kernel_rfl) (fun _ _ _ h => h) (by rfl) (fun w' hS => ?_) hM.out ?_
      · have c0 : w'.cell? ⟨mb, 0, none⟩ = some (.int .i64 M) := by simp [World.cell?, hS]
        have c1 : w'.cell? ⟨mb, 1, none⟩ = some (.string D) := by simp [World.cell?, hS]
        clear hS
        go_simp
      simp only [Act.put, List.setIfInBounds_toArray, List.set_cons_zero, List.set_cons_succ]
      refine wb_call 2 (some 24) 33 #[.pointer (some ⟨g, 0, none⟩), .int .i64 500] (by kernel_rfl) (by kernel_rfl) rfl rfl (by rfl) (by kernel_rfl) ?_
      refine (curPick 500 (by omega) (by omega) g a n cap B (m + 6 + 26 * (4 - j)) (hid_le (by have := hm.out; omega)) _ (hC.out.kept (Below.refl _ _).drew)).mono ?_
      rintro e w5 ⟨r5, r50, r51, rfl, C5, B5⟩
      have hM5 := (B5.blk mb hne hmbl.out).trans hM.out
      refine ⟨_, rfl, hM5, ?_⟩
      simp only [Act.put, List.setIfInBounds_toArray, List.set_cons_zero, List.set_cons_succ]
      refine wb_call 5 (some 27) 33 #[.pointer (some ⟨g, 0, none⟩), .int .i64 12] (by kernel_rfl) (by kernel_rfl) rfl rfl (by rfl) (by kernel_rfl) ?_
      refine (curPick 12 (by omega) (by omega) g a n cap B _ (hid_le (by have := hm.out; omega)) _ C5).mono ?_
      rintro e w6 ⟨r6, r60, r61, rfl, C6, B6⟩
      have hM6 := (B6.blk mb hne (Array.getElem?_eq_some_iff.1 hM5).1).trans hM5
      refine ⟨_, rfl, hM6, ?_⟩
      simp only [Act.put, List.setIfInBounds_toArray, List.set_cons_zero, List.set_cons_succ]
      obtain ⟨k, rfl⟩ : ∃ k : Nat, r6 = k := ⟨r6.toNat, by omega⟩
      refine wb_call 6 (some 28) 88 #[.pointer (some ⟨g, 0, none⟩), .int .i64 (k : Int)] (by kernel_rfl) (by kernel_rfl) rfl rfl (by rfl) (by kernel_rfl) ?_
      refine (curText k (by omega) g a n cap B _ (hid_le (by have := hm.out; omega)) _ C6).mono ?_
      rintro e w7 ⟨s, hs, rfl, C7, B7⟩
      have hM7 := (B7.blk mb hne (Array.getElem?_eq_some_iff.1 hM6).1).trans hM6
      refine ⟨_, rfl, hM7, ?_⟩
      simp only [Act.put, List.setIfInBounds_toArray, List.set_cons_zero, List.set_cons_succ]
      obtain ⟨M', D', c', hD', HS⟩ := storeSz M D (by have := hD.out; omega) r5 s (by omega) (by omega)
      refine wb_leave 7 (some 29) 87 #[.agg #[.int .i64 M, .string D], .int .i64 r5, .string s] (by kernel_rfl) (by kernel_rfl) rfl rfl (by rfl) (by kernel_rfl) ?_
      refine (HS w7).mono ?_
      rintro e w8 ⟨rfl, K8⟩
      refine ⟨_, rfl, ?_⟩
      simp only [Act.put, List.setIfInBounds_toArray, List.set_cons_zero, List.set_cons_succ]
      refine wa_take 8 (some 21) (.tuple #[.agg #[.int .i64 M', .string D'], .int .i64 c']) rfl rfl (by kernel_rfl) (by kernel_rfl) (by kernel_rfl) (fun _ _ _ h => h) (by rfl) (fun _ => by rfl) ?_
      simp only [Act.put, List.setIfInBounds_toArray, List.set_cons_zero, List.set_cons_succ]
      refine wa_take 9 (some 30) (.agg #[.int .i64 M', .string D']) rfl rfl (by kernel_rfl) (by kernel_rfl) (by kernel_rfl) (fun _ _ _ h => h) (by rfl) (fun _ => by rfl) ?_
      simp only [Act.put, List.setIfInBounds_toArray, List.set_cons_zero, List.set_cons_succ]
      refine wa_take 10 (some 31) (.int .i64 c') rfl rfl (by kernel_rfl) (by kernel_rfl) (by kernel_rfl) (fun _ _ _ h => h) (by rfl) (fun _ => by rfl) ?_
      simp only [Act.put, List.setIfInBounds_toArray, List.set_cons_zero, List.set_cons_succ]
      have hM8 := (K8.block mb (Array.getElem?_eq_some_iff.1 hM7).1).trans hM7
      have hc0 : w8.cell? ⟨mb, 0, none⟩ = some (.int .i64 M) := by simp [World.cell?, hM8]
      have hc1 : w8.cell? ⟨mb, 1, none⟩ = some (.string D) := by simp [World.cell?, hM8]
      have hf0 : w8.frozen? ⟨mb, 0, none⟩ = false := by simp [World.frozen?, hM8]
      have hf1 : w8.frozen? ⟨mb, 1, none⟩ = false := by simp [World.frozen?, hM8]
      refine wa_store 11 none ((w8.setCell ⟨mb, 0, none⟩ (.int .i64 M')).setCell ⟨mb, 1, none⟩ (.string D')) (by kernel_rfl) rfl rfl (by rfl) ?_ ?_
      · go_simp
      refine wa_done (by kernel_rfl) ?_
      simp only [Act.put]
      have hmw : w.heap.size ≤ mb := Nat.le_trans hwz.out (Nat.le_of_lt ne1.out)
      have hmB : B ≤ mb := Nat.le_trans hBr.out (Nat.le_of_lt ne1.out)
      have hrm : rb ≠ mb := Nat.ne_of_lt ne1.out
      have hrg : rb ≠ g := Nat.ne_of_gt ne2.out
      have hz5 := B5.size
      have hz6 := B6.size
      have hz7 := B7.size
      have hz0 : wr.drew.heap.size = wr.heap.size := rfl
      have hrl := hrbl.out
      have hBw : B ≤ wr.heap.size := Nat.le_trans hBr.out (Nat.le_of_lt hrl)
      have HM9 : Hid (((w8.setCell ⟨mb, 0, none⟩ (.int .i64 M')).setCell ⟨mb, 1, none⟩ (.string D')).heap[mb]? = some (.cells #[.int .i64 M', .string D'] 40 (0, 0))) :=
        heap_setCell_same _ _ _ _ _ _ (heap_setCell_same _ _ _ _ _ _ hM8)
      have HR9 : Hid (((w8.setCell ⟨mb, 0, none⟩ (.int .i64 M')).setCell ⟨mb, 1, none⟩ (.string D')).heap[rb]? = some (.cells #[.int .i64 0, .string ⟨#[]⟩] 40 (0, 0))) := by
        unfold Hid
        rw [heap_setCell_other _ _ _ _ hrm, heap_setCell_other _ _ _ _ hrm, K8.block _ (by omega), B7.blk _ hrg (by omega), B6.blk _ hrg (by omega), B5.blk _ hrg (by omega)]
        exact hR.out
      have HC9 : Hid (Cur ((w8.setCell ⟨mb, 0, none⟩ (.int .i64 M')).setCell ⟨mb, 1, none⟩ (.string D')) g a n cap B (m + 6 + 26 * (4 - (j - 1)))) :=
        (((C7.kept K8).other mb 0 _ hne hmB).other mb 1 _ hne hmB).more (by have := hj.out; omega)
      have HA9 : Hid (Aft B g w ((w8.setCell ⟨mb, 0, none⟩ (.int .i64 M')).setCell ⟨mb, 1, none⟩ (.string D'))) :=
        ((((((hA.out.trans (Aft.quiet (Below.refl _ _).drew hBw)).trans B5).trans B6).trans B7).trans (Aft.quiet K8 (by omega))).other mb 0 _ hmw hmB).other mb 1 _ hmw hmB
      have HD9 : Hid (D'.size ≤ 512) := Nat.le_trans hD' hD.out
      have hj1 : Hid (j - 1 ≤ 4) := by have := hj.out; unfold Hid; omega
      clear C5 C6 C7 B5 B6 B7 K8 hM5 hM6 hM7 hM8 hc0 hc1 hf0 hf1 HS hz5 hz6 hz7 hz0 hrl hBw r50 r51 r60 r61 hs hC hA hM hR
      go_wp2_with fail
      go_roundw
      case rel =>
        refine ⟨j - 1, M', D', hj1, ?_, HD9, HM9, HR9, HC9, HA9⟩
        go_num
      case measure => simp [intOf]; omega
    · obtain rfl : j = 0 := by omega
      clear h0
      go_wp2_with fail
      refine (curPick 40 (by omega) (by omega) g a n cap B _ (hid_le (by have := hm.out; omega)) _ hC.out).mono ?_
      rintro e w5 ⟨r5, r50, r51, rfl, C5, B5⟩
      have hmw : w.heap.size ≤ mb := Nat.le_trans hwz.out (Nat.le_of_lt ne1.out)
      have hmB : B ≤ mb := Nat.le_trans hBr.out (Nat.le_of_lt ne1.out)
      have hrm : rb ≠ mb := Nat.ne_of_lt ne1.out
      have hrg : rb ≠ g := Nat.ne_of_gt ne2.out
      have hmg : mb ≠ g := by have := ne1.out; have := ne2.out; omega
      have hml := (Array.getElem?_eq_some_iff.1 hM.out).1
      have hrl := (Array.getElem?_eq_some_iff.1 hR.out).1
      have hM5 := (B5.blk mb hmg hml).trans hM.out
      have hR5 := (B5.blk rb hrg hrl).trans hR.out
      have A5 : Hid (Aft B g w w5) := hA.out.trans B5
      have HE : Hid (D.size ≤ 600) := by have := hD.out; unfold Hid; omega
      have hwr := hwz.out
      have hBr' := hBr.out
      by_cases e0 : r5 = 0
      · subst e0
        have hz5 := B5.size
        have hl5 := C5.lt
        go_wp2_with fail
        refine (curAmong w5.heap.size 4 (by omega) (by omega) g a n cap B _ (hid_le (by have := hm.out; omega)) _ (C5.alloc _) (row_new w5 [.int .i64 (-1), .int .i64 0, .int .i64 8, .int .i64 9] 3 (by decide)) (by simp) (by omega)).mono ?_
        rintro e w6 ⟨r6, r60, r61, rfl, C6, B6⟩
        have hM6 := ((B6.blk mb hmg (by simp; omega)).trans (((Below.refl w5.heap.size w5).alloc (Nat.le_refl _) _).block mb (by omega))).trans hM5
        have hR6 := ((B6.blk rb hrg (by simp; omega)).trans (((Below.refl w5.heap.size w5).alloc (Nat.le_refl _) _).block rb (by omega))).trans hR5
        have A6 : Hid (Aft B g w w6) := (A5.out.trans (Aft.alloc (by omega) _)).trans B6
        have HC6 : Hid (Cur w6 g a n cap B (m + 200)) := C6.more (by omega)
        have c0 : w6.cell? ⟨mb, 0, none⟩ = some (.int .i64 M) := by simp [World.cell?, hM6]
        have c1 : w6.cell? ⟨mb, 1, none⟩ = some (.string D) := by simp [World.cell?, hM6]
        have m0 : w6.frozen? ⟨mb, 0, none⟩ = false := by simp [World.frozen?, hM6]
        have m1 : w6.frozen? ⟨mb, 1, none⟩ = false := by simp [World.frozen?, hM6]
        have d0 : w6.cell? ⟨rb, 0, none⟩ = some (.int .i64 0) := by simp [World.cell?, hR6]
        have d1 : w6.cell? ⟨rb, 1, none⟩ = some (.string ⟨#[]⟩) := by simp [World.cell?, hR6]
        have f0 : w6.frozen? ⟨rb, 0, none⟩ = false := by simp [World.frozen?, hR6]
        have f1 : w6.frozen? ⟨rb, 1, none⟩ = false := by simp [World.frozen?, hR6]
        clear hM5 hR5 B5 C5 B6 C6 hM6 hR6 hml hrl hz5 hl5
        go_wp2
        refine bodyPost_ret (v := .agg #[.int .i64 r6, .string D]) (by simp [results, Try.results53, go_sem, *]) rfl ⟨r6, D, HE.out, rfl, ?_, ?_⟩
        · exact ((HC6.out.other mb 0 _ hmg hmB).other rb 0 _ hrg hBr').other rb 1 _ hrg hBr'
        · exact ((A6.out.other mb 0 _ hmw hmB).other rb 0 _ hwr hBr').other rb 1 _ hwr hBr'
      · have HC5 : Hid (Cur w5 g a n cap B (m + 200)) := C5.more (by omega)
        have c0 : w5.cell? ⟨mb, 0, none⟩ = some (.int .i64 M) := by simp [World.cell?, hM5]
        have c1 : w5.cell? ⟨mb, 1, none⟩ = some (.string D) := by simp [World.cell?, hM5]
        have m0 : w5.frozen? ⟨mb, 0, none⟩ = false := by simp [World.frozen?, hM5]
        have m1 : w5.frozen? ⟨mb, 1, none⟩ = false := by simp [World.frozen?, hM5]
        have d0 : w5.cell? ⟨rb, 0, none⟩ = some (.int .i64 0) := by simp [World.cell?, hR5]
        have d1 : w5.cell? ⟨rb, 1, none⟩ = some (.string ⟨#[]⟩) := by simp [World.cell?, hR5]
        have f0 : w5.frozen? ⟨rb, 0, none⟩ = false := by simp [World.frozen?, hR5]
        have f1 : w5.frozen? ⟨rb, 1, none⟩ = false := by simp [World.frozen?, hR5]
        clear hM5 hR5 B5 C5 hml hrl
        by_cases e1 : r5 = 1
        · subst e1
          have HX : Hid ((D ++ ⟨#[120]⟩ : ByteArray).size ≤ 600) := by
            have h1 := hD.out
            unfold Hid
            rw [ByteArray.size_append, show (⟨#[120]⟩ : ByteArray).size = 1 from rfl]
            omega
          have hcat : ¬ 9223372036854775807 < D.size + 1 := by have := hD.out; omega
          go_wp2
          refine bodyPost_ret (v := .agg #[.int .i64 M, .string (D ++ (⟨#[120]⟩ : ByteArray))]) (by simp [results, Try.results53, go_sem, *]) rfl ⟨M, _, HX.out, rfl, ?_, ?_⟩
          · exact ((HC5.out.other mb 1 _ hmg hmB).other rb 0 _ hrg hBr').other rb 1 _ hrg hBr'
          · exact ((A5.out.other mb 1 _ hmw hmB).other rb 0 _ hwr hBr').other rb 1 _ hwr hBr'
        · go_wp2
          refine bodyPost_ret (v := .agg #[.int .i64 M, .string D]) (by simp [results, Try.results53, go_sem, *]) rfl ⟨M, D, HE.out, rfl, ?_, ?_⟩
          · exact (HC5.out.other rb 0 _ hrg hBr').other rb 1 _ hrg hBr'
          · exact (A5.out.other rb 0 _ hwr hBr').other rb 1 _ hwr hBr'

end Go.Proofs.Ytlkbalmkljabhaa
