/-
  Code is drawn: deeper. (Made by a generator.)
-/
import Derived.Test.YtcgnefgdfgikdaaGreatG1
namespace Go.Proofs.YtcgnefgdfgikdaaGreat
open Go.ChangeShapes Go.WideShapes Go.ChangeAt Go.RowKit

set_option maxRecDepth 100000 in
set_option maxHeartbeats 3200000 in
theorem genDeep32 (B g b0 : Nat) (a : Option Addr) (n cap f : Nat) (IH : Hid (GenP B g b0 a n cap f)) (d ar : Int) (av : Option Addr) (cv : Nat) (L : List (Int × Int)) (m : Nat) (w : World)
    (hlo : ((f + 1 : Nat) : Int) - 1000 ≤ d) (hhi : d ≤ 100) (hrk : 2 * d ≤ f + 1) (hd : 0 < d) (hlen : ¬ 120 < (L.length : Int)) (hf : f ≤ 500) (hX : Hid (0 ≤ NN f ∧ 0 ≤ MM f)) (hM : m + (3 * MM f + 30) ≤ 600000) (hK : L.length + (3 * NN f + 4) ≤ 100000) (hb0 : b0 ≤ w.heap.size) (hg0 : g < b0 ∧ B ≤ g) (hR : w.ownsRow b0 41 2 (.slice av L.length cv) L.length (pv L)) (hO : ∀ x ∈ L, OkI x) (C : Cur w g a n cap B m) :
    Calls Tryz.prog 43 #[.pointer (some ⟨g, 0, none⟩), .slice av L.length cv, .int .i64 127, .int .i64 d, .int .i64 ar] w fun e w' => ∃ (v' : Value) (L' : List (Int × Int)), e = .returned v' ∧ Hid (w'.ownsRow b0 41 2 v' L'.length (pv L')) ∧ Hid (L'.length ≤ L.length + (3 * NN f + 4) ∧ ∀ x ∈ L', OkI x) ∧ Cur w' g a n cap B (m + (3 * MM f + 30)) ∧ Hid (AftR B g b0 w w') := by
  obtain ⟨i0, hi, hz0, hz1, hz2⟩ := info_parts Tryz.info41
  have HX := hX
  have HM : Hid (m + (3 * MM f + 30) ≤ 600000) := hM
  have HK : Hid (L.length + (3 * NN f + 4) ≤ 100000) := hK
  have HC : Hid (g < b0 ∧ B ≤ g) := hg0
  have LB : Hid (b0 ≤ w.heap.size) := hb0
  have R : Hid (w.ownsRow b0 41 2 (.slice av L.length cv) L.length (pv L)) := hR
  have HO : Hid (∀ x ∈ L, OkI x) := hO
  have HL : Hid (L.length ≤ L.length + 0) := Nat.le_refl _
  have A : Hid (AftR B g b0 w w) := aftR_refl _ _ _ _
  clear hX hM hK hg0 hb0 hR hO
  have HF : Hid (f ≤ 500) := hf
  have HD : Hid (((f + 1 : Nat) : Int) - 1000 ≤ d ∧ d ≤ 100 ∧ 2 * d ≤ f + 1) := ⟨hlo, hhi, hrk⟩
  have HDa : Hid ((f : Int) - 1000 ≤ wrap64 (d - 1) ∧ wrap64 (d - 1) ≤ 100) := dec_lo f d hlo hhi
  have HDr : Hid (∀ w' : Int, w' ≠ 64 → rk w' (wrap64 (d - 1)) ≤ f) := fun w' hw => rk_type f w' d hw hlo hhi (by omega)
  have HDn : Hid (rk 64 (wrap64 (d - 1)) ≤ f) := rk_none f d hlo hhi hrk hd
  clear HD
  clear hlo hhi hrk hf
  go_enter Tryz.func43, Tryz.ntmps43
  go_wp2_with fail
  refine (curPick 6 (by omega) (by omega) g a n cap B (m) (hid_le (by have := HM.out; omega)) w C).mono ?_
  rintro e x2 ⟨q, q0, q1, rfl, C1, ha⟩
  have Hq : Hid (0 ≤ q ∧ q < 6) := ⟨q0, q1⟩
  clear q0 q1
  replace R : Hid (x2.ownsRow b0 41 2 (.slice av L.length cv) L.length (pv L)) := own_keep R.out (fun q hq => ha.blk q (by have h1 := (R.out.lt q hq).1; have h2 := HC.out; omega) (R.out.lt q hq).2)
  replace A : Hid (AftR B g b0 w x2) := aftR_cur A.out ha
  replace LB : Hid (b0 ≤ x2.heap.size) := Nat.le_trans LB.out ha.size
  clear ha C
  have C := C1
  clear C1
  have hq : q = 0 ∨ q = 1 ∨ (¬ q = 0 ∧ ¬ q = 1) := by have := Hq.out; omega
  clear Hq
  rcases hq with rfl | rfl | ⟨hq0, hq1⟩
  · go_wp2_with fail
    refine (IH.out 127 (wrap64 (d - 1)) ar (.slice av L.length cv) L (m + 2) x2 (by decide) HDa.out.1 HDa.out.2 (HDr.out _ (by decide)) (by have := HM.out; have := HX.out; omega) (by have := HL.out; have := HK.out; have := HX.out; omega) LB.out R.out HO.out C).mono ?_
    rintro e x3 ⟨v', L1, rfl, R1, HQ, C1, A1⟩
    have HL2 : Hid (L1.length ≤ L.length + (NN f)) := by unfold Hid; have := HL.out; have := HQ.out.1; omega
    obtain ⟨av1, cv1, gg, hv, hgg⟩ := owned_ins R1.out
    subst hv
    clear R HO HL C hgg
    have R : Hid (x3.ownsRow b0 41 2 (.slice av1 L1.length cv1) L1.length (pv L1)) := R1
    have HO : Hid (∀ x ∈ L1, OkI x) := HQ.out.2
    have HL := HL2
    have C := C1
    replace A : Hid (AftR B g b0 w x3) := aftR_trans A.out A1.out
    replace LB : Hid (b0 ≤ x3.heap.size) := Nat.le_trans LB.out A1.out.size
    clear R1 HQ C1 A1 HL2
    obtain ⟨y, hy⟩ : ∃ z, x3.heap.size = z := ⟨_, rfl⟩
    obtain ⟨x4, hN⟩ : ∃ W, x3.alloc (.cells #[.int .i64 4, .int .i64 127] 41) = W := ⟨_, rfl⟩
    have bn : x4.heap[y]? = some (.cells #[.int .i64 4, .int .i64 127] 41 (0, 0)) := by rw [← hN, ← hy]; exact heap_alloc_new _ _
    have HY0 : Hid (b0 ≤ y) := by unfold Hid; rw [← hy]; exact LB.out
    have hb : Below x3.heap.size x3 x4 := by rw [← hN]; exact (Below.refl _ _).alloc (Nat.le_refl _) _
    replace R : Hid (x4.ownsRow b0 41 2 (.slice av1 L1.length cv1) L1.length (pv L1)) := by unfold Hid; rw [← hN]; exact R.out.alloc _
    replace C := C.kept hb
    replace A : Hid (AftR B g b0 w x4) := aftR_bel A.out (hb.mono LB.out) (by have h2 := HC.out; omega)
    replace LB : Hid (b0 ≤ x4.heap.size) := Nat.le_trans LB.out hb.size
    clear hb
    clear HY0
    have HBN : Hid _ := bn
    clear bn
    go_wp2_with (at_builtin; refine wpList_append_own _ rfl _ _ 37 rfl b0 41 i0 (.agg #[.int .i64 0, .int .i64 0]) 2 16 Tryz.underlying37 hi hz0 hz1 hz2 rfl (by decide) _ _ _ rfl R.out ⟨y, 0, none⟩ 1 _ [.int .i64 4, .int .i64 127] rfl rfl ?qc2 ?qc3 ?qc4 ?qc5 ?qc6 ?_)
    case qc2 =>
      intro j u hu
      have hj : j < 2 := by rcases Nat.lt_or_ge j 2 with h' | h'; exact h'; rw [List.getElem?_eq_none (by simpa using h')] at hu; cases hu
      rw [Addr.add_lit, Nat.zero_add, cell_of_block HBN.out, ← hu]
      have hjj : j = 0 ∨ j = 1 := by omega
      rcases hjj with rfl | rfl <;> rfl
    case qc3 => intro u hu; simp at hu; rcases hu with rfl | rfl <;> rfl
    case qc4 => have := HL.out; have := HK.out; unfold maxLen; omega
    case qc5 => have := HL.out; have := HK.out; omega
    case qc6 => exact LB.out
    intro v' x5 hown hgr _
    clear hN hy HBN
    have hb : Below b0 x4 x5 := (Below.refl _ _).grown hgr LB.out (fun q hq => (R.out.lt q hq).1)
    rw [pv_app L1 (4, 127)] at hown
    have hown2 : x5.ownsRow b0 41 2 v' (L1 ++ [(4, 127)]).length (pv (L1 ++ [(4, 127)])) := by simpa using hown
    have HO2 : Hid (∀ x ∈ L1 ++ [(4, 127)], OkI x) := okI_app HO.out _ _ (by decide) (by decide)
    obtain ⟨L2, hL⟩ : ∃ M, L1 ++ [(4, 127)] = M := ⟨_, rfl⟩
    have hlen : L2.length = L1.length + 1 := by rw [← hL]; simp
    rw [hL] at hown2 HO2
    have HL2 : Hid (L2.length ≤ L.length + (NN f + 1)) := by unfold Hid; have := HL.out; omega
    obtain ⟨av2, cv2, gg, hv, hgg⟩ := owned_ins hown2
    subst hv
    clear R HO HL hL hlen hown hgg hgr
    have R : Hid (x5.ownsRow b0 41 2 (.slice av2 L2.length cv2) L2.length (pv L2)) := hown2
    have HO := HO2
    have HL := HL2
    clear HO2 HL2 hown2
    replace C := cur_low C hb (by have h2 := HC.out; omega)
    replace A : Hid (AftR B g b0 w x5) := aftR_bel A.out hb (by have h2 := HC.out; omega)
    replace LB : Hid (b0 ≤ x5.heap.size) := Nat.le_trans LB.out hb.size
    clear hb
    go_wp2_with fail
    refine (IH.out 127 (wrap64 (d - 1)) (wrap64 (ar + 1)) (.slice av2 L2.length cv2) L2 (m + 2 + MM f) x5 (by decide) HDa.out.1 HDa.out.2 (HDr.out _ (by decide)) (by have := HM.out; have := HX.out; omega) (by have := HL.out; have := HK.out; have := HX.out; omega) LB.out R.out HO.out C).mono ?_
    rintro e x6 ⟨v', L3, rfl, R1, HQ, C1, A1⟩
    have HL2 : Hid (L3.length ≤ L.length + (NN f + 1 + NN f)) := by unfold Hid; have := HL.out; have := HQ.out.1; omega
    obtain ⟨av3, cv3, gg, hv, hgg⟩ := owned_ins R1.out
    subst hv
    clear R HO HL C hgg
    have R : Hid (x6.ownsRow b0 41 2 (.slice av3 L3.length cv3) L3.length (pv L3)) := R1
    have HO : Hid (∀ x ∈ L3, OkI x) := HQ.out.2
    have HL := HL2
    have C := C1
    replace A : Hid (AftR B g b0 w x6) := aftR_trans A.out A1.out
    replace LB : Hid (b0 ≤ x6.heap.size) := Nat.le_trans LB.out A1.out.size
    clear R1 HQ C1 A1 HL2
    obtain ⟨y, hy⟩ : ∃ z, x6.heap.size = z := ⟨_, rfl⟩
    obtain ⟨x7, hN⟩ : ∃ W, x6.alloc (.cells #[.int .i64 5, .int .i64 0] 41) = W := ⟨_, rfl⟩
    have bn : x7.heap[y]? = some (.cells #[.int .i64 5, .int .i64 0] 41 (0, 0)) := by rw [← hN, ← hy]; exact heap_alloc_new _ _
    have HY0 : Hid (b0 ≤ y) := by unfold Hid; rw [← hy]; exact LB.out
    have hb : Below x6.heap.size x6 x7 := by rw [← hN]; exact (Below.refl _ _).alloc (Nat.le_refl _) _
    replace R : Hid (x7.ownsRow b0 41 2 (.slice av3 L3.length cv3) L3.length (pv L3)) := by unfold Hid; rw [← hN]; exact R.out.alloc _
    replace C := C.kept hb
    replace A : Hid (AftR B g b0 w x7) := aftR_bel A.out (hb.mono LB.out) (by have h2 := HC.out; omega)
    replace LB : Hid (b0 ≤ x7.heap.size) := Nat.le_trans LB.out hb.size
    clear hb
    clear HY0
    have HBN : Hid _ := bn
    clear bn
    go_wp2_with (at_builtin; refine wpList_append_own _ rfl _ _ 37 rfl b0 41 i0 (.agg #[.int .i64 0, .int .i64 0]) 2 16 Tryz.underlying37 hi hz0 hz1 hz2 rfl (by decide) _ _ _ rfl R.out ⟨y, 0, none⟩ 1 _ [.int .i64 5, .int .i64 0] rfl rfl ?qc2 ?qc3 ?qc4 ?qc5 ?qc6 ?_)
    case qc2 =>
      intro j u hu
      have hj : j < 2 := by rcases Nat.lt_or_ge j 2 with h' | h'; exact h'; rw [List.getElem?_eq_none (by simpa using h')] at hu; cases hu
      rw [Addr.add_lit, Nat.zero_add, cell_of_block HBN.out, ← hu]
      have hjj : j = 0 ∨ j = 1 := by omega
      rcases hjj with rfl | rfl <;> rfl
    case qc3 => intro u hu; simp at hu; rcases hu with rfl | rfl <;> rfl
    case qc4 => have := HL.out; have := HK.out; unfold maxLen; omega
    case qc5 => have := HL.out; have := HK.out; omega
    case qc6 => exact LB.out
    intro v' x8 hown hgr _
    clear hN hy HBN
    have hb : Below b0 x7 x8 := (Below.refl _ _).grown hgr LB.out (fun q hq => (R.out.lt q hq).1)
    rw [pv_app L3 (5, 0)] at hown
    have hown2 : x8.ownsRow b0 41 2 v' (L3 ++ [(5, 0)]).length (pv (L3 ++ [(5, 0)])) := by simpa using hown
    have HO2 : Hid (∀ x ∈ L3 ++ [(5, 0)], OkI x) := okI_app HO.out _ _ (by decide) (by decide)
    obtain ⟨L4, hL⟩ : ∃ M, L3 ++ [(5, 0)] = M := ⟨_, rfl⟩
    have hlen : L4.length = L3.length + 1 := by rw [← hL]; simp
    rw [hL] at hown2 HO2
    have HL2 : Hid (L4.length ≤ L.length + (NN f + 1 + NN f + 1)) := by unfold Hid; have := HL.out; omega
    obtain ⟨av4, cv4, gg, hv, hgg⟩ := owned_ins hown2
    subst hv
    clear R HO HL hL hlen hown hgg hgr
    have R : Hid (x8.ownsRow b0 41 2 (.slice av4 L4.length cv4) L4.length (pv L4)) := hown2
    have HO := HO2
    have HL := HL2
    clear HO2 HL2 hown2
    replace C := cur_low C hb (by have h2 := HC.out; omega)
    replace A : Hid (AftR B g b0 w x8) := aftR_bel A.out hb (by have h2 := HC.out; omega)
    replace LB : Hid (b0 ≤ x8.heap.size) := Nat.le_trans LB.out hb.size
    clear hb
    go_wp2_with fail
    refine (IH.out 127 (wrap64 (d - 1)) (wrap64 (ar + 1)) (.slice av4 L4.length cv4) L4 (m + 2 + MM f + MM f) x8 (by decide) HDa.out.1 HDa.out.2 (HDr.out _ (by decide)) (by have := HM.out; have := HX.out; omega) (by have := HL.out; have := HK.out; have := HX.out; omega) LB.out R.out HO.out C).mono ?_
    rintro e x9 ⟨v', L5, rfl, R1, HQ, C1, A1⟩
    have HL2 : Hid (L5.length ≤ L.length + (NN f + 1 + NN f + 1 + NN f)) := by unfold Hid; have := HL.out; have := HQ.out.1; omega
    obtain ⟨av5, cv5, gg, hv, hgg⟩ := owned_ins R1.out
    subst hv
    clear R HO HL C hgg
    have R : Hid (x9.ownsRow b0 41 2 (.slice av5 L5.length cv5) L5.length (pv L5)) := R1
    have HO : Hid (∀ x ∈ L5, OkI x) := HQ.out.2
    have HL := HL2
    have C := C1
    replace A : Hid (AftR B g b0 w x9) := aftR_trans A.out A1.out
    replace LB : Hid (b0 ≤ x9.heap.size) := Nat.le_trans LB.out A1.out.size
    clear R1 HQ C1 A1 HL2
    obtain ⟨y, hy⟩ : ∃ z, x9.heap.size = z := ⟨_, rfl⟩
    obtain ⟨x10, hN⟩ : ∃ W, x9.alloc (.cells #[.int .i64 11, .int .i64 0] 41) = W := ⟨_, rfl⟩
    have bn : x10.heap[y]? = some (.cells #[.int .i64 11, .int .i64 0] 41 (0, 0)) := by rw [← hN, ← hy]; exact heap_alloc_new _ _
    have HY0 : Hid (b0 ≤ y) := by unfold Hid; rw [← hy]; exact LB.out
    have hb : Below x9.heap.size x9 x10 := by rw [← hN]; exact (Below.refl _ _).alloc (Nat.le_refl _) _
    replace R : Hid (x10.ownsRow b0 41 2 (.slice av5 L5.length cv5) L5.length (pv L5)) := by unfold Hid; rw [← hN]; exact R.out.alloc _
    replace C := C.kept hb
    replace A : Hid (AftR B g b0 w x10) := aftR_bel A.out (hb.mono LB.out) (by have h2 := HC.out; omega)
    replace LB : Hid (b0 ≤ x10.heap.size) := Nat.le_trans LB.out hb.size
    clear hb
    clear HY0
    have HBN : Hid _ := bn
    clear bn
    go_wp2_with (at_builtin; refine wpList_append_own _ rfl _ _ 37 rfl b0 41 i0 (.agg #[.int .i64 0, .int .i64 0]) 2 16 Tryz.underlying37 hi hz0 hz1 hz2 rfl (by decide) _ _ _ rfl R.out ⟨y, 0, none⟩ 1 _ [.int .i64 11, .int .i64 0] rfl rfl ?qc2 ?qc3 ?qc4 ?qc5 ?qc6 ?_)
    case qc2 =>
      intro j u hu
      have hj : j < 2 := by rcases Nat.lt_or_ge j 2 with h' | h'; exact h'; rw [List.getElem?_eq_none (by simpa using h')] at hu; cases hu
      rw [Addr.add_lit, Nat.zero_add, cell_of_block HBN.out, ← hu]
      have hjj : j = 0 ∨ j = 1 := by omega
      rcases hjj with rfl | rfl <;> rfl
    case qc3 => intro u hu; simp at hu; rcases hu with rfl | rfl <;> rfl
    case qc4 => have := HL.out; have := HK.out; unfold maxLen; omega
    case qc5 => have := HL.out; have := HK.out; omega
    case qc6 => exact LB.out
    intro v' x11 hown hgr _
    clear hN hy HBN
    have hb : Below b0 x10 x11 := (Below.refl _ _).grown hgr LB.out (fun q hq => (R.out.lt q hq).1)
    rw [pv_app L5 (11, 0)] at hown
    have hown2 : x11.ownsRow b0 41 2 v' (L5 ++ [(11, 0)]).length (pv (L5 ++ [(11, 0)])) := by simpa using hown
    have HO2 : Hid (∀ x ∈ L5 ++ [(11, 0)], OkI x) := okI_app HO.out _ _ (by decide) (by decide)
    obtain ⟨L6, hL⟩ : ∃ M, L5 ++ [(11, 0)] = M := ⟨_, rfl⟩
    have hlen : L6.length = L5.length + 1 := by rw [← hL]; simp
    rw [hL] at hown2 HO2
    have HL2 : Hid (L6.length ≤ L.length + (NN f + 1 + NN f + 1 + NN f + 1)) := by unfold Hid; have := HL.out; omega
    obtain ⟨av6, cv6, gg, hv, hgg⟩ := owned_ins hown2
    subst hv
    clear R HO HL hL hlen hown hgg hgr
    have R : Hid (x11.ownsRow b0 41 2 (.slice av6 L6.length cv6) L6.length (pv L6)) := hown2
    have HO := HO2
    have HL := HL2
    clear HO2 HL2 hown2
    replace C := cur_low C hb (by have h2 := HC.out; omega)
    replace A : Hid (AftR B g b0 w x11) := aftR_bel A.out hb (by have h2 := HC.out; omega)
    replace LB : Hid (b0 ≤ x11.heap.size) := Nat.le_trans LB.out hb.size
    clear hb
    go_wp2
    go_ret
    exact ⟨_, L6, rfl, R, ⟨by have := HL.out; have := HX.out; omega, HO.out⟩, C.more (by have := HX.out; omega), A⟩
  · go_wp2_with fail
    refine (IH.out 64 (wrap64 (d - 1)) ar (.slice av L.length cv) L (m + 2) x2 (by decide) HDa.out.1 HDa.out.2 HDn.out (by have := HM.out; have := HX.out; omega) (by have := HL.out; have := HK.out; have := HX.out; omega) LB.out R.out HO.out C).mono ?_
    rintro e x3 ⟨v', L1, rfl, R1, HQ, C1, A1⟩
    have HL2 : Hid (L1.length ≤ L.length + (NN f)) := by unfold Hid; have := HL.out; have := HQ.out.1; omega
    obtain ⟨av1, cv1, gg, hv, hgg⟩ := owned_ins R1.out
    subst hv
    clear R HO HL C hgg
    have R : Hid (x3.ownsRow b0 41 2 (.slice av1 L1.length cv1) L1.length (pv L1)) := R1
    have HO : Hid (∀ x ∈ L1, OkI x) := HQ.out.2
    have HL := HL2
    have C := C1
    replace A : Hid (AftR B g b0 w x3) := aftR_trans A.out A1.out
    replace LB : Hid (b0 ≤ x3.heap.size) := Nat.le_trans LB.out A1.out.size
    clear R1 HQ C1 A1 HL2
    go_wp2_with fail
    refine (IH.out 127 (wrap64 (d - 1)) ar (.slice av1 L1.length cv1) L1 (m + 2 + MM f) x3 (by decide) HDa.out.1 HDa.out.2 (HDr.out _ (by decide)) (by have := HM.out; have := HX.out; omega) (by have := HL.out; have := HK.out; have := HX.out; omega) LB.out R.out HO.out C).mono ?_
    rintro e x4 ⟨v', L2, rfl, R1, HQ, C1, A1⟩
    have HL2 : Hid (L2.length ≤ L.length + (NN f + NN f)) := by unfold Hid; have := HL.out; have := HQ.out.1; omega
    obtain ⟨av2, cv2, gg, hv, hgg⟩ := owned_ins R1.out
    subst hv
    clear R HO HL C hgg
    have R : Hid (x4.ownsRow b0 41 2 (.slice av2 L2.length cv2) L2.length (pv L2)) := R1
    have HO : Hid (∀ x ∈ L2, OkI x) := HQ.out.2
    have HL := HL2
    have C := C1
    replace A : Hid (AftR B g b0 w x4) := aftR_trans A.out A1.out
    replace LB : Hid (b0 ≤ x4.heap.size) := Nat.le_trans LB.out A1.out.size
    clear R1 HQ C1 A1 HL2
    go_wp2
    go_ret
    exact ⟨_, L2, rfl, R, ⟨by have := HL.out; have := HX.out; omega, HO.out⟩, C.more (by have := HX.out; omega), A⟩
  · have hq2 : (q == 0) = false := by simpa using hq0
    have hq3 : (q == 1) = false := by simpa using hq1
    clear hq0 hq1
    go_wp2_with fail
    refine (curPick 6 (by omega) (by omega) g a n cap B (m + 2) (hid_le (by have := HM.out; omega)) x2 C).mono ?_
    rintro e x3 ⟨k, k0, k1, rfl, C1, ha⟩
    have Hk : Hid (0 ≤ k ∧ k < 6) := ⟨k0, k1⟩
    clear k0 k1
    replace R : Hid (x3.ownsRow b0 41 2 (.slice av L.length cv) L.length (pv L)) := own_keep R.out (fun q hq => ha.blk q (by have h1 := (R.out.lt q hq).1; have h2 := HC.out; omega) (R.out.lt q hq).2)
    replace A : Hid (AftR B g b0 w x3) := aftR_cur A.out ha
    replace LB : Hid (b0 ≤ x3.heap.size) := Nat.le_trans LB.out ha.size
    clear ha C
    have C := C1
    clear C1
    clear hq2 hq3
    have hk : k = 0 ∨ k = 1 ∨ k = 2 ∨ k = 3 ∨ k = 4 ∨ k = 5 := by have := Hk.out; omega
    clear Hk
    rcases hk with rfl | rfl | rfl | rfl | rfl | rfl
    · go_wp2_with fail
      refine (IH.out 127 (wrap64 (d - 1)) ar (.slice av L.length cv) L (m + 2 + 2) x3 (by decide) HDa.out.1 HDa.out.2 (HDr.out _ (by decide)) (by have := HM.out; have := HX.out; omega) (by have := HL.out; have := HK.out; have := HX.out; omega) LB.out R.out HO.out C).mono ?_
      rintro e x4 ⟨v', L1, rfl, R1, HQ, C1, A1⟩
      have HL2 : Hid (L1.length ≤ L.length + (NN f)) := by unfold Hid; have := HL.out; have := HQ.out.1; omega
      obtain ⟨av1, cv1, gg, hv, hgg⟩ := owned_ins R1.out
      subst hv
      clear R HO HL C hgg
      have R : Hid (x4.ownsRow b0 41 2 (.slice av1 L1.length cv1) L1.length (pv L1)) := R1
      have HO : Hid (∀ x ∈ L1, OkI x) := HQ.out.2
      have HL := HL2
      have C := C1
      replace A : Hid (AftR B g b0 w x4) := aftR_trans A.out A1.out
      replace LB : Hid (b0 ≤ x4.heap.size) := Nat.le_trans LB.out A1.out.size
      clear R1 HQ C1 A1 HL2
      go_wp2_with fail
      refine (curPick 6 (by omega) (by omega) g a n cap B (m + 2 + 2 + MM f) (hid_le (by have := HM.out; omega)) x4 C).mono ?_
      rintro e x5 ⟨r, r0, r1, rfl, C1, ha⟩
      have Hr : Hid (0 ≤ r ∧ r < 6) := ⟨r0, r1⟩
      clear r0 r1
      replace R : Hid (x5.ownsRow b0 41 2 (.slice av1 L1.length cv1) L1.length (pv L1)) := own_keep R.out (fun q hq => ha.blk q (by have h1 := (R.out.lt q hq).1; have h2 := HC.out; omega) (R.out.lt q hq).2)
      replace A : Hid (AftR B g b0 w x5) := aftR_cur A.out ha
      replace LB : Hid (b0 ≤ x5.heap.size) := Nat.le_trans LB.out ha.size
      clear ha C
      have C := C1
      clear C1
      have hwr : wrap64 (118 + r) = 118 + r := by have := Hr.out; unfold wrap64; omega
      obtain ⟨y, hy⟩ : ∃ z, x5.heap.size = z := ⟨_, rfl⟩
      obtain ⟨x6, hN⟩ : ∃ W, x5.alloc (.cells #[.int .i64 (118 + r), .int .i64 0] 41) = W := ⟨_, rfl⟩
      have bn : x6.heap[y]? = some (.cells #[.int .i64 (118 + r), .int .i64 0] 41 (0, 0)) := by rw [← hN, ← hy]; exact heap_alloc_new _ _
      have HY0 : Hid (b0 ≤ y) := by unfold Hid; rw [← hy]; exact LB.out
      have hb : Below x5.heap.size x5 x6 := by rw [← hN]; exact (Below.refl _ _).alloc (Nat.le_refl _) _
      replace R : Hid (x6.ownsRow b0 41 2 (.slice av1 L1.length cv1) L1.length (pv L1)) := by unfold Hid; rw [← hN]; exact R.out.alloc _
      replace C := C.kept hb
      replace A : Hid (AftR B g b0 w x6) := aftR_bel A.out (hb.mono LB.out) (by have h2 := HC.out; omega)
      replace LB : Hid (b0 ≤ x6.heap.size) := Nat.le_trans LB.out hb.size
      clear hb
      clear HY0
      have HBN : Hid _ := bn
      clear bn
      go_wp2_with (at_builtin; refine wpList_append_own _ rfl _ _ 37 rfl b0 41 i0 (.agg #[.int .i64 0, .int .i64 0]) 2 16 Tryz.underlying37 hi hz0 hz1 hz2 rfl (by decide) _ _ _ rfl R.out ⟨y, 0, none⟩ 1 _ [.int .i64 (118 + r), .int .i64 0] rfl rfl ?qc2 ?qc3 ?qc4 ?qc5 ?qc6 ?_)
      case qc2 =>
        intro j u hu
        have hj : j < 2 := by rcases Nat.lt_or_ge j 2 with h' | h'; exact h'; rw [List.getElem?_eq_none (by simpa using h')] at hu; cases hu
        rw [Addr.add_lit, Nat.zero_add, cell_of_block HBN.out, ← hu]
        have hjj : j = 0 ∨ j = 1 := by omega
        rcases hjj with rfl | rfl <;> rfl
      case qc3 => intro u hu; simp at hu; rcases hu with rfl | rfl <;> rfl
      case qc4 => have := HL.out; have := HK.out; unfold maxLen; omega
      case qc5 => have := HL.out; have := HK.out; omega
      case qc6 => exact LB.out
      intro v' x7 hown hgr _
      clear hN hy HBN
      have hb : Below b0 x6 x7 := (Below.refl _ _).grown hgr LB.out (fun q hq => (R.out.lt q hq).1)
      rw [pv_app L1 ((118 + r), 0)] at hown
      have hown2 : x7.ownsRow b0 41 2 v' (L1 ++ [((118 + r), 0)]).length (pv (L1 ++ [((118 + r), 0)])) := by simpa using hown
      have HO2 : Hid (∀ x ∈ L1 ++ [((118 + r), 0)], OkI x) := okI_app HO.out _ _ ⟨by have := Hr.out; omega, by have := Hr.out; omega⟩ (by decide)
      obtain ⟨L2, hL⟩ : ∃ M, L1 ++ [((118 + r), 0)] = M := ⟨_, rfl⟩
      have hlen : L2.length = L1.length + 1 := by rw [← hL]; simp
      rw [hL] at hown2 HO2
      have HL2 : Hid (L2.length ≤ L.length + (NN f + 1)) := by unfold Hid; have := HL.out; omega
      obtain ⟨av2, cv2, gg, hv, hgg⟩ := owned_ins hown2
      subst hv
      clear R HO HL hL hlen hown hgg hgr
      have R : Hid (x7.ownsRow b0 41 2 (.slice av2 L2.length cv2) L2.length (pv L2)) := hown2
      have HO := HO2
      have HL := HL2
      clear HO2 HL2 hown2
      replace C := cur_low C hb (by have h2 := HC.out; omega)
      replace A : Hid (AftR B g b0 w x7) := aftR_bel A.out hb (by have h2 := HC.out; omega)
      replace LB : Hid (b0 ≤ x7.heap.size) := Nat.le_trans LB.out hb.size
      clear hb
      go_wp2
      go_ret
      exact ⟨_, L2, rfl, R, ⟨by have := HL.out; have := HX.out; omega, HO.out⟩, C.more (by have := HX.out; omega), A⟩
    · go_wp2_with fail
      refine (IH.out 126 (wrap64 (d - 1)) ar (.slice av L.length cv) L (m + 2 + 2) x3 (by decide) HDa.out.1 HDa.out.2 (HDr.out _ (by decide)) (by have := HM.out; have := HX.out; omega) (by have := HL.out; have := HK.out; have := HX.out; omega) LB.out R.out HO.out C).mono ?_
      rintro e x4 ⟨v', L1, rfl, R1, HQ, C1, A1⟩
      have HL2 : Hid (L1.length ≤ L.length + (NN f)) := by unfold Hid; have := HL.out; have := HQ.out.1; omega
      obtain ⟨av1, cv1, gg, hv, hgg⟩ := owned_ins R1.out
      subst hv
      clear R HO HL C hgg
      have R : Hid (x4.ownsRow b0 41 2 (.slice av1 L1.length cv1) L1.length (pv L1)) := R1
      have HO : Hid (∀ x ∈ L1, OkI x) := HQ.out.2
      have HL := HL2
      have C := C1
      replace A : Hid (AftR B g b0 w x4) := aftR_trans A.out A1.out
      replace LB : Hid (b0 ≤ x4.heap.size) := Nat.le_trans LB.out A1.out.size
      clear R1 HQ C1 A1 HL2
      obtain ⟨y, hy⟩ : ∃ z, x4.heap.size = z := ⟨_, rfl⟩
      obtain ⟨x5, hN⟩ : ∃ W, x4.alloc (.cells #[.int .i64 176, .int .i64 0] 41) = W := ⟨_, rfl⟩
      have bn : x5.heap[y]? = some (.cells #[.int .i64 176, .int .i64 0] 41 (0, 0)) := by rw [← hN, ← hy]; exact heap_alloc_new _ _
      have HY0 : Hid (b0 ≤ y) := by unfold Hid; rw [← hy]; exact LB.out
      have hb : Below x4.heap.size x4 x5 := by rw [← hN]; exact (Below.refl _ _).alloc (Nat.le_refl _) _
      replace R : Hid (x5.ownsRow b0 41 2 (.slice av1 L1.length cv1) L1.length (pv L1)) := by unfold Hid; rw [← hN]; exact R.out.alloc _
      replace C := C.kept hb
      replace A : Hid (AftR B g b0 w x5) := aftR_bel A.out (hb.mono LB.out) (by have h2 := HC.out; omega)
      replace LB : Hid (b0 ≤ x5.heap.size) := Nat.le_trans LB.out hb.size
      clear hb
      clear HY0
      have HBN : Hid _ := bn
      clear bn
      go_wp2_with (at_builtin; refine wpList_append_own _ rfl _ _ 37 rfl b0 41 i0 (.agg #[.int .i64 0, .int .i64 0]) 2 16 Tryz.underlying37 hi hz0 hz1 hz2 rfl (by decide) _ _ _ rfl R.out ⟨y, 0, none⟩ 1 _ [.int .i64 176, .int .i64 0] rfl rfl ?qc2 ?qc3 ?qc4 ?qc5 ?qc6 ?_)
      case qc2 =>
        intro j u hu
        have hj : j < 2 := by rcases Nat.lt_or_ge j 2 with h' | h'; exact h'; rw [List.getElem?_eq_none (by simpa using h')] at hu; cases hu
        rw [Addr.add_lit, Nat.zero_add, cell_of_block HBN.out, ← hu]
        have hjj : j = 0 ∨ j = 1 := by omega
        rcases hjj with rfl | rfl <;> rfl
      case qc3 => intro u hu; simp at hu; rcases hu with rfl | rfl <;> rfl
      case qc4 => have := HL.out; have := HK.out; unfold maxLen; omega
      case qc5 => have := HL.out; have := HK.out; omega
      case qc6 => exact LB.out
      intro v' x6 hown hgr _
      clear hN hy HBN
      have hb : Below b0 x5 x6 := (Below.refl _ _).grown hgr LB.out (fun q hq => (R.out.lt q hq).1)
      rw [pv_app L1 (176, 0)] at hown
      have hown2 : x6.ownsRow b0 41 2 v' (L1 ++ [(176, 0)]).length (pv (L1 ++ [(176, 0)])) := by simpa using hown
      have HO2 : Hid (∀ x ∈ L1 ++ [(176, 0)], OkI x) := okI_app HO.out _ _ (by decide) (by decide)
      obtain ⟨L2, hL⟩ : ∃ M, L1 ++ [(176, 0)] = M := ⟨_, rfl⟩
      have hlen : L2.length = L1.length + 1 := by rw [← hL]; simp
      rw [hL] at hown2 HO2
      have HL2 : Hid (L2.length ≤ L.length + (NN f + 1)) := by unfold Hid; have := HL.out; omega
      obtain ⟨av2, cv2, gg, hv, hgg⟩ := owned_ins hown2
      subst hv
      clear R HO HL hL hlen hown hgg hgr
      have R : Hid (x6.ownsRow b0 41 2 (.slice av2 L2.length cv2) L2.length (pv L2)) := hown2
      have HO := HO2
      have HL := HL2
      clear HO2 HL2 hown2
      replace C := cur_low C hb (by have h2 := HC.out; omega)
      replace A : Hid (AftR B g b0 w x6) := aftR_bel A.out hb (by have h2 := HC.out; omega)
      replace LB : Hid (b0 ≤ x6.heap.size) := Nat.le_trans LB.out hb.size
      clear hb
      go_wp2
      go_ret
      exact ⟨_, L2, rfl, R, ⟨by have := HL.out; have := HX.out; omega, HO.out⟩, C.more (by have := HX.out; omega), A⟩
    · go_wp2_with fail
      refine (IH.out 125 (wrap64 (d - 1)) ar (.slice av L.length cv) L (m + 2 + 2) x3 (by decide) HDa.out.1 HDa.out.2 (HDr.out _ (by decide)) (by have := HM.out; have := HX.out; omega) (by have := HL.out; have := HK.out; have := HX.out; omega) LB.out R.out HO.out C).mono ?_
      rintro e x4 ⟨v', L1, rfl, R1, HQ, C1, A1⟩
      have HL2 : Hid (L1.length ≤ L.length + (NN f)) := by unfold Hid; have := HL.out; have := HQ.out.1; omega
      obtain ⟨av1, cv1, gg, hv, hgg⟩ := owned_ins R1.out
      subst hv
      clear R HO HL C hgg
      have R : Hid (x4.ownsRow b0 41 2 (.slice av1 L1.length cv1) L1.length (pv L1)) := R1
      have HO : Hid (∀ x ∈ L1, OkI x) := HQ.out.2
      have HL := HL2
      have C := C1
      replace A : Hid (AftR B g b0 w x4) := aftR_trans A.out A1.out
      replace LB : Hid (b0 ≤ x4.heap.size) := Nat.le_trans LB.out A1.out.size
      clear R1 HQ C1 A1 HL2
      obtain ⟨y, hy⟩ : ∃ z, x4.heap.size = z := ⟨_, rfl⟩
      obtain ⟨x5, hN⟩ : ∃ W, x4.alloc (.cells #[.int .i64 180, .int .i64 0] 41) = W := ⟨_, rfl⟩
      have bn : x5.heap[y]? = some (.cells #[.int .i64 180, .int .i64 0] 41 (0, 0)) := by rw [← hN, ← hy]; exact heap_alloc_new _ _
      have HY0 : Hid (b0 ≤ y) := by unfold Hid; rw [← hy]; exact LB.out
      have hb : Below x4.heap.size x4 x5 := by rw [← hN]; exact (Below.refl _ _).alloc (Nat.le_refl _) _
      replace R : Hid (x5.ownsRow b0 41 2 (.slice av1 L1.length cv1) L1.length (pv L1)) := by unfold Hid; rw [← hN]; exact R.out.alloc _
      replace C := C.kept hb
      replace A : Hid (AftR B g b0 w x5) := aftR_bel A.out (hb.mono LB.out) (by have h2 := HC.out; omega)
      replace LB : Hid (b0 ≤ x5.heap.size) := Nat.le_trans LB.out hb.size
      clear hb
      clear HY0
      have HBN : Hid _ := bn
      clear bn
      go_wp2_with (at_builtin; refine wpList_append_own _ rfl _ _ 37 rfl b0 41 i0 (.agg #[.int .i64 0, .int .i64 0]) 2 16 Tryz.underlying37 hi hz0 hz1 hz2 rfl (by decide) _ _ _ rfl R.out ⟨y, 0, none⟩ 1 _ [.int .i64 180, .int .i64 0] rfl rfl ?qc2 ?qc3 ?qc4 ?qc5 ?qc6 ?_)
      case qc2 =>
        intro j u hu
        have hj : j < 2 := by rcases Nat.lt_or_ge j 2 with h' | h'; exact h'; rw [List.getElem?_eq_none (by simpa using h')] at hu; cases hu
        rw [Addr.add_lit, Nat.zero_add, cell_of_block HBN.out, ← hu]
        have hjj : j = 0 ∨ j = 1 := by omega
        rcases hjj with rfl | rfl <;> rfl
      case qc3 => intro u hu; simp at hu; rcases hu with rfl | rfl <;> rfl
      case qc4 => have := HL.out; have := HK.out; unfold maxLen; omega
      case qc5 => have := HL.out; have := HK.out; omega
      case qc6 => exact LB.out
      intro v' x6 hown hgr _
      clear hN hy HBN
      have hb : Below b0 x5 x6 := (Below.refl _ _).grown hgr LB.out (fun q hq => (R.out.lt q hq).1)
      rw [pv_app L1 (180, 0)] at hown
      have hown2 : x6.ownsRow b0 41 2 v' (L1 ++ [(180, 0)]).length (pv (L1 ++ [(180, 0)])) := by simpa using hown
      have HO2 : Hid (∀ x ∈ L1 ++ [(180, 0)], OkI x) := okI_app HO.out _ _ (by decide) (by decide)
      obtain ⟨L2, hL⟩ : ∃ M, L1 ++ [(180, 0)] = M := ⟨_, rfl⟩
      have hlen : L2.length = L1.length + 1 := by rw [← hL]; simp
      rw [hL] at hown2 HO2
      have HL2 : Hid (L2.length ≤ L.length + (NN f + 1)) := by unfold Hid; have := HL.out; omega
      obtain ⟨av2, cv2, gg, hv, hgg⟩ := owned_ins hown2
      subst hv
      clear R HO HL hL hlen hown hgg hgr
      have R : Hid (x6.ownsRow b0 41 2 (.slice av2 L2.length cv2) L2.length (pv L2)) := hown2
      have HO := HO2
      have HL := HL2
      clear HO2 HL2 hown2
      replace C := cur_low C hb (by have h2 := HC.out; omega)
      replace A : Hid (AftR B g b0 w x6) := aftR_bel A.out hb (by have h2 := HC.out; omega)
      replace LB : Hid (b0 ≤ x6.heap.size) := Nat.le_trans LB.out hb.size
      clear hb
      go_wp2
      go_ret
      exact ⟨_, L2, rfl, R, ⟨by have := HL.out; have := HX.out; omega, HO.out⟩, C.more (by have := HX.out; omega), A⟩
    · go_wp2_with fail
      refine (IH.out 127 0 ar (.slice av L.length cv) L (m + 2 + 2) x3 (by decide) (by have := HF.out; omega) (by omega) (Nat.zero_le _) (by have := HM.out; have := HX.out; omega) (by have := HL.out; have := HK.out; have := HX.out; omega) LB.out R.out HO.out C).mono ?_
      rintro e x4 ⟨v', L1, rfl, R1, HQ, C1, A1⟩
      have HL2 : Hid (L1.length ≤ L.length + (NN f)) := by unfold Hid; have := HL.out; have := HQ.out.1; omega
      obtain ⟨av1, cv1, gg, hv, hgg⟩ := owned_ins R1.out
      subst hv
      clear R HO HL C hgg
      have R : Hid (x4.ownsRow b0 41 2 (.slice av1 L1.length cv1) L1.length (pv L1)) := R1
      have HO : Hid (∀ x ∈ L1, OkI x) := HQ.out.2
      have HL := HL2
      have C := C1
      replace A : Hid (AftR B g b0 w x4) := aftR_trans A.out A1.out
      replace LB : Hid (b0 ≤ x4.heap.size) := Nat.le_trans LB.out A1.out.size
      clear R1 HQ C1 A1 HL2
      go_wp2_with fail
      refine (curPick 20 (by omega) (by omega) g a n cap B (m + 2 + 2 + MM f) (hid_le (by have := HM.out; omega)) x4 C).mono ?_
      rintro e x5 ⟨r, r0, r1, rfl, C1, ha⟩
      have Hr : Hid (0 ≤ r ∧ r < 20) := ⟨r0, r1⟩
      clear r0 r1
      replace R : Hid (x5.ownsRow b0 41 2 (.slice av1 L1.length cv1) L1.length (pv L1)) := own_keep R.out (fun q hq => ha.blk q (by have h1 := (R.out.lt q hq).1; have h2 := HC.out; omega) (R.out.lt q hq).2)
      replace A : Hid (AftR B g b0 w x5) := aftR_cur A.out ha
      replace LB : Hid (b0 ≤ x5.heap.size) := Nat.le_trans LB.out ha.size
      clear ha C
      have C := C1
      clear C1
      obtain ⟨y, hy⟩ : ∃ z, x5.heap.size = z := ⟨_, rfl⟩
      obtain ⟨x6, hN⟩ : ∃ W, x5.alloc (.cells #[.int .i64 40, .int .i64 r] 41) = W := ⟨_, rfl⟩
      have bn : x6.heap[y]? = some (.cells #[.int .i64 40, .int .i64 r] 41 (0, 0)) := by rw [← hN, ← hy]; exact heap_alloc_new _ _
      have HY0 : Hid (b0 ≤ y) := by unfold Hid; rw [← hy]; exact LB.out
      have hb : Below x5.heap.size x5 x6 := by rw [← hN]; exact (Below.refl _ _).alloc (Nat.le_refl _) _
      replace R : Hid (x6.ownsRow b0 41 2 (.slice av1 L1.length cv1) L1.length (pv L1)) := by unfold Hid; rw [← hN]; exact R.out.alloc _
      replace C := C.kept hb
      replace A : Hid (AftR B g b0 w x6) := aftR_bel A.out (hb.mono LB.out) (by have h2 := HC.out; omega)
      replace LB : Hid (b0 ≤ x6.heap.size) := Nat.le_trans LB.out hb.size
      clear hb
      clear HY0
      have HBN : Hid _ := bn
      clear bn
      go_wp2_with (at_builtin; refine wpList_append_own _ rfl _ _ 37 rfl b0 41 i0 (.agg #[.int .i64 0, .int .i64 0]) 2 16 Tryz.underlying37 hi hz0 hz1 hz2 rfl (by decide) _ _ _ rfl R.out ⟨y, 0, none⟩ 1 _ [.int .i64 40, .int .i64 r] rfl rfl ?qc2 ?qc3 ?qc4 ?qc5 ?qc6 ?_)
      case qc2 =>
        intro j u hu
        have hj : j < 2 := by rcases Nat.lt_or_ge j 2 with h' | h'; exact h'; rw [List.getElem?_eq_none (by simpa using h')] at hu; cases hu
        rw [Addr.add_lit, Nat.zero_add, cell_of_block HBN.out, ← hu]
        have hjj : j = 0 ∨ j = 1 := by omega
        rcases hjj with rfl | rfl <;> rfl
      case qc3 => intro u hu; simp at hu; rcases hu with rfl | rfl <;> rfl
      case qc4 => have := HL.out; have := HK.out; unfold maxLen; omega
      case qc5 => have := HL.out; have := HK.out; omega
      case qc6 => exact LB.out
      intro v' x7 hown hgr _
      clear hN hy HBN
      have hb : Below b0 x6 x7 := (Below.refl _ _).grown hgr LB.out (fun q hq => (R.out.lt q hq).1)
      rw [pv_app L1 (40, r)] at hown
      have hown2 : x7.ownsRow b0 41 2 v' (L1 ++ [(40, r)]).length (pv (L1 ++ [(40, r)])) := by simpa using hown
      have HO2 : Hid (∀ x ∈ L1 ++ [(40, r)], OkI x) := okI_app HO.out _ _ (by decide) ⟨by have := Hr.out; omega, by have := Hr.out; omega⟩
      obtain ⟨L2, hL⟩ : ∃ M, L1 ++ [(40, r)] = M := ⟨_, rfl⟩
      have hlen : L2.length = L1.length + 1 := by rw [← hL]; simp
      rw [hL] at hown2 HO2
      have HL2 : Hid (L2.length ≤ L.length + (NN f + 1)) := by unfold Hid; have := HL.out; omega
      obtain ⟨av2, cv2, gg, hv, hgg⟩ := owned_ins hown2
      subst hv
      clear R HO HL hL hlen hown hgg hgr
      have R : Hid (x7.ownsRow b0 41 2 (.slice av2 L2.length cv2) L2.length (pv L2)) := hown2
      have HO := HO2
      have HL := HL2
      clear HO2 HL2 hown2
      replace C := cur_low C hb (by have h2 := HC.out; omega)
      replace A : Hid (AftR B g b0 w x7) := aftR_bel A.out hb (by have h2 := HC.out; omega)
      replace LB : Hid (b0 ≤ x7.heap.size) := Nat.le_trans LB.out hb.size
      clear hb
      go_wp2
      go_ret
      exact ⟨_, L2, rfl, R, ⟨by have := HL.out; have := HX.out; omega, HO.out⟩, C.more (by have := HX.out; omega), A⟩
    · go_wp2_with fail
      refine (IH.out 127 (wrap64 (d - 1)) ar (.slice av L.length cv) L (m + 2 + 2) x3 (by decide) HDa.out.1 HDa.out.2 (HDr.out _ (by decide)) (by have := HM.out; have := HX.out; omega) (by have := HL.out; have := HK.out; have := HX.out; omega) LB.out R.out HO.out C).mono ?_
      rintro e x4 ⟨v', L1, rfl, R1, HQ, C1, A1⟩
      have HL2 : Hid (L1.length ≤ L.length + (NN f)) := by unfold Hid; have := HL.out; have := HQ.out.1; omega
      obtain ⟨av1, cv1, gg, hv, hgg⟩ := owned_ins R1.out
      subst hv
      clear R HO HL C hgg
      have R : Hid (x4.ownsRow b0 41 2 (.slice av1 L1.length cv1) L1.length (pv L1)) := R1
      have HO : Hid (∀ x ∈ L1, OkI x) := HQ.out.2
      have HL := HL2
      have C := C1
      replace A : Hid (AftR B g b0 w x4) := aftR_trans A.out A1.out
      replace LB : Hid (b0 ≤ x4.heap.size) := Nat.le_trans LB.out A1.out.size
      clear R1 HQ C1 A1 HL2
      go_wp2_with fail
      refine (IH.out 127 (wrap64 (d - 1)) ar (.slice av1 L1.length cv1) L1 (m + 2 + 2 + MM f) x4 (by decide) HDa.out.1 HDa.out.2 (HDr.out _ (by decide)) (by have := HM.out; have := HX.out; omega) (by have := HL.out; have := HK.out; have := HX.out; omega) LB.out R.out HO.out C).mono ?_
      rintro e x5 ⟨v', L2, rfl, R1, HQ, C1, A1⟩
      have HL2 : Hid (L2.length ≤ L.length + (NN f + NN f)) := by unfold Hid; have := HL.out; have := HQ.out.1; omega
      obtain ⟨av2, cv2, gg, hv, hgg⟩ := owned_ins R1.out
      subst hv
      clear R HO HL C hgg
      have R : Hid (x5.ownsRow b0 41 2 (.slice av2 L2.length cv2) L2.length (pv L2)) := R1
      have HO : Hid (∀ x ∈ L2, OkI x) := HQ.out.2
      have HL := HL2
      have C := C1
      replace A : Hid (AftR B g b0 w x5) := aftR_trans A.out A1.out
      replace LB : Hid (b0 ≤ x5.heap.size) := Nat.le_trans LB.out A1.out.size
      clear R1 HQ C1 A1 HL2
      go_wp2_with fail
      refine (curPick 21 (by omega) (by omega) g a n cap B (m + 2 + 2 + MM f + MM f) (hid_le (by have := HM.out; omega)) x5 C).mono ?_
      rintro e x6 ⟨r, r0, r1, rfl, C1, ha⟩
      have Hr : Hid (0 ≤ r ∧ r < 21) := ⟨r0, r1⟩
      clear r0 r1
      replace R : Hid (x6.ownsRow b0 41 2 (.slice av2 L2.length cv2) L2.length (pv L2)) := own_keep R.out (fun q hq => ha.blk q (by have h1 := (R.out.lt q hq).1; have h2 := HC.out; omega) (R.out.lt q hq).2)
      replace A : Hid (AftR B g b0 w x6) := aftR_cur A.out ha
      replace LB : Hid (b0 ≤ x6.heap.size) := Nat.le_trans LB.out ha.size
      clear ha C
      have C := C1
      clear C1
      have hwr : wrap64 (97 + r) = 97 + r := by have := Hr.out; unfold wrap64; omega
      obtain ⟨y, hy⟩ : ∃ z, x6.heap.size = z := ⟨_, rfl⟩
      obtain ⟨x7, hN⟩ : ∃ W, x6.alloc (.cells #[.int .i64 (97 + r), .int .i64 0] 41) = W := ⟨_, rfl⟩
      have bn : x7.heap[y]? = some (.cells #[.int .i64 (97 + r), .int .i64 0] 41 (0, 0)) := by rw [← hN, ← hy]; exact heap_alloc_new _ _
      have HY0 : Hid (b0 ≤ y) := by unfold Hid; rw [← hy]; exact LB.out
      have hb : Below x6.heap.size x6 x7 := by rw [← hN]; exact (Below.refl _ _).alloc (Nat.le_refl _) _
      replace R : Hid (x7.ownsRow b0 41 2 (.slice av2 L2.length cv2) L2.length (pv L2)) := by unfold Hid; rw [← hN]; exact R.out.alloc _
      replace C := C.kept hb
      replace A : Hid (AftR B g b0 w x7) := aftR_bel A.out (hb.mono LB.out) (by have h2 := HC.out; omega)
      replace LB : Hid (b0 ≤ x7.heap.size) := Nat.le_trans LB.out hb.size
      clear hb
      clear HY0
      have HBN : Hid _ := bn
      clear bn
      go_wp2_with (at_builtin; refine wpList_append_own _ rfl _ _ 37 rfl b0 41 i0 (.agg #[.int .i64 0, .int .i64 0]) 2 16 Tryz.underlying37 hi hz0 hz1 hz2 rfl (by decide) _ _ _ rfl R.out ⟨y, 0, none⟩ 1 _ [.int .i64 (97 + r), .int .i64 0] rfl rfl ?qc2 ?qc3 ?qc4 ?qc5 ?qc6 ?_)
      case qc2 =>
        intro j u hu
        have hj : j < 2 := by rcases Nat.lt_or_ge j 2 with h' | h'; exact h'; rw [List.getElem?_eq_none (by simpa using h')] at hu; cases hu
        rw [Addr.add_lit, Nat.zero_add, cell_of_block HBN.out, ← hu]
        have hjj : j = 0 ∨ j = 1 := by omega
        rcases hjj with rfl | rfl <;> rfl
      case qc3 => intro u hu; simp at hu; rcases hu with rfl | rfl <;> rfl
      case qc4 => have := HL.out; have := HK.out; unfold maxLen; omega
      case qc5 => have := HL.out; have := HK.out; omega
      case qc6 => exact LB.out
      intro v' x8 hown hgr _
      clear hN hy HBN
      have hb : Below b0 x7 x8 := (Below.refl _ _).grown hgr LB.out (fun q hq => (R.out.lt q hq).1)
      rw [pv_app L2 ((97 + r), 0)] at hown
      have hown2 : x8.ownsRow b0 41 2 v' (L2 ++ [((97 + r), 0)]).length (pv (L2 ++ [((97 + r), 0)])) := by simpa using hown
      have HO2 : Hid (∀ x ∈ L2 ++ [((97 + r), 0)], OkI x) := okI_app HO.out _ _ ⟨by have := Hr.out; omega, by have := Hr.out; omega⟩ (by decide)
      obtain ⟨L3, hL⟩ : ∃ M, L2 ++ [((97 + r), 0)] = M := ⟨_, rfl⟩
      have hlen : L3.length = L2.length + 1 := by rw [← hL]; simp
      rw [hL] at hown2 HO2
      have HL2 : Hid (L3.length ≤ L.length + (NN f + NN f + 1)) := by unfold Hid; have := HL.out; omega
      obtain ⟨av3, cv3, gg, hv, hgg⟩ := owned_ins hown2
      subst hv
      clear R HO HL hL hlen hown hgg hgr
      have R : Hid (x8.ownsRow b0 41 2 (.slice av3 L3.length cv3) L3.length (pv L3)) := hown2
      have HO := HO2
      have HL := HL2
      clear HO2 HL2 hown2
      replace C := cur_low C hb (by have h2 := HC.out; omega)
      replace A : Hid (AftR B g b0 w x8) := aftR_bel A.out hb (by have h2 := HC.out; omega)
      replace LB : Hid (b0 ≤ x8.heap.size) := Nat.le_trans LB.out hb.size
      clear hb
      go_wp2
      go_ret
      exact ⟨_, L3, rfl, R, ⟨by have := HL.out; have := HX.out; omega, HO.out⟩, C.more (by have := HX.out; omega), A⟩
    · go_wp2_with fail
      refine (IH.out 127 (wrap64 (d - 1)) ar (.slice av L.length cv) L (m + 2 + 2) x3 (by decide) HDa.out.1 HDa.out.2 (HDr.out _ (by decide)) (by have := HM.out; have := HX.out; omega) (by have := HL.out; have := HK.out; have := HX.out; omega) LB.out R.out HO.out C).mono ?_
      rintro e x4 ⟨v', L1, rfl, R1, HQ, C1, A1⟩
      have HL2 : Hid (L1.length ≤ L.length + (NN f)) := by unfold Hid; have := HL.out; have := HQ.out.1; omega
      obtain ⟨av1, cv1, gg, hv, hgg⟩ := owned_ins R1.out
      subst hv
      clear R HO HL C hgg
      have R : Hid (x4.ownsRow b0 41 2 (.slice av1 L1.length cv1) L1.length (pv L1)) := R1
      have HO : Hid (∀ x ∈ L1, OkI x) := HQ.out.2
      have HL := HL2
      have C := C1
      replace A : Hid (AftR B g b0 w x4) := aftR_trans A.out A1.out
      replace LB : Hid (b0 ≤ x4.heap.size) := Nat.le_trans LB.out A1.out.size
      clear R1 HQ C1 A1 HL2
      go_wp2_with fail
      refine (IH.out 127 (wrap64 (d - 1)) ar (.slice av1 L1.length cv1) L1 (m + 2 + 2 + MM f) x4 (by decide) HDa.out.1 HDa.out.2 (HDr.out _ (by decide)) (by have := HM.out; have := HX.out; omega) (by have := HL.out; have := HK.out; have := HX.out; omega) LB.out R.out HO.out C).mono ?_
      rintro e x5 ⟨v', L2, rfl, R1, HQ, C1, A1⟩
      have HL2 : Hid (L2.length ≤ L.length + (NN f + NN f)) := by unfold Hid; have := HL.out; have := HQ.out.1; omega
      obtain ⟨av2, cv2, gg, hv, hgg⟩ := owned_ins R1.out
      subst hv
      clear R HO HL C hgg
      have R : Hid (x5.ownsRow b0 41 2 (.slice av2 L2.length cv2) L2.length (pv L2)) := R1
      have HO : Hid (∀ x ∈ L2, OkI x) := HQ.out.2
      have HL := HL2
      have C := C1
      replace A : Hid (AftR B g b0 w x5) := aftR_trans A.out A1.out
      replace LB : Hid (b0 ≤ x5.heap.size) := Nat.le_trans LB.out A1.out.size
      clear R1 HQ C1 A1 HL2
      go_wp2_with fail
      refine (curPick 21 (by omega) (by omega) g a n cap B (m + 2 + 2 + MM f + MM f) (hid_le (by have := HM.out; omega)) x5 C).mono ?_
      rintro e x6 ⟨r, r0, r1, rfl, C1, ha⟩
      have Hr : Hid (0 ≤ r ∧ r < 21) := ⟨r0, r1⟩
      clear r0 r1
      replace R : Hid (x6.ownsRow b0 41 2 (.slice av2 L2.length cv2) L2.length (pv L2)) := own_keep R.out (fun q hq => ha.blk q (by have h1 := (R.out.lt q hq).1; have h2 := HC.out; omega) (R.out.lt q hq).2)
      replace A : Hid (AftR B g b0 w x6) := aftR_cur A.out ha
      replace LB : Hid (b0 ≤ x6.heap.size) := Nat.le_trans LB.out ha.size
      clear ha C
      have C := C1
      clear C1
      have hwr : wrap64 (97 + r) = 97 + r := by have := Hr.out; unfold wrap64; omega
      obtain ⟨y, hy⟩ : ∃ z, x6.heap.size = z := ⟨_, rfl⟩
      obtain ⟨x7, hN⟩ : ∃ W, x6.alloc (.cells #[.int .i64 (97 + r), .int .i64 0] 41) = W := ⟨_, rfl⟩
      have bn : x7.heap[y]? = some (.cells #[.int .i64 (97 + r), .int .i64 0] 41 (0, 0)) := by rw [← hN, ← hy]; exact heap_alloc_new _ _
      have HY0 : Hid (b0 ≤ y) := by unfold Hid; rw [← hy]; exact LB.out
      have hb : Below x6.heap.size x6 x7 := by rw [← hN]; exact (Below.refl _ _).alloc (Nat.le_refl _) _
      replace R : Hid (x7.ownsRow b0 41 2 (.slice av2 L2.length cv2) L2.length (pv L2)) := by unfold Hid; rw [← hN]; exact R.out.alloc _
      replace C := C.kept hb
      replace A : Hid (AftR B g b0 w x7) := aftR_bel A.out (hb.mono LB.out) (by have h2 := HC.out; omega)
      replace LB : Hid (b0 ≤ x7.heap.size) := Nat.le_trans LB.out hb.size
      clear hb
      clear HY0
      have HBN : Hid _ := bn
      clear bn
      go_wp2_with (at_builtin; refine wpList_append_own _ rfl _ _ 37 rfl b0 41 i0 (.agg #[.int .i64 0, .int .i64 0]) 2 16 Tryz.underlying37 hi hz0 hz1 hz2 rfl (by decide) _ _ _ rfl R.out ⟨y, 0, none⟩ 1 _ [.int .i64 (97 + r), .int .i64 0] rfl rfl ?qc2 ?qc3 ?qc4 ?qc5 ?qc6 ?_)
      case qc2 =>
        intro j u hu
        have hj : j < 2 := by rcases Nat.lt_or_ge j 2 with h' | h'; exact h'; rw [List.getElem?_eq_none (by simpa using h')] at hu; cases hu
        rw [Addr.add_lit, Nat.zero_add, cell_of_block HBN.out, ← hu]
        have hjj : j = 0 ∨ j = 1 := by omega
        rcases hjj with rfl | rfl <;> rfl
      case qc3 => intro u hu; simp at hu; rcases hu with rfl | rfl <;> rfl
      case qc4 => have := HL.out; have := HK.out; unfold maxLen; omega
      case qc5 => have := HL.out; have := HK.out; omega
      case qc6 => exact LB.out
      intro v' x8 hown hgr _
      clear hN hy HBN
      have hb : Below b0 x7 x8 := (Below.refl _ _).grown hgr LB.out (fun q hq => (R.out.lt q hq).1)
      rw [pv_app L2 ((97 + r), 0)] at hown
      have hown2 : x8.ownsRow b0 41 2 v' (L2 ++ [((97 + r), 0)]).length (pv (L2 ++ [((97 + r), 0)])) := by simpa using hown
      have HO2 : Hid (∀ x ∈ L2 ++ [((97 + r), 0)], OkI x) := okI_app HO.out _ _ ⟨by have := Hr.out; omega, by have := Hr.out; omega⟩ (by decide)
      obtain ⟨L3, hL⟩ : ∃ M, L2 ++ [((97 + r), 0)] = M := ⟨_, rfl⟩
      have hlen : L3.length = L2.length + 1 := by rw [← hL]; simp
      rw [hL] at hown2 HO2
      have HL2 : Hid (L3.length ≤ L.length + (NN f + NN f + 1)) := by unfold Hid; have := HL.out; omega
      obtain ⟨av3, cv3, gg, hv, hgg⟩ := owned_ins hown2
      subst hv
      clear R HO HL hL hlen hown hgg hgr
      have R : Hid (x8.ownsRow b0 41 2 (.slice av3 L3.length cv3) L3.length (pv L3)) := hown2
      have HO := HO2
      have HL := HL2
      clear HO2 HL2 hown2
      replace C := cur_low C hb (by have h2 := HC.out; omega)
      replace A : Hid (AftR B g b0 w x8) := aftR_bel A.out hb (by have h2 := HC.out; omega)
      replace LB : Hid (b0 ≤ x8.heap.size) := Nat.le_trans LB.out hb.size
      clear hb
      go_wp2
      go_ret
      exact ⟨_, L3, rfl, R, ⟨by have := HL.out; have := HX.out; omega, HO.out⟩, C.more (by have := HX.out; omega), A⟩

end Go.Proofs.YtcgnefgdfgikdaaGreat

namespace Go.Proofs.YtcgnefgdfgikdaaGreat
open Go.ChangeShapes Go.WideShapes Go.ChangeAt Go.RowKit

set_option maxRecDepth 100000 in
set_option maxHeartbeats 3200000 in
theorem genDeep64 (B g b0 : Nat) (a : Option Addr) (n cap f : Nat) (IH : Hid (GenP B g b0 a n cap f)) (d ar : Int) (av : Option Addr) (cv : Nat) (L : List (Int × Int)) (m : Nat) (w : World)
    (hlo : ((f + 1 : Nat) : Int) - 1000 ≤ d) (hhi : d ≤ 100) (hrk : 2 * d ≤ f + 1) (hd : 0 < d) (hlen : ¬ 120 < (L.length : Int)) (hf : f ≤ 500) (hX : Hid (0 ≤ NN f ∧ 0 ≤ MM f)) (hM : m + (3 * MM f + 30) ≤ 600000) (hK : L.length + (3 * NN f + 4) ≤ 100000) (hb0 : b0 ≤ w.heap.size) (hg0 : g < b0 ∧ B ≤ g) (hR : w.ownsRow b0 41 2 (.slice av L.length cv) L.length (pv L)) (hO : ∀ x ∈ L, OkI x) (C : Cur w g a n cap B m) :
    Calls Tryz.prog 43 #[.pointer (some ⟨g, 0, none⟩), .slice av L.length cv, .int .i64 126, .int .i64 d, .int .i64 ar] w fun e w' => ∃ (v' : Value) (L' : List (Int × Int)), e = .returned v' ∧ Hid (w'.ownsRow b0 41 2 v' L'.length (pv L')) ∧ Hid (L'.length ≤ L.length + (3 * NN f + 4) ∧ ∀ x ∈ L', OkI x) ∧ Cur w' g a n cap B (m + (3 * MM f + 30)) ∧ Hid (AftR B g b0 w w') := by
  obtain ⟨i0, hi, hz0, hz1, hz2⟩ := info_parts Tryz.info41
  have HX := hX
  have HM : Hid (m + (3 * MM f + 30) ≤ 600000) := hM
  have HK : Hid (L.length + (3 * NN f + 4) ≤ 100000) := hK
  have HC : Hid (g < b0 ∧ B ≤ g) := hg0
  have LB : Hid (b0 ≤ w.heap.size) := hb0
  have R : Hid (w.ownsRow b0 41 2 (.slice av L.length cv) L.length (pv L)) := hR
  have HO : Hid (∀ x ∈ L, OkI x) := hO
  have HL : Hid (L.length ≤ L.length + 0) := Nat.le_refl _
  have A : Hid (AftR B g b0 w w) := aftR_refl _ _ _ _
  clear hX hM hK hg0 hb0 hR hO
  have HF : Hid (f ≤ 500) := hf
  have HD : Hid (((f + 1 : Nat) : Int) - 1000 ≤ d ∧ d ≤ 100 ∧ 2 * d ≤ f + 1) := ⟨hlo, hhi, hrk⟩
  have HDa : Hid ((f : Int) - 1000 ≤ wrap64 (d - 1) ∧ wrap64 (d - 1) ≤ 100) := dec_lo f d hlo hhi
  have HDr : Hid (∀ w' : Int, w' ≠ 64 → rk w' (wrap64 (d - 1)) ≤ f) := fun w' hw => rk_type f w' d hw hlo hhi (by omega)
  have HDn : Hid (rk 64 (wrap64 (d - 1)) ≤ f) := rk_none f d hlo hhi hrk hd
  clear HD
  clear hlo hhi hrk hf
  go_enter Tryz.func43, Tryz.ntmps43
  go_wp2_with fail
  refine (curPick 6 (by omega) (by omega) g a n cap B (m) (hid_le (by have := HM.out; omega)) w C).mono ?_
  rintro e x2 ⟨q, q0, q1, rfl, C1, ha⟩
  have Hq : Hid (0 ≤ q ∧ q < 6) := ⟨q0, q1⟩
  clear q0 q1
  replace R : Hid (x2.ownsRow b0 41 2 (.slice av L.length cv) L.length (pv L)) := own_keep R.out (fun q hq => ha.blk q (by have h1 := (R.out.lt q hq).1; have h2 := HC.out; omega) (R.out.lt q hq).2)
  replace A : Hid (AftR B g b0 w x2) := aftR_cur A.out ha
  replace LB : Hid (b0 ≤ x2.heap.size) := Nat.le_trans LB.out ha.size
  clear ha C
  have C := C1
  clear C1
  have hq : q = 0 ∨ q = 1 ∨ (¬ q = 0 ∧ ¬ q = 1) := by have := Hq.out; omega
  clear Hq
  rcases hq with rfl | rfl | ⟨hq0, hq1⟩
  · go_wp2_with fail
    refine (IH.out 127 (wrap64 (d - 1)) ar (.slice av L.length cv) L (m + 2) x2 (by decide) HDa.out.1 HDa.out.2 (HDr.out _ (by decide)) (by have := HM.out; have := HX.out; omega) (by have := HL.out; have := HK.out; have := HX.out; omega) LB.out R.out HO.out C).mono ?_
    rintro e x3 ⟨v', L1, rfl, R1, HQ, C1, A1⟩
    have HL2 : Hid (L1.length ≤ L.length + (NN f)) := by unfold Hid; have := HL.out; have := HQ.out.1; omega
    obtain ⟨av1, cv1, gg, hv, hgg⟩ := owned_ins R1.out
    subst hv
    clear R HO HL C hgg
    have R : Hid (x3.ownsRow b0 41 2 (.slice av1 L1.length cv1) L1.length (pv L1)) := R1
    have HO : Hid (∀ x ∈ L1, OkI x) := HQ.out.2
    have HL := HL2
    have C := C1
    replace A : Hid (AftR B g b0 w x3) := aftR_trans A.out A1.out
    replace LB : Hid (b0 ≤ x3.heap.size) := Nat.le_trans LB.out A1.out.size
    clear R1 HQ C1 A1 HL2
    obtain ⟨y, hy⟩ : ∃ z, x3.heap.size = z := ⟨_, rfl⟩
    obtain ⟨x4, hN⟩ : ∃ W, x3.alloc (.cells #[.int .i64 4, .int .i64 126] 41) = W := ⟨_, rfl⟩
    have bn : x4.heap[y]? = some (.cells #[.int .i64 4, .int .i64 126] 41 (0, 0)) := by rw [← hN, ← hy]; exact heap_alloc_new _ _
    have HY0 : Hid (b0 ≤ y) := by unfold Hid; rw [← hy]; exact LB.out
    have hb : Below x3.heap.size x3 x4 := by rw [← hN]; exact (Below.refl _ _).alloc (Nat.le_refl _) _
    replace R : Hid (x4.ownsRow b0 41 2 (.slice av1 L1.length cv1) L1.length (pv L1)) := by unfold Hid; rw [← hN]; exact R.out.alloc _
    replace C := C.kept hb
    replace A : Hid (AftR B g b0 w x4) := aftR_bel A.out (hb.mono LB.out) (by have h2 := HC.out; omega)
    replace LB : Hid (b0 ≤ x4.heap.size) := Nat.le_trans LB.out hb.size
    clear hb
    clear HY0
    have HBN : Hid _ := bn
    clear bn
    go_wp2_with (at_builtin; refine wpList_append_own _ rfl _ _ 37 rfl b0 41 i0 (.agg #[.int .i64 0, .int .i64 0]) 2 16 Tryz.underlying37 hi hz0 hz1 hz2 rfl (by decide) _ _ _ rfl R.out ⟨y, 0, none⟩ 1 _ [.int .i64 4, .int .i64 126] rfl rfl ?qc2 ?qc3 ?qc4 ?qc5 ?qc6 ?_)
    case qc2 =>
      intro j u hu
      have hj : j < 2 := by rcases Nat.lt_or_ge j 2 with h' | h'; exact h'; rw [List.getElem?_eq_none (by simpa using h')] at hu; cases hu
      rw [Addr.add_lit, Nat.zero_add, cell_of_block HBN.out, ← hu]
      have hjj : j = 0 ∨ j = 1 := by omega
      rcases hjj with rfl | rfl <;> rfl
    case qc3 => intro u hu; simp at hu; rcases hu with rfl | rfl <;> rfl
    case qc4 => have := HL.out; have := HK.out; unfold maxLen; omega
    case qc5 => have := HL.out; have := HK.out; omega
    case qc6 => exact LB.out
    intro v' x5 hown hgr _
    clear hN hy HBN
    have hb : Below b0 x4 x5 := (Below.refl _ _).grown hgr LB.out (fun q hq => (R.out.lt q hq).1)
    rw [pv_app L1 (4, 126)] at hown
    have hown2 : x5.ownsRow b0 41 2 v' (L1 ++ [(4, 126)]).length (pv (L1 ++ [(4, 126)])) := by simpa using hown
    have HO2 : Hid (∀ x ∈ L1 ++ [(4, 126)], OkI x) := okI_app HO.out _ _ (by decide) (by decide)
    obtain ⟨L2, hL⟩ : ∃ M, L1 ++ [(4, 126)] = M := ⟨_, rfl⟩
    have hlen : L2.length = L1.length + 1 := by rw [← hL]; simp
    rw [hL] at hown2 HO2
    have HL2 : Hid (L2.length ≤ L.length + (NN f + 1)) := by unfold Hid; have := HL.out; omega
    obtain ⟨av2, cv2, gg, hv, hgg⟩ := owned_ins hown2
    subst hv
    clear R HO HL hL hlen hown hgg hgr
    have R : Hid (x5.ownsRow b0 41 2 (.slice av2 L2.length cv2) L2.length (pv L2)) := hown2
    have HO := HO2
    have HL := HL2
    clear HO2 HL2 hown2
    replace C := cur_low C hb (by have h2 := HC.out; omega)
    replace A : Hid (AftR B g b0 w x5) := aftR_bel A.out hb (by have h2 := HC.out; omega)
    replace LB : Hid (b0 ≤ x5.heap.size) := Nat.le_trans LB.out hb.size
    clear hb
    go_wp2_with fail
    refine (IH.out 126 (wrap64 (d - 1)) (wrap64 (ar + 1)) (.slice av2 L2.length cv2) L2 (m + 2 + MM f) x5 (by decide) HDa.out.1 HDa.out.2 (HDr.out _ (by decide)) (by have := HM.out; have := HX.out; omega) (by have := HL.out; have := HK.out; have := HX.out; omega) LB.out R.out HO.out C).mono ?_
    rintro e x6 ⟨v', L3, rfl, R1, HQ, C1, A1⟩
    have HL2 : Hid (L3.length ≤ L.length + (NN f + 1 + NN f)) := by unfold Hid; have := HL.out; have := HQ.out.1; omega
    obtain ⟨av3, cv3, gg, hv, hgg⟩ := owned_ins R1.out
    subst hv
    clear R HO HL C hgg
    have R : Hid (x6.ownsRow b0 41 2 (.slice av3 L3.length cv3) L3.length (pv L3)) := R1
    have HO : Hid (∀ x ∈ L3, OkI x) := HQ.out.2
    have HL := HL2
    have C := C1
    replace A : Hid (AftR B g b0 w x6) := aftR_trans A.out A1.out
    replace LB : Hid (b0 ≤ x6.heap.size) := Nat.le_trans LB.out A1.out.size
    clear R1 HQ C1 A1 HL2
    obtain ⟨y, hy⟩ : ∃ z, x6.heap.size = z := ⟨_, rfl⟩
    obtain ⟨x7, hN⟩ : ∃ W, x6.alloc (.cells #[.int .i64 5, .int .i64 0] 41) = W := ⟨_, rfl⟩
    have bn : x7.heap[y]? = some (.cells #[.int .i64 5, .int .i64 0] 41 (0, 0)) := by rw [← hN, ← hy]; exact heap_alloc_new _ _
    have HY0 : Hid (b0 ≤ y) := by unfold Hid; rw [← hy]; exact LB.out
    have hb : Below x6.heap.size x6 x7 := by rw [← hN]; exact (Below.refl _ _).alloc (Nat.le_refl _) _
    replace R : Hid (x7.ownsRow b0 41 2 (.slice av3 L3.length cv3) L3.length (pv L3)) := by unfold Hid; rw [← hN]; exact R.out.alloc _
    replace C := C.kept hb
    replace A : Hid (AftR B g b0 w x7) := aftR_bel A.out (hb.mono LB.out) (by have h2 := HC.out; omega)
    replace LB : Hid (b0 ≤ x7.heap.size) := Nat.le_trans LB.out hb.size
    clear hb
    clear HY0
    have HBN : Hid _ := bn
    clear bn
    go_wp2_with (at_builtin; refine wpList_append_own _ rfl _ _ 37 rfl b0 41 i0 (.agg #[.int .i64 0, .int .i64 0]) 2 16 Tryz.underlying37 hi hz0 hz1 hz2 rfl (by decide) _ _ _ rfl R.out ⟨y, 0, none⟩ 1 _ [.int .i64 5, .int .i64 0] rfl rfl ?qc2 ?qc3 ?qc4 ?qc5 ?qc6 ?_)
    case qc2 =>
      intro j u hu
      have hj : j < 2 := by rcases Nat.lt_or_ge j 2 with h' | h'; exact h'; rw [List.getElem?_eq_none (by simpa using h')] at hu; cases hu
      rw [Addr.add_lit, Nat.zero_add, cell_of_block HBN.out, ← hu]
      have hjj : j = 0 ∨ j = 1 := by omega
      rcases hjj with rfl | rfl <;> rfl
    case qc3 => intro u hu; simp at hu; rcases hu with rfl | rfl <;> rfl
    case qc4 => have := HL.out; have := HK.out; unfold maxLen; omega
    case qc5 => have := HL.out; have := HK.out; omega
    case qc6 => exact LB.out
    intro v' x8 hown hgr _
    clear hN hy HBN
    have hb : Below b0 x7 x8 := (Below.refl _ _).grown hgr LB.out (fun q hq => (R.out.lt q hq).1)
    rw [pv_app L3 (5, 0)] at hown
    have hown2 : x8.ownsRow b0 41 2 v' (L3 ++ [(5, 0)]).length (pv (L3 ++ [(5, 0)])) := by simpa using hown
    have HO2 : Hid (∀ x ∈ L3 ++ [(5, 0)], OkI x) := okI_app HO.out _ _ (by decide) (by decide)
    obtain ⟨L4, hL⟩ : ∃ M, L3 ++ [(5, 0)] = M := ⟨_, rfl⟩
    have hlen : L4.length = L3.length + 1 := by rw [← hL]; simp
    rw [hL] at hown2 HO2
    have HL2 : Hid (L4.length ≤ L.length + (NN f + 1 + NN f + 1)) := by unfold Hid; have := HL.out; omega
    obtain ⟨av4, cv4, gg, hv, hgg⟩ := owned_ins hown2
    subst hv
    clear R HO HL hL hlen hown hgg hgr
    have R : Hid (x8.ownsRow b0 41 2 (.slice av4 L4.length cv4) L4.length (pv L4)) := hown2
    have HO := HO2
    have HL := HL2
    clear HO2 HL2 hown2
    replace C := cur_low C hb (by have h2 := HC.out; omega)
    replace A : Hid (AftR B g b0 w x8) := aftR_bel A.out hb (by have h2 := HC.out; omega)
    replace LB : Hid (b0 ≤ x8.heap.size) := Nat.le_trans LB.out hb.size
    clear hb
    go_wp2_with fail
    refine (IH.out 126 (wrap64 (d - 1)) (wrap64 (ar + 1)) (.slice av4 L4.length cv4) L4 (m + 2 + MM f + MM f) x8 (by decide) HDa.out.1 HDa.out.2 (HDr.out _ (by decide)) (by have := HM.out; have := HX.out; omega) (by have := HL.out; have := HK.out; have := HX.out; omega) LB.out R.out HO.out C).mono ?_
    rintro e x9 ⟨v', L5, rfl, R1, HQ, C1, A1⟩
    have HL2 : Hid (L5.length ≤ L.length + (NN f + 1 + NN f + 1 + NN f)) := by unfold Hid; have := HL.out; have := HQ.out.1; omega
    obtain ⟨av5, cv5, gg, hv, hgg⟩ := owned_ins R1.out
    subst hv
    clear R HO HL C hgg
    have R : Hid (x9.ownsRow b0 41 2 (.slice av5 L5.length cv5) L5.length (pv L5)) := R1
    have HO : Hid (∀ x ∈ L5, OkI x) := HQ.out.2
    have HL := HL2
    have C := C1
    replace A : Hid (AftR B g b0 w x9) := aftR_trans A.out A1.out
    replace LB : Hid (b0 ≤ x9.heap.size) := Nat.le_trans LB.out A1.out.size
    clear R1 HQ C1 A1 HL2
    obtain ⟨y, hy⟩ : ∃ z, x9.heap.size = z := ⟨_, rfl⟩
    obtain ⟨x10, hN⟩ : ∃ W, x9.alloc (.cells #[.int .i64 11, .int .i64 0] 41) = W := ⟨_, rfl⟩
    have bn : x10.heap[y]? = some (.cells #[.int .i64 11, .int .i64 0] 41 (0, 0)) := by rw [← hN, ← hy]; exact heap_alloc_new _ _
    have HY0 : Hid (b0 ≤ y) := by unfold Hid; rw [← hy]; exact LB.out
    have hb : Below x9.heap.size x9 x10 := by rw [← hN]; exact (Below.refl _ _).alloc (Nat.le_refl _) _
    replace R : Hid (x10.ownsRow b0 41 2 (.slice av5 L5.length cv5) L5.length (pv L5)) := by unfold Hid; rw [← hN]; exact R.out.alloc _
    replace C := C.kept hb
    replace A : Hid (AftR B g b0 w x10) := aftR_bel A.out (hb.mono LB.out) (by have h2 := HC.out; omega)
    replace LB : Hid (b0 ≤ x10.heap.size) := Nat.le_trans LB.out hb.size
    clear hb
    clear HY0
    have HBN : Hid _ := bn
    clear bn
    go_wp2_with (at_builtin; refine wpList_append_own _ rfl _ _ 37 rfl b0 41 i0 (.agg #[.int .i64 0, .int .i64 0]) 2 16 Tryz.underlying37 hi hz0 hz1 hz2 rfl (by decide) _ _ _ rfl R.out ⟨y, 0, none⟩ 1 _ [.int .i64 11, .int .i64 0] rfl rfl ?qc2 ?qc3 ?qc4 ?qc5 ?qc6 ?_)
    case qc2 =>
      intro j u hu
      have hj : j < 2 := by rcases Nat.lt_or_ge j 2 with h' | h'; exact h'; rw [List.getElem?_eq_none (by simpa using h')] at hu; cases hu
      rw [Addr.add_lit, Nat.zero_add, cell_of_block HBN.out, ← hu]
      have hjj : j = 0 ∨ j = 1 := by omega
      rcases hjj with rfl | rfl <;> rfl
    case qc3 => intro u hu; simp at hu; rcases hu with rfl | rfl <;> rfl
    case qc4 => have := HL.out; have := HK.out; unfold maxLen; omega
    case qc5 => have := HL.out; have := HK.out; omega
    case qc6 => exact LB.out
    intro v' x11 hown hgr _
    clear hN hy HBN
    have hb : Below b0 x10 x11 := (Below.refl _ _).grown hgr LB.out (fun q hq => (R.out.lt q hq).1)
    rw [pv_app L5 (11, 0)] at hown
    have hown2 : x11.ownsRow b0 41 2 v' (L5 ++ [(11, 0)]).length (pv (L5 ++ [(11, 0)])) := by simpa using hown
    have HO2 : Hid (∀ x ∈ L5 ++ [(11, 0)], OkI x) := okI_app HO.out _ _ (by decide) (by decide)
    obtain ⟨L6, hL⟩ : ∃ M, L5 ++ [(11, 0)] = M := ⟨_, rfl⟩
    have hlen : L6.length = L5.length + 1 := by rw [← hL]; simp
    rw [hL] at hown2 HO2
    have HL2 : Hid (L6.length ≤ L.length + (NN f + 1 + NN f + 1 + NN f + 1)) := by unfold Hid; have := HL.out; omega
    obtain ⟨av6, cv6, gg, hv, hgg⟩ := owned_ins hown2
    subst hv
    clear R HO HL hL hlen hown hgg hgr
    have R : Hid (x11.ownsRow b0 41 2 (.slice av6 L6.length cv6) L6.length (pv L6)) := hown2
    have HO := HO2
    have HL := HL2
    clear HO2 HL2 hown2
    replace C := cur_low C hb (by have h2 := HC.out; omega)
    replace A : Hid (AftR B g b0 w x11) := aftR_bel A.out hb (by have h2 := HC.out; omega)
    replace LB : Hid (b0 ≤ x11.heap.size) := Nat.le_trans LB.out hb.size
    clear hb
    go_wp2
    go_ret
    exact ⟨_, L6, rfl, R, ⟨by have := HL.out; have := HX.out; omega, HO.out⟩, C.more (by have := HX.out; omega), A⟩
  · go_wp2_with fail
    refine (IH.out 64 (wrap64 (d - 1)) ar (.slice av L.length cv) L (m + 2) x2 (by decide) HDa.out.1 HDa.out.2 HDn.out (by have := HM.out; have := HX.out; omega) (by have := HL.out; have := HK.out; have := HX.out; omega) LB.out R.out HO.out C).mono ?_
    rintro e x3 ⟨v', L1, rfl, R1, HQ, C1, A1⟩
    have HL2 : Hid (L1.length ≤ L.length + (NN f)) := by unfold Hid; have := HL.out; have := HQ.out.1; omega
    obtain ⟨av1, cv1, gg, hv, hgg⟩ := owned_ins R1.out
    subst hv
    clear R HO HL C hgg
    have R : Hid (x3.ownsRow b0 41 2 (.slice av1 L1.length cv1) L1.length (pv L1)) := R1
    have HO : Hid (∀ x ∈ L1, OkI x) := HQ.out.2
    have HL := HL2
    have C := C1
    replace A : Hid (AftR B g b0 w x3) := aftR_trans A.out A1.out
    replace LB : Hid (b0 ≤ x3.heap.size) := Nat.le_trans LB.out A1.out.size
    clear R1 HQ C1 A1 HL2
    go_wp2_with fail
    refine (IH.out 126 (wrap64 (d - 1)) ar (.slice av1 L1.length cv1) L1 (m + 2 + MM f) x3 (by decide) HDa.out.1 HDa.out.2 (HDr.out _ (by decide)) (by have := HM.out; have := HX.out; omega) (by have := HL.out; have := HK.out; have := HX.out; omega) LB.out R.out HO.out C).mono ?_
    rintro e x4 ⟨v', L2, rfl, R1, HQ, C1, A1⟩
    have HL2 : Hid (L2.length ≤ L.length + (NN f + NN f)) := by unfold Hid; have := HL.out; have := HQ.out.1; omega
    obtain ⟨av2, cv2, gg, hv, hgg⟩ := owned_ins R1.out
    subst hv
    clear R HO HL C hgg
    have R : Hid (x4.ownsRow b0 41 2 (.slice av2 L2.length cv2) L2.length (pv L2)) := R1
    have HO : Hid (∀ x ∈ L2, OkI x) := HQ.out.2
    have HL := HL2
    have C := C1
    replace A : Hid (AftR B g b0 w x4) := aftR_trans A.out A1.out
    replace LB : Hid (b0 ≤ x4.heap.size) := Nat.le_trans LB.out A1.out.size
    clear R1 HQ C1 A1 HL2
    go_wp2
    go_ret
    exact ⟨_, L2, rfl, R, ⟨by have := HL.out; have := HX.out; omega, HO.out⟩, C.more (by have := HX.out; omega), A⟩
  · have hq2 : (q == 0) = false := by simpa using hq0
    have hq3 : (q == 1) = false := by simpa using hq1
    clear hq0 hq1
    go_wp2_with fail
    refine (curOne 3 (by omega) (by omega) g a n cap B (m + 2) (hid_le (by have := HM.out; omega)) x2 C).mono ?_
    rintro e x3 ⟨b, rfl, C1, ha⟩
    replace R : Hid (x3.ownsRow b0 41 2 (.slice av L.length cv) L.length (pv L)) := own_keep R.out (fun q hq => ha.blk q (by have h1 := (R.out.lt q hq).1; have h2 := HC.out; omega) (R.out.lt q hq).2)
    replace A : Hid (AftR B g b0 w x3) := aftR_cur A.out ha
    replace LB : Hid (b0 ≤ x3.heap.size) := Nat.le_trans LB.out ha.size
    clear ha C
    have C := C1
    clear C1
    clear hq2 hq3
    cases b
    · go_wp2_with fail
      refine (IH.out 126 (wrap64 (d - 1)) ar (.slice av L.length cv) L (m + 2 + 2) x3 (by decide) HDa.out.1 HDa.out.2 (HDr.out _ (by decide)) (by have := HM.out; have := HX.out; omega) (by have := HL.out; have := HK.out; have := HX.out; omega) LB.out R.out HO.out C).mono ?_
      rintro e x4 ⟨v', L1, rfl, R1, HQ, C1, A1⟩
      have HL2 : Hid (L1.length ≤ L.length + (NN f)) := by unfold Hid; have := HL.out; have := HQ.out.1; omega
      obtain ⟨av1, cv1, gg, hv, hgg⟩ := owned_ins R1.out
      subst hv
      clear R HO HL C hgg
      have R : Hid (x4.ownsRow b0 41 2 (.slice av1 L1.length cv1) L1.length (pv L1)) := R1
      have HO : Hid (∀ x ∈ L1, OkI x) := HQ.out.2
      have HL := HL2
      have C := C1
      replace A : Hid (AftR B g b0 w x4) := aftR_trans A.out A1.out
      replace LB : Hid (b0 ≤ x4.heap.size) := Nat.le_trans LB.out A1.out.size
      clear R1 HQ C1 A1 HL2
      go_wp2_with fail
      refine (IH.out 126 (wrap64 (d - 1)) ar (.slice av1 L1.length cv1) L1 (m + 2 + 2 + MM f) x4 (by decide) HDa.out.1 HDa.out.2 (HDr.out _ (by decide)) (by have := HM.out; have := HX.out; omega) (by have := HL.out; have := HK.out; have := HX.out; omega) LB.out R.out HO.out C).mono ?_
      rintro e x5 ⟨v', L2, rfl, R1, HQ, C1, A1⟩
      have HL2 : Hid (L2.length ≤ L.length + (NN f + NN f)) := by unfold Hid; have := HL.out; have := HQ.out.1; omega
      obtain ⟨av2, cv2, gg, hv, hgg⟩ := owned_ins R1.out
      subst hv
      clear R HO HL C hgg
      have R : Hid (x5.ownsRow b0 41 2 (.slice av2 L2.length cv2) L2.length (pv L2)) := R1
      have HO : Hid (∀ x ∈ L2, OkI x) := HQ.out.2
      have HL := HL2
      have C := C1
      replace A : Hid (AftR B g b0 w x5) := aftR_trans A.out A1.out
      replace LB : Hid (b0 ≤ x5.heap.size) := Nat.le_trans LB.out A1.out.size
      clear R1 HQ C1 A1 HL2
      go_wp2_with fail
      refine (curPick 15 (by omega) (by omega) g a n cap B (m + 2 + 2 + MM f + MM f) (hid_le (by have := HM.out; omega)) x5 C).mono ?_
      rintro e x6 ⟨r, r0, r1, rfl, C1, ha⟩
      have Hr : Hid (0 ≤ r ∧ r < 15) := ⟨r0, r1⟩
      clear r0 r1
      replace R : Hid (x6.ownsRow b0 41 2 (.slice av2 L2.length cv2) L2.length (pv L2)) := own_keep R.out (fun q hq => ha.blk q (by have h1 := (R.out.lt q hq).1; have h2 := HC.out; omega) (R.out.lt q hq).2)
      replace A : Hid (AftR B g b0 w x6) := aftR_cur A.out ha
      replace LB : Hid (b0 ≤ x6.heap.size) := Nat.le_trans LB.out ha.size
      clear ha C
      have C := C1
      clear C1
      have hwr : wrap64 (129 + r) = 129 + r := by have := Hr.out; unfold wrap64; omega
      obtain ⟨y, hy⟩ : ∃ z, x6.heap.size = z := ⟨_, rfl⟩
      obtain ⟨x7, hN⟩ : ∃ W, x6.alloc (.cells #[.int .i64 (129 + r), .int .i64 0] 41) = W := ⟨_, rfl⟩
      have bn : x7.heap[y]? = some (.cells #[.int .i64 (129 + r), .int .i64 0] 41 (0, 0)) := by rw [← hN, ← hy]; exact heap_alloc_new _ _
      have HY0 : Hid (b0 ≤ y) := by unfold Hid; rw [← hy]; exact LB.out
      have hb : Below x6.heap.size x6 x7 := by rw [← hN]; exact (Below.refl _ _).alloc (Nat.le_refl _) _
      replace R : Hid (x7.ownsRow b0 41 2 (.slice av2 L2.length cv2) L2.length (pv L2)) := by unfold Hid; rw [← hN]; exact R.out.alloc _
      replace C := C.kept hb
      replace A : Hid (AftR B g b0 w x7) := aftR_bel A.out (hb.mono LB.out) (by have h2 := HC.out; omega)
      replace LB : Hid (b0 ≤ x7.heap.size) := Nat.le_trans LB.out hb.size
      clear hb
      clear HY0
      have HBN : Hid _ := bn
      clear bn
      go_wp2_with (at_builtin; refine wpList_append_own _ rfl _ _ 37 rfl b0 41 i0 (.agg #[.int .i64 0, .int .i64 0]) 2 16 Tryz.underlying37 hi hz0 hz1 hz2 rfl (by decide) _ _ _ rfl R.out ⟨y, 0, none⟩ 1 _ [.int .i64 (129 + r), .int .i64 0] rfl rfl ?qc2 ?qc3 ?qc4 ?qc5 ?qc6 ?_)
      case qc2 =>
        intro j u hu
        have hj : j < 2 := by rcases Nat.lt_or_ge j 2 with h' | h'; exact h'; rw [List.getElem?_eq_none (by simpa using h')] at hu; cases hu
        rw [Addr.add_lit, Nat.zero_add, cell_of_block HBN.out, ← hu]
        have hjj : j = 0 ∨ j = 1 := by omega
        rcases hjj with rfl | rfl <;> rfl
      case qc3 => intro u hu; simp at hu; rcases hu with rfl | rfl <;> rfl
      case qc4 => have := HL.out; have := HK.out; unfold maxLen; omega
      case qc5 => have := HL.out; have := HK.out; omega
      case qc6 => exact LB.out
      intro v' x8 hown hgr _
      clear hN hy HBN
      have hb : Below b0 x7 x8 := (Below.refl _ _).grown hgr LB.out (fun q hq => (R.out.lt q hq).1)
      rw [pv_app L2 ((129 + r), 0)] at hown
      have hown2 : x8.ownsRow b0 41 2 v' (L2 ++ [((129 + r), 0)]).length (pv (L2 ++ [((129 + r), 0)])) := by simpa using hown
      have HO2 : Hid (∀ x ∈ L2 ++ [((129 + r), 0)], OkI x) := okI_app HO.out _ _ ⟨by have := Hr.out; omega, by have := Hr.out; omega⟩ (by decide)
      obtain ⟨L3, hL⟩ : ∃ M, L2 ++ [((129 + r), 0)] = M := ⟨_, rfl⟩
      have hlen : L3.length = L2.length + 1 := by rw [← hL]; simp
      rw [hL] at hown2 HO2
      have HL2 : Hid (L3.length ≤ L.length + (NN f + NN f + 1)) := by unfold Hid; have := HL.out; omega
      obtain ⟨av3, cv3, gg, hv, hgg⟩ := owned_ins hown2
      subst hv
      clear R HO HL hL hlen hown hgg hgr
      have R : Hid (x8.ownsRow b0 41 2 (.slice av3 L3.length cv3) L3.length (pv L3)) := hown2
      have HO := HO2
      have HL := HL2
      clear HO2 HL2 hown2
      replace C := cur_low C hb (by have h2 := HC.out; omega)
      replace A : Hid (AftR B g b0 w x8) := aftR_bel A.out hb (by have h2 := HC.out; omega)
      replace LB : Hid (b0 ≤ x8.heap.size) := Nat.le_trans LB.out hb.size
      clear hb
      go_wp2
      go_ret
      exact ⟨_, L3, rfl, R, ⟨by have := HL.out; have := HX.out; omega, HO.out⟩, C.more (by have := HX.out; omega), A⟩
    · go_wp2_with fail
      refine (IH.out 127 (wrap64 (d - 1)) ar (.slice av L.length cv) L (m + 2 + 2) x3 (by decide) HDa.out.1 HDa.out.2 (HDr.out _ (by decide)) (by have := HM.out; have := HX.out; omega) (by have := HL.out; have := HK.out; have := HX.out; omega) LB.out R.out HO.out C).mono ?_
      rintro e x4 ⟨v', L1, rfl, R1, HQ, C1, A1⟩
      have HL2 : Hid (L1.length ≤ L.length + (NN f)) := by unfold Hid; have := HL.out; have := HQ.out.1; omega
      obtain ⟨av1, cv1, gg, hv, hgg⟩ := owned_ins R1.out
      subst hv
      clear R HO HL C hgg
      have R : Hid (x4.ownsRow b0 41 2 (.slice av1 L1.length cv1) L1.length (pv L1)) := R1
      have HO : Hid (∀ x ∈ L1, OkI x) := HQ.out.2
      have HL := HL2
      have C := C1
      replace A : Hid (AftR B g b0 w x4) := aftR_trans A.out A1.out
      replace LB : Hid (b0 ≤ x4.heap.size) := Nat.le_trans LB.out A1.out.size
      clear R1 HQ C1 A1 HL2
      go_wp2_with fail
      refine (curPick 2 (by omega) (by omega) g a n cap B (m + 2 + 2 + MM f) (hid_le (by have := HM.out; omega)) x4 C).mono ?_
      rintro e x5 ⟨r, r0, r1, rfl, C1, ha⟩
      have Hr : Hid (0 ≤ r ∧ r < 2) := ⟨r0, r1⟩
      clear r0 r1
      replace R : Hid (x5.ownsRow b0 41 2 (.slice av1 L1.length cv1) L1.length (pv L1)) := own_keep R.out (fun q hq => ha.blk q (by have h1 := (R.out.lt q hq).1; have h2 := HC.out; omega) (R.out.lt q hq).2)
      replace A : Hid (AftR B g b0 w x5) := aftR_cur A.out ha
      replace LB : Hid (b0 ≤ x5.heap.size) := Nat.le_trans LB.out ha.size
      clear ha C
      have C := C1
      clear C1
      have hwr : wrap64 (177 + r) = 177 + r := by have := Hr.out; unfold wrap64; omega
      obtain ⟨y, hy⟩ : ∃ z, x5.heap.size = z := ⟨_, rfl⟩
      obtain ⟨x6, hN⟩ : ∃ W, x5.alloc (.cells #[.int .i64 (177 + r), .int .i64 0] 41) = W := ⟨_, rfl⟩
      have bn : x6.heap[y]? = some (.cells #[.int .i64 (177 + r), .int .i64 0] 41 (0, 0)) := by rw [← hN, ← hy]; exact heap_alloc_new _ _
      have HY0 : Hid (b0 ≤ y) := by unfold Hid; rw [← hy]; exact LB.out
      have hb : Below x5.heap.size x5 x6 := by rw [← hN]; exact (Below.refl _ _).alloc (Nat.le_refl _) _
      replace R : Hid (x6.ownsRow b0 41 2 (.slice av1 L1.length cv1) L1.length (pv L1)) := by unfold Hid; rw [← hN]; exact R.out.alloc _
      replace C := C.kept hb
      replace A : Hid (AftR B g b0 w x6) := aftR_bel A.out (hb.mono LB.out) (by have h2 := HC.out; omega)
      replace LB : Hid (b0 ≤ x6.heap.size) := Nat.le_trans LB.out hb.size
      clear hb
      clear HY0
      have HBN : Hid _ := bn
      clear bn
      go_wp2_with (at_builtin; refine wpList_append_own _ rfl _ _ 37 rfl b0 41 i0 (.agg #[.int .i64 0, .int .i64 0]) 2 16 Tryz.underlying37 hi hz0 hz1 hz2 rfl (by decide) _ _ _ rfl R.out ⟨y, 0, none⟩ 1 _ [.int .i64 (177 + r), .int .i64 0] rfl rfl ?qc2 ?qc3 ?qc4 ?qc5 ?qc6 ?_)
      case qc2 =>
        intro j u hu
        have hj : j < 2 := by rcases Nat.lt_or_ge j 2 with h' | h'; exact h'; rw [List.getElem?_eq_none (by simpa using h')] at hu; cases hu
        rw [Addr.add_lit, Nat.zero_add, cell_of_block HBN.out, ← hu]
        have hjj : j = 0 ∨ j = 1 := by omega
        rcases hjj with rfl | rfl <;> rfl
      case qc3 => intro u hu; simp at hu; rcases hu with rfl | rfl <;> rfl
      case qc4 => have := HL.out; have := HK.out; unfold maxLen; omega
      case qc5 => have := HL.out; have := HK.out; omega
      case qc6 => exact LB.out
      intro v' x7 hown hgr _
      clear hN hy HBN
      have hb : Below b0 x6 x7 := (Below.refl _ _).grown hgr LB.out (fun q hq => (R.out.lt q hq).1)
      rw [pv_app L1 ((177 + r), 0)] at hown
      have hown2 : x7.ownsRow b0 41 2 v' (L1 ++ [((177 + r), 0)]).length (pv (L1 ++ [((177 + r), 0)])) := by simpa using hown
      have HO2 : Hid (∀ x ∈ L1 ++ [((177 + r), 0)], OkI x) := okI_app HO.out _ _ ⟨by have := Hr.out; omega, by have := Hr.out; omega⟩ (by decide)
      obtain ⟨L2, hL⟩ : ∃ M, L1 ++ [((177 + r), 0)] = M := ⟨_, rfl⟩
      have hlen : L2.length = L1.length + 1 := by rw [← hL]; simp
      rw [hL] at hown2 HO2
      have HL2 : Hid (L2.length ≤ L.length + (NN f + 1)) := by unfold Hid; have := HL.out; omega
      obtain ⟨av2, cv2, gg, hv, hgg⟩ := owned_ins hown2
      subst hv
      clear R HO HL hL hlen hown hgg hgr
      have R : Hid (x7.ownsRow b0 41 2 (.slice av2 L2.length cv2) L2.length (pv L2)) := hown2
      have HO := HO2
      have HL := HL2
      clear HO2 HL2 hown2
      replace C := cur_low C hb (by have h2 := HC.out; omega)
      replace A : Hid (AftR B g b0 w x7) := aftR_bel A.out hb (by have h2 := HC.out; omega)
      replace LB : Hid (b0 ≤ x7.heap.size) := Nat.le_trans LB.out hb.size
      clear hb
      go_wp2
      go_ret
      exact ⟨_, L2, rfl, R, ⟨by have := HL.out; have := HX.out; omega, HO.out⟩, C.more (by have := HX.out; omega), A⟩

end Go.Proofs.YtcgnefgdfgikdaaGreat

namespace Go.Proofs.YtcgnefgdfgikdaaGreat
open Go.ChangeShapes Go.WideShapes Go.ChangeAt Go.RowKit

set_option maxRecDepth 100000 in
set_option maxHeartbeats 3200000 in
theorem genDeepF (B g b0 : Nat) (a : Option Addr) (n cap f : Nat) (IH : Hid (GenP B g b0 a n cap f)) (d ar : Int) (av : Option Addr) (cv : Nat) (L : List (Int × Int)) (m : Nat) (w : World)
    (hlo : ((f + 1 : Nat) : Int) - 1000 ≤ d) (hhi : d ≤ 100) (hrk : 2 * d ≤ f + 1) (hd : 0 < d) (hlen : ¬ 120 < (L.length : Int)) (hf : f ≤ 500) (hX : Hid (0 ≤ NN f ∧ 0 ≤ MM f)) (hM : m + (3 * MM f + 30) ≤ 600000) (hK : L.length + (3 * NN f + 4) ≤ 100000) (hb0 : b0 ≤ w.heap.size) (hg0 : g < b0 ∧ B ≤ g) (hR : w.ownsRow b0 41 2 (.slice av L.length cv) L.length (pv L)) (hO : ∀ x ∈ L, OkI x) (C : Cur w g a n cap B m) :
    Calls Tryz.prog 43 #[.pointer (some ⟨g, 0, none⟩), .slice av L.length cv, .int .i64 125, .int .i64 d, .int .i64 ar] w fun e w' => ∃ (v' : Value) (L' : List (Int × Int)), e = .returned v' ∧ Hid (w'.ownsRow b0 41 2 v' L'.length (pv L')) ∧ Hid (L'.length ≤ L.length + (3 * NN f + 4) ∧ ∀ x ∈ L', OkI x) ∧ Cur w' g a n cap B (m + (3 * MM f + 30)) ∧ Hid (AftR B g b0 w w') := by
  obtain ⟨i0, hi, hz0, hz1, hz2⟩ := info_parts Tryz.info41
  have HX := hX
  have HM : Hid (m + (3 * MM f + 30) ≤ 600000) := hM
  have HK : Hid (L.length + (3 * NN f + 4) ≤ 100000) := hK
  have HC : Hid (g < b0 ∧ B ≤ g) := hg0
  have LB : Hid (b0 ≤ w.heap.size) := hb0
  have R : Hid (w.ownsRow b0 41 2 (.slice av L.length cv) L.length (pv L)) := hR
  have HO : Hid (∀ x ∈ L, OkI x) := hO
  have HL : Hid (L.length ≤ L.length + 0) := Nat.le_refl _
  have A : Hid (AftR B g b0 w w) := aftR_refl _ _ _ _
  clear hX hM hK hg0 hb0 hR hO
  have HF : Hid (f ≤ 500) := hf
  have HD : Hid (((f + 1 : Nat) : Int) - 1000 ≤ d ∧ d ≤ 100 ∧ 2 * d ≤ f + 1) := ⟨hlo, hhi, hrk⟩
  have HDa : Hid ((f : Int) - 1000 ≤ wrap64 (d - 1) ∧ wrap64 (d - 1) ≤ 100) := dec_lo f d hlo hhi
  have HDr : Hid (∀ w' : Int, w' ≠ 64 → rk w' (wrap64 (d - 1)) ≤ f) := fun w' hw => rk_type f w' d hw hlo hhi (by omega)
  have HDn : Hid (rk 64 (wrap64 (d - 1)) ≤ f) := rk_none f d hlo hhi hrk hd
  clear HD
  clear hlo hhi hrk hf
  go_enter Tryz.func43, Tryz.ntmps43
  go_wp2_with fail
  refine (curPick 6 (by omega) (by omega) g a n cap B (m) (hid_le (by have := HM.out; omega)) w C).mono ?_
  rintro e x2 ⟨q, q0, q1, rfl, C1, ha⟩
  have Hq : Hid (0 ≤ q ∧ q < 6) := ⟨q0, q1⟩
  clear q0 q1
  replace R : Hid (x2.ownsRow b0 41 2 (.slice av L.length cv) L.length (pv L)) := own_keep R.out (fun q hq => ha.blk q (by have h1 := (R.out.lt q hq).1; have h2 := HC.out; omega) (R.out.lt q hq).2)
  replace A : Hid (AftR B g b0 w x2) := aftR_cur A.out ha
  replace LB : Hid (b0 ≤ x2.heap.size) := Nat.le_trans LB.out ha.size
  clear ha C
  have C := C1
  clear C1
  have hq : q = 0 ∨ q = 1 ∨ (¬ q = 0 ∧ ¬ q = 1) := by have := Hq.out; omega
  clear Hq
  rcases hq with rfl | rfl | ⟨hq0, hq1⟩
  · go_wp2_with fail
    refine (IH.out 127 (wrap64 (d - 1)) ar (.slice av L.length cv) L (m + 2) x2 (by decide) HDa.out.1 HDa.out.2 (HDr.out _ (by decide)) (by have := HM.out; have := HX.out; omega) (by have := HL.out; have := HK.out; have := HX.out; omega) LB.out R.out HO.out C).mono ?_
    rintro e x3 ⟨v', L1, rfl, R1, HQ, C1, A1⟩
    have HL2 : Hid (L1.length ≤ L.length + (NN f)) := by unfold Hid; have := HL.out; have := HQ.out.1; omega
    obtain ⟨av1, cv1, gg, hv, hgg⟩ := owned_ins R1.out
    subst hv
    clear R HO HL C hgg
    have R : Hid (x3.ownsRow b0 41 2 (.slice av1 L1.length cv1) L1.length (pv L1)) := R1
    have HO : Hid (∀ x ∈ L1, OkI x) := HQ.out.2
    have HL := HL2
    have C := C1
    replace A : Hid (AftR B g b0 w x3) := aftR_trans A.out A1.out
    replace LB : Hid (b0 ≤ x3.heap.size) := Nat.le_trans LB.out A1.out.size
    clear R1 HQ C1 A1 HL2
    obtain ⟨y, hy⟩ : ∃ z, x3.heap.size = z := ⟨_, rfl⟩
    obtain ⟨x4, hN⟩ : ∃ W, x3.alloc (.cells #[.int .i64 4, .int .i64 125] 41) = W := ⟨_, rfl⟩
    have bn : x4.heap[y]? = some (.cells #[.int .i64 4, .int .i64 125] 41 (0, 0)) := by rw [← hN, ← hy]; exact heap_alloc_new _ _
    have HY0 : Hid (b0 ≤ y) := by unfold Hid; rw [← hy]; exact LB.out
    have hb : Below x3.heap.size x3 x4 := by rw [← hN]; exact (Below.refl _ _).alloc (Nat.le_refl _) _
    replace R : Hid (x4.ownsRow b0 41 2 (.slice av1 L1.length cv1) L1.length (pv L1)) := by unfold Hid; rw [← hN]; exact R.out.alloc _
    replace C := C.kept hb
    replace A : Hid (AftR B g b0 w x4) := aftR_bel A.out (hb.mono LB.out) (by have h2 := HC.out; omega)
    replace LB : Hid (b0 ≤ x4.heap.size) := Nat.le_trans LB.out hb.size
    clear hb
    clear HY0
    have HBN : Hid _ := bn
    clear bn
    go_wp2_with (at_builtin; refine wpList_append_own _ rfl _ _ 37 rfl b0 41 i0 (.agg #[.int .i64 0, .int .i64 0]) 2 16 Tryz.underlying37 hi hz0 hz1 hz2 rfl (by decide) _ _ _ rfl R.out ⟨y, 0, none⟩ 1 _ [.int .i64 4, .int .i64 125] rfl rfl ?qc2 ?qc3 ?qc4 ?qc5 ?qc6 ?_)
    case qc2 =>
      intro j u hu
      have hj : j < 2 := by rcases Nat.lt_or_ge j 2 with h' | h'; exact h'; rw [List.getElem?_eq_none (by simpa using h')] at hu; cases hu
      rw [Addr.add_lit, Nat.zero_add, cell_of_block HBN.out, ← hu]
      have hjj : j = 0 ∨ j = 1 := by omega
      rcases hjj with rfl | rfl <;> rfl
    case qc3 => intro u hu; simp at hu; rcases hu with rfl | rfl <;> rfl
    case qc4 => have := HL.out; have := HK.out; unfold maxLen; omega
    case qc5 => have := HL.out; have := HK.out; omega
    case qc6 => exact LB.out
    intro v' x5 hown hgr _
    clear hN hy HBN
    have hb : Below b0 x4 x5 := (Below.refl _ _).grown hgr LB.out (fun q hq => (R.out.lt q hq).1)
    rw [pv_app L1 (4, 125)] at hown
    have hown2 : x5.ownsRow b0 41 2 v' (L1 ++ [(4, 125)]).length (pv (L1 ++ [(4, 125)])) := by simpa using hown
    have HO2 : Hid (∀ x ∈ L1 ++ [(4, 125)], OkI x) := okI_app HO.out _ _ (by decide) (by decide)
    obtain ⟨L2, hL⟩ : ∃ M, L1 ++ [(4, 125)] = M := ⟨_, rfl⟩
    have hlen : L2.length = L1.length + 1 := by rw [← hL]; simp
    rw [hL] at hown2 HO2
    have HL2 : Hid (L2.length ≤ L.length + (NN f + 1)) := by unfold Hid; have := HL.out; omega
    obtain ⟨av2, cv2, gg, hv, hgg⟩ := owned_ins hown2
    subst hv
    clear R HO HL hL hlen hown hgg hgr
    have R : Hid (x5.ownsRow b0 41 2 (.slice av2 L2.length cv2) L2.length (pv L2)) := hown2
    have HO := HO2
    have HL := HL2
    clear HO2 HL2 hown2
    replace C := cur_low C hb (by have h2 := HC.out; omega)
    replace A : Hid (AftR B g b0 w x5) := aftR_bel A.out hb (by have h2 := HC.out; omega)
    replace LB : Hid (b0 ≤ x5.heap.size) := Nat.le_trans LB.out hb.size
    clear hb
    go_wp2_with fail
    refine (IH.out 125 (wrap64 (d - 1)) (wrap64 (ar + 1)) (.slice av2 L2.length cv2) L2 (m + 2 + MM f) x5 (by decide) HDa.out.1 HDa.out.2 (HDr.out _ (by decide)) (by have := HM.out; have := HX.out; omega) (by have := HL.out; have := HK.out; have := HX.out; omega) LB.out R.out HO.out C).mono ?_
    rintro e x6 ⟨v', L3, rfl, R1, HQ, C1, A1⟩
    have HL2 : Hid (L3.length ≤ L.length + (NN f + 1 + NN f)) := by unfold Hid; have := HL.out; have := HQ.out.1; omega
    obtain ⟨av3, cv3, gg, hv, hgg⟩ := owned_ins R1.out
    subst hv
    clear R HO HL C hgg
    have R : Hid (x6.ownsRow b0 41 2 (.slice av3 L3.length cv3) L3.length (pv L3)) := R1
    have HO : Hid (∀ x ∈ L3, OkI x) := HQ.out.2
    have HL := HL2
    have C := C1
    replace A : Hid (AftR B g b0 w x6) := aftR_trans A.out A1.out
    replace LB : Hid (b0 ≤ x6.heap.size) := Nat.le_trans LB.out A1.out.size
    clear R1 HQ C1 A1 HL2
    obtain ⟨y, hy⟩ : ∃ z, x6.heap.size = z := ⟨_, rfl⟩
    obtain ⟨x7, hN⟩ : ∃ W, x6.alloc (.cells #[.int .i64 5, .int .i64 0] 41) = W := ⟨_, rfl⟩
    have bn : x7.heap[y]? = some (.cells #[.int .i64 5, .int .i64 0] 41 (0, 0)) := by rw [← hN, ← hy]; exact heap_alloc_new _ _
    have HY0 : Hid (b0 ≤ y) := by unfold Hid; rw [← hy]; exact LB.out
    have hb : Below x6.heap.size x6 x7 := by rw [← hN]; exact (Below.refl _ _).alloc (Nat.le_refl _) _
    replace R : Hid (x7.ownsRow b0 41 2 (.slice av3 L3.length cv3) L3.length (pv L3)) := by unfold Hid; rw [← hN]; exact R.out.alloc _
    replace C := C.kept hb
    replace A : Hid (AftR B g b0 w x7) := aftR_bel A.out (hb.mono LB.out) (by have h2 := HC.out; omega)
    replace LB : Hid (b0 ≤ x7.heap.size) := Nat.le_trans LB.out hb.size
    clear hb
    clear HY0
    have HBN : Hid _ := bn
    clear bn
    go_wp2_with (at_builtin; refine wpList_append_own _ rfl _ _ 37 rfl b0 41 i0 (.agg #[.int .i64 0, .int .i64 0]) 2 16 Tryz.underlying37 hi hz0 hz1 hz2 rfl (by decide) _ _ _ rfl R.out ⟨y, 0, none⟩ 1 _ [.int .i64 5, .int .i64 0] rfl rfl ?qc2 ?qc3 ?qc4 ?qc5 ?qc6 ?_)
    case qc2 =>
      intro j u hu
      have hj : j < 2 := by rcases Nat.lt_or_ge j 2 with h' | h'; exact h'; rw [List.getElem?_eq_none (by simpa using h')] at hu; cases hu
      rw [Addr.add_lit, Nat.zero_add, cell_of_block HBN.out, ← hu]
      have hjj : j = 0 ∨ j = 1 := by omega
      rcases hjj with rfl | rfl <;> rfl
    case qc3 => intro u hu; simp at hu; rcases hu with rfl | rfl <;> rfl
    case qc4 => have := HL.out; have := HK.out; unfold maxLen; omega
    case qc5 => have := HL.out; have := HK.out; omega
    case qc6 => exact LB.out
    intro v' x8 hown hgr _
    clear hN hy HBN
    have hb : Below b0 x7 x8 := (Below.refl _ _).grown hgr LB.out (fun q hq => (R.out.lt q hq).1)
    rw [pv_app L3 (5, 0)] at hown
    have hown2 : x8.ownsRow b0 41 2 v' (L3 ++ [(5, 0)]).length (pv (L3 ++ [(5, 0)])) := by simpa using hown
    have HO2 : Hid (∀ x ∈ L3 ++ [(5, 0)], OkI x) := okI_app HO.out _ _ (by decide) (by decide)
    obtain ⟨L4, hL⟩ : ∃ M, L3 ++ [(5, 0)] = M := ⟨_, rfl⟩
    have hlen : L4.length = L3.length + 1 := by rw [← hL]; simp
    rw [hL] at hown2 HO2
    have HL2 : Hid (L4.length ≤ L.length + (NN f + 1 + NN f + 1)) := by unfold Hid; have := HL.out; omega
    obtain ⟨av4, cv4, gg, hv, hgg⟩ := owned_ins hown2
    subst hv
    clear R HO HL hL hlen hown hgg hgr
    have R : Hid (x8.ownsRow b0 41 2 (.slice av4 L4.length cv4) L4.length (pv L4)) := hown2
    have HO := HO2
    have HL := HL2
    clear HO2 HL2 hown2
    replace C := cur_low C hb (by have h2 := HC.out; omega)
    replace A : Hid (AftR B g b0 w x8) := aftR_bel A.out hb (by have h2 := HC.out; omega)
    replace LB : Hid (b0 ≤ x8.heap.size) := Nat.le_trans LB.out hb.size
    clear hb
    go_wp2_with fail
    refine (IH.out 125 (wrap64 (d - 1)) (wrap64 (ar + 1)) (.slice av4 L4.length cv4) L4 (m + 2 + MM f + MM f) x8 (by decide) HDa.out.1 HDa.out.2 (HDr.out _ (by decide)) (by have := HM.out; have := HX.out; omega) (by have := HL.out; have := HK.out; have := HX.out; omega) LB.out R.out HO.out C).mono ?_
    rintro e x9 ⟨v', L5, rfl, R1, HQ, C1, A1⟩
    have HL2 : Hid (L5.length ≤ L.length + (NN f + 1 + NN f + 1 + NN f)) := by unfold Hid; have := HL.out; have := HQ.out.1; omega
    obtain ⟨av5, cv5, gg, hv, hgg⟩ := owned_ins R1.out
    subst hv
    clear R HO HL C hgg
    have R : Hid (x9.ownsRow b0 41 2 (.slice av5 L5.length cv5) L5.length (pv L5)) := R1
    have HO : Hid (∀ x ∈ L5, OkI x) := HQ.out.2
    have HL := HL2
    have C := C1
    replace A : Hid (AftR B g b0 w x9) := aftR_trans A.out A1.out
    replace LB : Hid (b0 ≤ x9.heap.size) := Nat.le_trans LB.out A1.out.size
    clear R1 HQ C1 A1 HL2
    obtain ⟨y, hy⟩ : ∃ z, x9.heap.size = z := ⟨_, rfl⟩
    obtain ⟨x10, hN⟩ : ∃ W, x9.alloc (.cells #[.int .i64 11, .int .i64 0] 41) = W := ⟨_, rfl⟩
    have bn : x10.heap[y]? = some (.cells #[.int .i64 11, .int .i64 0] 41 (0, 0)) := by rw [← hN, ← hy]; exact heap_alloc_new _ _
    have HY0 : Hid (b0 ≤ y) := by unfold Hid; rw [← hy]; exact LB.out
    have hb : Below x9.heap.size x9 x10 := by rw [← hN]; exact (Below.refl _ _).alloc (Nat.le_refl _) _
    replace R : Hid (x10.ownsRow b0 41 2 (.slice av5 L5.length cv5) L5.length (pv L5)) := by unfold Hid; rw [← hN]; exact R.out.alloc _
    replace C := C.kept hb
    replace A : Hid (AftR B g b0 w x10) := aftR_bel A.out (hb.mono LB.out) (by have h2 := HC.out; omega)
    replace LB : Hid (b0 ≤ x10.heap.size) := Nat.le_trans LB.out hb.size
    clear hb
    clear HY0
    have HBN : Hid _ := bn
    clear bn
    go_wp2_with (at_builtin; refine wpList_append_own _ rfl _ _ 37 rfl b0 41 i0 (.agg #[.int .i64 0, .int .i64 0]) 2 16 Tryz.underlying37 hi hz0 hz1 hz2 rfl (by decide) _ _ _ rfl R.out ⟨y, 0, none⟩ 1 _ [.int .i64 11, .int .i64 0] rfl rfl ?qc2 ?qc3 ?qc4 ?qc5 ?qc6 ?_)
    case qc2 =>
      intro j u hu
      have hj : j < 2 := by rcases Nat.lt_or_ge j 2 with h' | h'; exact h'; rw [List.getElem?_eq_none (by simpa using h')] at hu; cases hu
      rw [Addr.add_lit, Nat.zero_add, cell_of_block HBN.out, ← hu]
      have hjj : j = 0 ∨ j = 1 := by omega
      rcases hjj with rfl | rfl <;> rfl
    case qc3 => intro u hu; simp at hu; rcases hu with rfl | rfl <;> rfl
    case qc4 => have := HL.out; have := HK.out; unfold maxLen; omega
    case qc5 => have := HL.out; have := HK.out; omega
    case qc6 => exact LB.out
    intro v' x11 hown hgr _
    clear hN hy HBN
    have hb : Below b0 x10 x11 := (Below.refl _ _).grown hgr LB.out (fun q hq => (R.out.lt q hq).1)
    rw [pv_app L5 (11, 0)] at hown
    have hown2 : x11.ownsRow b0 41 2 v' (L5 ++ [(11, 0)]).length (pv (L5 ++ [(11, 0)])) := by simpa using hown
    have HO2 : Hid (∀ x ∈ L5 ++ [(11, 0)], OkI x) := okI_app HO.out _ _ (by decide) (by decide)
    obtain ⟨L6, hL⟩ : ∃ M, L5 ++ [(11, 0)] = M := ⟨_, rfl⟩
    have hlen : L6.length = L5.length + 1 := by rw [← hL]; simp
    rw [hL] at hown2 HO2
    have HL2 : Hid (L6.length ≤ L.length + (NN f + 1 + NN f + 1 + NN f + 1)) := by unfold Hid; have := HL.out; omega
    obtain ⟨av6, cv6, gg, hv, hgg⟩ := owned_ins hown2
    subst hv
    clear R HO HL hL hlen hown hgg hgr
    have R : Hid (x11.ownsRow b0 41 2 (.slice av6 L6.length cv6) L6.length (pv L6)) := hown2
    have HO := HO2
    have HL := HL2
    clear HO2 HL2 hown2
    replace C := cur_low C hb (by have h2 := HC.out; omega)
    replace A : Hid (AftR B g b0 w x11) := aftR_bel A.out hb (by have h2 := HC.out; omega)
    replace LB : Hid (b0 ≤ x11.heap.size) := Nat.le_trans LB.out hb.size
    clear hb
    go_wp2
    go_ret
    exact ⟨_, L6, rfl, R, ⟨by have := HL.out; have := HX.out; omega, HO.out⟩, C.more (by have := HX.out; omega), A⟩
  · go_wp2_with fail
    refine (IH.out 64 (wrap64 (d - 1)) ar (.slice av L.length cv) L (m + 2) x2 (by decide) HDa.out.1 HDa.out.2 HDn.out (by have := HM.out; have := HX.out; omega) (by have := HL.out; have := HK.out; have := HX.out; omega) LB.out R.out HO.out C).mono ?_
    rintro e x3 ⟨v', L1, rfl, R1, HQ, C1, A1⟩
    have HL2 : Hid (L1.length ≤ L.length + (NN f)) := by unfold Hid; have := HL.out; have := HQ.out.1; omega
    obtain ⟨av1, cv1, gg, hv, hgg⟩ := owned_ins R1.out
    subst hv
    clear R HO HL C hgg
    have R : Hid (x3.ownsRow b0 41 2 (.slice av1 L1.length cv1) L1.length (pv L1)) := R1
    have HO : Hid (∀ x ∈ L1, OkI x) := HQ.out.2
    have HL := HL2
    have C := C1
    replace A : Hid (AftR B g b0 w x3) := aftR_trans A.out A1.out
    replace LB : Hid (b0 ≤ x3.heap.size) := Nat.le_trans LB.out A1.out.size
    clear R1 HQ C1 A1 HL2
    go_wp2_with fail
    refine (IH.out 125 (wrap64 (d - 1)) ar (.slice av1 L1.length cv1) L1 (m + 2 + MM f) x3 (by decide) HDa.out.1 HDa.out.2 (HDr.out _ (by decide)) (by have := HM.out; have := HX.out; omega) (by have := HL.out; have := HK.out; have := HX.out; omega) LB.out R.out HO.out C).mono ?_
    rintro e x4 ⟨v', L2, rfl, R1, HQ, C1, A1⟩
    have HL2 : Hid (L2.length ≤ L.length + (NN f + NN f)) := by unfold Hid; have := HL.out; have := HQ.out.1; omega
    obtain ⟨av2, cv2, gg, hv, hgg⟩ := owned_ins R1.out
    subst hv
    clear R HO HL C hgg
    have R : Hid (x4.ownsRow b0 41 2 (.slice av2 L2.length cv2) L2.length (pv L2)) := R1
    have HO : Hid (∀ x ∈ L2, OkI x) := HQ.out.2
    have HL := HL2
    have C := C1
    replace A : Hid (AftR B g b0 w x4) := aftR_trans A.out A1.out
    replace LB : Hid (b0 ≤ x4.heap.size) := Nat.le_trans LB.out A1.out.size
    clear R1 HQ C1 A1 HL2
    go_wp2
    go_ret
    exact ⟨_, L2, rfl, R, ⟨by have := HL.out; have := HX.out; omega, HO.out⟩, C.more (by have := HX.out; omega), A⟩
  · have hq2 : (q == 0) = false := by simpa using hq0
    have hq3 : (q == 1) = false := by simpa using hq1
    clear hq0 hq1
    go_wp2_with fail
    refine (curOne 2 (by omega) (by omega) g a n cap B (m + 2) (hid_le (by have := HM.out; omega)) x2 C).mono ?_
    rintro e x3 ⟨b, rfl, C1, ha⟩
    replace R : Hid (x3.ownsRow b0 41 2 (.slice av L.length cv) L.length (pv L)) := own_keep R.out (fun q hq => ha.blk q (by have h1 := (R.out.lt q hq).1; have h2 := HC.out; omega) (R.out.lt q hq).2)
    replace A : Hid (AftR B g b0 w x3) := aftR_cur A.out ha
    replace LB : Hid (b0 ≤ x3.heap.size) := Nat.le_trans LB.out ha.size
    clear ha C
    have C := C1
    clear C1
    clear hq2 hq3
    cases b
    · go_wp2_with fail
      refine (IH.out 125 (wrap64 (d - 1)) ar (.slice av L.length cv) L (m + 2 + 2) x3 (by decide) HDa.out.1 HDa.out.2 (HDr.out _ (by decide)) (by have := HM.out; have := HX.out; omega) (by have := HL.out; have := HK.out; have := HX.out; omega) LB.out R.out HO.out C).mono ?_
      rintro e x4 ⟨v', L1, rfl, R1, HQ, C1, A1⟩
      have HL2 : Hid (L1.length ≤ L.length + (NN f)) := by unfold Hid; have := HL.out; have := HQ.out.1; omega
      obtain ⟨av1, cv1, gg, hv, hgg⟩ := owned_ins R1.out
      subst hv
      clear R HO HL C hgg
      have R : Hid (x4.ownsRow b0 41 2 (.slice av1 L1.length cv1) L1.length (pv L1)) := R1
      have HO : Hid (∀ x ∈ L1, OkI x) := HQ.out.2
      have HL := HL2
      have C := C1
      replace A : Hid (AftR B g b0 w x4) := aftR_trans A.out A1.out
      replace LB : Hid (b0 ≤ x4.heap.size) := Nat.le_trans LB.out A1.out.size
      clear R1 HQ C1 A1 HL2
      go_wp2_with fail
      refine (IH.out 125 (wrap64 (d - 1)) ar (.slice av1 L1.length cv1) L1 (m + 2 + 2 + MM f) x4 (by decide) HDa.out.1 HDa.out.2 (HDr.out _ (by decide)) (by have := HM.out; have := HX.out; omega) (by have := HL.out; have := HK.out; have := HX.out; omega) LB.out R.out HO.out C).mono ?_
      rintro e x5 ⟨v', L2, rfl, R1, HQ, C1, A1⟩
      have HL2 : Hid (L2.length ≤ L.length + (NN f + NN f)) := by unfold Hid; have := HL.out; have := HQ.out.1; omega
      obtain ⟨av2, cv2, gg, hv, hgg⟩ := owned_ins R1.out
      subst hv
      clear R HO HL C hgg
      have R : Hid (x5.ownsRow b0 41 2 (.slice av2 L2.length cv2) L2.length (pv L2)) := R1
      have HO : Hid (∀ x ∈ L2, OkI x) := HQ.out.2
      have HL := HL2
      have C := C1
      replace A : Hid (AftR B g b0 w x5) := aftR_trans A.out A1.out
      replace LB : Hid (b0 ≤ x5.heap.size) := Nat.le_trans LB.out A1.out.size
      clear R1 HQ C1 A1 HL2
      go_wp2_with fail
      refine (curPick 5 (by omega) (by omega) g a n cap B (m + 2 + 2 + MM f + MM f) (hid_le (by have := HM.out; omega)) x5 C).mono ?_
      rintro e x6 ⟨r, r0, r1, rfl, C1, ha⟩
      have Hr : Hid (0 ≤ r ∧ r < 5) := ⟨r0, r1⟩
      clear r0 r1
      replace R : Hid (x6.ownsRow b0 41 2 (.slice av2 L2.length cv2) L2.length (pv L2)) := own_keep R.out (fun q hq => ha.blk q (by have h1 := (R.out.lt q hq).1; have h2 := HC.out; omega) (R.out.lt q hq).2)
      replace A : Hid (AftR B g b0 w x6) := aftR_cur A.out ha
      replace LB : Hid (b0 ≤ x6.heap.size) := Nat.le_trans LB.out ha.size
      clear ha C
      have C := C1
      clear C1
      have hwr : wrap64 (161 + r) = 161 + r := by have := Hr.out; unfold wrap64; omega
      obtain ⟨y, hy⟩ : ∃ z, x6.heap.size = z := ⟨_, rfl⟩
      obtain ⟨x7, hN⟩ : ∃ W, x6.alloc (.cells #[.int .i64 (161 + r), .int .i64 0] 41) = W := ⟨_, rfl⟩
      have bn : x7.heap[y]? = some (.cells #[.int .i64 (161 + r), .int .i64 0] 41 (0, 0)) := by rw [← hN, ← hy]; exact heap_alloc_new _ _
      have HY0 : Hid (b0 ≤ y) := by unfold Hid; rw [← hy]; exact LB.out
      have hb : Below x6.heap.size x6 x7 := by rw [← hN]; exact (Below.refl _ _).alloc (Nat.le_refl _) _
      replace R : Hid (x7.ownsRow b0 41 2 (.slice av2 L2.length cv2) L2.length (pv L2)) := by unfold Hid; rw [← hN]; exact R.out.alloc _
      replace C := C.kept hb
      replace A : Hid (AftR B g b0 w x7) := aftR_bel A.out (hb.mono LB.out) (by have h2 := HC.out; omega)
      replace LB : Hid (b0 ≤ x7.heap.size) := Nat.le_trans LB.out hb.size
      clear hb
      clear HY0
      have HBN : Hid _ := bn
      clear bn
      go_wp2_with (at_builtin; refine wpList_append_own _ rfl _ _ 37 rfl b0 41 i0 (.agg #[.int .i64 0, .int .i64 0]) 2 16 Tryz.underlying37 hi hz0 hz1 hz2 rfl (by decide) _ _ _ rfl R.out ⟨y, 0, none⟩ 1 _ [.int .i64 (161 + r), .int .i64 0] rfl rfl ?qc2 ?qc3 ?qc4 ?qc5 ?qc6 ?_)
      case qc2 =>
        intro j u hu
        have hj : j < 2 := by rcases Nat.lt_or_ge j 2 with h' | h'; exact h'; rw [List.getElem?_eq_none (by simpa using h')] at hu; cases hu
        rw [Addr.add_lit, Nat.zero_add, cell_of_block HBN.out, ← hu]
        have hjj : j = 0 ∨ j = 1 := by omega
        rcases hjj with rfl | rfl <;> rfl
      case qc3 => intro u hu; simp at hu; rcases hu with rfl | rfl <;> rfl
      case qc4 => have := HL.out; have := HK.out; unfold maxLen; omega
      case qc5 => have := HL.out; have := HK.out; omega
      case qc6 => exact LB.out
      intro v' x8 hown hgr _
      clear hN hy HBN
      have hb : Below b0 x7 x8 := (Below.refl _ _).grown hgr LB.out (fun q hq => (R.out.lt q hq).1)
      rw [pv_app L2 ((161 + r), 0)] at hown
      have hown2 : x8.ownsRow b0 41 2 v' (L2 ++ [((161 + r), 0)]).length (pv (L2 ++ [((161 + r), 0)])) := by simpa using hown
      have HO2 : Hid (∀ x ∈ L2 ++ [((161 + r), 0)], OkI x) := okI_app HO.out _ _ ⟨by have := Hr.out; omega, by have := Hr.out; omega⟩ (by decide)
      obtain ⟨L3, hL⟩ : ∃ M, L2 ++ [((161 + r), 0)] = M := ⟨_, rfl⟩
      have hlen : L3.length = L2.length + 1 := by rw [← hL]; simp
      rw [hL] at hown2 HO2
      have HL2 : Hid (L3.length ≤ L.length + (NN f + NN f + 1)) := by unfold Hid; have := HL.out; omega
      obtain ⟨av3, cv3, gg, hv, hgg⟩ := owned_ins hown2
      subst hv
      clear R HO HL hL hlen hown hgg hgr
      have R : Hid (x8.ownsRow b0 41 2 (.slice av3 L3.length cv3) L3.length (pv L3)) := hown2
      have HO := HO2
      have HL := HL2
      clear HO2 HL2 hown2
      replace C := cur_low C hb (by have h2 := HC.out; omega)
      replace A : Hid (AftR B g b0 w x8) := aftR_bel A.out hb (by have h2 := HC.out; omega)
      replace LB : Hid (b0 ≤ x8.heap.size) := Nat.le_trans LB.out hb.size
      clear hb
      go_wp2
      go_ret
      exact ⟨_, L3, rfl, R, ⟨by have := HL.out; have := HX.out; omega, HO.out⟩, C.more (by have := HX.out; omega), A⟩
    · go_wp2_with fail
      refine (IH.out 127 (wrap64 (d - 1)) ar (.slice av L.length cv) L (m + 2 + 2) x3 (by decide) HDa.out.1 HDa.out.2 (HDr.out _ (by decide)) (by have := HM.out; have := HX.out; omega) (by have := HL.out; have := HK.out; have := HX.out; omega) LB.out R.out HO.out C).mono ?_
      rintro e x4 ⟨v', L1, rfl, R1, HQ, C1, A1⟩
      have HL2 : Hid (L1.length ≤ L.length + (NN f)) := by unfold Hid; have := HL.out; have := HQ.out.1; omega
      obtain ⟨av1, cv1, gg, hv, hgg⟩ := owned_ins R1.out
      subst hv
      clear R HO HL C hgg
      have R : Hid (x4.ownsRow b0 41 2 (.slice av1 L1.length cv1) L1.length (pv L1)) := R1
      have HO : Hid (∀ x ∈ L1, OkI x) := HQ.out.2
      have HL := HL2
      have C := C1
      replace A : Hid (AftR B g b0 w x4) := aftR_trans A.out A1.out
      replace LB : Hid (b0 ≤ x4.heap.size) := Nat.le_trans LB.out A1.out.size
      clear R1 HQ C1 A1 HL2
      obtain ⟨y, hy⟩ : ∃ z, x4.heap.size = z := ⟨_, rfl⟩
      obtain ⟨x5, hN⟩ : ∃ W, x4.alloc (.cells #[.int .i64 179, .int .i64 0] 41) = W := ⟨_, rfl⟩
      have bn : x5.heap[y]? = some (.cells #[.int .i64 179, .int .i64 0] 41 (0, 0)) := by rw [← hN, ← hy]; exact heap_alloc_new _ _
      have HY0 : Hid (b0 ≤ y) := by unfold Hid; rw [← hy]; exact LB.out
      have hb : Below x4.heap.size x4 x5 := by rw [← hN]; exact (Below.refl _ _).alloc (Nat.le_refl _) _
      replace R : Hid (x5.ownsRow b0 41 2 (.slice av1 L1.length cv1) L1.length (pv L1)) := by unfold Hid; rw [← hN]; exact R.out.alloc _
      replace C := C.kept hb
      replace A : Hid (AftR B g b0 w x5) := aftR_bel A.out (hb.mono LB.out) (by have h2 := HC.out; omega)
      replace LB : Hid (b0 ≤ x5.heap.size) := Nat.le_trans LB.out hb.size
      clear hb
      clear HY0
      have HBN : Hid _ := bn
      clear bn
      go_wp2_with (at_builtin; refine wpList_append_own _ rfl _ _ 37 rfl b0 41 i0 (.agg #[.int .i64 0, .int .i64 0]) 2 16 Tryz.underlying37 hi hz0 hz1 hz2 rfl (by decide) _ _ _ rfl R.out ⟨y, 0, none⟩ 1 _ [.int .i64 179, .int .i64 0] rfl rfl ?qc2 ?qc3 ?qc4 ?qc5 ?qc6 ?_)
      case qc2 =>
        intro j u hu
        have hj : j < 2 := by rcases Nat.lt_or_ge j 2 with h' | h'; exact h'; rw [List.getElem?_eq_none (by simpa using h')] at hu; cases hu
        rw [Addr.add_lit, Nat.zero_add, cell_of_block HBN.out, ← hu]
        have hjj : j = 0 ∨ j = 1 := by omega
        rcases hjj with rfl | rfl <;> rfl
      case qc3 => intro u hu; simp at hu; rcases hu with rfl | rfl <;> rfl
      case qc4 => have := HL.out; have := HK.out; unfold maxLen; omega
      case qc5 => have := HL.out; have := HK.out; omega
      case qc6 => exact LB.out
      intro v' x6 hown hgr _
      clear hN hy HBN
      have hb : Below b0 x5 x6 := (Below.refl _ _).grown hgr LB.out (fun q hq => (R.out.lt q hq).1)
      rw [pv_app L1 (179, 0)] at hown
      have hown2 : x6.ownsRow b0 41 2 v' (L1 ++ [(179, 0)]).length (pv (L1 ++ [(179, 0)])) := by simpa using hown
      have HO2 : Hid (∀ x ∈ L1 ++ [(179, 0)], OkI x) := okI_app HO.out _ _ (by decide) (by decide)
      obtain ⟨L2, hL⟩ : ∃ M, L1 ++ [(179, 0)] = M := ⟨_, rfl⟩
      have hlen : L2.length = L1.length + 1 := by rw [← hL]; simp
      rw [hL] at hown2 HO2
      have HL2 : Hid (L2.length ≤ L.length + (NN f + 1)) := by unfold Hid; have := HL.out; omega
      obtain ⟨av2, cv2, gg, hv, hgg⟩ := owned_ins hown2
      subst hv
      clear R HO HL hL hlen hown hgg hgr
      have R : Hid (x6.ownsRow b0 41 2 (.slice av2 L2.length cv2) L2.length (pv L2)) := hown2
      have HO := HO2
      have HL := HL2
      clear HO2 HL2 hown2
      replace C := cur_low C hb (by have h2 := HC.out; omega)
      replace A : Hid (AftR B g b0 w x6) := aftR_bel A.out hb (by have h2 := HC.out; omega)
      replace LB : Hid (b0 ≤ x6.heap.size) := Nat.le_trans LB.out hb.size
      clear hb
      go_wp2
      go_ret
      exact ⟨_, L2, rfl, R, ⟨by have := HL.out; have := HX.out; omega, HO.out⟩, C.more (by have := HX.out; omega), A⟩

end Go.Proofs.YtcgnefgdfgikdaaGreat

namespace Go.Proofs.YtcgnefgdfgikdaaGreat
open Go.ChangeShapes Go.WideShapes Go.ChangeAt Go.RowKit

theorem nn_pos : ∀ f, 1 ≤ NN f
  | 0 => Nat.le_refl _
  | f + 1 => by have := nn_pos f; simp only [NN]; omega
theorem mm_pos : ∀ f, 30 ≤ MM f
  | 0 => Nat.le_refl _
  | f + 1 => by have := mm_pos f; simp only [MM]; omega
theorem genLeaf (B g b0 : Nat) (a : Option Addr) (n cap f : Nat) (hg0 : g < b0 ∧ B ≤ g) (want d ar : Int) (v : Value) (L : List (Int × Int)) (m : Nat) (w : World)
    (hw : want = 125 ∨ want = 126 ∨ want = 127) (hd : d ≤ 0 ∨ 120 < (L.length : Int)) (hM : m + MM f ≤ 600000) (hK : L.length + NN f ≤ 100000) (hb0 : b0 ≤ w.heap.size) (hR : w.ownsRow b0 41 2 v L.length (pv L)) (hO : ∀ x ∈ L, OkI x) (C : Cur w g a n cap B m) :
    Calls Tryz.prog 43 #[.pointer (some ⟨g, 0, none⟩), v, .int .i64 want, .int .i64 d, .int .i64 ar] w fun e w' => ∃ (v' : Value) (L' : List (Int × Int)), e = .returned v' ∧ Hid (w'.ownsRow b0 41 2 v' L'.length (pv L')) ∧ Hid (L'.length ≤ L.length + NN f ∧ ∀ x ∈ L', OkI x) ∧ Cur w' g a n cap B (m + MM f) ∧ Hid (AftR B g b0 w w') := by
  obtain ⟨av, cv, gg, rfl, hgg⟩ := owned_ins hR
  have h1 := nn_pos f
  have h2 := mm_pos f
  have fin : ∀ (e : Ending) (w' : World), (∃ (v' : Value) (L' : List (Int × Int)), e = .returned v' ∧ Hid (w'.ownsRow b0 41 2 v' L'.length (pv L')) ∧ Hid (L'.length ≤ L.length + 1 ∧ ∀ x ∈ L', OkI x) ∧ Cur w' g a n cap B (m + 30) ∧ Hid (AftR B g b0 w w')) → ∃ (v' : Value) (L' : List (Int × Int)), e = .returned v' ∧ Hid (w'.ownsRow b0 41 2 v' L'.length (pv L')) ∧ Hid (L'.length ≤ L.length + NN f ∧ ∀ x ∈ L', OkI x) ∧ Cur w' g a n cap B (m + MM f) ∧ Hid (AftR B g b0 w w') := by
    rintro e w' ⟨v', L', h, h3, h4, h5, h6⟩
    exact ⟨v', L', h, h3, ⟨by have := h4.out.1; omega, h4.out.2⟩, h5.more (by omega), h6⟩
  rcases hw with rfl | rfl | rfl
  · exact (genLeafF B g b0 a n cap 1 30 d ar av cv L m w hd ⟨rfl, rfl⟩ (by omega) (by omega) hb0 hg0 hR hO C).mono fin
  · exact (genLeaf64 B g b0 a n cap 1 30 d ar av cv L m w hd ⟨rfl, rfl⟩ (by omega) (by omega) hb0 hg0 hR hO C).mono fin
  · exact (genLeaf32 B g b0 a n cap 1 30 d ar av cv L m w hd ⟨rfl, rfl⟩ (by omega) (by omega) hb0 hg0 hR hO C).mono fin
theorem genAll (B g b0 : Nat) (a : Option Addr) (n cap : Nat) (hg0 : g < b0 ∧ B ≤ g) : ∀ f, f ≤ 500 → GenP B g b0 a n cap f
  | 0, _ => by
    intro want d ar v L m w hw hlo hhi hrk hM hK hb0 hR hO C
    have hd : want ≠ 64 ∧ d ≤ 0 := by
      unfold rk at hrk
      split at hrk <;> split at hrk <;> constructor <;> omega
    exact genLeaf B g b0 a n cap 0 hg0 want d ar v L m w (hw.resolve_left hd.1) (.inl hd.2) hM hK hb0 hR hO C
  | f + 1, hf => by
    have IH : Hid (GenP B g b0 a n cap f) := genAll B g b0 a n cap hg0 f (by omega)
    intro want d ar v L m w hw hlo hhi hrk hM hK hb0 hR hO C
    by_cases h64 : want = 64
    · subst h64
      obtain ⟨av, cv, gg, rfl, hgg⟩ := owned_ins hR
      exact genNone B g b0 a n cap f IH d ar av cv L m w hlo hhi (rk_64 hrk) (by omega) ⟨Nat.zero_le _, Nat.zero_le _⟩ hM hK hb0 hg0 hR hO C
    · have hw2 := hw.resolve_left h64
      by_cases hd : d ≤ 0 ∨ 120 < (L.length : Int)
      · exact genLeaf B g b0 a n cap (f + 1) hg0 want d ar v L m w hw2 hd hM hK hb0 hR hO C
      · have hd1 : 0 < d := by omega
        have hd2 : ¬ 120 < (L.length : Int) := fun h => hd (.inr h)
        have hr := rk_ty h64 hrk
        obtain ⟨av, cv, gg, rfl, hgg⟩ := owned_ins hR
        rcases hw2 with rfl | rfl | rfl
        · exact genDeepF B g b0 a n cap f IH d ar av cv L m w hlo hhi hr hd1 hd2 (by omega) ⟨Nat.zero_le _, Nat.zero_le _⟩ hM hK hb0 hg0 hR hO C
        · exact genDeep64 B g b0 a n cap f IH d ar av cv L m w hlo hhi hr hd1 hd2 (by omega) ⟨Nat.zero_le _, Nat.zero_le _⟩ hM hK hb0 hg0 hR hO C
        · exact genDeep32 B g b0 a n cap f IH d ar av cv L m w hlo hhi hr hd1 hd2 (by omega) ⟨Nat.zero_le _, Nat.zero_le _⟩ hM hK hb0 hg0 hR hO C

end Go.Proofs.YtcgnefgdfgikdaaGreat
