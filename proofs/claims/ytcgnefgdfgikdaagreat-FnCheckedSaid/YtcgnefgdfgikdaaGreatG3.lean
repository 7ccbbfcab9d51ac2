/-
  A body is drawn. (Made by a generator.)
-/
import Derived.Test.YtcgnefgdfgikdaaGreatG2
import Derived.Test.YtcgnefgdfgikdaaGreatQ1
import Derived.Test.YtcgnefgdfgikdaaGreatU5
namespace Go.Proofs.YtcgnefgdfgikdaaGreat
open Go.ChangeShapes Go.WideShapes Go.ChangeAt Go.RowKit

theorem nn5 : NN 5 = 727 ∧ MM 5 = 10920 := by decide
theorem nn7 : NN 7 = 6559 ∧ MM 7 = 98400 := by decide
theorem w64j (j : Nat) (h : j ≤ 2) : wrap64 (j : Int) = (j : Int) ∧ (intOf (Value.int .i64 (wrap64 (j : Int)))).toNat < (intOf (Value.int .i64 ((j + 1 : Nat) : Int))).toNat := by
  have e : wrap64 (j : Int) = (j : Int) := by unfold wrap64; omega
  refine ⟨e, ?_⟩
  rw [e]
  simp [intOf]
theorem rk_small (want d : Int) (h0 : 0 ≤ d) (h1 : d ≤ 3) : rk want d ≤ 7 := by
  unfold rk
  split <;> split <;> omega
theorem rk_none2 (d : Int) (h0 : 0 ≤ d) (h1 : d ≤ 2) : rk 64 d ≤ 5 := by
  unfold rk
  rw [if_pos rfl]
  split <;> omega

set_option maxRecDepth 100000 in
set_option maxHeartbeats 1600000 in
theorem curBody (want : Int) (hw : want = 64 ∨ want = 125 ∨ want = 126 ∨ want = 127) (g : Nat) (a : Option Addr) (n cap B m : Nat) (hm : Hid (m ≤ 400000)) (w : World) (C : Cur w g a n cap B m) :
    Calls Tryz.prog 25 #[.pointer (some ⟨g, 0, none⟩), .int .i64 want] w fun e w' => ∃ (v : Value) (L : List (Int × Int)), e = .returned v ∧ Hid (w'.ownsRow w.heap.size 41 2 v L.length (pv L)) ∧ Hid (L.length ≤ 14000 ∧ ∀ x ∈ L, OkI x) ∧ Cur w' g a n cap B (m + 130000) ∧ Hid (Aft B g w w') ∧ Hid (0 < L.length) := by
  obtain ⟨i0, hi, hz0, hz1, hz2⟩ := info_parts Tryz.info41
  obtain ⟨b0, hb0⟩ : ∃ b, w.heap.size = b := ⟨_, rfl⟩
  have HB0 : Hid (w.heap.size = b0) := hb0
  have HC : Hid (g < b0 ∧ B ≤ g) := ⟨by have := C.lt; omega, C.hg⟩
  have IH5 : Hid (GenP B g b0 a n cap 5) := genAll B g b0 a n cap HC.out 5 (by omega)
  have IH7 : Hid (GenP B g b0 a n cap 7) := genAll B g b0 a n cap HC.out 7 (by omega)
  have A0 : Hid (AftR B g b0 w w) := aftR_refl _ _ _ _
  rw [hb0]
  clear hb0
  go_enter Tryz.func25, Tryz.ntmps25
  go_wp2_with fail
  refine (curPick 3 (by omega) (by omega) g a n cap B m (hid_le (by have := hm.out; omega)) w C).mono ?_
  rintro e w1 ⟨q, q0, q1, rfl, C1, ha⟩
  obtain ⟨k, rfl⟩ : ∃ k : Nat, q = k := ⟨q.toNat, by omega⟩
  have I1 : Hid (k ≤ 2 ∧ ([] : List (Int × Int)).length + 1300 * k ≤ 2600 ∧ ∀ x ∈ ([] : List (Int × Int)), OkI x) := ⟨by omega, by simp; omega, by simp⟩
  have I2 : Hid (w1.ownsRow b0 41 2 (.slice none 0 0) ([] : List (Int × Int)).length (pv [])) := World.ownsRow_nil _ _ _ _
  have I3 : Hid (∃ M, M + 11000 * k ≤ m + 22100 ∧ Cur w1 g a n cap B M ∧ AftR B g b0 w w1 ∧ b0 ≤ w1.heap.size) := ⟨m + 2, by omega, C1, aftR_cur A0.out ha, by have := ha.size; have := HB0.out; omega⟩
  clear q0 q1 C C1 ha A0
  go_wp2
  go_loopw [5, 6] (fun vl vn wr => ∃ (j : Nat) (L : List (Int × Int)) (V : Value), vl = V ∧ vn = .int .i64 (j : Int) ∧ Hid (j ≤ 2 ∧ L.length + 1300 * j ≤ 2600 ∧ ∀ x ∈ L, OkI x) ∧ Hid (wr.ownsRow b0 41 2 V L.length (pv L)) ∧ Hid (∃ M, M + 11000 * j ≤ m + 22100 ∧ Cur wr g a n cap B M ∧ AftR B g b0 w wr ∧ b0 ≤ wr.heap.size)) (fun _ vn _ => (intOf vn).toNat)
  case atStart => exact ⟨k, [], _, rfl, rfl, I1, I2, I3⟩
  case round =>
    clear I1 I2 I3
    obtain ⟨j, L, V, rfl, rfl, HJ, R0, HI⟩ := hrel
    obtain ⟨M, hM, C, hA, hL⟩ := HI.out
    obtain ⟨av, cv, gg, hv, hgg⟩ := owned_ins R0.out
    subst hv
    have HMJ : Hid (M + 11000 * j ≤ m + 22100) := hM
    have HO : Hid (∀ x ∈ L, OkI x) := HJ.out.2.2
    have HL : Hid (L.length ≤ L.length + 0) := Nat.le_refl _
    have HK : Hid (L.length + 20000 ≤ 100000) := by unfold Hid; have := HJ.out.2.1; omega
    have HM : Hid (M + 150000 ≤ 600000) := by unfold Hid; have := hm.out; omega
    have A : Hid (AftR B g b0 w wr) := hA
    have LB : Hid (b0 ≤ wr.heap.size) := hL
    have R : Hid (wr.ownsRow b0 41 2 (.slice av L.length cv) L.length (pv L)) := R0
    clear hgg HI hM hA hL R0
    by_cases hj : 0 < (j : Int)
    · obtain ⟨j, rfl⟩ : ∃ i, j = i + 1 := ⟨j - 1, by omega⟩
      have HX : Hid (NN 5 = 727 ∧ MM 5 = 10920) := nn5
      go_wp2_with fail
      refine (curPick 3 (by omega) (by omega) g a n cap B (M) (hid_le (by have := HM.out; omega)) wr C).mono ?_
      rintro e x2 ⟨q, q0, q1, rfl, C1, ha⟩
      have Hq : Hid (0 ≤ q ∧ q < 3) := ⟨q0, q1⟩
      clear q0 q1
      replace R : Hid (x2.ownsRow b0 41 2 (.slice av L.length cv) L.length (pv L)) := own_keep R.out (fun q hq => ha.blk q (by have h1 := (R.out.lt q hq).1; have h2 := HC.out; omega) (R.out.lt q hq).2)
      replace A : Hid (AftR B g b0 w x2) := aftR_cur A.out ha
      replace LB : Hid (b0 ≤ x2.heap.size) := Nat.le_trans LB.out ha.size
      clear ha C
      have C := C1
      clear C1
      go_wp2_with fail
      refine (IH5.out 64 q 0 (.slice av L.length cv) L (M + 2) x2 (by decide) (by have := Hq.out.1; omega) (by have := Hq.out.2; omega) (rk_none2 q Hq.out.1 (by have := Hq.out.2; omega)) (by have := HM.out; have := HX.out; omega) (by have := HL.out; have := HK.out; have := HX.out; omega) LB.out R.out HO.out C).mono ?_
      rintro e x3 ⟨v', L1, rfl, R1, HQ, C1, A1⟩
      have HL2 : Hid (L1.length ≤ L.length + (NN 5)) := by unfold Hid; have := HL.out; have := HQ.out.1; omega
      obtain ⟨av1, cv1, gg, hv, hgg⟩ := owned_ins R1.out
      subst hv
      clear R HO HL C hgg
      have R : Hid (x3.ownsRow b0 41 2 (.slice av1 L1.length cv1) L1.length (pv L1)) := R1
      have HO : Hid (∀ x ∈ L1, OkI x) := HQ.out.2
      have HL := HL2
      have C := C1
      replace A : Hid (AftR B g b0 w x3) := aftR_trans A.out A1.out
      replace LB : Hid (b0 ≤ x3.heap.size) := Nat.le_trans LB.out A1.out.size
      clear R1 HQ C1 A1 HL2
      have Y1 : Hid (j ≤ 2 ∧ L1.length + 1300 * j ≤ 2600 ∧ ∀ x ∈ L1, OkI x) := ⟨by have := HJ.out.1; omega, by have := HJ.out.2.1; have := HL.out; have := HX.out; omega, HO.out⟩
      have Y3 : Hid (∃ M', M' + 11000 * j ≤ m + 22100 ∧ Cur x3 g a n cap B M' ∧ AftR B g b0 w x3 ∧ b0 ≤ x3.heap.size) := ⟨M + 2 + MM 5, by have := HMJ.out; have := HX.out; omega, C, A.out, LB.out⟩
      have HWJ : Hid _ := w64j j (by have := HJ.out.1; omega)
      clear HL HX HMJ HK HM
      go_wp2
      go_roundw
      case rel => exact ⟨j, L1, _, rfl, congrArg (Value.int .i64) HWJ.out.1, Y1, R, Y3⟩
      case measure => exact HWJ.out.2
    · have hj0 : j = 0 := by omega
      have HX : Hid (NN 7 = 6559 ∧ MM 7 = 98400) := nn7
      have HML : Hid (M ≤ m + 22100 ∧ L.length ≤ 2600) := ⟨by have := HMJ.out; omega, by have := HJ.out.2.1; omega⟩
      subst hj0
      clear HMJ HJ
      go_wp2_with fail
      refine (curPick 4 (by omega) (by omega) g a n cap B (M) (hid_le (by have := HM.out; omega)) wr C).mono ?_
      rintro e x21 ⟨q, q0, q1, rfl, C1, ha⟩
      have Hq : Hid (0 ≤ q ∧ q < 4) := ⟨q0, q1⟩
      clear q0 q1
      replace R : Hid (x21.ownsRow b0 41 2 (.slice av L.length cv) L.length (pv L)) := own_keep R.out (fun q hq => ha.blk q (by have h1 := (R.out.lt q hq).1; have h2 := HC.out; omega) (R.out.lt q hq).2)
      replace A : Hid (AftR B g b0 w x21) := aftR_cur A.out ha
      replace LB : Hid (b0 ≤ x21.heap.size) := Nat.le_trans LB.out ha.size
      clear ha C
      have C := C1
      clear C1
      go_wp2_with fail
      refine (IH7.out want q 0 (.slice av L.length cv) L (M + 2) x21 hw (by have := Hq.out.1; omega) (by have := Hq.out.2; omega) (rk_small want q Hq.out.1 (by have := Hq.out.2; omega)) (by have := HM.out; have := HX.out; omega) (by have := HL.out; have := HK.out; have := HX.out; omega) LB.out R.out HO.out C).mono ?_
      rintro e x22 ⟨v', L1, rfl, R1, HQ, C1, A1⟩
      have HL2 : Hid (L1.length ≤ L.length + (NN 7)) := by unfold Hid; have := HL.out; have := HQ.out.1; omega
      obtain ⟨av1, cv1, gg, hv, hgg⟩ := owned_ins R1.out
      subst hv
      clear R HO HL C hgg
      have R : Hid (x22.ownsRow b0 41 2 (.slice av1 L1.length cv1) L1.length (pv L1)) := R1
      have HO : Hid (∀ x ∈ L1, OkI x) := HQ.out.2
      have HL := HL2
      have C := C1
      replace A : Hid (AftR B g b0 w x22) := aftR_trans A.out A1.out
      replace LB : Hid (b0 ≤ x22.heap.size) := Nat.le_trans LB.out A1.out.size
      clear R1 HQ C1 A1 HL2
      obtain ⟨y, hy⟩ : ∃ z, x22.heap.size = z := ⟨_, rfl⟩
      obtain ⟨x23, hN⟩ : ∃ W, x22.alloc (.cells #[.int .i64 11, .int .i64 0] 41) = W := ⟨_, rfl⟩
      have bn : x23.heap[y]? = some (.cells #[.int .i64 11, .int .i64 0] 41 (0, 0)) := by rw [← hN, ← hy]; exact heap_alloc_new _ _
      have HY0 : Hid (b0 ≤ y) := by unfold Hid; rw [← hy]; exact LB.out
      have hb : Below x22.heap.size x22 x23 := by rw [← hN]; exact (Below.refl _ _).alloc (Nat.le_refl _) _
      replace R : Hid (x23.ownsRow b0 41 2 (.slice av1 L1.length cv1) L1.length (pv L1)) := by unfold Hid; rw [← hN]; exact R.out.alloc _
      replace C := C.kept hb
      replace A : Hid (AftR B g b0 w x23) := aftR_bel A.out (hb.mono LB.out) (by have h2 := HC.out; omega)
      replace LB : Hid (b0 ≤ x23.heap.size) := Nat.le_trans LB.out hb.size
      clear hb
      clear HY0
      have HBN : Hid _ := bn
      clear bn
      go_wp2_with (at_builtin; refine wpList_append_own _ rfl _ _ 37 rfl b0 41 i0 (.agg #[.int .i64 0, .int .i64 0]) 2 16 Tryz.underlying37 hi hz0 hz1 hz2 rfl (by decide) _ _ _ rfl R.out ⟨y, 0, none⟩ 1 _ [.int .i64 11, .int .i64 0] rfl rfl ?qc2 ?qc3 ?qc4 ?qc5 ?qc6 ?_)
      case qc2 =>
        intro j u hu
        have hj : j < 2 := by rcases Nat.lt_or_ge j 2 with h' | h'; exact h'; rw [List.getElem?_eq_none (by simpa using h')] at hu; cases hu
        rw [Addr.add_lit, Nat.zero_add, cell_of_block HBN.out, ← hu]
        have hjj : j = 0 ∨ j = 1 := by omega
        rcases hjj with rfl | rfl <;> rfl
      case qc3 => intro u hu; simp at hu; rcases hu with rfl | rfl <;> rfl
      case qc4 => have := HL.out; have := HK.out; have := HX.out; unfold maxLen; omega
      case qc5 => have := HL.out; have := HK.out; have := HX.out; omega
      case qc6 => exact LB.out
      intro v' x24 hown hgr _
      clear hN hy HBN
      have hb : Below b0 x23 x24 := (Below.refl _ _).grown hgr LB.out (fun q hq => (R.out.lt q hq).1)
      rw [pv_app L1 (11, 0)] at hown
      have hown2 : x24.ownsRow b0 41 2 v' (L1 ++ [(11, 0)]).length (pv (L1 ++ [(11, 0)])) := by simpa using hown
      have HO2 : Hid (∀ x ∈ L1 ++ [(11, 0)], OkI x) := okI_app HO.out _ _ (by decide) (by decide)
      obtain ⟨L2, hL⟩ : ∃ M, L1 ++ [(11, 0)] = M := ⟨_, rfl⟩
      have hlen : L2.length = L1.length + 1 := by rw [← hL]; simp
      have HPOS : Hid (0 < L2.length) := by unfold Hid; omega
      rw [hL] at hown2 HO2
      have HL2 : Hid (L2.length ≤ L.length + (NN 7 + 1)) := by unfold Hid; have := HL.out; omega
      obtain ⟨av2, cv2, gg, hv, hgg⟩ := owned_ins hown2
      subst hv
      clear R HO HL hL hlen hown hgg hgr
      have R : Hid (x24.ownsRow b0 41 2 (.slice av2 L2.length cv2) L2.length (pv L2)) := hown2
      have HO := HO2
      have HL := HL2
      clear HO2 HL2 hown2
      replace C := cur_low C hb (by have h2 := HC.out; omega)
      replace A : Hid (AftR B g b0 w x24) := aftR_bel A.out hb (by have h2 := HC.out; omega)
      replace LB : Hid (b0 ≤ x24.heap.size) := Nat.le_trans LB.out hb.size
      clear hb
      have HS : Hid (Aft B g w x24) := ⟨A.out.below, A.out.size, fun b hb hl => A.out.blk b hb (by have := HB0.out; omega) hl⟩
      go_wp2
      go_ret
      exact ⟨_, L2, rfl, R, ⟨by have := HL.out; have := HX.out; have := HML.out; omega, HO.out⟩, C.more (by have := HX.out; have := HML.out; omega), HS, HPOS⟩

end Go.Proofs.YtcgnefgdfgikdaaGreat

namespace Go.Proofs.YtcgnefgdfgikdaaGreat
open Go.RowKit

section
variable {P : Program} {ops : Array Oper} {Q : Exit → Act → World → Prop} {S : World → Prop} {f : Nat} {L : Array Bool} {a : Act} {w : World}

theorem wb_leave_val {i : Nat} (j : Nat) (d : Option Tmp) {o : Oper} (v : Value) (w' : World) (h1 : Region.ready .any ops (L.setIfInBounds i true) = [j]) (h0 : (Region.ready .any ops L).contains j = false) (ho : ops[j]? = some o) (hd : o.dst = d) (hw : Region.wanted o (yielded ops a.tmps) = true)
    (hrun : (execOp a.eval o).run P w = .ok (.value v) w') (h : WA P ops Q f ((L.setIfInBounds i true).setIfInBounds j true) (a.put d v) w') : WB P ops Q S i (f + 1) L a w := by
  subst hd
  refine ⟨fun h => (by rw [h1] at h; cases h), fun k hk => ?_⟩
  rw [h1] at hk
  obtain rfl : k = j := by simpa using hk
  exact ⟨fun h => (by rw [h0] at h; cases h), fun _ => wpOp_wp ho hw (wp_val hrun h.out)⟩
theorem wa_val (j : Nat) (d : Option Tmp) {o : Oper} (v : Value) (w' : World) (h1 : Region.ready .any ops L = [j]) (ho : ops[j]? = some o) (hd : o.dst = d) (hw : Region.wanted o (yielded ops a.tmps) = true)
    (hrun : (execOp a.eval o).run P w = .ok (.value v) w') (h : WA P ops Q f (L.setIfInBounds j true) (a.put d v) w') : WA P ops Q (f + 1) L a w := by
  subst hd
  refine ⟨wpAny_all h1 (by simp) fun k hk => ?_⟩
  obtain rfl : k = j := by simpa using hk
  exact wpOp_wp ho hw (wp_val hrun h.out)
end

end Go.Proofs.YtcgnefgdfgikdaaGreat

namespace Go.Proofs.YtcgnefgdfgikdaaGreat
open Go.ChangeShapes Go.WideShapes Go.ChangeAt Go.RowKit

theorem pv_appL (L M : List (Int × Int)) : pv L ++ pv M = pv (L ++ M) := by simp [pv]
theorem pv_consI (x : Int × Int) (r : List (Int × Int)) : pv (x :: r) = .int .i64 x.1 :: .int .i64 x.2 :: pv r := by simp [pv]
theorem pv_one (L : List (Int × Int)) : ∀ u ∈ pv L, u.oneCell' = true := by
  intro u hu
  obtain ⟨h, _, hx⟩ := List.mem_flatMap.1 hu
  simp at hx
  rcases hx with rfl | rfl <;> rfl
theorem pv_set1 : ∀ (L : List (Int × Int)) (k : Nat) (h : k < L.length) (x : Int), (pv L).set (k * 2) (.int .i64 x) = pv (L.set k (x, L[k].2))
  | p :: r, 0, _, x => by simp [pv]
  | p :: r, k + 1, h, x => by
    have ih := pv_set1 r k (by simpa using h) x
    rw [pv_consI, show (k + 1) * 2 = k * 2 + 1 + 1 by omega, List.set_cons_succ, List.set_cons_succ, ih, List.set_cons_succ, pv_consI]
    rfl
theorem pv_set2 : ∀ (L : List (Int × Int)) (k : Nat) (h : k < L.length) (x : Int), (pv L).set (k * 2 + 1) (.int .i64 x) = pv (L.set k (L[k].1, x))
  | p :: r, 0, _, x => by simp [pv]
  | p :: r, k + 1, h, x => by
    have ih := pv_set2 r k (by simpa using h) x
    rw [pv_consI, show (k + 1) * 2 + 1 = k * 2 + 1 + 1 + 1 by omega, List.set_cons_succ, List.set_cons_succ, ih, List.set_cons_succ, pv_consI]
    rfl
theorem okI_set {L : List (Int × Int)} (h : ∀ x ∈ L, OkI x) (k : Nat) (y : Int × Int) (hy : OkI y) : ∀ x ∈ L.set k y, OkI x := fun x hx => by
  rcases List.mem_or_eq_of_mem_set hx with h1 | rfl
  · exact h x h1
  · exact hy
theorem okI_sub {L X : List (Int × Int)} (h : ∀ x ∈ L, OkI x) (hs : ∀ x ∈ X, x ∈ L) : ∀ x ∈ X, OkI x := fun x hx => h x (hs x hx)
theorem okI_two {L X : List (Int × Int)} (h : ∀ x ∈ L, OkI x) (k : ∀ x ∈ X, OkI x) : ∀ x ∈ L ++ X, OkI x := fun x hx => by
  rcases List.mem_append.mp hx with hx | hx
  · exact h x hx
  · exact k x hx
theorem pv_take (L : List (Int × Int)) (k : Nat) : ∀ (j : Nat) (u : Value), (pv (L.take k))[j]? = some u → (pv L)[j]? = some u := fun j u hu => by
  have e : pv L = pv (L.take k) ++ pv (L.drop k) := by rw [pv_appL, List.take_append_drop]
  rw [e, List.getElem?_append_left (by rcases Nat.lt_or_ge j (pv (L.take k)).length with h | h; exact h; rw [List.getElem?_eq_none h] at hu; cases hu)]
  exact hu
theorem pv_drop (L : List (Int × Int)) (k : Nat) (hk : k ≤ L.length) : ∀ (j : Nat) (u : Value), (pv (L.drop k))[j]? = some u → (pv L)[k * 2 + j]? = some u := fun j u hu => by
  have e : pv L = pv (L.take k) ++ pv (L.drop k) := by rw [pv_appL, List.take_append_drop]
  have hl : (pv (L.take k)).length = k * 2 := by rw [pv_len, List.length_take, Nat.min_eq_left hk]
  rw [e, List.getElem?_append_right (by rw [hl]; omega), hl, Nat.add_sub_cancel_left]
  exact hu
theorem appIns (W : World) (base : Nat) (v : Value) (M : List (Int × Int)) (hown : W.ownsRow base 41 2 v M.length (pv M)) (gs lo c : Nat) (X : List (Int × Int)) (hX : ∀ j u, (pv X)[j]? = some u → W.cell? ⟨gs, lo + j, none⟩ = some u) (hl : M.length + X.length ≤ 1000000) (hb : base ≤ W.heap.size) (ty : TypeId) :
    ∃ v' w', (Builtin.append_ #[37, 37] ty #[v, .slice (some ⟨gs, lo, none⟩) X.length c]).run Tryz.prog W = .ok v' w' ∧ w'.ownsRow base 41 2 v' (M ++ X).length (pv (M ++ X)) ∧ W.grownBy w' v.ownBlock := by
  obtain ⟨i0, i0i, i00, i01, i02⟩ := info_parts Tryz.info41
  obtain ⟨v', w', hr, h2, h3, _⟩ := run_append_own (P := Tryz.prog) W base 37 ty 41 i0 (.agg #[.int .i64 0, .int .i64 0]) 2 16 Tryz.underlying37 i0i i00 i01 i02 rfl (by decide) v M.length (pv M) hown ⟨gs, lo, none⟩ X.length c (pv X) (pv_len X) (fun j u hu => by rw [Addr.add_lit]; exact hX j u hu) (pv_one X) (by unfold maxLen; omega) (by omega) hb
  refine ⟨v', w', hr, ?_, h3⟩
  rw [pv_appL] at h2
  simpa using h2
theorem row_cells {w : World} {B e gl n cap : Nat} {L : List (Int × Int)} (h : w.ownsRow B e 2 (.slice (some ⟨gl, 0, none⟩) n cap) n (pv L)) : ∀ j u, (pv L)[j]? = some u → w.cell? ⟨gl, j, none⟩ = some u := fun j u hu => by
  have h1 := h.cells (g := gl) rfl j u hu
  rw [Addr.add_lit, Nat.zero_add] at h1
  exact h1
theorem aft_stepG {B g : Nat} {w w1 w2 : World} (h : Aft B g w w1) (k : Below w1.heap.size w1 w2) (hB : B ≤ w.heap.size) : Aft B g w w2 :=
  ⟨h.below.trans (k.mono (Nat.le_trans hB h.size)), Nat.le_trans h.size k.size, fun b hb hl => (k.block b (Nat.lt_of_lt_of_le hl h.size)).trans (h.blk b hb hl)⟩
theorem aft_uptoG {B g : Nat} {w w1 w2 : World} (h : Aft B g w w1) (k : Below w.heap.size w1 w2) (hB : B ≤ w.heap.size) : Aft B g w w2 :=
  ⟨h.below.trans (k.mono hB), Nat.le_trans h.size k.size, fun b hb hl => (k.block b hl).trans (h.blk b hb hl)⟩
/-- Of what was there the cursor's block and one row alone may have changed. -/
structure AftV (B g : Nat) (vb : Option Nat) (w w' : World) : Prop where
  below : Below B w w'
  size : w.heap.size ≤ w'.heap.size
  blk : ∀ b, b ≠ g → some b ≠ vb → b < w.heap.size → w'.heap[b]? = w.heap[b]?
theorem aftV_of {B g : Nat} {vb : Option Nat} {w w' : World} (h : Aft B g w w') : AftV B g vb w w' := ⟨h.below, h.size, fun b h1 _ h2 => h.blk b h1 h2⟩
theorem aftV_set {B g gl : Nat} {w w' : World} (h : Aft B g w w') (hB : B ≤ gl) (j : Nat) (v : Value) : AftV B g (some gl) w (w'.setCell ⟨gl, j, none⟩ v) :=
  ⟨h.below.setCell hB _, by simpa using h.size, fun b h1 h2 h3 => (heap_setCell_other _ ⟨gl, j, none⟩ b _ (show b ≠ gl from fun e => h2 (by rw [e]))).trans (h.blk b h1 h3)⟩
theorem own_baseI {w : World} {B B' : Nat} {e : TypeId} {s n : Nat} {v : Value} {xs : List Value} (h : w.ownsRow B e s v n xs) (hb : B' ≤ B) : w.ownsRow B' e s v n xs := by
  refine ⟨h.1, ?_⟩
  rcases h.2 with h0 | ⟨g, cap, cur, h1, h2, h3⟩
  · exact .inl h0
  · exact .inr ⟨g, cap, cur, h1, Nat.le_trans hb h2, h3⟩
theorem aftR_base {B g b0 z : Nat} {w w' : World} (h : AftR B g z w w') (hb : b0 ≤ z) : AftR B g b0 w w' := ⟨h.below, h.size, fun b h1 h2 h3 => h.blk b h1 (Nat.lt_of_lt_of_le h2 hb) h3⟩
/-- Where the rest of a row begins. -/
theorem rest_at (L : List (Int × Int)) (gl p cv : Nat) (hp : p ≤ L.length) (hc : L.length ≤ cv) : ∃ ld, (if cv = p then some (⟨gl, 0, none⟩ : Addr) else some ⟨gl, p * 2, none⟩) = some ⟨gl, ld, none⟩ ∧ ∀ (j : Nat) (u : Value), (pv (L.drop p))[j]? = some u → (pv L)[ld + j]? = some u := by
  by_cases h : cv = p
  · refine ⟨0, if_pos h, fun j u hu => ?_⟩
    rw [List.drop_eq_nil_of_le (by omega)] at hu
    simp [pv] at hu
  · exact ⟨p * 2, if_neg h, pv_drop L p hp⟩
theorem w64nG (k n : Nat) (h : k < n) (h1 : n ≤ 20000) : IntKind.i64.wrap ((k : Int) + 1) = ((k + 1 : Nat) : Int) := by rw [IntKind.wrap_i64]; omega


/-- What a spoilt row is. -/
def SpP (B g b0 : Nat) (a : Option Addr) (n cap m : Nat) (vb : Option Nat) (w : World) (e : Ending) (w' : World) : Prop := ∃ (v' : Value) (L' : List (Int × Int)), e = .returned v' ∧ Hid (w'.ownsRow b0 41 2 v' L'.length (pv L')) ∧ Hid (L'.length ≤ 20001 ∧ ∀ x ∈ L', OkI x) ∧ Cur w' g a n cap B (m + 6) ∧ Hid (AftR B g b0 w w') ∧ Hid (AftV B g vb w w')

set_option maxRecDepth 100000 in
set_option maxHeartbeats 3200000 in
theorem curSpoiltCode (B g b0 : Nat) (a : Option Addr) (n cap m : Nat) (hM : m ≤ 600000) (hg0 : g < b0 ∧ B ≤ g) (v : Value) (L : List (Int × Int)) (w : World) (hb0 : b0 ≤ w.heap.size) (hR : Hid (w.ownsRow b0 41 2 v L.length (pv L))) (hO : Hid (L.length ≤ 20000 ∧ ∀ x ∈ L, OkI x)) (C : Cur w g a n cap B m) :
    Calls Tryz.prog 27 #[.pointer (some ⟨g, 0, none⟩), v] w fun e w' => SpP B g b0 a n cap m v.ownBlock w e w' := by
  obtain ⟨i0, hi, hz0, hz1, hz2⟩ := info_parts Tryz.info41
  have HM : Hid (m + 100 ≤ 700000) := by unfold Hid; omega
  have HC : Hid (g < b0 ∧ B ≤ g) := hg0
  have LB : Hid (b0 ≤ w.heap.size) := hb0
  have HO : Hid (∀ x ∈ L, OkI x) := hO.out.2
  have HK : Hid (L.length ≤ 20000) := hO.out.1
  have A : Hid (AftR B g b0 w w) := aftR_refl _ _ _ _
  have A2 : Hid (Aft B g w w) := Aft.refl _ _ _
  have HBW : Hid (B ≤ w.heap.size) := by have := C.lt; unfold Hid; omega
  clear hM hg0 hb0 hO
  by_cases hl : L.length = 0
  · obtain ⟨av, cv, gg, hv, hgg⟩ := owned_ins hR.out
    subst hv
    clear hgg
    obtain ⟨nl, hnl⟩ : ∃ k, L.length = k := ⟨_, rfl⟩
    have hn0 : nl = 0 := by omega
    subst hn0
    have HNL : Hid (L.length = 0) := hl
    rw [hnl] at hR ⊢
    clear hl hnl HK
    go_enter Tryz.func27, Tryz.ntmps27
    go_wp2
    go_ret
    exact ⟨_, L, rfl, by rw [HNL.out]; exact hR, ⟨by have := HNL.out; omega, HO.out⟩, C.more (by omega), A, aftV_of A2.out⟩
  obtain ⟨gl, cv, hv, hcv⟩ := own_pos hR.out (by omega)
  subst hv
  have HGL : Hid (b0 ≤ gl ∧ gl < w.heap.size ∧ L.length ≤ cv) := ⟨(hR.out.lt gl rfl).1, (hR.out.lt gl rfl).2, hcv⟩
  have R : Hid (w.ownsRow b0 41 2 (.slice (some ⟨gl, 0, none⟩) L.length cv) L.length (pv L)) := hR
  have HL : Hid (L.length ≤ L.length + 0) := Nat.le_refl _
  have hl0 : ¬ (L.length : Int) = 0 := by omega
  clear hR hl hcv
  go_enter Tryz.func27, Tryz.ntmps27

  go_wp2_with fail
  have h1 : 1 ≤ (L.length : Int) := by omega
  have h2 : (L.length : Int) ≤ 2000000 := by have := HK.out; omega
  refine (curPick (L.length : Int) h1 h2 g a n cap B m (hid_le (by have := HM.out; omega)) w C).mono ?_
  clear h1 h2
  rintro e x2 ⟨r, r0, r1, rfl, C1, ha⟩
  obtain ⟨k, rfl⟩ : ∃ k : Nat, r = k := ⟨r.toNat, by omega⟩
  have hk : k < L.length := by omega
  clear r0 r1 hl0
  replace A2 : Hid (Aft B g w x2) := A2.out.trans ha
  replace R : Hid (x2.ownsRow b0 41 2 (.slice (some ⟨gl, 0, none⟩) L.length cv) L.length (pv L)) := own_keep R.out (fun q hq => ha.blk q (by have h1 := (R.out.lt q hq).1; have h2 := HC.out; omega) (R.out.lt q hq).2)
  replace A : Hid (AftR B g b0 w x2) := aftR_cur A.out ha
  replace LB : Hid (b0 ≤ x2.heap.size) := Nat.le_trans LB.out ha.size
  clear ha C
  have C := C1
  clear C1
  go_wp2_with fail
  refine (curPick 4 (by omega) (by omega) g a n cap B (m + 2) (hid_le (by have := HM.out; omega)) x2 C).mono ?_
  rintro e x3 ⟨q, q0, q1, rfl, C1, ha⟩
  have Hq : Hid (0 ≤ q ∧ q < 4) := ⟨q0, q1⟩
  clear q0 q1
  replace A2 : Hid (Aft B g w x3) := A2.out.trans ha
  replace R : Hid (x3.ownsRow b0 41 2 (.slice (some ⟨gl, 0, none⟩) L.length cv) L.length (pv L)) := own_keep R.out (fun q hq => ha.blk q (by have h1 := (R.out.lt q hq).1; have h2 := HC.out; omega) (R.out.lt q hq).2)
  replace A : Hid (AftR B g b0 w x3) := aftR_cur A.out ha
  replace LB : Hid (b0 ≤ x3.heap.size) := Nat.le_trans LB.out ha.size
  clear ha C
  have C := C1
  clear C1
  have hq : q = 0 ∨ q = 1 ∨ q = 2 ∨ q = 3 := by have := Hq.out; omega
  clear Hq
  rcases hq with rfl | rfl | rfl | rfl
  · have hki : ¬ (k : Int) < 0 := by omega
    obtain ⟨y, hy⟩ : ∃ z, x3.heap.size = z := ⟨_, rfl⟩
    have hr := row_new x3 [.int .i64 0, .int .i64 2, .int .i64 5, .int .i64 11, .int .i64 12, .int .i64 15, .int .i64 26, .int .i64 27, .int .i64 33, .int .i64 97, .int .i64 250] 3 (by decide)
    obtain ⟨x4, hN⟩ : ∃ W, x3.alloc (.cells #[.int .i64 0, .int .i64 2, .int .i64 5, .int .i64 11, .int .i64 12, .int .i64 15, .int .i64 26, .int .i64 27, .int .i64 33, .int .i64 97, .int .i64 250] 3) = W := ⟨_, rfl⟩
    have hr2 : Row x4 y 11 := by rw [hy] at hr; rw [← hN]; exact hr
    replace A2 : Hid (Aft B g w x4) := aft_stepG A2.out (by rw [← hN]; exact (Below.refl _ _).alloc (Nat.le_refl _) _) HBW.out
    have HY0 : Hid (b0 ≤ y) := by unfold Hid; rw [← hy]; exact LB.out
    have hb : Below x3.heap.size x3 x4 := by rw [← hN]; exact (Below.refl _ _).alloc (Nat.le_refl _) _
    replace R : Hid (x4.ownsRow b0 41 2 (.slice (some ⟨gl, 0, none⟩) L.length cv) L.length (pv L)) := by unfold Hid; rw [← hN]; exact R.out.alloc _
    replace C := C.kept hb
    replace A : Hid (AftR B g b0 w x4) := aftR_bel A.out (hb.mono LB.out) (by have h2 := HC.out; omega)
    replace LB : Hid (b0 ≤ x4.heap.size) := Nat.le_trans LB.out hb.size
    clear hb
    have hyl : y < x4.heap.size := by rw [← hN]; simp [hy]
    have hyg : y ≠ g := by have h1 := HC.out; have h2 := HY0.out; omega
    clear hr
    go_wp2_with fail
    clear hN hy HY0
    refine (curAmong y 11 (by omega) (by omega) g a n cap B (m + 2 + 2) (hid_le (by have := HM.out; omega)) x4 C hr2 hyl hyg).mono ?_
    clear hr2 hyl hyg
    rintro e x5 ⟨x, x0, x1, rfl, C1, ha⟩
    have Hx : Hid (-9223372036854775808 ≤ x ∧ x ≤ 9223372036854775807) := ⟨x0, x1⟩
    clear x0 x1
    replace A2 : Hid (Aft B g w x5) := A2.out.trans ha
    replace R : Hid (x5.ownsRow b0 41 2 (.slice (some ⟨gl, 0, none⟩) L.length cv) L.length (pv L)) := own_keep R.out (fun q hq => ha.blk q (by have h1 := (R.out.lt q hq).1; have h2 := HC.out; omega) (R.out.lt q hq).2)
    replace A : Hid (AftR B g b0 w x5) := aftR_cur A.out ha
    replace LB : Hid (b0 ≤ x5.heap.size) := Nat.le_trans LB.out ha.size
    clear ha C
    have C := C1
    clear C1
    have q0 := row_cells R.out _ _ (pv_get L k hk).1
    have q1 := R.out.frozenAt (k * 2)
    go_wp2
    go_ret
    have RS := own_set R.out (k * 2) (.int .i64 x)
    rw [pv_set1 L k hk x] at RS
    have RS2 : Hid ((x5.setCell ⟨gl, k * 2, none⟩ (.int .i64 x)).ownsRow b0 41 2 (.slice (some ⟨gl, 0, none⟩) L.length cv) (L.set k (x, L[k].2)).length (pv (L.set k (x, L[k].2)))) := by rw [List.length_set]; exact RS
    have hs : Below b0 x5 (x5.setCell ⟨gl, k * 2, none⟩ (.int .i64 x)) := (Below.refl _ _).setCell HGL.out.1 _
    have hok : OkI (x, L[k].2) := ⟨Hx.out, (HO.out _ (List.getElem_mem hk)).2⟩
    exact ⟨_, L.set k (x, L[k].2), rfl, RS2, ⟨by rw [List.length_set]; have := HK.out; omega, okI_set HO.out k _ hok⟩, (cur_low C hs HC.out.1).more (by omega), aftR_bel A.out hs (by have := HC.out; omega), aftV_set (gl := gl) A2.out (Nat.le_trans (Nat.le_trans HC.out.2 (Nat.le_of_lt HC.out.1)) HGL.out.1) _ _⟩
  · have hki : ¬ (k : Int) < 0 := by omega
    obtain ⟨y, hy⟩ : ∃ z, x3.heap.size = z := ⟨_, rfl⟩
    have hr := row_new x3 [.int .i64 (-1), .int .i64 0, .int .i64 1, .int .i64 1001, .int .i64 64, .int .i64 127] 3 (by decide)
    obtain ⟨x4, hN⟩ : ∃ W, x3.alloc (.cells #[.int .i64 (-1), .int .i64 0, .int .i64 1, .int .i64 1001, .int .i64 64, .int .i64 127] 3) = W := ⟨_, rfl⟩
    have hr2 : Row x4 y 6 := by rw [hy] at hr; rw [← hN]; exact hr
    replace A2 : Hid (Aft B g w x4) := aft_stepG A2.out (by rw [← hN]; exact (Below.refl _ _).alloc (Nat.le_refl _) _) HBW.out
    have HY0 : Hid (b0 ≤ y) := by unfold Hid; rw [← hy]; exact LB.out
    have hb : Below x3.heap.size x3 x4 := by rw [← hN]; exact (Below.refl _ _).alloc (Nat.le_refl _) _
    replace R : Hid (x4.ownsRow b0 41 2 (.slice (some ⟨gl, 0, none⟩) L.length cv) L.length (pv L)) := by unfold Hid; rw [← hN]; exact R.out.alloc _
    replace C := C.kept hb
    replace A : Hid (AftR B g b0 w x4) := aftR_bel A.out (hb.mono LB.out) (by have h2 := HC.out; omega)
    replace LB : Hid (b0 ≤ x4.heap.size) := Nat.le_trans LB.out hb.size
    clear hb
    have hyl : y < x4.heap.size := by rw [← hN]; simp [hy]
    have hyg : y ≠ g := by have h1 := HC.out; have h2 := HY0.out; omega
    clear hr
    go_wp2_with fail
    clear hN hy HY0
    refine (curAmong y 6 (by omega) (by omega) g a n cap B (m + 2 + 2) (hid_le (by have := HM.out; omega)) x4 C hr2 hyl hyg).mono ?_
    clear hr2 hyl hyg
    rintro e x5 ⟨x, x0, x1, rfl, C1, ha⟩
    have Hx : Hid (-9223372036854775808 ≤ x ∧ x ≤ 9223372036854775807) := ⟨x0, x1⟩
    clear x0 x1
    replace A2 : Hid (Aft B g w x5) := A2.out.trans ha
    replace R : Hid (x5.ownsRow b0 41 2 (.slice (some ⟨gl, 0, none⟩) L.length cv) L.length (pv L)) := own_keep R.out (fun q hq => ha.blk q (by have h1 := (R.out.lt q hq).1; have h2 := HC.out; omega) (R.out.lt q hq).2)
    replace A : Hid (AftR B g b0 w x5) := aftR_cur A.out ha
    replace LB : Hid (b0 ≤ x5.heap.size) := Nat.le_trans LB.out ha.size
    clear ha C
    have C := C1
    clear C1
    have q0 := row_cells R.out _ _ (pv_get L k hk).2
    have q1 := R.out.frozenAt (k * 2 + 1)
    go_wp2
    go_ret
    have RS := own_set R.out (k * 2 + 1) (.int .i64 x)
    rw [pv_set2 L k hk x] at RS
    have RS2 : Hid ((x5.setCell ⟨gl, k * 2 + 1, none⟩ (.int .i64 x)).ownsRow b0 41 2 (.slice (some ⟨gl, 0, none⟩) L.length cv) (L.set k (L[k].1, x)).length (pv (L.set k (L[k].1, x)))) := by rw [List.length_set]; exact RS
    have hs : Below b0 x5 (x5.setCell ⟨gl, k * 2 + 1, none⟩ (.int .i64 x)) := (Below.refl _ _).setCell HGL.out.1 _
    have hok : OkI (L[k].1, x) := ⟨(HO.out _ (List.getElem_mem hk)).1, Hx.out⟩
    exact ⟨_, L.set k (L[k].1, x), rfl, RS2, ⟨by rw [List.length_set]; have := HK.out; omega, okI_set HO.out k _ hok⟩, (cur_low C hs HC.out.1).more (by omega), aftR_bel A.out hs (by have := HC.out; omega), aftV_set (gl := gl) A2.out (Nat.le_trans (Nat.le_trans HC.out.2 (Nat.le_of_lt HC.out.1)) HGL.out.1) _ _⟩
  · have hkw := w64nG k L.length hk HK.out
    obtain ⟨p, hp⟩ : ∃ p, k + 1 = p := ⟨_, rfl⟩
    rw [hp] at hkw
    have hk2 : ¬ cv < k := by have := HGL.out.2.2; omega
    have hk3 : 0 ≤ (p : Int) ∧ (p : Int) ≤ (L.length : Int) := by omega
    have hk1 : ¬ (k : Int) < 0 := by omega
    have HP : Hid (p ≤ L.length ∧ k < L.length ∧ k < p) := ⟨by omega, hk, by omega⟩
    obtain ⟨ld, hld, hcd⟩ := rest_at L gl p cv HP.out.1 HGL.out.2.2
    have HCD : Hid _ := hcd
    clear hp hcd hk
    obtain ⟨D, hD⟩ : ∃ W, x3.drew = W := ⟨_, rfl⟩
    have hb : Below x3.heap.size x3 D := by rw [← hD]; exact (Below.refl _ _).drew
    go_wp2
    refine wa_begin (by kernel_rfl) ?_
    rw [hD]
    have RD : Hid (D.ownsRow b0 41 2 (.slice (some ⟨gl, 0, none⟩) L.length cv) L.length (pv L)) := own_keep R.out (fun q hq => hb.block q (R.out.lt q hq).2)
    replace C := C.kept hb
    replace A2 : Hid (Aft B g w D) := aft_stepG A2.out hb HBW.out
    replace A : Hid (AftR B g b0 w D) := aftR_bel A.out (hb.mono LB.out) (by have h2 := HC.out; omega)
    replace LB : Hid (b0 ≤ D.heap.size) := Nat.le_trans LB.out hb.size
    clear hb hD R
    refine wa_take 1 (some 55) ((.slice (some ⟨gl, 0, none⟩) L.length cv)) rfl rfl (by kernel_rfl) (by kernel_rfl) (by kernel_rfl) (fun _ _ _ h => h) (by rfl) (fun _ => by kernel_rfl) ?_
    simp only [Act.put, List.setIfInBounds_toArray, List.set_cons_zero, List.set_cons_succ]
    refine wa_take 2 (some 56) (.int .i64 k) rfl rfl (by kernel_rfl) (by kernel_rfl) (by kernel_rfl) (fun _ _ _ h => h) (by rfl) (fun _ => by kernel_rfl) ?_
    simp only [Act.put, List.setIfInBounds_toArray, List.set_cons_zero, List.set_cons_succ]
    refine wa_take 3 (some 57) (.slice (some ⟨gl, 0, none⟩) k cv) rfl rfl (by kernel_rfl) (by kernel_rfl) (by kernel_rfl) (fun _ _ _ h => h) (by rfl) (fun _ => by go_simp) ?_
    simp only [Act.put, List.setIfInBounds_toArray, List.set_cons_zero, List.set_cons_succ]
    refine wa_take 5 (some 59) ((.slice (some ⟨gl, 0, none⟩) L.length cv)) rfl rfl (by kernel_rfl) (by kernel_rfl) (by kernel_rfl) (fun _ _ _ h => h) (by rfl) (fun _ => by kernel_rfl) ?_
    simp only [Act.put, List.setIfInBounds_toArray, List.set_cons_zero, List.set_cons_succ]
    refine wa_take 6 (some 60) (.int .i64 k) rfl rfl (by kernel_rfl) (by kernel_rfl) (by kernel_rfl) (fun _ _ _ h => h) (by rfl) (fun _ => by kernel_rfl) ?_
    simp only [Act.put, List.setIfInBounds_toArray, List.set_cons_zero, List.set_cons_succ]
    refine wa_take 7 (some 61) (.int .i64 (p : Int)) rfl rfl (by kernel_rfl) (by kernel_rfl) (by kernel_rfl) (fun _ _ _ h => h) (by rfl) (fun _ => by go_simp) ?_
    simp only [Act.put, List.setIfInBounds_toArray, List.set_cons_zero, List.set_cons_succ]
    refine wa_take 8 (some 62) (.slice (some ⟨gl, ld, none⟩) (L.length - p) (cv - p)) rfl rfl (by kernel_rfl) (by kernel_rfl) (by kernel_rfl) (fun _ _ _ h => h) (by rfl) (fun _ => by rw [← hld]; go_simp) ?_
    simp only [Act.put, List.setIfInBounds_toArray, List.set_cons_zero, List.set_cons_succ]
    clear hk1 hk2 hk3 hkw hld
    obtain ⟨z, hz⟩ : ∃ z, D.heap.size = z := ⟨_, rfl⟩
    obtain ⟨D1, hD1⟩ : ∃ W, D.alloc (.cells #[] 41) = W := ⟨_, rfl⟩
    have RA : D1.ownsRow z 41 2 (.slice (some ⟨z, 0, none⟩) 0 0) 0 [] := by rw [← hD1, ← hz]; exact World.ownsRow_made D #[] 0 (Nat.le_refl _) (by simp [maxLen]) (by simp)
    have hb1 : Below z D D1 := by rw [← hD1, ← hz]; exact (Below.refl _ _).alloc (Nat.le_refl _) _
    have hgz : gl < z := by rw [← hz]; exact (RD.out.lt gl rfl).2
    have hz1 : z ≤ D1.heap.size := by rw [← hD1, ← hz]; simp
    have hbz : b0 ≤ z := by rw [← hz]; exact LB.out
    have HZW : Hid (w.heap.size ≤ z) := by unfold Hid; rw [← hz]; exact A2.out.size
    refine wa_val 0 (some 54) (.slice (some ⟨z, 0, none⟩) 0 0) D1 (by kernel_rfl) rfl rfl (by rfl) (by rw [← hD1, ← hz]; go_simp) ?_
    simp only [Act.put, List.setIfInBounds_toArray, List.set_cons_zero, List.set_cons_succ]
    clear hD1 hz
    have hc1 := row_cells (own_keep RD.out (fun q hq => hb1.block q (by have h3 : q = gl := (by simpa [Value.ownBlock] using hq.symm); omega)))
    have e1 : (L.take k).length = k := by rw [List.length_take, Nat.min_eq_left (Nat.le_of_lt HP.out.2.1)]
    obtain ⟨v1, w1, hr1, ho1, hg1⟩ := appIns D1 z (.slice (some ⟨z, 0, none⟩) 0 0) [] RA gl 0 cv (L.take k) (fun j u hu => by rw [Nat.zero_add]; exact hc1 j u (pv_take L k j u hu)) (by rw [e1]; have := HP.out; have := HK.out; simp; omega) hz1 37
    rw [e1] at hr1
    rw [List.nil_append] at ho1
    have hb2 : Below z D1 w1 := (Below.refl _ _).grown hg1 hz1 (fun q hq => (RA.lt q hq).1)
    have hz2 : z ≤ w1.heap.size := Nat.le_trans hz1 hb2.size
    have hc2 := row_cells (own_keep RD.out (fun q hq => (hb1.trans hb2).block q (by have h3 : q = gl := (by simpa [Value.ownBlock] using hq.symm); omega)))
    have e2 : (L.drop p).length = L.length - p := List.length_drop
    obtain ⟨v2, w2, hr2, ho2, hg2⟩ := appIns w1 z v1 (L.take k) ho1 gl ld (cv - p) (L.drop p) (fun j u hu => hc2 _ u (HCD.out j u hu)) (by rw [e1, e2]; have := HP.out; have := HK.out; omega) hz2 37
    rw [e2] at hr2
    have hb3 : Below z w1 w2 := (Below.refl _ _).grown hg2 hz2 (fun q hq => (ho1.lt q hq).1)
    refine wa_val 4 (some 58) (v1) w1 (by kernel_rfl) rfl rfl (by rfl) (by simp [execOp, resolve, invoke, builtin, Act.eval, hr1, Result.andThen]) ?_
    simp only [Act.put, List.setIfInBounds_toArray, List.set_cons_zero, List.set_cons_succ]
    refine wa_val 9 (some 63) (v2) w2 (by kernel_rfl) rfl rfl (by rfl) (by simp [execOp, resolve, invoke, builtin, Act.eval, hr2, Result.andThen]) ?_
    simp only [Act.put, List.setIfInBounds_toArray, List.set_cons_zero, List.set_cons_succ]
    refine wa_val 10 (some 1) (v2) w2 (by kernel_rfl) rfl rfl (by rfl) (by go_simp) ?_
    simp only [Act.put, List.setIfInBounds_toArray, List.set_cons_zero, List.set_cons_succ]
    replace A2 : Hid (Aft B g w w2) := aft_uptoG A2.out (((hb1.trans hb2).trans hb3).mono HZW.out) HBW.out
    have hbz3 : Below b0 D w2 := ((hb1.trans hb2).trans hb3).mono hbz
    have HOO : Hid (w2.ownsRow b0 41 2 v2 (L.take k ++ L.drop p).length (pv (L.take k ++ L.drop p))) := own_baseI ho2 hbz
    have HE : Hid ((L.take k ++ L.drop p).length ≤ 20001) := by unfold Hid; rw [List.length_append, e1, e2]; have := HP.out; have := HK.out; omega
    have HB3 : Hid _ := hbz3
    clear hr1 hr2 ho1 ho2 hg1 hg2 hb1 hb2 hb3 hc1 hc2 RA hz1 hz2 hgz e1 e2 hbz hbz3
    refine wa_done (by kernel_rfl) ?_
    go_wp2
    go_ret
    exact ⟨_, L.take k ++ L.drop p, rfl, HOO, ⟨HE.out, okI_two (okI_sub HO.out (fun x hx => List.mem_of_mem_take hx)) (okI_sub HO.out (fun x hx => List.mem_of_mem_drop hx))⟩, (cur_low C HB3.out HC.out.1).more (by omega), aftR_bel A.out HB3.out (by have := HC.out; omega), aftV_of A2.out⟩
  · have hk1 : ¬ (k : Int) < 0 := by omega
    have hk2 : ¬ cv < k := by have := HGL.out.2.2; omega
    obtain ⟨z, hz⟩ : ∃ z, x3.heap.size = z := ⟨_, rfl⟩
    obtain ⟨D1, hD1⟩ : ∃ W, x3.alloc (.cells #[] 41) = W := ⟨_, rfl⟩
    have RA : D1.ownsRow z 41 2 (.slice (some ⟨z, 0, none⟩) 0 0) 0 [] := by rw [← hD1, ← hz]; exact World.ownsRow_made x3 #[] 0 (Nat.le_refl _) (by simp [maxLen]) (by simp)
    have hb1 : Below z x3 D1 := by rw [← hD1, ← hz]; exact (Below.refl _ _).alloc (Nat.le_refl _) _
    have hgz : gl < z := by rw [← hz]; exact (R.out.lt gl rfl).2
    have hz1 : z ≤ D1.heap.size := by rw [← hD1, ← hz]; simp
    have hbz : b0 ≤ z := by rw [← hz]; exact LB.out
    have HZW : Hid (w.heap.size ≤ z) := by unfold Hid; rw [← hz]; exact A2.out.size
    have hc1 := row_cells (own_keep R.out (fun q hq => hb1.block q (by have h3 : q = gl := (by simpa [Value.ownBlock] using hq.symm); omega)))
    have e1 : (L.take k).length = k := by rw [List.length_take, Nat.min_eq_left (Nat.le_of_lt hk)]
    have HRA : Hid (D1.ownsRow z 41 2 (.slice (some ⟨z, 0, none⟩) 0 0) 0 []) := RA
    have HC1 : Hid (∀ (j : Nat) (u : Value), (pv (L.take k))[j]? = some u → D1.cell? ⟨gl, j, none⟩ = some u) := fun j u hu => hc1 j u (pv_take L k j u hu)
    have HZ : Hid (gl < z ∧ z ≤ D1.heap.size ∧ b0 ≤ z ∧ (L.take k).length = k ∧ k < L.length ∧ L.length ≤ 20000 ∧ L.length ≤ cv ∧ g < z) := ⟨hgz, hz1, hbz, e1, hk, HK.out, HGL.out.2.2, by have := HC.out; omega⟩
    have HB1 : Hid (Below z x3 D1) := hb1
    clear RA hb1 hgz hz1 hbz hc1 e1 hk
    go_wp2_with (at_builtin; refine wpList_append_own _ rfl _ _ 37 rfl z 41 i0 (.agg #[.int .i64 0, .int .i64 0]) 2 16 Tryz.underlying37 hi hz0 hz1 hz2 rfl (by decide) _ _ _ rfl HRA.out ⟨gl, 0, none⟩ k _ (pv (L.take k)) rfl ?qc1 ?qc2 ?qc3 ?qc4 ?qc5 ?qc6 ?_)
    case qc1 => rw [pv_len, HZ.out.2.2.2.1]
    case qc2 => intro j u hu; rw [Addr.add_lit, Nat.zero_add]; exact HC1.out j u hu
    case qc3 => exact pv_one _
    case qc4 => have := HZ.out; unfold maxLen; omega
    case qc5 => have := HZ.out; omega
    case qc6 => exact HZ.out.2.1
    intro v1 w1 ho1 hg1 _
    clear hD1 hz hk1 hk2 HC1
    have hb2 : Below z D1 w1 := (Below.refl _ _).grown hg1 HZ.out.2.1 (fun q hq => (HRA.out.lt q hq).1)
    have HZ1 : Hid (z ≤ w1.heap.size) := Nat.le_trans HZ.out.2.1 hb2.size
    have hb3 := HB1.out.trans hb2
    have RL : Hid (w1.ownsRow b0 41 2 (.slice (some ⟨gl, 0, none⟩) L.length cv) L.length (pv L)) := own_keep R.out (fun q hq => hb3.block q (by have h3 : q = gl := (by simpa [Value.ownBlock] using hq.symm); have := HZ.out; omega))
    replace C := cur_low C hb3 HZ.out.2.2.2.2.2.2.2
    replace A2 : Hid (Aft B g w w1) := aft_uptoG A2.out (hb3.mono HZW.out) HBW.out
    have A0 : Hid (AftR B g b0 w w1) := aftR_bel A.out (hb3.mono HZ.out.2.2.1) (by have := HC.out; omega)
    obtain ⟨Q, hM⟩ : ∃ Q, L.take k = Q := ⟨_, rfl⟩
    have HMO : Hid (Q.length = k ∧ ∀ x ∈ Q, OkI x) := by rw [← hM]; exact ⟨HZ.out.2.2.2.1, okI_sub HO.out (fun x hx => List.mem_of_mem_take hx)⟩
    rw [hM] at ho1 HZ
    have ho2 : w1.ownsRow z 41 2 v1 Q.length (pv Q) := by rw [HMO.out.1]; exact ho1
    obtain ⟨av, cva, gg, hv, hgg⟩ := owned_ins ho2
    subst hv
    clear hM ho1 hg1 hb2 hb3 HRA HB1 hgg A LB R HL
    have HO0 := HO
    clear HO
    have HO : Hid (∀ x ∈ Q, OkI x) := HMO.out.2
    have R : Hid (w1.ownsRow z 41 2 (.slice av Q.length cva) Q.length (pv Q)) := ho2
    have A : Hid (AftR B g z w1 w1) := aftR_refl _ _ _ _
    have LB : Hid (z ≤ w1.heap.size) := HZ1
    have HC0 := HC
    clear HC
    have HC : Hid (g < z ∧ B ≤ g) := ⟨HZ.out.2.2.2.2.2.2.2, HC0.out.2⟩
    have HL : Hid (Q.length ≤ L.length + 0) := by unfold Hid; have := HMO.out.1; have := HZ.out; omega
    clear ho2 HZ1
    obtain ⟨y, hy⟩ : ∃ z, w1.heap.size = z := ⟨_, rfl⟩
    have hr := row_new w1 [.int .i64 0, .int .i64 1, .int .i64 12, .int .i64 15, .int .i64 26, .int .i64 11, .int .i64 5] 3 (by decide)
    obtain ⟨x41, hN⟩ : ∃ W, w1.alloc (.cells #[.int .i64 0, .int .i64 1, .int .i64 12, .int .i64 15, .int .i64 26, .int .i64 11, .int .i64 5] 3) = W := ⟨_, rfl⟩
    have hr2 : Row x41 y 7 := by rw [hy] at hr; rw [← hN]; exact hr
    replace A2 : Hid (Aft B g w x41) := aft_stepG A2.out (by rw [← hN]; exact (Below.refl _ _).alloc (Nat.le_refl _) _) HBW.out
    have HY0 : Hid (z ≤ y) := by unfold Hid; rw [← hy]; exact LB.out
    have hb : Below w1.heap.size w1 x41 := by rw [← hN]; exact (Below.refl _ _).alloc (Nat.le_refl _) _
    replace R : Hid (x41.ownsRow z 41 2 (.slice av Q.length cva) Q.length (pv Q)) := by unfold Hid; rw [← hN]; exact R.out.alloc _
    replace C := C.kept hb
    replace A : Hid (AftR B g z w1 x41) := aftR_bel A.out (hb.mono LB.out) (by have h2 := HC.out; omega)
    replace LB : Hid (z ≤ x41.heap.size) := Nat.le_trans LB.out hb.size
    clear hb
    have hyl : y < x41.heap.size := by rw [← hN]; simp [hy]
    have hyg : y ≠ g := by have h1 := HC.out; have h2 := HY0.out; omega
    clear hr
    go_wp2_with fail
    clear hN hy HY0
    refine (curAmong y 7 (by omega) (by omega) g a n cap B (m + 2 + 2) (hid_le (by have := HM.out; omega)) x41 C hr2 hyl hyg).mono ?_
    clear hr2 hyl hyg
    rintro e x42 ⟨xo, xo0, xo1, rfl, C1, ha⟩
    have Hxo : Hid (-9223372036854775808 ≤ xo ∧ xo ≤ 9223372036854775807) := ⟨xo0, xo1⟩
    clear xo0 xo1
    replace A2 : Hid (Aft B g w x42) := A2.out.trans ha
    replace R : Hid (x42.ownsRow z 41 2 (.slice av Q.length cva) Q.length (pv Q)) := own_keep R.out (fun q hq => ha.blk q (by have h1 := (R.out.lt q hq).1; have h2 := HC.out; omega) (R.out.lt q hq).2)
    replace A : Hid (AftR B g z w1 x42) := aftR_cur A.out ha
    replace LB : Hid (z ≤ x42.heap.size) := Nat.le_trans LB.out ha.size
    clear ha C
    have C := C1
    clear C1
    obtain ⟨y, hy⟩ : ∃ z, x42.heap.size = z := ⟨_, rfl⟩
    obtain ⟨x43, hN⟩ : ∃ W, x42.alloc (.cells #[.int .i64 xo, .int .i64 0] 41) = W := ⟨_, rfl⟩
    have bn : x43.heap[y]? = some (.cells #[.int .i64 xo, .int .i64 0] 41 (0, 0)) := by rw [← hN, ← hy]; exact heap_alloc_new _ _
    replace A2 : Hid (Aft B g w x43) := aft_stepG A2.out (by rw [← hN]; exact (Below.refl _ _).alloc (Nat.le_refl _) _) HBW.out
    have HY0 : Hid (z ≤ y) := by unfold Hid; rw [← hy]; exact LB.out
    have hb : Below x42.heap.size x42 x43 := by rw [← hN]; exact (Below.refl _ _).alloc (Nat.le_refl _) _
    replace R : Hid (x43.ownsRow z 41 2 (.slice av Q.length cva) Q.length (pv Q)) := by unfold Hid; rw [← hN]; exact R.out.alloc _
    replace C := C.kept hb
    replace A : Hid (AftR B g z w1 x43) := aftR_bel A.out (hb.mono LB.out) (by have h2 := HC.out; omega)
    replace LB : Hid (z ≤ x43.heap.size) := Nat.le_trans LB.out hb.size
    clear hb
    clear HY0
    have HBN : Hid _ := bn
    clear bn
    go_wp2_with (at_builtin; refine wpList_append_own _ rfl _ _ 37 rfl z 41 i0 (.agg #[.int .i64 0, .int .i64 0]) 2 16 Tryz.underlying37 hi hz0 hz1 hz2 rfl (by decide) _ _ _ rfl R.out ⟨y, 0, none⟩ 1 _ [.int .i64 xo, .int .i64 0] rfl rfl ?qc2 ?qc3 ?qc4 ?qc5 ?qc6 ?_)
    case qc2 =>
      intro j u hu
      have hj : j < 2 := by rcases Nat.lt_or_ge j 2 with h' | h'; exact h'; rw [List.getElem?_eq_none (by simpa using h')] at hu; cases hu
      rw [Addr.add_lit, Nat.zero_add, cell_of_block HBN.out, ← hu]
      have hjj : j = 0 ∨ j = 1 := by omega
      rcases hjj with rfl | rfl <;> rfl
    case qc3 => intro u hu; simp at hu; rcases hu with rfl | rfl <;> rfl
    case qc4 => have := HL.out; have := HK.out; unfold maxLen; omega
    case qc5 => have := HL.out; have := HK.out; omega
    case qc6 => exact LB.out
    intro v' x44 hown hgr _
    clear hN hy HBN
    have hb : Below z x43 x44 := (Below.refl _ _).grown hgr LB.out (fun q hq => (R.out.lt q hq).1)
    rw [pv_app Q (xo, 0)] at hown
    have hown2 : x44.ownsRow z 41 2 v' (Q ++ [(xo, 0)]).length (pv (Q ++ [(xo, 0)])) := by simpa using hown
    have HO2 : Hid (∀ x ∈ Q ++ [(xo, 0)], OkI x) := okI_app HO.out _ _ Hxo.out (by decide)
    obtain ⟨L1, hL⟩ : ∃ M, Q ++ [(xo, 0)] = M := ⟨_, rfl⟩
    have hlen : L1.length = Q.length + 1 := by rw [← hL]; simp
    have HLN : Hid (L1.length = k + 1) := by unfold Hid; rw [hlen]; have := HMO.out.1; omega
    rw [hL] at hown2 HO2
    have HL2 : Hid (L1.length ≤ L.length + (1)) := by unfold Hid; have := HL.out; omega
    obtain ⟨av1, cv1, gg, hv, hgg⟩ := owned_ins hown2
    subst hv
    clear R HO HL hL hlen hown hgg hgr
    have R : Hid (x44.ownsRow z 41 2 (.slice av1 L1.length cv1) L1.length (pv L1)) := hown2
    have HO := HO2
    have HL := HL2
    clear HO2 HL2 hown2
    replace C := cur_low C hb (by have h2 := HC.out; omega)
    replace A2 : Hid (Aft B g w x44) := aft_uptoG A2.out (hb.mono HZW.out) HBW.out
    replace A : Hid (AftR B g z w1 x44) := aftR_bel A.out hb (by have h2 := HC.out; omega)
    replace LB : Hid (z ≤ x44.heap.size) := Nat.le_trans LB.out hb.size
    clear hb
    have hkz : ¬ cv = k := by have := HZ.out; omega
    have hk1 : ¬ (k : Int) < 0 := by omega
    have hk2 : ¬ (L.length : Int) < (k : Int) := by have := HZ.out; omega
    have hk3 : (k : Int) ≤ (L.length : Int) := by have := HZ.out; omega
    have hk4 : 0 ≤ (k : Int) := by omega
    have hbl : x44.heap[gl]? = w1.heap[gl]? := A.out.blk gl (by have := HGL.out; have := HC0.out; omega) HZ.out.1 (RL.out.lt gl rfl).2
    have HCL : Hid (∀ (j : Nat) (u : Value), (pv (L.drop k))[j]? = some u → x44.cell? ⟨gl, k * 2 + j, none⟩ = some u) := fun j u hu => row_cells (own_keep RL.out (fun q hq => by have h3 : q = gl := (by simpa [Value.ownBlock] using hq.symm); rw [h3]; exact hbl)) _ u (pv_drop L k (by have := HZ.out; omega) j u hu)
    have HDL : Hid ((L.drop k).length = L.length - k) := List.length_drop
    clear hbl RL
    go_wp2_with (at_builtin; refine wpList_append_own _ rfl _ _ 37 rfl z 41 i0 (.agg #[.int .i64 0, .int .i64 0]) 2 16 Tryz.underlying37 hi hz0 hz1 hz2 rfl (by decide) _ _ _ rfl R.out ⟨gl, k * 2, none⟩ (L.length - k) (cv - k) (pv (L.drop k)) rfl ?qc1 ?qc2 ?qc3 ?qc4 ?qc5 ?qc6 ?_)
    case qc1 => rw [pv_len, HDL.out]
    case qc2 => intro j u hu; exact HCL.out j u hu
    case qc3 => exact pv_one _
    case qc4 => have := HL.out; have := HK.out; unfold maxLen; omega
    case qc5 => have := HL.out; have := HK.out; omega
    case qc6 => exact LB.out
    intro v2 w2 ho2 hg2 _
    clear hkz hk1 hk2 hk3 hk4 HCL
    have hb : Below z x44 w2 := (Below.refl _ _).grown hg2 LB.out (fun q hq => (R.out.lt q hq).1)
    rw [pv_appL] at ho2
    have HOO : Hid (w2.ownsRow b0 41 2 v2 (L1 ++ L.drop k).length (pv (L1 ++ L.drop k))) := by rw [List.length_append, HDL.out]; exact own_baseI ho2 HZ.out.2.2.1
    have HBZ : Hid _ := hb
    clear hb ho2 hg2
    go_wp2
    go_ret
    exact ⟨_, L1 ++ L.drop k, rfl, HOO, ⟨by rw [List.length_append, HDL.out]; have h1 := HLN.out; have h2 := HZ.out; omega, okI_two HO.out (okI_sub HO0.out (fun x hx => List.mem_of_mem_drop hx))⟩, (cur_low C HBZ.out HC.out.1).more (by omega), aftR_trans A0.out (aftR_base (aftR_bel A.out HBZ.out (by have := HC.out; omega)) HZ.out.2.2.1), aftV_of (aft_uptoG A2.out (HBZ.out.mono HZW.out) HBW.out)⟩

end Go.Proofs.YtcgnefgdfgikdaaGreat

namespace Go.Proofs.YtcgnefgdfgikdaaGreat
open Go.ChangeShapes Go.WideShapes Go.ChangeAt Go.RowKit

theorem aft_stepI {B g : Nat} {w w1 w2 : World} (h : Aft B g w w1) (k : Below w1.heap.size w1 w2) (hB : B ≤ w.heap.size) : Aft B g w w2 :=
  ⟨h.below.trans (k.mono (Nat.le_trans hB h.size)), Nat.le_trans h.size k.size, fun b hb hl => (k.block b (Nat.lt_of_lt_of_le hl h.size)).trans (h.blk b hb hl)⟩

set_option maxHeartbeats 1000000 in
/-- One of some numbers of which something is known. -/
theorem curAmongV (P : Int → Prop) (b k : Nat) (k0 : 1 ≤ k) (k1 : k ≤ 1000) (g : Nat) (a : Option Addr) (n cap B m : Nat) (hm : Hid (m ≤ 900000)) (w : World) (C : Cur w g a n cap B m) (hr : ∀ i, i < k → ∃ z : Int, P z ∧ w.cell? ⟨b, i, none⟩ = some (.int .i64 z)) (hb : b < w.heap.size) (hbg : b ≠ g) :
    Calls Tryz.prog 28 #[.pointer (some ⟨g, 0, none⟩), .slice (some ⟨b, 0, none⟩) k k] w fun e w' => ∃ r : Int, P r ∧ e = .returned (.int .i64 r) ∧ Cur w' g a n cap B (m + 2) ∧ Aft B g w w' := by
  go_enter Tryz.func28, Tryz.ntmps28
  go_wp2_with fail
  refine (curPick k (by omega) (by omega) g a n cap B m hm w C).mono ?_
  rintro e w1 ⟨r, r0, r1, rfl, C1, B1⟩
  obtain ⟨j, rfl⟩ : ∃ j : Nat, r = j := ⟨r.toNat, by omega⟩
  obtain ⟨z, hp, hz⟩ := hr j (by omega)
  have hz1 : w1.cell? ⟨b, j, none⟩ = some (.int .i64 z) := (B1.keep b j hbg hb).trans hz
  go_wp2
  go_ret
  exact ⟨z, hp, rfl, C1, B1⟩

/-- What codeOf tells. -/
def CodP (B g : Nat) (a : Option Addr) (n cap m : Nat) (w : World) (e : Ending) (w' : World) : Prop := ∃ (v' : Value) (L' : List (Int × Int)), e = .returned v' ∧ Hid (w'.ownsRow w.heap.size 41 2 v' L'.length (pv L')) ∧ Hid (L'.length ≤ 20001 ∧ ∀ x ∈ L', OkI x) ∧ Cur w' g a n cap B (m + 131000) ∧ Hid (Aft B g w w')

theorem pv_rep (n : Nat) : pv (List.replicate n (0, 0)) = List.replicate (n * 2) (.int .i64 0) := by
  induction n with
  | zero => rfl
  | succ n ih => rw [List.replicate_succ, pv_consI, ih, show (n + 1) * 2 = n * 2 + 1 + 1 by omega, List.replicate_succ, List.replicate_succ]
theorem made_ins (n j : Nat) (h : j < n * 2) : (madeCells (Value.agg #[.int .i64 0, .int .i64 0]).cells (n * 2))[j]? = some (.int .i64 0) := by
  have hj : j % 2 = 0 ∨ j % 2 = 1 := by omega
  rcases hj with hj | hj <;> simp [madeCells, Value.cells, h, hj]
theorem made_insl (n : Nat) : (madeCells (Value.agg #[.int .i64 0, .int .i64 0]).cells (n * 2)).toList = pv (List.replicate n (0, 0)) := by
  rw [pv_rep]
  apply List.ext_getElem?
  intro j
  rw [Array.getElem?_toList]
  by_cases h : j < n * 2
  · rw [made_ins n j h]; simp [h]
  · simp [h, madeCells]
theorem madeIns (n : Nat) (h : n ≤ 1000) (W : World) :
    (Instr.makeSlice 37 (.int .i64 (n : Int)) (.int .i64 (n : Int))).run Tryz.prog W = .ok (.slice (some ⟨W.heap.size, 0, none⟩) n n) (W.alloc (.cells (madeCells (Value.agg #[.int .i64 0, .int .i64 0]).cells (n * 2)) 41)) := by
  obtain ⟨i0, hi, h0, h1, h2⟩ := info_parts Tryz.info41
  have H := run_make (P := Tryz.prog) W 37 41 i0 (.agg #[.int .i64 0, .int .i64 0]) Tryz.underlying37 hi h0 .i64 .i64 (n : Int) (n : Int) (by omega) (by omega) (by rw [h2]; omega) (by omega)
  rw [h1] at H
  simpa using H
theorem made_own (n : Nat) (h : n ≤ 1000) (W : World) : (W.alloc (.cells (madeCells (Value.agg #[.int .i64 0, .int .i64 0]).cells (n * 2)) 41)).ownsRow W.heap.size 41 2 (.slice (some ⟨W.heap.size, 0, none⟩) n n) n (pv (List.replicate n (0, 0))) := by
  refine ⟨by rw [pv_len, List.length_replicate], .inr ⟨_, n, _, rfl, Nat.le_refl _, heap_alloc_new _ _, Nat.le_refl _, by unfold maxLen; omega, by simp [madeCells], ?_⟩⟩
  rw [made_insl, List.take_of_length_le (by rw [pv_len, List.length_replicate]; omega)]

/-- What DrawCodeBytes tells. -/
def DrwC (w : World) (e : Ending) (w' : World) : Prop := ∃ (v' : Value) (L' : List (Int × Int)), e = .returned v' ∧ Hid (w'.ownsRow w.heap.size 41 2 v' L'.length (pv L')) ∧ Hid (L'.length ≤ 20001 ∧ ∀ x ∈ L', OkI x) ∧ Hid (Below w.heap.size w w')

end Go.Proofs.YtcgnefgdfgikdaaGreat
