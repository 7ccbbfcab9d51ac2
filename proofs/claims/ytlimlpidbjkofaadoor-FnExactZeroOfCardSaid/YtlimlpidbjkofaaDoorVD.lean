/-
  Whether a value's own number and text fit: the program's side.
-/
import Derived.Test.YtlimlpidbjkofaaDoorVC
import Derived.Test.YtlimlpidbjkofaaDoorFOpen
import Derived.Test.YtlimlpidbjkofaaDoorDecBoth
namespace Go.Proofs.YtlimlpidbjkofaaDoor
open Go.ChangeShapes Go.WideShapes Go.ChangeAt Go.RowKit

/-- A float's bits: of those that are no number the canonical ones alone. -/
def canon (m : Int) : Bool := !(cl32 m == 2) || m == 2143289344
def nOk (x n : Int) (c : Nat) (m : Int) : Bool := decide ((bdOf x n c).1 ≤ m) && decide (m ≤ (bdOf x n c).2) && (if x = 10 then canon m else if x = 11 then !(decide (55296 ≤ m) && decide (m ≤ 57343)) else true)
def tOk (x : Int) (s : ByteArray) : Bool := if x = 12 then (gd 1 s).isSome && decide (s.size ≤ 200) else s.toList.isEmpty

theorem fldV12 (x0 x1 x2 x3 : Value) (w : World) : (Instr.field 144 (.agg #[x0, x1, x2, x3]) 0).run Tryd.prog w = .ok x0 w := by kernel_rfl
theorem fldO12 (x0 x1 x2 x3 x4 : Value) (w : World) : (Instr.field 106 (.agg #[x0, x1, x2, x3, x4]) 2).run Tryd.prog w = .ok x2 w := by kernel_rfl

set_option maxRecDepth 100000 in
set_option maxHeartbeats 1600000 in
theorem implCanon (a : Int) (h0 : 0 ≤ a) (h1 : a ≤ 4294967295) (w : World) :
    Calls Tryd.prog 75 #[.int .u32 a] w fun e w' => e = .returned (.bool (canon a)) ∧ Below w.heap.size w w' := by
  have HF := form32
  have HV := value32 a h0 h1
  have HN := noNumber32
  have hfl := fldV12
  obtain ⟨k, hk⟩ : ∃ k, cl32 a = k := ⟨_, rfl⟩
  have hR : canon a = (!(k == 2) || a == 2143289344) := by unfold canon; rw [hk]
  rw [hk] at HV
  rw [hR]
  obtain ⟨v1, hv1⟩ : ∃ v, (a / 2147483648 % 2 == 1) = v := ⟨_, rfl⟩
  obtain ⟨v2, hv2⟩ : ∃ v, vm32 a = v := ⟨_, rfl⟩
  obtain ⟨v3, hv3⟩ : ∃ v, ve32 a = v := ⟨_, rfl⟩
  rw [hv1, hv2, hv3] at HV
  clear hk hR hv1 hv2 hv3
  have HAL : Hid (∀ (W : World) o, Below W.heap.size W (W.alloc o) ∧ (W.alloc o).heap[W.heap.size]? = some o ∧ W.heap.size < (W.alloc o).heap.size) := fun W o => ⟨(Below.refl _ _).alloc (Nat.le_refl _) o, heap_alloc_new _ _, by simp⟩
  go_enter Tryd.func75, Tryd.ntmps75
  go_wp2_with fail
  refine (HF _).mono ?_
  rintro e1 w1 ⟨rfl, B1⟩
  go_wp2_with fail
  refine (HV _).mono ?_
  rintro e2 w2 ⟨rfl, B2⟩
  obtain ⟨a1, a2, a3⟩ := HAL.out w1 (.cells #[.int .i64 23, .int .i64 127, .int .u32 255] 140)
  have r2 := (B2.block _ a3).trans a2
  have q0 := (cell_of_block r2 0).trans rfl
  have q1 := (cell_of_block r2 1).trans rfl
  have q2 := (cell_of_block r2 2).trans rfl
  have hb2 : Below w.heap.size w w2 := below2 B1 (below2 a1 B2)
  clear HF HV HAL a1 a2 a3 B1 B2 r2
  by_cases h2 : k = 2
  · subst h2
    go_wp2_with (go_at_call 81; refine (HN _).mono ?_; rintro e3 w3 ⟨rfl, B3⟩)
    go_ret
    exact ⟨by simp, below2 hb2 B3⟩
  · have e2 : (k == 2) = false := by rw [beq_eq_false_iff_ne]; exact h2
    have e2' : (k != 2) = true := by simp [bne, e2]
    go_wp2
    go_ret
    exact ⟨by simp [e2], hb2⟩

set_option maxRecDepth 100000 in
set_option maxHeartbeats 1600000 in
theorem specCanon (a : Int) (h0 : 0 ≤ a) (h1 : a ≤ 4294967295) (w : World) :
    Calls Tryd.prog 46 #[.int .i64 a] w fun e w' => e = .returned (.bool (canon a)) ∧ Below w.heap.size w w' := by
  have HF := l4Kind32
  have HV := open32 a h0 h1
  have HN := l4Nan32
  have hfl := fldO12
  have hwu : IntKind.u32.wrap a = a := by rw [IntKind.wrap_u32]; omega
  obtain ⟨k, hk⟩ : ∃ k, cl32 a = k := ⟨_, rfl⟩
  have hR : canon a = (!(k == 2) || a == 2143289344) := by unfold canon; rw [hk]
  rw [hk] at HV
  rw [hR]
  obtain ⟨v1, hv1⟩ : ∃ v, (a / 2147483648 % 2 == 1) = v := ⟨_, rfl⟩
  obtain ⟨v2, hv2⟩ : ∃ v, vm32 a = v := ⟨_, rfl⟩
  obtain ⟨v3, hv3⟩ : ∃ v, ve32 a = v := ⟨_, rfl⟩
  obtain ⟨v4, hv4⟩ : ∃ v, (k == 1) = v := ⟨_, rfl⟩
  rw [hv1, hv2, hv3, hv4] at HV
  clear hk hR hv1 hv2 hv3 hv4
  have HAL : Hid (∀ (W : World) o, Below W.heap.size W (W.alloc o) ∧ (W.alloc o).heap[W.heap.size]? = some o ∧ W.heap.size < (W.alloc o).heap.size) := fun W o => ⟨(Below.refl _ _).alloc (Nat.le_refl _) o, heap_alloc_new _ _, by simp⟩
  go_enter Tryd.func46, Tryd.ntmps46
  go_wp2_with fail
  refine (HF _).mono ?_
  rintro e1 w1 ⟨rfl, B1⟩
  go_wp2_with fail
  refine (HV _).mono ?_
  rintro e2 w2 ⟨rfl, B2⟩
  obtain ⟨a1, a2, a3⟩ := HAL.out w1 (.cells #[.int .u64 8, .int .u64 23] 101)
  have r2 := (B2.block _ a3).trans a2
  have q0 := (cell_of_block r2 0).trans rfl
  have q1 := (cell_of_block r2 1).trans rfl
  have hb2 : Below w.heap.size w w2 := below2 B1 (below2 a1 B2)
  clear HF HV HAL a1 a2 a3 B1 B2 r2
  by_cases h2 : k = 2
  · subst h2
    go_wp2_with (go_at_call 58; refine (HN _).mono ?_; rintro e3 w3 ⟨rfl, B3⟩)
    go_ret
    exact ⟨by simp, below2 hb2 B3⟩
  · have e2 : (k == 2) = false := by rw [beq_eq_false_iff_ne]; exact h2
    go_wp2
    go_ret
    exact ⟨by simp [e2], hb2⟩


end Go.Proofs.YtlimlpidbjkofaaDoor

namespace Go.Proofs.YtlimlpidbjkofaaDoor
open Go.ChangeShapes Go.WideShapes Go.ChangeAt Go.RowKit

theorem bd10 (n : Int) (c : Nat) : bdOf 10 n c = (0, 4294967295) := rfl
theorem bd11 (n : Int) (c : Nat) : bdOf 11 n c = (0, 1114111) := rfl

set_option maxRecDepth 100000 in
set_option maxHeartbeats 1600000 in
theorem implNumber (x n u m : Int) (a : Option Addr) (c cap : Nat) (w : World) (hx : 1 ≤ x ∧ x ≤ 21) (hn : x = 16 → 1 ≤ n ∧ n ≤ 32) (hn9 : x = 19 → 1 ≤ n ∧ n ≤ 300) (hc : c ≤ 100) (hT : Hid (BTabs w)) :
    Calls Tryd.prog 71 #[.agg #[.int .i64 x, .int .i64 n, .int .i64 u, .slice a c cap], .int .i64 m] w fun e w' => e = .returned (.bool (nOk x n c m)) ∧ Below w.heap.size w w' := by
  have HB : Hid (∀ W, Below w.heap.size w W → Calls Tryd.prog 74 #[.agg #[.int .i64 x, .int .i64 n, .int .i64 u, .slice a c cap]] W fun e w' => e = .returned (.agg #[.int .i64 (bdOf x n c).1, .int .i64 (bdOf x n c).2]) ∧ Below W.heap.size W w') := fun W hW => implBounds x n u a c cap W hx hn hn9 hc (hT.out.below hW (Nat.le_refl _))
  have h10 : Hid (x = 10 → bdOf x n c = (0, 4294967295)) := fun h => by subst h; rfl
  have h11 : Hid (x = 11 → bdOf x n c = (0, 1114111)) := fun h => by subst h; rfl
  obtain ⟨R, hR⟩ : ∃ R, Hid (nOk x n c m = R) := ⟨_, rfl⟩
  rw [hR.out]
  have HR : Hid ((decide ((bdOf x n c).1 ≤ m) && decide (m ≤ (bdOf x n c).2) && (if x = 10 then canon m else if x = 11 then !(decide (55296 ≤ m) && decide (m ≤ 57343)) else true)) = R) := hR
  obtain ⟨⟨lo, hi⟩, hbd⟩ : ∃ b, bdOf x n c = b := ⟨_, rfl⟩
  rw [hbd] at HB h10 h11 HR
  simp only at HB HR
  clear hR hbd hn hn9 hx
  have HAL : Hid (∀ (W : World) o, Below W.heap.size W (W.alloc o) ∧ (W.alloc o).heap[W.heap.size]? = some o ∧ W.heap.size < (W.alloc o).heap.size) := fun W o => ⟨(Below.refl _ _).alloc (Nat.le_refl _) o, heap_alloc_new _ _, by simp⟩
  obtain ⟨a1, a2, a3⟩ := HAL.out w (.cells #[.int .i64 x, .int .i64 n, .int .i64 u, .slice a c cap] 66)
  go_enter Tryd.func71, Tryd.ntmps71
  go_wp2_with fail
  refine (HB.out _ a1).mono ?_
  rintro e1 w1 ⟨rfl, B1⟩
  have r1 := (B1.block _ a3).trans a2
  have hb1 : Below w.heap.size w w1 := below2 a1 B1
  obtain ⟨b1, b2, b3⟩ := HAL.out w1 (.cells #[.int .i64 lo, .int .i64 hi] 132)
  have r2 := (b1.block _ (lt_of_block r1)).trans r1
  have q0 := (cell_of_block r2 0).trans rfl
  have hb2 := below2 hb1 b1
  clear a1 a2 a3 B1 r1 b1 b2 b3 r2 HB HAL hT
  by_cases h1 : m < lo
  · obtain rfl : R = false := by rw [← HR.out]; have : ¬ lo ≤ m := by omega
                                 simp [this]
    go_wp2
    go_ret
    exact ⟨rfl, hb2⟩
  · by_cases h2 : hi < m
    · obtain rfl : R = false := by rw [← HR.out]; have : ¬ m ≤ hi := by omega
                                   simp [this]
      go_wp2
      go_ret
      exact ⟨rfl, hb2⟩
    · have HR2 : Hid ((if x = 10 then canon m else if x = 11 then !(decide (55296 ≤ m) && decide (m ≤ 57343)) else true) = R) := by
        unfold Hid
        rw [← HR.out]
        have e1 : lo ≤ m := by omega
        have e2 : m ≤ hi := by omega
        simp [e1, e2]
      clear HR
      by_cases hx10 : x = 10
      · subst hx10
        have hb := h10.out rfl
        simp at hb
        obtain ⟨rfl, rfl⟩ := hb
        have HC := implCanon m (by omega) (by omega)
        rw [show canon m = R from by have := HR2.out; simpa using this] at HC
        have hwu : IntKind.u32.wrap m = m := by rw [IntKind.wrap_u32]; omega
        clear HR2 h10 h11
        go_wp2_with (go_at_call 75; refine (HC _).mono ?_; rintro e3 w3 ⟨rfl, B3⟩)
        go_ret
        exact ⟨rfl, below2 hb2 B3⟩
      · have e10 : (x == 10) = false := by rw [beq_eq_false_iff_ne]; exact hx10
        by_cases hx11 : x = 11
        · subst hx11
          have hb := h11.out rfl
          simp at hb
          obtain ⟨rfl, rfl⟩ := hb
          have HC := implPoint m
          have hp : okP m = R := by
            rw [← HR2.out]
            unfold okP
            by_cases g1 : 55296 ≤ m
            · by_cases g2 : m ≤ 57343
              · rw [decide_eq_false (by omega)]; simp [g1, g2]
              · rw [decide_eq_true (by omega)]; simp [g2]
            · rw [decide_eq_true (by omega)]; simp [g1]
          rw [hp] at HC
          clear HR2 h10 h11 hp
          go_wp2_with (go_at_call 76; refine (HC _).mono ?_; rintro e3 w3 ⟨rfl, hw⟩; obtain rfl := hw.symm)
          go_ret
          exact ⟨rfl, hb2⟩
        · have e11 : (x == 11) = false := by rw [beq_eq_false_iff_ne]; exact hx11
          obtain rfl : R = true := by rw [← HR2.out, if_neg hx10, if_neg hx11]
          clear HR2 h10 h11
          go_wp2
          go_ret
          exact ⟨rfl, hb2⟩

set_option maxRecDepth 100000 in
set_option maxHeartbeats 1600000 in
theorem implCountV (s : ByteArray) (hs : s.size ≤ 1048576) (w : World) (hT : UTabs w) :
    Calls Tryd.prog 77 #[.string s] w fun e w' => (∃ k : Int, e = .returned (.tuple #[.int .i64 k, .bool (gd 1 s).isSome])) ∧ Below w.heap.size w w' := by
  have H0 := implDecodePoints s 1 hs w hT
  rw [show gdF 1 s = gd 1 s from gdF_in (by omega)] at H0
  go_enter Tryd.func77, Tryd.ntmps77
  go_wp2_with fail
  refine H0.mono ?_
  rintro e w1 ⟨⟨L, v, hg, rfl, ho⟩ | ⟨hg, rfl⟩, hb⟩
  · obtain ⟨a, cap, rfl, hI⟩ := ints_of_row ho
    have HG : Hid (gd 1 s = some L) := hg
    clear H0 hg hI ho
    go_wp2
    go_ret2
    exact ⟨⟨_, by rw [HG.out]; rfl⟩, hb⟩
  · have HG : Hid (gd 1 s = none) := hg
    clear H0 hg
    go_wp2
    go_ret2
    exact ⟨⟨_, by rw [HG.out]; rfl⟩, hb⟩

set_option maxRecDepth 100000 in
set_option maxHeartbeats 1600000 in
theorem implText12 (x : Int) (s : ByteArray) (hs : s.size ≤ 1048576) (w : World) (hT : Hid (UTabs w)) :
    Calls Tryd.prog 72 #[.int .i64 x, .string s] w fun e w' => e = .returned (.bool (tOk x s)) ∧ Below w.heap.size w w' := by
  by_cases hx : x = 12
  · subst hx
    have HC := implCountV s hs w hT.out
    have hR : tOk 12 s = ((gd 1 s).isSome && decide (s.size ≤ 200)) := rfl
    rw [hR]
    obtain ⟨g, hg⟩ : ∃ g, (gd 1 s).isSome = g := ⟨_, rfl⟩
    rw [hg] at HC ⊢
    obtain ⟨N, hN⟩ : ∃ N : Int, (s.size : Int) = N := ⟨_, rfl⟩
    have HS : Hid (decide (s.size ≤ 200) = decide (N ≤ 200)) := by
      unfold Hid
      by_cases h : s.size ≤ 200
      · have : N ≤ 200 := by omega
        simp [h, this]
      · have : ¬ N ≤ 200 := by omega
        simp [h, this]
    rw [HS.out]
    clear hg hR HS hs
    go_enter Tryd.func72, Tryd.ntmps72
    go_wp2_with fail
    refine HC.mono ?_
    rintro e1 w1 ⟨⟨k, rfl⟩, B1⟩
    clear HC
    cases g
    all_goals
      go_wp2
      go_ret
      exact ⟨by simp, B1⟩
  · have e12 : (x == 12) = false := by rw [beq_eq_false_iff_ne]; exact hx
    have hR : tOk x s = s.toList.isEmpty := by unfold tOk; rw [if_neg hx]
    rw [hR]
    clear hR
    go_enter Tryd.func72, Tryd.ntmps72
    go_wp2
    go_ret
    exact ⟨by first | rfl | simp, Below.refl _ _⟩

set_option maxRecDepth 100000 in
set_option maxHeartbeats 1600000 in
theorem implNode12 (x n u m z : Int) (s : ByteArray) (a : Option Addr) (c cap : Nat) (w : World) (hx : 1 ≤ x ∧ x ≤ 21) (hn : x = 16 → 1 ≤ n ∧ n ≤ 32) (hn9 : x = 19 → 1 ≤ n ∧ n ≤ 300) (hc : c ≤ 100) (hs : s.size ≤ 1048576) (hT : Hid (BTabs w)) (hU : Hid (UTabs w)) :
    Calls Tryd.prog 62 #[.agg #[.int .i64 x, .int .i64 n, .int .i64 u, .slice a c cap], .agg #[.int .i64 m, .string s, .int .i64 z]] w fun e w' => e = .returned (.bool (nOk x n c m && tOk x s)) ∧ Below w.heap.size w w' := by
  have HN : Hid (∀ W, Below w.heap.size w W → Calls Tryd.prog 71 #[.agg #[.int .i64 x, .int .i64 n, .int .i64 u, .slice a c cap], .int .i64 m] W fun e w' => e = .returned (.bool (nOk x n c m)) ∧ Below W.heap.size W w') := fun W hW => implNumber x n u m a c cap W hx hn hn9 hc (hT.out.below hW (Nat.le_refl _))
  have HTX : Hid (∀ W, Below w.heap.size w W → Calls Tryd.prog 72 #[.int .i64 x, .string s] W fun e w' => e = .returned (.bool (tOk x s)) ∧ Below W.heap.size W w') := fun W hW => implText12 x s hs W (Utf8Tabs_below hU.out hW)
  obtain ⟨R1, h1⟩ : ∃ R, nOk x n c m = R := ⟨_, rfl⟩
  obtain ⟨R2, h2⟩ : ∃ R, tOk x s = R := ⟨_, rfl⟩
  rw [h1] at HN ⊢
  rw [h2] at HTX ⊢
  clear h1 h2 hn hn9 hx hs hT hU
  obtain ⟨W, hW⟩ : ∃ W, (w.alloc (.cells #[.int .i64 x, .int .i64 n, .int .i64 u, .slice a c cap] 66)).alloc (.cells #[.int .i64 m, .string s, .int .i64 z] 62) = W := ⟨_, rfl⟩
  have hb : Below w.heap.size w W := by rw [← hW]; exact ((Below.refl _ _).alloc (Nat.le_refl _) _).alloc (by simp) _
  have q0 : W.heap[w.heap.size]? = some (.cells #[.int .i64 x, .int .i64 n, .int .i64 u, .slice a c cap] 66 (0, 0)) := by rw [← hW]; exact (Below.heap_alloc _ _ _ (by simp)).trans (heap_alloc_new _ _)
  have q1 : W.heap[w.heap.size + 1]? = some (.cells #[.int .i64 m, .string s, .int .i64 z] 62 (0, 0)) := by
    rw [← hW]
    have e : w.heap.size + 1 = (w.alloc (.cells #[.int .i64 x, .int .i64 n, .int .i64 u, .slice a c cap] 66)).heap.size := by simp
    rw [e]
    exact heap_alloc_new _ _
  have c0 := (cell_of_block q0 0).trans rfl
  have c1 := (cell_of_block q0 1).trans rfl
  have c2 := (cell_of_block q0 2).trans rfl
  have c3 := (cell_of_block q0 3).trans rfl
  have d0 := (cell_of_block q1 0).trans rfl
  go_enter Tryd.func62, Tryd.ntmps62
  go_wp2_with fail
  refine (HN.out _ hb).mono ?_
  rintro e1 w1 ⟨rfl, B1⟩
  have hb1 := below2 hb B1
  have e0 := (cell_of_block ((B1.block _ (lt_of_block q0)).trans q0) 0).trans rfl
  have e1 := (cell_of_block ((B1.block _ (lt_of_block q1)).trans q1) 1).trans rfl
  clear HN c0 c1 c2 c3 d0 q0 q1 hW B1
  cases R1
  · go_wp2
    go_ret
    exact ⟨rfl, hb1⟩
  · go_wp2_with (go_at_call 72; refine (HTX.out _ hb1).mono ?_; rintro e3 w3 ⟨rfl, B3⟩)
    go_ret
    exact ⟨rfl, below2 hb1 B3⟩

end Go.Proofs.YtlimlpidbjkofaaDoor
