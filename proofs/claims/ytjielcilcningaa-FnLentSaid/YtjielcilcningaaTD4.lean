/-
  The law on handles that are put, found and dropped. (Made by a generator.)
-/
import Derived.Test.YtjielcilcningaaTD3
import Derived.Test.YtjielcilcningaaTB23
namespace Go.Proofs.Ytjielcilcningaa
open Go.ChangeShapes Go.WideShapes Go.ChangeAt Go.RowKit Go.Maps


theorem small_ok {S : List Hd} {F : List Int} {N : Nat} (h : Small S F N) : Hid (∀ x ∈ F, -9223372036854775808 ≤ x ∧ x ≤ 9223372036854775807) := fun x hx => by
  have := h.2.2 x hx
  omega
theorem small_len {S : List Hd} {F : List Int} {N : Nat} (h : Small S F N ∧ N ≤ 900) : S.length ≤ 1048576 ∧ F.length ≤ 1048576 := by
  have h1 := h.1.1
  have h2 := h.1.2.1
  omega
theorem cnt_le (S : List Hd) (res : Int) : ∀ n, cntTo S res n ≤ n
  | 0 => Nat.le_refl _
  | n + 1 => by
    have := cnt_le S res n
    simp only [cntTo]
    split
    · split <;> omega
    · omega
theorem w64k (k : Nat) (h : k ≤ 900) : wrap64 ((k : Int) + 1) = ((k + 1 : Nat) : Int) := by
  unfold wrap64
  omega
theorem res_next (r : Int) (h : 0 ≤ r ∧ r ≤ 9) : wrap64 (r + 1) = r + 1 ∧ ∃ R, Int.tmod (r + 1) 10 = R ∧ r ≠ R := by
  refine ⟨by unfold wrap64; omega, _, rfl, ?_⟩
  rw [Int.tmod_eq_emod_of_nonneg (by omega)]
  omega


set_option maxRecDepth 1000000 in
set_option maxHeartbeats 3200000 in
theorem handlesB (a1 : Option Addr) (n1 c1 : Nat) (w : World) (h1 : Bys w a1 n1 w.heap.size) :
    Calls Try.prog 3 #[.slice a1 n1 c1] w fun e w' => e = .returned (.bool true) ∧ Below w.heap.size w w' := by
  obtain ⟨n, hN⟩ : ∃ n : Int, (n1 : Int) = n := ⟨_, rfl⟩
  by_cases hlen : 1048576 < n
  · go_enter Try.func3, Try.ntmps3
    go_wp2
    go_ret
    exact ⟨rfl, Below.refl _ _⟩
  · have DN := drawNew a1 n1 c1 w h1
    unfold hdV at DN
    obtain ⟨g, hg⟩ : ∃ g, w.heap.size = g := ⟨_, rfl⟩
    have HB : Hid (Below w.heap.size w w) := Below.refl _ _
    have LB : Hid (g ≤ w.heap.size) := Nat.le_of_eq hg.symm
    clear hg
    clear h1
    go_enter Try.func3, Try.ntmps3
    go_wp2_with fail
    refine (DN).mono ?_
    rintro e w1 ⟨S, F, v, u, h, rfl, HT, hb⟩
    replace HB : Hid (Below w.heap.size w w1) := bel_step HB.out hb
    replace LB : Hid (g ≤ w1.heap.size) := Nat.le_trans LB.out hb.size
    clear hb
    clear DN hlen hN
    have HSt : Hid (Small S F 100 ∧ 100 ≤ 900) := ⟨HT.out.2, by decide⟩
    have Tt : Hid (TabO w.heap.size w1 v u S F) := HT.out.1
    clear HT
    obtain ⟨rat, rct, rbt, rdt, rfl, rfl, _, _, _⟩ := Tt.out.shape2
    replace Tt : Hid (TabO w.heap.size w1 (.slice rat S.length rct) (.slice rbt F.length rdt) S F) := Tt
    obtain ⟨yt, hyt⟩ : ∃ z, w1.heap.size = z := ⟨_, rfl⟩
    obtain ⟨w2, hNw2⟩ : ∃ W, ((w1.alloc (.cells #[.slice rat S.length rct, .slice rbt F.length rdt] 26)).alloc (.cells #[.bool h.u, .int .i64 h.r, .int .i64 h.p, .bool h.o, .int .i64 h.l, .int .i64 h.s] 28)) = W := ⟨_, rfl⟩
    have hb : Below w1.heap.size w1 w2 := by rw [← hNw2]; exact (bel_alloc (bel_alloc (Below.refl _ _) _) _)
    replace Tt : Hid (TabO w.heap.size w2 (.slice rat S.length rct) (.slice rbt F.length rdt) S F) := Tt.out.below hb
    replace HB : Hid (Below w.heap.size w w2) := bel_step HB.out hb
    replace LB : Hid (g ≤ w2.heap.size) := Nat.le_trans LB.out hb.size
    have bt : w2.heap[yt]? = some (.cells #[.slice rat S.length rct, .slice rbt F.length rdt] 26 (0, 0)) := by
      have hy := heap_alloc_new w1 (.cells #[.slice rat S.length rct, .slice rbt F.length rdt] 26)
      rw [show w1.heap.size = yt by exact hyt] at hy
      replace hy := (Below.heap_alloc _ (.cells #[.bool h.u, .int .i64 h.r, .int .i64 h.p, .bool h.o, .int .i64 h.l, .int .i64 h.s] 28) _ (lt_of_block hy)).trans hy
      rw [← hNw2]; exact hy
    have bh : w2.heap[yt + 1]? = some (.cells #[.bool h.u, .int .i64 h.r, .int .i64 h.p, .bool h.o, .int .i64 h.l, .int .i64 h.s] 28 (0, 0)) := by
      have hy := heap_alloc_new (w1.alloc (.cells #[.slice rat S.length rct, .slice rbt F.length rdt] 26)) (.cells #[.bool h.u, .int .i64 h.r, .int .i64 h.p, .bool h.o, .int .i64 h.l, .int .i64 h.s] 28)
      rw [show (w1.alloc (.cells #[.slice rat S.length rct, .slice rbt F.length rdt] 26)).heap.size = yt + 1 by simp [hyt]] at hy
      rw [← hNw2]; exact hy
    clear hb
    obtain ⟨S1, F1, N1, C1, hR⟩ := new_r S F h
    have HSx : Hid (Small S1 F1 101 ∧ 101 ≤ 900) := ⟨small_new hR HSt.out.1, by decide⟩
    have HR : Hid (NewR S F h S1 F1 N1 C1) := hR
    clear hR
    have K := implNew _ _ rct rdt S F h S1 F1 N1 C1 w2 (tabO_rows Tt.out).1 (tabO_rows Tt.out).2 (small_len HSt.out).1 (small_len HSt.out).2 (small_ok HSt.out.1) HR.out
    unfold tabV at K
    try unfold hdV at K
    have pt0x1 : w2.cell? ⟨yt, 0, none⟩ = some (.slice rat S.length rct) := (cell_of_block bt 0).trans rfl
    have pt1x1 : w2.cell? ⟨yt, 1, none⟩ = some (.slice rbt F.length rdt) := (cell_of_block bt 1).trans rfl
    have ph0x2 : w2.cell? ⟨yt + 1, 0, none⟩ = some (.bool h.u) := (cell_of_block bh 0).trans rfl
    have ph1x2 : w2.cell? ⟨yt + 1, 1, none⟩ = some (.int .i64 h.r) := (cell_of_block bh 1).trans rfl
    have ph2x2 : w2.cell? ⟨yt + 1, 2, none⟩ = some (.int .i64 h.p) := (cell_of_block bh 2).trans rfl
    have ph3x2 : w2.cell? ⟨yt + 1, 3, none⟩ = some (.bool h.o) := (cell_of_block bh 3).trans rfl
    have ph4x2 : w2.cell? ⟨yt + 1, 4, none⟩ = some (.int .i64 h.l) := (cell_of_block bh 4).trans rfl
    have ph5x2 : w2.cell? ⟨yt + 1, 5, none⟩ = some (.int .i64 h.s) := (cell_of_block bh 5).trans rfl
    go_wp2_with fail
    clear hNw2 hyt pt0x1 pt1x1 ph0x2 ph1x2 ph2x2 ph3x2 ph4x2 ph5x2
    refine (K).mono ?_
    rintro e w3 ⟨v, u, rfl, Tx, hb⟩
    replace Tx : Hid _ := Tx.out.base HB.out.size
    replace bt := (hb.block (yt) (lt_of_block bt)).trans bt
    replace bh := (hb.block (yt + 1) (lt_of_block bh)).trans bh
    replace Tt : Hid (TabO w.heap.size w3 (.slice rat S.length rct) (.slice rbt F.length rdt) S F) := Tt.out.below hb
    replace HB : Hid (Below w.heap.size w w3) := bel_step HB.out hb
    replace LB : Hid (g ≤ w3.heap.size) := Nat.le_trans LB.out hb.size
    clear hb
    clear K
    obtain ⟨rax, rcx, rbx, rdx, rfl, rfl, _, _, _⟩ := Tx.out.shape2
    replace Tx : Hid (TabO w.heap.size w3 (.slice rax S1.length rcx) (.slice rbx F1.length rdx) S1 F1) := Tx
    obtain ⟨yx, hyx⟩ : ∃ z, w3.heap.size = z := ⟨_, rfl⟩
    obtain ⟨w4, hNw4⟩ : ∃ W, w3.alloc (.cells #[.slice rax S1.length rcx, .slice rbx F1.length rdx] 26) = W := ⟨_, rfl⟩
    have hb : Below w3.heap.size w3 w4 := by rw [← hNw4]; exact bel_alloc (Below.refl _ _) _
    have hleyx : Hid (g ≤ yx) := by unfold Hid; rw [← hyx]; exact LB.out
    replace bt := (hb.block (yt) (lt_of_block bt)).trans bt
    replace bh := (hb.block (yt + 1) (lt_of_block bh)).trans bh
    replace Tt : Hid (TabO w.heap.size w4 (.slice rat S.length rct) (.slice rbt F.length rdt) S F) := Tt.out.below hb
    replace Tx : Hid (TabO w.heap.size w4 (.slice rax S1.length rcx) (.slice rbx F1.length rdx) S1 F1) := Tx.out.below hb
    replace HB : Hid (Below w.heap.size w w4) := bel_step HB.out hb
    replace LB : Hid (g ≤ w4.heap.size) := Nat.le_trans LB.out hb.size
    have bx : w4.heap[yx]? = some (.cells #[.slice rax S1.length rcx, .slice rbx F1.length rdx] 26 (0, 0)) := by rw [← hNw4, ← hyx]; exact heap_alloc_new _ _
    clear hb
    have K := specNew _ _ rct rdt S F h S1 F1 N1 C1 w4 (tabO_rows Tt.out).1 (tabO_rows Tt.out).2 (small_len HSt.out).1 (small_len HSt.out).2 (tabO_d Tt.out rfl) HR.out
    unfold tabV at K
    try unfold hdV at K
    have pt0x3 : w4.cell? ⟨yt, 0, none⟩ = some (.slice rat S.length rct) := (cell_of_block bt 0).trans rfl
    have pt1x3 : w4.cell? ⟨yt, 1, none⟩ = some (.slice rbt F.length rdt) := (cell_of_block bt 1).trans rfl
    have ph0x4 : w4.cell? ⟨yt + 1, 0, none⟩ = some (.bool h.u) := (cell_of_block bh 0).trans rfl
    have ph1x4 : w4.cell? ⟨yt + 1, 1, none⟩ = some (.int .i64 h.r) := (cell_of_block bh 1).trans rfl
    have ph2x4 : w4.cell? ⟨yt + 1, 2, none⟩ = some (.int .i64 h.p) := (cell_of_block bh 2).trans rfl
    have ph3x4 : w4.cell? ⟨yt + 1, 3, none⟩ = some (.bool h.o) := (cell_of_block bh 3).trans rfl
    have ph4x4 : w4.cell? ⟨yt + 1, 4, none⟩ = some (.int .i64 h.l) := (cell_of_block bh 4).trans rfl
    have ph5x4 : w4.cell? ⟨yt + 1, 5, none⟩ = some (.int .i64 h.s) := (cell_of_block bh 5).trans rfl
    go_wp2_with fail
    clear hNw4 hyx pt0x3 pt1x3 ph0x4 ph1x4 ph2x4 ph3x4 ph4x4 ph5x4
    refine (K).mono ?_
    rintro e w5 ⟨v, u, rfl, Ts, hb⟩
    replace Ts : Hid _ := Ts.out.base HB.out.size
    replace bt := (hb.block (yt) (lt_of_block bt)).trans bt
    replace bh := (hb.block (yt + 1) (lt_of_block bh)).trans bh
    replace bx := (hb.block (yx) (lt_of_block bx)).trans bx
    replace Tt : Hid (TabO w.heap.size w5 (.slice rat S.length rct) (.slice rbt F.length rdt) S F) := Tt.out.below hb
    replace Tx : Hid (TabO w.heap.size w5 (.slice rax S1.length rcx) (.slice rbx F1.length rdx) S1 F1) := Tx.out.below hb
    replace HB : Hid (Below w.heap.size w w5) := bel_step HB.out hb
    replace LB : Hid (g ≤ w5.heap.size) := Nat.le_trans LB.out hb.size
    clear hb
    clear K
    obtain ⟨ras, rcs, rbs, rds, rfl, rfl, _, _, _⟩ := Ts.out.shape2
    replace Ts : Hid (TabO w.heap.size w5 (.slice ras S1.length rcs) (.slice rbs F1.length rds) S1 F1) := Ts
    obtain ⟨ys, hys⟩ : ∃ z, w5.heap.size = z := ⟨_, rfl⟩
    obtain ⟨w6, hNw6⟩ : ∃ W, w5.alloc (.cells #[.slice ras S1.length rcs, .slice rbs F1.length rds] 26) = W := ⟨_, rfl⟩
    have hb : Below w5.heap.size w5 w6 := by rw [← hNw6]; exact bel_alloc (Below.refl _ _) _
    have hleys : Hid (g ≤ ys) := by unfold Hid; rw [← hys]; exact LB.out
    replace bt := (hb.block (yt) (lt_of_block bt)).trans bt
    replace bh := (hb.block (yt + 1) (lt_of_block bh)).trans bh
    replace bx := (hb.block (yx) (lt_of_block bx)).trans bx
    replace Tt : Hid (TabO w.heap.size w6 (.slice rat S.length rct) (.slice rbt F.length rdt) S F) := Tt.out.below hb
    replace Tx : Hid (TabO w.heap.size w6 (.slice rax S1.length rcx) (.slice rbx F1.length rdx) S1 F1) := Tx.out.below hb
    replace Ts : Hid (TabO w.heap.size w6 (.slice ras S1.length rcs) (.slice rbs F1.length rds) S1 F1) := Ts.out.below hb
    replace HB : Hid (Below w.heap.size w w6) := bel_step HB.out hb
    replace LB : Hid (g ≤ w6.heap.size) := Nat.le_trans LB.out hb.size
    have bs : w6.heap[ys]? = some (.cells #[.slice ras S1.length rcs, .slice rbs F1.length rds] 26 (0, 0)) := by rw [← hNw6, ← hys]; exact heap_alloc_new _ _
    clear hb
    by_cases hc : C1 = 0
    · subst hc
      obtain ⟨k, rfl, P, hG, hcnt⟩ := new_put HR.out rfl
      have HP : Hid (PutAt S1 F1 h k) := P
      have HG : Hid (GoodT S F) := hG
      obtain ⟨hw1, R, hR, hne⟩ := res_next h.r P.res
      have HNE : Hid (h.r ≠ R) := hne
      have HK : Hid (k ≤ 900) := by have h1 := P.lt; have h2 := HSx.out.1.1; unfold Hid; omega
      obtain ⟨q, hq⟩ : ∃ q, cntTo S (-1) S.length = q := ⟨_, rfl⟩
      obtain ⟨Q, hQ⟩ : ∃ Q : Int, ((q + 1 : Nat) : Int) = Q := ⟨_, rfl⟩
      have hwq : wrap64 ((q : Int) + 1) = Q := by rw [← hQ]; exact w64k q (by have h1 := cnt_le S (-1) S.length; have h2 := HSt.out.1.1; omega)
      have HQ1 : Hid ((q : Int) = (cntTo S (-1) S.length : Int)) := by unfold Hid; rw [hq]
      have HQ2 : Hid (Q = (cntTo S1 (-1) S1.length : Int)) := by unfold Hid; rw [hcnt, hq, hQ]
      have HWQ : Hid (wrap64 ((q : Int) + 1) = Q) := hwq
      have HW1 : Hid (wrap64 (h.r + 1) = h.r + 1 ∧ Int.tmod (h.r + 1) 10 = R) := ⟨hw1, hR⟩
      clear P hG hcnt hw1 hR hne hq hQ hwq HR
      have K := implFindH _ _ rcx rdx S1 F1 (k : Int) h.r h 0 w6 (tabO_rows Tx.out).1 (tabO_rows Tx.out).2 (small_len HSx.out).1 (small_len HSx.out).2 (small_ok HSx.out.1) (put_find HP.out)
      unfold tabV at K
      try unfold hdV at K
      have px0x5 : w6.cell? ⟨yx, 0, none⟩ = some (.slice rax S1.length rcx) := (cell_of_block bx 0).trans rfl
      have px1x5 : w6.cell? ⟨yx, 1, none⟩ = some (.slice rbx F1.length rdx) := (cell_of_block bx 1).trans rfl
      have ph1x6 : w6.cell? ⟨yt + 1, 1, none⟩ = some (.int .i64 h.r) := (cell_of_block bh 1).trans rfl
      go_wp2_with fail
      clear hNw6 hys px0x5 px1x5 ph1x6
      refine (K).mono ?_
      rintro e w7 ⟨rfl, hb⟩
      replace bt := (hb.block (yt) (lt_of_block bt)).trans bt
      replace bh := (hb.block (yt + 1) (lt_of_block bh)).trans bh
      replace bx := (hb.block (yx) (lt_of_block bx)).trans bx
      replace bs := (hb.block (ys) (lt_of_block bs)).trans bs
      replace Tt : Hid (TabO w.heap.size w7 (.slice rat S.length rct) (.slice rbt F.length rdt) S F) := Tt.out.below hb
      replace Tx : Hid (TabO w.heap.size w7 (.slice rax S1.length rcx) (.slice rbx F1.length rdx) S1 F1) := Tx.out.below hb
      replace Ts : Hid (TabO w.heap.size w7 (.slice ras S1.length rcs) (.slice rbs F1.length rds) S1 F1) := Ts.out.below hb
      replace HB : Hid (Below w.heap.size w w7) := bel_step HB.out hb
      replace LB : Hid (g ≤ w7.heap.size) := Nat.le_trans LB.out hb.size
      clear hb
      clear K
      obtain ⟨yf, hyf⟩ : ∃ z, w7.heap.size = z := ⟨_, rfl⟩
      obtain ⟨w8, hNw8⟩ : ∃ W, w7.alloc (.cells #[.bool h.u, .int .i64 h.r, .int .i64 h.p, .bool h.o, .int .i64 h.l, .int .i64 h.s] 28) = W := ⟨_, rfl⟩
      have hb : Below w7.heap.size w7 w8 := by rw [← hNw8]; exact bel_alloc (Below.refl _ _) _
      have hleyf : Hid (g ≤ yf) := by unfold Hid; rw [← hyf]; exact LB.out
      replace bt := (hb.block (yt) (lt_of_block bt)).trans bt
      replace bh := (hb.block (yt + 1) (lt_of_block bh)).trans bh
      replace bx := (hb.block (yx) (lt_of_block bx)).trans bx
      replace bs := (hb.block (ys) (lt_of_block bs)).trans bs
      replace Tt : Hid (TabO w.heap.size w8 (.slice rat S.length rct) (.slice rbt F.length rdt) S F) := Tt.out.below hb
      replace Tx : Hid (TabO w.heap.size w8 (.slice rax S1.length rcx) (.slice rbx F1.length rdx) S1 F1) := Tx.out.below hb
      replace Ts : Hid (TabO w.heap.size w8 (.slice ras S1.length rcs) (.slice rbs F1.length rds) S1 F1) := Ts.out.below hb
      replace HB : Hid (Below w.heap.size w w8) := bel_step HB.out hb
      replace LB : Hid (g ≤ w8.heap.size) := Nat.le_trans LB.out hb.size
      have bf : w8.heap[yf]? = some (.cells #[.bool h.u, .int .i64 h.r, .int .i64 h.p, .bool h.o, .int .i64 h.l, .int .i64 h.s] 28 (0, 0)) := by rw [← hNw8, ← hyf]; exact heap_alloc_new _ _
      clear hb
      have hw1 := HW1.out.1
      have hw2 := HW1.out.2
      have K := implFindH _ _ rcx rdx S1 F1 (k : Int) R zH 3 w8 (tabO_rows Tx.out).1 (tabO_rows Tx.out).2 (small_len HSx.out).1 (small_len HSx.out).2 (small_ok HSx.out.1) (put_other HP.out HNE.out)
      unfold tabV at K
      try unfold hdV at K
      simp only [zH] at K
      have px0x7 : w8.cell? ⟨yx, 0, none⟩ = some (.slice rax S1.length rcx) := (cell_of_block bx 0).trans rfl
      have px1x7 : w8.cell? ⟨yx, 1, none⟩ = some (.slice rbx F1.length rdx) := (cell_of_block bx 1).trans rfl
      have ph1x8 : w8.cell? ⟨yt + 1, 1, none⟩ = some (.int .i64 h.r) := (cell_of_block bh 1).trans rfl
      go_wp2_with fail
      clear hNw8 hyf px0x7 px1x7 ph1x8
      refine (K).mono ?_
      rintro e w9 ⟨rfl, hb⟩
      replace bt := (hb.block (yt) (lt_of_block bt)).trans bt
      replace bh := (hb.block (yt + 1) (lt_of_block bh)).trans bh
      replace bx := (hb.block (yx) (lt_of_block bx)).trans bx
      replace bs := (hb.block (ys) (lt_of_block bs)).trans bs
      replace bf := (hb.block (yf) (lt_of_block bf)).trans bf
      replace Tt : Hid (TabO w.heap.size w9 (.slice rat S.length rct) (.slice rbt F.length rdt) S F) := Tt.out.below hb
      replace Tx : Hid (TabO w.heap.size w9 (.slice rax S1.length rcx) (.slice rbx F1.length rdx) S1 F1) := Tx.out.below hb
      replace Ts : Hid (TabO w.heap.size w9 (.slice ras S1.length rcs) (.slice rbs F1.length rds) S1 F1) := Ts.out.below hb
      replace HB : Hid (Below w.heap.size w w9) := bel_step HB.out hb
      replace LB : Hid (g ≤ w9.heap.size) := Nat.le_trans LB.out hb.size
      clear hb
      clear K
      obtain ⟨yo, hyo⟩ : ∃ z, w9.heap.size = z := ⟨_, rfl⟩
      have hnt : yt < yo := by rw [← hyo]; exact lt_of_block bt
      have hnh : yt + 1 < yo := by rw [← hyo]; exact lt_of_block bh
      have hnx : yx < yo := by rw [← hyo]; exact lt_of_block bx
      have hns : ys < yo := by rw [← hyo]; exact lt_of_block bs
      have hnf : yf < yo := by rw [← hyo]; exact lt_of_block bf
      have hzTt := Tt.out
      have hzTx := Tx.out
      have hzTs := Ts.out
      obtain ⟨w10, hNw10⟩ : ∃ W, w9.alloc (.cells #[.bool false, .int .i64 0, .int .i64 0, .bool false, .int .i64 0, .int .i64 0] 28) = W := ⟨_, rfl⟩
      have hb : Below w9.heap.size w9 w10 := by rw [← hNw10]; exact bel_alloc (Below.refl _ _) _
      have hleyo : Hid (g ≤ yo) := by unfold Hid; rw [← hyo]; exact LB.out
      have hlw : w.heap.size ≤ yo := by rw [← hyo]; exact HB.out.size
      replace bt := (hb.block (yt) (lt_of_block bt)).trans bt
      replace bh := (hb.block (yt + 1) (lt_of_block bh)).trans bh
      replace bx := (hb.block (yx) (lt_of_block bx)).trans bx
      replace bs := (hb.block (ys) (lt_of_block bs)).trans bs
      replace bf := (hb.block (yf) (lt_of_block bf)).trans bf
      replace Tt : Hid (TabO w.heap.size w10 (.slice rat S.length rct) (.slice rbt F.length rdt) S F) := Tt.out.below hb
      replace Tx : Hid (TabO w.heap.size w10 (.slice rax S1.length rcx) (.slice rbx F1.length rdx) S1 F1) := Tx.out.below hb
      replace Ts : Hid (TabO w.heap.size w10 (.slice ras S1.length rcs) (.slice rbs F1.length rds) S1 F1) := Ts.out.below hb
      replace HB : Hid (Below w.heap.size w w10) := bel_step HB.out hb
      replace LB : Hid (g ≤ w10.heap.size) := Nat.le_trans LB.out hb.size
      have bo : w10.heap[yo]? = some (.cells #[.bool false, .int .i64 0, .int .i64 0, .bool false, .int .i64 0, .int .i64 0] 28 (0, 0)) := by rw [← hNw10, ← hyo]; exact heap_alloc_new _ _
      have hqTt := Tt.out
      have hqTx := Tx.out
      have hqTs := Ts.out
      clear hb
      have po0x9 : w10.cell? ⟨yo, 0, none⟩ = some (.bool false) := (cell_of_block bo 0).trans rfl
      have po1x9 : w10.cell? ⟨yo, 1, none⟩ = some (.int .i64 0) := (cell_of_block bo 1).trans rfl
      have po2x9 : w10.cell? ⟨yo, 2, none⟩ = some (.int .i64 0) := (cell_of_block bo 2).trans rfl
      have po3x9 : w10.cell? ⟨yo, 3, none⟩ = some (.bool false) := (cell_of_block bo 3).trans rfl
      have po4x9 : w10.cell? ⟨yo, 4, none⟩ = some (.int .i64 0) := (cell_of_block bo 4).trans rfl
      have po5x9 : w10.cell? ⟨yo, 5, none⟩ = some (.int .i64 0) := (cell_of_block bo 5).trans rfl
      have fo0x9 := free_of_block bo 0
      have fo1x9 := free_of_block bo 1
      have fo2x9 := free_of_block bo 2
      have fo3x9 := free_of_block bo 3
      have fo4x9 := free_of_block bo 4
      have fo5x9 := free_of_block bo 5
      obtain ⟨w11, hNw11⟩ : ∃ G, ((((((w10.setCell ⟨yo, 0, none⟩ (.bool false)).setCell ⟨yo, 1, none⟩ (.int .i64 0)).setCell ⟨yo, 2, none⟩ (.int .i64 0)).setCell ⟨yo, 3, none⟩ (.bool false)).setCell ⟨yo, 4, none⟩ (.int .i64 0)).setCell ⟨yo, 5, none⟩ (.int .i64 0)) = G := ⟨_, rfl⟩
      obtain ⟨s1, s2, s3, s4⟩ := set6T bo _ _ _ _ _ _ hNw11
      replace bt := (s2 (yt) (by omega)).trans bt
      replace bh := (s2 (yt + 1) (by omega)).trans bh
      replace bx := (s2 (yx) (by omega)).trans bx
      replace bs := (s2 (ys) (by omega)).trans bs
      replace bf := (s2 (yf) (by omega)).trans bf
      replace Tt : Hid (TabO w.heap.size w11 (.slice rat S.length rct) (.slice rbt F.length rdt) S F) := ⟨own_keep hqTt.hds (fun q hq => s2 q (by have := (hzTt.hds.lt q hq).2; omega)), own_keep hqTt.ints (fun q hq => s2 q (by have := (hzTt.ints.lt q hq).2; omega))⟩
      replace Tx : Hid (TabO w.heap.size w11 (.slice rax S1.length rcx) (.slice rbx F1.length rdx) S1 F1) := ⟨own_keep hqTx.hds (fun q hq => s2 q (by have := (hzTx.hds.lt q hq).2; omega)), own_keep hqTx.ints (fun q hq => s2 q (by have := (hzTx.ints.lt q hq).2; omega))⟩
      replace Ts : Hid (TabO w.heap.size w11 (.slice ras S1.length rcs) (.slice rbs F1.length rds) S1 F1) := ⟨own_keep hqTs.hds (fun q hq => s2 q (by have := (hzTs.hds.lt q hq).2; omega)), own_keep hqTs.ints (fun q hq => s2 q (by have := (hzTs.ints.lt q hq).2; omega))⟩
      replace HB : Hid (Below w.heap.size w w11) := s4 _ _ hlw HB.out
      replace LB : Hid (g ≤ w11.heap.size) := by unfold Hid; rw [s3]; exact LB.out
      replace bo := s1
      clear s1 s2 s3 s4 hlw hnt hnh hnx hns hnf hqTt hzTt hqTx hzTx hqTs hzTs
      clear hw1 hw2
      have K := implCountU _ _ rct rdt S F (-1) w11 (tabO_rows Tt.out).1 (tabO_rows Tt.out).2 (small_len HSt.out).1 (small_len HSt.out).2 (small_ok HSt.out.1) (q : Int) true (.inl ⟨HG.out, HQ1.out, rfl⟩)
      unfold tabV at K
      have pt0x10 : w11.cell? ⟨yt, 0, none⟩ = some (.slice rat S.length rct) := (cell_of_block bt 0).trans rfl
      have pt1x10 : w11.cell? ⟨yt, 1, none⟩ = some (.slice rbt F.length rdt) := (cell_of_block bt 1).trans rfl
      go_wp2_with fail
      clear po0x9 po1x9 po2x9 po3x9 po4x9 po5x9 fo0x9 fo1x9 fo2x9 fo3x9 fo4x9 fo5x9 hNw10 hyo hNw11 pt0x10 pt1x10
      refine (K).mono ?_
      rintro e w12 ⟨rfl, hb⟩
      replace bt := (hb.block (yt) (lt_of_block bt)).trans bt
      replace bh := (hb.block (yt + 1) (lt_of_block bh)).trans bh
      replace bx := (hb.block (yx) (lt_of_block bx)).trans bx
      replace bs := (hb.block (ys) (lt_of_block bs)).trans bs
      replace bf := (hb.block (yf) (lt_of_block bf)).trans bf
      replace bo := (hb.block (yo) (lt_of_block bo)).trans bo
      replace Tt : Hid (TabO w.heap.size w12 (.slice rat S.length rct) (.slice rbt F.length rdt) S F) := Tt.out.below hb
      replace Tx : Hid (TabO w.heap.size w12 (.slice rax S1.length rcx) (.slice rbx F1.length rdx) S1 F1) := Tx.out.below hb
      replace Ts : Hid (TabO w.heap.size w12 (.slice ras S1.length rcs) (.slice rbs F1.length rds) S1 F1) := Ts.out.below hb
      replace HB : Hid (Below w.heap.size w w12) := bel_step HB.out hb
      replace LB : Hid (g ≤ w12.heap.size) := Nat.le_trans LB.out hb.size
      clear hb
      clear K
      have K := implCountU _ _ rcx rdx S1 F1 (-1) w12 (tabO_rows Tx.out).1 (tabO_rows Tx.out).2 (small_len HSx.out).1 (small_len HSx.out).2 (small_ok HSx.out.1) Q true (.inl ⟨HP.out.good, HQ2.out, rfl⟩)
      unfold tabV at K
      have px0x11 : w12.cell? ⟨yx, 0, none⟩ = some (.slice rax S1.length rcx) := (cell_of_block bx 0).trans rfl
      have px1x11 : w12.cell? ⟨yx, 1, none⟩ = some (.slice rbx F1.length rdx) := (cell_of_block bx 1).trans rfl
      go_wp2_with fail
      clear px0x11 px1x11
      refine (K).mono ?_
      rintro e w13 ⟨rfl, hb⟩
      replace bt := (hb.block (yt) (lt_of_block bt)).trans bt
      replace bh := (hb.block (yt + 1) (lt_of_block bh)).trans bh
      replace bx := (hb.block (yx) (lt_of_block bx)).trans bx
      replace bs := (hb.block (ys) (lt_of_block bs)).trans bs
      replace bf := (hb.block (yf) (lt_of_block bf)).trans bf
      replace bo := (hb.block (yo) (lt_of_block bo)).trans bo
      replace Tt : Hid (TabO w.heap.size w13 (.slice rat S.length rct) (.slice rbt F.length rdt) S F) := Tt.out.below hb
      replace Tx : Hid (TabO w.heap.size w13 (.slice rax S1.length rcx) (.slice rbx F1.length rdx) S1 F1) := Tx.out.below hb
      replace Ts : Hid (TabO w.heap.size w13 (.slice ras S1.length rcs) (.slice rbs F1.length rds) S1 F1) := Ts.out.below hb
      replace HB : Hid (Below w.heap.size w w13) := bel_step HB.out hb
      replace LB : Hid (g ≤ w13.heap.size) := Nat.le_trans LB.out hb.size
      clear hb
      clear K
      have NE := neqHs h.u h.r h.p h.o h.l h.s
      have hwq := HWQ.out
      have pf0x12 : w13.cell? ⟨yf, 0, none⟩ = some (.bool h.u) := (cell_of_block bf 0).trans rfl
      have pf1x12 : w13.cell? ⟨yf, 1, none⟩ = some (.int .i64 h.r) := (cell_of_block bf 1).trans rfl
      have pf2x12 : w13.cell? ⟨yf, 2, none⟩ = some (.int .i64 h.p) := (cell_of_block bf 2).trans rfl
      have pf3x12 : w13.cell? ⟨yf, 3, none⟩ = some (.bool h.o) := (cell_of_block bf 3).trans rfl
      have pf4x12 : w13.cell? ⟨yf, 4, none⟩ = some (.int .i64 h.l) := (cell_of_block bf 4).trans rfl
      have pf5x12 : w13.cell? ⟨yf, 5, none⟩ = some (.int .i64 h.s) := (cell_of_block bf 5).trans rfl
      have ph0x13 : w13.cell? ⟨yt + 1, 0, none⟩ = some (.bool h.u) := (cell_of_block bh 0).trans rfl
      have ph1x13 : w13.cell? ⟨yt + 1, 1, none⟩ = some (.int .i64 h.r) := (cell_of_block bh 1).trans rfl
      have ph2x13 : w13.cell? ⟨yt + 1, 2, none⟩ = some (.int .i64 h.p) := (cell_of_block bh 2).trans rfl
      have ph3x13 : w13.cell? ⟨yt + 1, 3, none⟩ = some (.bool h.o) := (cell_of_block bh 3).trans rfl
      have ph4x13 : w13.cell? ⟨yt + 1, 4, none⟩ = some (.int .i64 h.l) := (cell_of_block bh 4).trans rfl
      have ph5x13 : w13.cell? ⟨yt + 1, 5, none⟩ = some (.int .i64 h.s) := (cell_of_block bh 5).trans rfl
      have K := implGoodT _ _ rcx rdx S1 F1 w13 (tabO_rows Tx.out).1 (tabO_rows Tx.out).2 (small_len HSx.out).1 (small_len HSx.out).2 (small_ok HSx.out.1)
      unfold tabV at K
      have px0x14 : w13.cell? ⟨yx, 0, none⟩ = some (.slice rax S1.length rcx) := (cell_of_block bx 0).trans rfl
      have px1x14 : w13.cell? ⟨yx, 1, none⟩ = some (.slice rbx F1.length rdx) := (cell_of_block bx 1).trans rfl
      go_wp2_with fail
      clear pf0x12 pf1x12 pf2x12 pf3x12 pf4x12 pf5x12 ph0x13 ph1x13 ph2x13 ph3x13 ph4x13 ph5x13 px0x14 px1x14
      refine (K).mono ?_
      rintro e w14 ⟨⟨r, rfl, hr⟩, hb⟩
      replace bt := (hb.block (yt) (lt_of_block bt)).trans bt
      replace bh := (hb.block (yt + 1) (lt_of_block bh)).trans bh
      replace bx := (hb.block (yx) (lt_of_block bx)).trans bx
      replace bs := (hb.block (ys) (lt_of_block bs)).trans bs
      replace bf := (hb.block (yf) (lt_of_block bf)).trans bf
      replace bo := (hb.block (yo) (lt_of_block bo)).trans bo
      replace Tt : Hid (TabO w.heap.size w14 (.slice rat S.length rct) (.slice rbt F.length rdt) S F) := Tt.out.below hb
      replace Tx : Hid (TabO w.heap.size w14 (.slice rax S1.length rcx) (.slice rbx F1.length rdx) S1 F1) := Tx.out.below hb
      replace Ts : Hid (TabO w.heap.size w14 (.slice ras S1.length rcs) (.slice rbs F1.length rds) S1 F1) := Ts.out.below hb
      replace HB : Hid (Below w.heap.size w w14) := bel_step HB.out hb
      replace LB : Hid (g ≤ w14.heap.size) := Nat.le_trans LB.out hb.size
      clear hb
      clear K
      obtain rfl : r = true := hr.mpr HP.out.good
      clear hr
      clear NE hwq
      have HSv : Hid (Small (S1.set k zH) (F1 ++ [(k : Int)]) 102 ∧ 102 ≤ 900) := ⟨small_out (put_drop HP.out) HSx.out.1 (by decide), by decide⟩
      have K := implDrop _ _ rcx rdx S1 F1 (k : Int) h.r (S1.set k zH) (F1 ++ [(k : Int)]) h 0 w14 (tabO_rows Tx.out).1 (tabO_rows Tx.out).2 (small_len HSx.out).1 (small_len HSx.out).2 (small_ok HSx.out.1) (put_drop HP.out)
      unfold tabV at K
      try unfold hdV at K
      have px0x15 : w14.cell? ⟨yx, 0, none⟩ = some (.slice rax S1.length rcx) := (cell_of_block bx 0).trans rfl
      have px1x15 : w14.cell? ⟨yx, 1, none⟩ = some (.slice rbx F1.length rdx) := (cell_of_block bx 1).trans rfl
      have ph1x16 : w14.cell? ⟨yt + 1, 1, none⟩ = some (.int .i64 h.r) := (cell_of_block bh 1).trans rfl
      go_wp2_with fail
      clear px0x15 px1x15 ph1x16
      refine (K).mono ?_
      rintro e w15 ⟨v, u, rfl, Tv, hb⟩
      replace Tv : Hid _ := Tv.out.base HB.out.size
      replace bt := (hb.block (yt) (lt_of_block bt)).trans bt
      replace bh := (hb.block (yt + 1) (lt_of_block bh)).trans bh
      replace bx := (hb.block (yx) (lt_of_block bx)).trans bx
      replace bs := (hb.block (ys) (lt_of_block bs)).trans bs
      replace bf := (hb.block (yf) (lt_of_block bf)).trans bf
      replace bo := (hb.block (yo) (lt_of_block bo)).trans bo
      replace Tt : Hid (TabO w.heap.size w15 (.slice rat S.length rct) (.slice rbt F.length rdt) S F) := Tt.out.below hb
      replace Tx : Hid (TabO w.heap.size w15 (.slice rax S1.length rcx) (.slice rbx F1.length rdx) S1 F1) := Tx.out.below hb
      replace Ts : Hid (TabO w.heap.size w15 (.slice ras S1.length rcs) (.slice rbs F1.length rds) S1 F1) := Ts.out.below hb
      replace HB : Hid (Below w.heap.size w w15) := bel_step HB.out hb
      replace LB : Hid (g ≤ w15.heap.size) := Nat.le_trans LB.out hb.size
      clear hb
      clear K
      obtain ⟨Sy, hSy⟩ : ∃ L, S1.set k zH = L := ⟨_, rfl⟩
      obtain ⟨Fy, hFy⟩ : ∃ L, F1 ++ [(k : Int)] = L := ⟨_, rfl⟩
      have HY : Hid (S1.set k zH = Sy ∧ F1 ++ [(k : Int)] = Fy) := ⟨hSy, hFy⟩
      rw [hSy, hFy] at Tv HSv
      clear hSy hFy
      obtain ⟨rav, rcv, rbv, rdv, rfl, rfl, _, _, _⟩ := Tv.out.shape2
      replace Tv : Hid (TabO w.heap.size w15 (.slice rav Sy.length rcv) (.slice rbv Fy.length rdv) Sy Fy) := Tv
      obtain ⟨yv, hyv⟩ : ∃ z, w15.heap.size = z := ⟨_, rfl⟩
      obtain ⟨w16, hNw16⟩ : ∃ W, ((w15.alloc (.cells #[.slice rav Sy.length rcv, .slice rbv Fy.length rdv] 26)).alloc (.cells #[.bool h.u, .int .i64 h.r, .int .i64 h.p, .bool h.o, .int .i64 h.l, .int .i64 h.s] 28)) = W := ⟨_, rfl⟩
      have hb : Below w15.heap.size w15 w16 := by rw [← hNw16]; exact (bel_alloc (bel_alloc (Below.refl _ _) _) _)
      replace bt := (hb.block (yt) (lt_of_block bt)).trans bt
      replace bh := (hb.block (yt + 1) (lt_of_block bh)).trans bh
      replace bx := (hb.block (yx) (lt_of_block bx)).trans bx
      replace bs := (hb.block (ys) (lt_of_block bs)).trans bs
      replace bf := (hb.block (yf) (lt_of_block bf)).trans bf
      replace bo := (hb.block (yo) (lt_of_block bo)).trans bo
      replace Tt : Hid (TabO w.heap.size w16 (.slice rat S.length rct) (.slice rbt F.length rdt) S F) := Tt.out.below hb
      replace Tx : Hid (TabO w.heap.size w16 (.slice rax S1.length rcx) (.slice rbx F1.length rdx) S1 F1) := Tx.out.below hb
      replace Ts : Hid (TabO w.heap.size w16 (.slice ras S1.length rcs) (.slice rbs F1.length rds) S1 F1) := Ts.out.below hb
      replace Tv : Hid (TabO w.heap.size w16 (.slice rav Sy.length rcv) (.slice rbv Fy.length rdv) Sy Fy) := Tv.out.below hb
      replace HB : Hid (Below w.heap.size w w16) := bel_step HB.out hb
      replace LB : Hid (g ≤ w16.heap.size) := Nat.le_trans LB.out hb.size
      have bv : w16.heap[yv]? = some (.cells #[.slice rav Sy.length rcv, .slice rbv Fy.length rdv] 26 (0, 0)) := by
        have hy := heap_alloc_new w15 (.cells #[.slice rav Sy.length rcv, .slice rbv Fy.length rdv] 26)
        rw [show w15.heap.size = yv by exact hyv] at hy
        replace hy := (Below.heap_alloc _ (.cells #[.bool h.u, .int .i64 h.r, .int .i64 h.p, .bool h.o, .int .i64 h.l, .int .i64 h.s] 28) _ (lt_of_block hy)).trans hy
        rw [← hNw16]; exact hy
      have bd : w16.heap[yv + 1]? = some (.cells #[.bool h.u, .int .i64 h.r, .int .i64 h.p, .bool h.o, .int .i64 h.l, .int .i64 h.s] 28 (0, 0)) := by
        have hy := heap_alloc_new (w15.alloc (.cells #[.slice rav Sy.length rcv, .slice rbv Fy.length rdv] 26)) (.cells #[.bool h.u, .int .i64 h.r, .int .i64 h.p, .bool h.o, .int .i64 h.l, .int .i64 h.s] 28)
        rw [show (w15.alloc (.cells #[.slice rav Sy.length rcv, .slice rbv Fy.length rdv] 26)).heap.size = yv + 1 by simp [hyv]] at hy
        rw [← hNw16]; exact hy
      clear hb
      have K := implFindH _ _ rcv rdv Sy Fy (k : Int) h.r zH 2 w16 (tabO_rows Tv.out).1 (tabO_rows Tv.out).2 (small_len HSv.out).1 (small_len HSv.out).2 (small_ok HSv.out.1) (by rw [← HY.out.1, ← HY.out.2]; exact put_gone HP.out h.r)
      unfold tabV at K
      try unfold hdV at K
      simp only [zH] at K
      have pv0x17 : w16.cell? ⟨yv, 0, none⟩ = some (.slice rav Sy.length rcv) := (cell_of_block bv 0).trans rfl
      have pv1x17 : w16.cell? ⟨yv, 1, none⟩ = some (.slice rbv Fy.length rdv) := (cell_of_block bv 1).trans rfl
      have ph1x18 : w16.cell? ⟨yt + 1, 1, none⟩ = some (.int .i64 h.r) := (cell_of_block bh 1).trans rfl
      go_wp2_with fail
      clear hNw16 hyv pv0x17 pv1x17 ph1x18
      refine (K).mono ?_
      rintro e w17 ⟨rfl, hb⟩
      replace bt := (hb.block (yt) (lt_of_block bt)).trans bt
      replace bh := (hb.block (yt + 1) (lt_of_block bh)).trans bh
      replace bx := (hb.block (yx) (lt_of_block bx)).trans bx
      replace bs := (hb.block (ys) (lt_of_block bs)).trans bs
      replace bf := (hb.block (yf) (lt_of_block bf)).trans bf
      replace bo := (hb.block (yo) (lt_of_block bo)).trans bo
      replace bv := (hb.block (yv) (lt_of_block bv)).trans bv
      replace bd := (hb.block (yv + 1) (lt_of_block bd)).trans bd
      replace Tt : Hid (TabO w.heap.size w17 (.slice rat S.length rct) (.slice rbt F.length rdt) S F) := Tt.out.below hb
      replace Tx : Hid (TabO w.heap.size w17 (.slice rax S1.length rcx) (.slice rbx F1.length rdx) S1 F1) := Tx.out.below hb
      replace Ts : Hid (TabO w.heap.size w17 (.slice ras S1.length rcs) (.slice rbs F1.length rds) S1 F1) := Ts.out.below hb
      replace Tv : Hid (TabO w.heap.size w17 (.slice rav Sy.length rcv) (.slice rbv Fy.length rdv) Sy Fy) := Tv.out.below hb
      replace HB : Hid (Below w.heap.size w w17) := bel_step HB.out hb
      replace LB : Hid (g ≤ w17.heap.size) := Nat.le_trans LB.out hb.size
      clear hb
      clear K
      obtain ⟨yn, hyn⟩ : ∃ z, w17.heap.size = z := ⟨_, rfl⟩
      have hnt : yt < yn := by rw [← hyn]; exact lt_of_block bt
      have hnh : yt + 1 < yn := by rw [← hyn]; exact lt_of_block bh
      have hnx : yx < yn := by rw [← hyn]; exact lt_of_block bx
      have hns : ys < yn := by rw [← hyn]; exact lt_of_block bs
      have hnf : yf < yn := by rw [← hyn]; exact lt_of_block bf
      have hno : yo < yn := by rw [← hyn]; exact lt_of_block bo
      have hnv : yv < yn := by rw [← hyn]; exact lt_of_block bv
      have hnd : yv + 1 < yn := by rw [← hyn]; exact lt_of_block bd
      have hzTt := Tt.out
      have hzTx := Tx.out
      have hzTs := Ts.out
      have hzTv := Tv.out
      obtain ⟨w18, hNw18⟩ : ∃ W, w17.alloc (.cells #[.bool false, .int .i64 0, .int .i64 0, .bool false, .int .i64 0, .int .i64 0] 28) = W := ⟨_, rfl⟩
      have hb : Below w17.heap.size w17 w18 := by rw [← hNw18]; exact bel_alloc (Below.refl _ _) _
      have hleyn : Hid (g ≤ yn) := by unfold Hid; rw [← hyn]; exact LB.out
      have hlw : w.heap.size ≤ yn := by rw [← hyn]; exact HB.out.size
      replace bt := (hb.block (yt) (lt_of_block bt)).trans bt
      replace bh := (hb.block (yt + 1) (lt_of_block bh)).trans bh
      replace bx := (hb.block (yx) (lt_of_block bx)).trans bx
      replace bs := (hb.block (ys) (lt_of_block bs)).trans bs
      replace bf := (hb.block (yf) (lt_of_block bf)).trans bf
      replace bo := (hb.block (yo) (lt_of_block bo)).trans bo
      replace bv := (hb.block (yv) (lt_of_block bv)).trans bv
      replace bd := (hb.block (yv + 1) (lt_of_block bd)).trans bd
      replace Tt : Hid (TabO w.heap.size w18 (.slice rat S.length rct) (.slice rbt F.length rdt) S F) := Tt.out.below hb
      replace Tx : Hid (TabO w.heap.size w18 (.slice rax S1.length rcx) (.slice rbx F1.length rdx) S1 F1) := Tx.out.below hb
      replace Ts : Hid (TabO w.heap.size w18 (.slice ras S1.length rcs) (.slice rbs F1.length rds) S1 F1) := Ts.out.below hb
      replace Tv : Hid (TabO w.heap.size w18 (.slice rav Sy.length rcv) (.slice rbv Fy.length rdv) Sy Fy) := Tv.out.below hb
      replace HB : Hid (Below w.heap.size w w18) := bel_step HB.out hb
      replace LB : Hid (g ≤ w18.heap.size) := Nat.le_trans LB.out hb.size
      have bn : w18.heap[yn]? = some (.cells #[.bool false, .int .i64 0, .int .i64 0, .bool false, .int .i64 0, .int .i64 0] 28 (0, 0)) := by rw [← hNw18, ← hyn]; exact heap_alloc_new _ _
      have hqTt := Tt.out
      have hqTx := Tx.out
      have hqTs := Ts.out
      have hqTv := Tv.out
      clear hb
      have pn0x19 : w18.cell? ⟨yn, 0, none⟩ = some (.bool false) := (cell_of_block bn 0).trans rfl
      have pn1x19 : w18.cell? ⟨yn, 1, none⟩ = some (.int .i64 0) := (cell_of_block bn 1).trans rfl
      have pn2x19 : w18.cell? ⟨yn, 2, none⟩ = some (.int .i64 0) := (cell_of_block bn 2).trans rfl
      have pn3x19 : w18.cell? ⟨yn, 3, none⟩ = some (.bool false) := (cell_of_block bn 3).trans rfl
      have pn4x19 : w18.cell? ⟨yn, 4, none⟩ = some (.int .i64 0) := (cell_of_block bn 4).trans rfl
      have pn5x19 : w18.cell? ⟨yn, 5, none⟩ = some (.int .i64 0) := (cell_of_block bn 5).trans rfl
      have fn0x19 := free_of_block bn 0
      have fn1x19 := free_of_block bn 1
      have fn2x19 := free_of_block bn 2
      have fn3x19 := free_of_block bn 3
      have fn4x19 := free_of_block bn 4
      have fn5x19 := free_of_block bn 5
      obtain ⟨w19, hNw19⟩ : ∃ G, ((((((w18.setCell ⟨yn, 0, none⟩ (.bool false)).setCell ⟨yn, 1, none⟩ (.int .i64 0)).setCell ⟨yn, 2, none⟩ (.int .i64 0)).setCell ⟨yn, 3, none⟩ (.bool false)).setCell ⟨yn, 4, none⟩ (.int .i64 0)).setCell ⟨yn, 5, none⟩ (.int .i64 0)) = G := ⟨_, rfl⟩
      obtain ⟨s1, s2, s3, s4⟩ := set6T bn _ _ _ _ _ _ hNw19
      replace bt := (s2 (yt) (by omega)).trans bt
      replace bh := (s2 (yt + 1) (by omega)).trans bh
      replace bx := (s2 (yx) (by omega)).trans bx
      replace bs := (s2 (ys) (by omega)).trans bs
      replace bf := (s2 (yf) (by omega)).trans bf
      replace bo := (s2 (yo) (by omega)).trans bo
      replace bv := (s2 (yv) (by omega)).trans bv
      replace bd := (s2 (yv + 1) (by omega)).trans bd
      replace Tt : Hid (TabO w.heap.size w19 (.slice rat S.length rct) (.slice rbt F.length rdt) S F) := ⟨own_keep hqTt.hds (fun q hq => s2 q (by have := (hzTt.hds.lt q hq).2; omega)), own_keep hqTt.ints (fun q hq => s2 q (by have := (hzTt.ints.lt q hq).2; omega))⟩
      replace Tx : Hid (TabO w.heap.size w19 (.slice rax S1.length rcx) (.slice rbx F1.length rdx) S1 F1) := ⟨own_keep hqTx.hds (fun q hq => s2 q (by have := (hzTx.hds.lt q hq).2; omega)), own_keep hqTx.ints (fun q hq => s2 q (by have := (hzTx.ints.lt q hq).2; omega))⟩
      replace Ts : Hid (TabO w.heap.size w19 (.slice ras S1.length rcs) (.slice rbs F1.length rds) S1 F1) := ⟨own_keep hqTs.hds (fun q hq => s2 q (by have := (hzTs.hds.lt q hq).2; omega)), own_keep hqTs.ints (fun q hq => s2 q (by have := (hzTs.ints.lt q hq).2; omega))⟩
      replace Tv : Hid (TabO w.heap.size w19 (.slice rav Sy.length rcv) (.slice rbv Fy.length rdv) Sy Fy) := ⟨own_keep hqTv.hds (fun q hq => s2 q (by have := (hzTv.hds.lt q hq).2; omega)), own_keep hqTv.ints (fun q hq => s2 q (by have := (hzTv.ints.lt q hq).2; omega))⟩
      replace HB : Hid (Below w.heap.size w w19) := s4 _ _ hlw HB.out
      replace LB : Hid (g ≤ w19.heap.size) := by unfold Hid; rw [s3]; exact LB.out
      replace bn := s1
      clear s1 s2 s3 s4 hlw hnt hnh hnx hns hnf hno hnv hnd hqTt hzTt hqTx hzTx hqTs hzTs hqTv hzTv
      obtain ⟨Sz, hSz⟩ : ∃ L, (S1.set k zH).set k h = L := ⟨_, rfl⟩
      have HZ : Hid ((S1.set k zH).set k h = Sz) := hSz
      clear hSz
      have K := implNew _ _ rcv rdv Sy Fy h Sz F1 (k : Int) 0 w19 (tabO_rows Tv.out).1 (tabO_rows Tv.out).2 (small_len HSv.out).1 (small_len HSv.out).2 (small_ok HSv.out.1) (by rw [← HY.out.1, ← HY.out.2, ← HZ.out]; exact put_again HP.out)
      unfold tabV at K
      try unfold hdV at K
      have pv0x20 : w19.cell? ⟨yv, 0, none⟩ = some (.slice rav Sy.length rcv) := (cell_of_block bv 0).trans rfl
      have pv1x20 : w19.cell? ⟨yv, 1, none⟩ = some (.slice rbv Fy.length rdv) := (cell_of_block bv 1).trans rfl
      have ph0x21 : w19.cell? ⟨yt + 1, 0, none⟩ = some (.bool h.u) := (cell_of_block bh 0).trans rfl
      have ph1x21 : w19.cell? ⟨yt + 1, 1, none⟩ = some (.int .i64 h.r) := (cell_of_block bh 1).trans rfl
      have ph2x21 : w19.cell? ⟨yt + 1, 2, none⟩ = some (.int .i64 h.p) := (cell_of_block bh 2).trans rfl
      have ph3x21 : w19.cell? ⟨yt + 1, 3, none⟩ = some (.bool h.o) := (cell_of_block bh 3).trans rfl
      have ph4x21 : w19.cell? ⟨yt + 1, 4, none⟩ = some (.int .i64 h.l) := (cell_of_block bh 4).trans rfl
      have ph5x21 : w19.cell? ⟨yt + 1, 5, none⟩ = some (.int .i64 h.s) := (cell_of_block bh 5).trans rfl
      go_wp2_with fail
      clear pn0x19 pn1x19 pn2x19 pn3x19 pn4x19 pn5x19 fn0x19 fn1x19 fn2x19 fn3x19 fn4x19 fn5x19 hNw18 hyn hNw19 pv0x20 pv1x20 ph0x21 ph1x21 ph2x21 ph3x21 ph4x21 ph5x21
      refine (K).mono ?_
      rintro e w20 ⟨v, u, rfl, Tz, hb⟩
      replace Tz : Hid _ := Tz.out.base HB.out.size
      replace bt := (hb.block (yt) (lt_of_block bt)).trans bt
      replace bh := (hb.block (yt + 1) (lt_of_block bh)).trans bh
      replace bx := (hb.block (yx) (lt_of_block bx)).trans bx
      replace bs := (hb.block (ys) (lt_of_block bs)).trans bs
      replace bf := (hb.block (yf) (lt_of_block bf)).trans bf
      replace bo := (hb.block (yo) (lt_of_block bo)).trans bo
      replace bv := (hb.block (yv) (lt_of_block bv)).trans bv
      replace bd := (hb.block (yv + 1) (lt_of_block bd)).trans bd
      replace bn := (hb.block (yn) (lt_of_block bn)).trans bn
      replace Tt : Hid (TabO w.heap.size w20 (.slice rat S.length rct) (.slice rbt F.length rdt) S F) := Tt.out.below hb
      replace Tx : Hid (TabO w.heap.size w20 (.slice rax S1.length rcx) (.slice rbx F1.length rdx) S1 F1) := Tx.out.below hb
      replace Ts : Hid (TabO w.heap.size w20 (.slice ras S1.length rcs) (.slice rbs F1.length rds) S1 F1) := Ts.out.below hb
      replace Tv : Hid (TabO w.heap.size w20 (.slice rav Sy.length rcv) (.slice rbv Fy.length rdv) Sy Fy) := Tv.out.below hb
      replace HB : Hid (Below w.heap.size w w20) := bel_step HB.out hb
      replace LB : Hid (g ≤ w20.heap.size) := Nat.le_trans LB.out hb.size
      clear hb
      clear K
      obtain ⟨raz, rcz, rbz, rdz, rfl, rfl, _, _, _⟩ := Tz.out.shape2
      replace Tz : Hid (TabO w.heap.size w20 (.slice raz Sz.length rcz) (.slice rbz F1.length rdz) Sz F1) := Tz
      obtain ⟨yz, hyz⟩ : ∃ z, w20.heap.size = z := ⟨_, rfl⟩
      obtain ⟨w21, hNw21⟩ : ∃ W, w20.alloc (.cells #[.slice raz Sz.length rcz, .slice rbz F1.length rdz] 26) = W := ⟨_, rfl⟩
      have hb : Below w20.heap.size w20 w21 := by rw [← hNw21]; exact bel_alloc (Below.refl _ _) _
      have hleyz : Hid (g ≤ yz) := by unfold Hid; rw [← hyz]; exact LB.out
      replace bt := (hb.block (yt) (lt_of_block bt)).trans bt
      replace bh := (hb.block (yt + 1) (lt_of_block bh)).trans bh
      replace bx := (hb.block (yx) (lt_of_block bx)).trans bx
      replace bs := (hb.block (ys) (lt_of_block bs)).trans bs
      replace bf := (hb.block (yf) (lt_of_block bf)).trans bf
      replace bo := (hb.block (yo) (lt_of_block bo)).trans bo
      replace bv := (hb.block (yv) (lt_of_block bv)).trans bv
      replace bd := (hb.block (yv + 1) (lt_of_block bd)).trans bd
      replace bn := (hb.block (yn) (lt_of_block bn)).trans bn
      replace Tt : Hid (TabO w.heap.size w21 (.slice rat S.length rct) (.slice rbt F.length rdt) S F) := Tt.out.below hb
      replace Tx : Hid (TabO w.heap.size w21 (.slice rax S1.length rcx) (.slice rbx F1.length rdx) S1 F1) := Tx.out.below hb
      replace Ts : Hid (TabO w.heap.size w21 (.slice ras S1.length rcs) (.slice rbs F1.length rds) S1 F1) := Ts.out.below hb
      replace Tv : Hid (TabO w.heap.size w21 (.slice rav Sy.length rcv) (.slice rbv Fy.length rdv) Sy Fy) := Tv.out.below hb
      replace Tz : Hid (TabO w.heap.size w21 (.slice raz Sz.length rcz) (.slice rbz F1.length rdz) Sz F1) := Tz.out.below hb
      replace HB : Hid (Below w.heap.size w w21) := bel_step HB.out hb
      replace LB : Hid (g ≤ w21.heap.size) := Nat.le_trans LB.out hb.size
      have bz : w21.heap[yz]? = some (.cells #[.slice raz Sz.length rcz, .slice rbz F1.length rdz] 26 (0, 0)) := by rw [← hNw21, ← hyz]; exact heap_alloc_new _ _
      clear hb
      have EQ := eqHs h.u h.r h.p h.o h.l h.s
      have pd0x22 : w21.cell? ⟨yv + 1, 0, none⟩ = some (.bool h.u) := (cell_of_block bd 0).trans rfl
      have pd1x22 : w21.cell? ⟨yv + 1, 1, none⟩ = some (.int .i64 h.r) := (cell_of_block bd 1).trans rfl
      have pd2x22 : w21.cell? ⟨yv + 1, 2, none⟩ = some (.int .i64 h.p) := (cell_of_block bd 2).trans rfl
      have pd3x22 : w21.cell? ⟨yv + 1, 3, none⟩ = some (.bool h.o) := (cell_of_block bd 3).trans rfl
      have pd4x22 : w21.cell? ⟨yv + 1, 4, none⟩ = some (.int .i64 h.l) := (cell_of_block bd 4).trans rfl
      have pd5x22 : w21.cell? ⟨yv + 1, 5, none⟩ = some (.int .i64 h.s) := (cell_of_block bd 5).trans rfl
      have ph0x23 : w21.cell? ⟨yt + 1, 0, none⟩ = some (.bool h.u) := (cell_of_block bh 0).trans rfl
      have ph1x23 : w21.cell? ⟨yt + 1, 1, none⟩ = some (.int .i64 h.r) := (cell_of_block bh 1).trans rfl
      have ph2x23 : w21.cell? ⟨yt + 1, 2, none⟩ = some (.int .i64 h.p) := (cell_of_block bh 2).trans rfl
      have ph3x23 : w21.cell? ⟨yt + 1, 3, none⟩ = some (.bool h.o) := (cell_of_block bh 3).trans rfl
      have ph4x23 : w21.cell? ⟨yt + 1, 4, none⟩ = some (.int .i64 h.l) := (cell_of_block bh 4).trans rfl
      have ph5x23 : w21.cell? ⟨yt + 1, 5, none⟩ = some (.int .i64 h.s) := (cell_of_block bh 5).trans rfl
      have K := implGoodT _ _ rcv rdv Sy Fy w21 (tabO_rows Tv.out).1 (tabO_rows Tv.out).2 (small_len HSv.out).1 (small_len HSv.out).2 (small_ok HSv.out.1)
      unfold tabV at K
      have pv0x24 : w21.cell? ⟨yv, 0, none⟩ = some (.slice rav Sy.length rcv) := (cell_of_block bv 0).trans rfl
      have pv1x24 : w21.cell? ⟨yv, 1, none⟩ = some (.slice rbv Fy.length rdv) := (cell_of_block bv 1).trans rfl
      go_wp2_with fail
      clear hNw21 hyz pd0x22 pd1x22 pd2x22 pd3x22 pd4x22 pd5x22 ph0x23 ph1x23 ph2x23 ph3x23 ph4x23 ph5x23 pv0x24 pv1x24
      refine (K).mono ?_
      rintro e w22 ⟨⟨r, rfl, hr⟩, hb⟩
      replace bt := (hb.block (yt) (lt_of_block bt)).trans bt
      replace bh := (hb.block (yt + 1) (lt_of_block bh)).trans bh
      replace bx := (hb.block (yx) (lt_of_block bx)).trans bx
      replace bs := (hb.block (ys) (lt_of_block bs)).trans bs
      replace bf := (hb.block (yf) (lt_of_block bf)).trans bf
      replace bo := (hb.block (yo) (lt_of_block bo)).trans bo
      replace bv := (hb.block (yv) (lt_of_block bv)).trans bv
      replace bd := (hb.block (yv + 1) (lt_of_block bd)).trans bd
      replace bn := (hb.block (yn) (lt_of_block bn)).trans bn
      replace bz := (hb.block (yz) (lt_of_block bz)).trans bz
      replace Tt : Hid (TabO w.heap.size w22 (.slice rat S.length rct) (.slice rbt F.length rdt) S F) := Tt.out.below hb
      replace Tx : Hid (TabO w.heap.size w22 (.slice rax S1.length rcx) (.slice rbx F1.length rdx) S1 F1) := Tx.out.below hb
      replace Ts : Hid (TabO w.heap.size w22 (.slice ras S1.length rcs) (.slice rbs F1.length rds) S1 F1) := Ts.out.below hb
      replace Tv : Hid (TabO w.heap.size w22 (.slice rav Sy.length rcv) (.slice rbv Fy.length rdv) Sy Fy) := Tv.out.below hb
      replace Tz : Hid (TabO w.heap.size w22 (.slice raz Sz.length rcz) (.slice rbz F1.length rdz) Sz F1) := Tz.out.below hb
      replace HB : Hid (Below w.heap.size w w22) := bel_step HB.out hb
      replace LB : Hid (g ≤ w22.heap.size) := Nat.le_trans LB.out hb.size
      clear hb
      clear K
      obtain rfl : r = true := hr.mpr (by rw [← HY.out.1, ← HY.out.2]; exact good_out HP.out.good HP.out.lt HP.out.out)
      clear hr
      clear EQ
      go_wp2
      go_ret
      exact ⟨rfl, HB.out⟩
    · have hc2 : (C1 == 0) = false := by simpa using hc
      rcases new_not HR.out hc with rfl | ⟨rfl, hS1, hF1⟩
      · clear hc hc2 HR
        go_wp2
        go_ret
        exact ⟨rfl, HB.out⟩
      · clear hc hc2 HR
        obtain ⟨rfl, rfl⟩ : S = S1 ∧ F = F1 := ⟨hS1.symm, hF1.symm⟩
        clear hS1 hF1
        have K := sameTab _ _ _ _ rcx rct rdx rdt _ _ w6 (tabO_rows Tx.out).1 (tabO_rows Tt.out).1 (tabO_rows Tx.out).2 (tabO_rows Tt.out).2 (small_len HSx.out).1 (small_len HSx.out).2
        unfold tabV at K
        have px0x5 : w6.cell? ⟨yx, 0, none⟩ = some (.slice rax S.length rcx) := (cell_of_block bx 0).trans rfl
        have px1x5 : w6.cell? ⟨yx, 1, none⟩ = some (.slice rbx F.length rdx) := (cell_of_block bx 1).trans rfl
        have pt0x6 : w6.cell? ⟨yt, 0, none⟩ = some (.slice rat S.length rct) := (cell_of_block bt 0).trans rfl
        have pt1x6 : w6.cell? ⟨yt, 1, none⟩ = some (.slice rbt F.length rdt) := (cell_of_block bt 1).trans rfl
        go_wp2_with fail
        clear hNw6 hys px0x5 px1x5 pt0x6 pt1x6
        refine (K).mono ?_
        rintro e w7 ⟨rfl, hb⟩
        replace bt := (hb.block (yt) (lt_of_block bt)).trans bt
        replace bh := (hb.block (yt + 1) (lt_of_block bh)).trans bh
        replace bx := (hb.block (yx) (lt_of_block bx)).trans bx
        replace bs := (hb.block (ys) (lt_of_block bs)).trans bs
        replace Tt : Hid (TabO w.heap.size w7 (.slice rat S.length rct) (.slice rbt F.length rdt) S F) := Tt.out.below hb
        replace Tx : Hid (TabO w.heap.size w7 (.slice rax S.length rcx) (.slice rbx F.length rdx) S F) := Tx.out.below hb
        replace Ts : Hid (TabO w.heap.size w7 (.slice ras S.length rcs) (.slice rbs F.length rds) S F) := Ts.out.below hb
        replace HB : Hid (Below w.heap.size w w7) := bel_step HB.out hb
        replace LB : Hid (g ≤ w7.heap.size) := Nat.le_trans LB.out hb.size
        clear hb
        clear K
        go_wp2
        go_ret
        exact ⟨rfl, HB.out⟩

end Go.Proofs.Ytjielcilcningaa
