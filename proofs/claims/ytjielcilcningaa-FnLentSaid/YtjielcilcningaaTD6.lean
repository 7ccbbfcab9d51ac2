/-
  The law on what is lent. (Made by a generator.)
-/
import Derived.Test.YtjielcilcningaaTD5
import Derived.Test.YtjielcilcningaaTD4
import Derived.Deep.CutRange
import Derived.Deep.DeepCutAuto
namespace Go.Proofs.Ytjielcilcningaa
open Go.ChangeShapes Go.WideShapes Go.ChangeAt Go.RowKit Go.Maps


set_option maxRecDepth 1000000 in
set_option maxHeartbeats 3200000 in
theorem lentB (a1 : Option Addr) (n1 c1 : Nat) (w : World) (h1 : Bys w a1 n1 w.heap.size) :
    Calls Try.prog 4 #[.slice a1 n1 c1] w fun e w' => e = .returned (.bool true) ∧ Below w.heap.size w w' := by
  obtain ⟨n, hN⟩ : ∃ n : Int, (n1 : Int) = n := ⟨_, rfl⟩
  by_cases hlen : 1048576 < n
  · go_enter Try.func4, Try.ntmps4
    go_wp2
    go_ret
    exact ⟨rfl, Below.refl _ _⟩
  · have DN := drawLend a1 n1 c1 w h1
    obtain ⟨g, hg⟩ : ∃ g, w.heap.size = g := ⟨_, rfl⟩
    have HB : Hid (Below w.heap.size w w) := Below.refl _ _
    have LB : Hid (g ≤ w.heap.size) := Nat.le_of_eq hg.symm
    clear hg
    clear h1
    go_enter Try.func4, Try.ntmps4
    go_wp2_with fail
    refine (DN).mono ?_
    rintro e w1 ⟨S, F, v, u, x, res, rfl, HT, hb⟩
    replace HB : Hid (Below w.heap.size w w1) := bel_step HB.out hb
    replace LB : Hid (g ≤ w1.heap.size) := Nat.le_trans LB.out hb.size
    clear hb
    clear DN hlen hN
    have HSt : Hid (Small S F 100 ∧ 100 ≤ 900) := ⟨HT.out.2, by decide⟩
    have Tt : Hid (TabO w.heap.size w1 v u S F) := HT.out.1
    clear HT
    obtain ⟨rat, rct, rbt, rdt, rfl, rfl, _, _, _⟩ := Tt.out.shape2
    replace Tt : Hid (TabO w.heap.size w1 (.slice rat S.length rct) (.slice rbt F.length rdt) S F) := Tt
    obtain ⟨yt, hyt⟩ : ∃ z, w1.heap.size = z := ⟨_, rfl⟩
    obtain ⟨w2, hNw2⟩ : ∃ W, w1.alloc (.cells #[.slice rat S.length rct, .slice rbt F.length rdt] 26) = W := ⟨_, rfl⟩
    have hb : Below w1.heap.size w1 w2 := by rw [← hNw2]; exact bel_alloc (Below.refl _ _) _
    have hleyt : Hid (g ≤ yt) := by unfold Hid; rw [← hyt]; exact LB.out
    replace Tt : Hid (TabO w.heap.size w2 (.slice rat S.length rct) (.slice rbt F.length rdt) S F) := Tt.out.below hb
    replace HB : Hid (Below w.heap.size w w2) := bel_step HB.out hb
    replace LB : Hid (g ≤ w2.heap.size) := Nat.le_trans LB.out hb.size
    have bt : w2.heap[yt]? = some (.cells #[.slice rat S.length rct, .slice rbt F.length rdt] 26 (0, 0)) := by rw [← hNw2, ← hyt]; exact heap_alloc_new _ _
    clear hb
    obtain ⟨S1, F1, H1, C1, hR⟩ := lend_r S F x res
    have HSx : Hid (Small S1 F1 101 ∧ 101 ≤ 900) := ⟨small_lend hR HSt.out.1, by decide⟩
    have HR : Hid (LendR S F x res S1 F1 H1 C1) := hR
    clear hR
    have K := implLend _ _ rct rdt S F x res S1 F1 H1 C1 w2 (tabO_rows Tt.out).1 (tabO_rows Tt.out).2 (small_len HSt.out).1 (small_len HSt.out).2 (small_ok HSt.out.1) HR.out
    unfold tabV at K
    try unfold hdV at K
    have pt0x1 : w2.cell? ⟨yt, 0, none⟩ = some (.slice rat S.length rct) := (cell_of_block bt 0).trans rfl
    have pt1x1 : w2.cell? ⟨yt, 1, none⟩ = some (.slice rbt F.length rdt) := (cell_of_block bt 1).trans rfl
    go_wp2_with fail
    clear hNw2 hyt pt0x1 pt1x1
    refine (K).mono ?_
    rintro e w3 ⟨v, u, rfl, Tx, hb⟩
    replace Tx : Hid _ := Tx.out.base HB.out.size
    replace bt := (hb.block (yt) (lt_of_block bt)).trans bt
    replace Tt : Hid (TabO w.heap.size w3 (.slice rat S.length rct) (.slice rbt F.length rdt) S F) := Tt.out.below hb
    replace HB : Hid (Below w.heap.size w w3) := bel_step HB.out hb
    replace LB : Hid (g ≤ w3.heap.size) := Nat.le_trans LB.out hb.size
    clear hb
    clear K
    obtain ⟨rax, rcx, rbx, rdx, rfl, rfl, _, _, _⟩ := Tx.out.shape2
    replace Tx : Hid (TabO w.heap.size w3 (.slice rax S1.length rcx) (.slice rbx F1.length rdx) S1 F1) := Tx
    obtain ⟨yx, hyx⟩ : ∃ z, w3.heap.size = z := ⟨_, rfl⟩
    obtain ⟨w4, hNw4⟩ : ∃ W, ((w3.alloc (.cells #[.slice rax S1.length rcx, .slice rbx F1.length rdx] 26)).alloc (.cells #[.bool H1.u, .int .i64 H1.r, .int .i64 H1.p, .bool H1.o, .int .i64 H1.l, .int .i64 H1.s] 28)) = W := ⟨_, rfl⟩
    have hb : Below w3.heap.size w3 w4 := by rw [← hNw4]; exact (bel_alloc (bel_alloc (Below.refl _ _) _) _)
    replace bt := (hb.block (yt) (lt_of_block bt)).trans bt
    replace Tt : Hid (TabO w.heap.size w4 (.slice rat S.length rct) (.slice rbt F.length rdt) S F) := Tt.out.below hb
    replace Tx : Hid (TabO w.heap.size w4 (.slice rax S1.length rcx) (.slice rbx F1.length rdx) S1 F1) := Tx.out.below hb
    replace HB : Hid (Below w.heap.size w w4) := bel_step HB.out hb
    replace LB : Hid (g ≤ w4.heap.size) := Nat.le_trans LB.out hb.size
    have bx : w4.heap[yx]? = some (.cells #[.slice rax S1.length rcx, .slice rbx F1.length rdx] 26 (0, 0)) := by
      have hy := heap_alloc_new w3 (.cells #[.slice rax S1.length rcx, .slice rbx F1.length rdx] 26)
      rw [show w3.heap.size = yx by exact hyx] at hy
      replace hy := (Below.heap_alloc _ (.cells #[.bool H1.u, .int .i64 H1.r, .int .i64 H1.p, .bool H1.o, .int .i64 H1.l, .int .i64 H1.s] 28) _ (lt_of_block hy)).trans hy
      rw [← hNw4]; exact hy
    have bh : w4.heap[yx + 1]? = some (.cells #[.bool H1.u, .int .i64 H1.r, .int .i64 H1.p, .bool H1.o, .int .i64 H1.l, .int .i64 H1.s] 28 (0, 0)) := by
      have hy := heap_alloc_new (w3.alloc (.cells #[.slice rax S1.length rcx, .slice rbx F1.length rdx] 26)) (.cells #[.bool H1.u, .int .i64 H1.r, .int .i64 H1.p, .bool H1.o, .int .i64 H1.l, .int .i64 H1.s] 28)
      rw [show (w3.alloc (.cells #[.slice rax S1.length rcx, .slice rbx F1.length rdx] 26)).heap.size = yx + 1 by simp [hyx]] at hy
      rw [← hNw4]; exact hy
    clear hb
    have K := specLend _ _ rct rdt S F x res S1 F1 H1 C1 w4 (tabO_rows Tt.out).1 (tabO_rows Tt.out).2 (small_len HSt.out).1 (small_len HSt.out).2 (tabO_d Tt.out rfl) HR.out
    unfold tabV at K
    try unfold hdV at K
    have pt0x2 : w4.cell? ⟨yt, 0, none⟩ = some (.slice rat S.length rct) := (cell_of_block bt 0).trans rfl
    have pt1x2 : w4.cell? ⟨yt, 1, none⟩ = some (.slice rbt F.length rdt) := (cell_of_block bt 1).trans rfl
    go_wp2_with fail
    clear hNw4 hyx pt0x2 pt1x2
    refine (K).mono ?_
    rintro e w5 ⟨v, u, rfl, Ts, hb⟩
    replace Ts : Hid _ := Ts.out.base HB.out.size
    replace bt := (hb.block (yt) (lt_of_block bt)).trans bt
    replace bx := (hb.block (yx) (lt_of_block bx)).trans bx
    replace bh := (hb.block (yx + 1) (lt_of_block bh)).trans bh
    replace Tt : Hid (TabO w.heap.size w5 (.slice rat S.length rct) (.slice rbt F.length rdt) S F) := Tt.out.below hb
    replace Tx : Hid (TabO w.heap.size w5 (.slice rax S1.length rcx) (.slice rbx F1.length rdx) S1 F1) := Tx.out.below hb
    replace HB : Hid (Below w.heap.size w w5) := bel_step HB.out hb
    replace LB : Hid (g ≤ w5.heap.size) := Nat.le_trans LB.out hb.size
    clear hb
    clear K
    obtain ⟨ras, rcs, rbs, rds, rfl, rfl, _, _, _⟩ := Ts.out.shape2
    replace Ts : Hid (TabO w.heap.size w5 (.slice ras S1.length rcs) (.slice rbs F1.length rds) S1 F1) := Ts
    obtain ⟨ys, hys⟩ : ∃ z, w5.heap.size = z := ⟨_, rfl⟩
    obtain ⟨w6, hNw6⟩ : ∃ W, ((w5.alloc (.cells #[.slice ras S1.length rcs, .slice rbs F1.length rds] 26)).alloc (.cells #[.bool H1.u, .int .i64 H1.r, .int .i64 H1.p, .bool H1.o, .int .i64 H1.l, .int .i64 H1.s] 28)) = W := ⟨_, rfl⟩
    have hb : Below w5.heap.size w5 w6 := by rw [← hNw6]; exact (bel_alloc (bel_alloc (Below.refl _ _) _) _)
    replace bt := (hb.block (yt) (lt_of_block bt)).trans bt
    replace bx := (hb.block (yx) (lt_of_block bx)).trans bx
    replace bh := (hb.block (yx + 1) (lt_of_block bh)).trans bh
    replace Tt : Hid (TabO w.heap.size w6 (.slice rat S.length rct) (.slice rbt F.length rdt) S F) := Tt.out.below hb
    replace Tx : Hid (TabO w.heap.size w6 (.slice rax S1.length rcx) (.slice rbx F1.length rdx) S1 F1) := Tx.out.below hb
    replace Ts : Hid (TabO w.heap.size w6 (.slice ras S1.length rcs) (.slice rbs F1.length rds) S1 F1) := Ts.out.below hb
    replace HB : Hid (Below w.heap.size w w6) := bel_step HB.out hb
    replace LB : Hid (g ≤ w6.heap.size) := Nat.le_trans LB.out hb.size
    have bs : w6.heap[ys]? = some (.cells #[.slice ras S1.length rcs, .slice rbs F1.length rds] 26 (0, 0)) := by
      have hy := heap_alloc_new w5 (.cells #[.slice ras S1.length rcs, .slice rbs F1.length rds] 26)
      rw [show w5.heap.size = ys by exact hys] at hy
      replace hy := (Below.heap_alloc _ (.cells #[.bool H1.u, .int .i64 H1.r, .int .i64 H1.p, .bool H1.o, .int .i64 H1.l, .int .i64 H1.s] 28) _ (lt_of_block hy)).trans hy
      rw [← hNw6]; exact hy
    have bk : w6.heap[ys + 1]? = some (.cells #[.bool H1.u, .int .i64 H1.r, .int .i64 H1.p, .bool H1.o, .int .i64 H1.l, .int .i64 H1.s] 28 (0, 0)) := by
      have hy := heap_alloc_new (w5.alloc (.cells #[.slice ras S1.length rcs, .slice rbs F1.length rds] 26)) (.cells #[.bool H1.u, .int .i64 H1.r, .int .i64 H1.p, .bool H1.o, .int .i64 H1.l, .int .i64 H1.s] 28)
      rw [show (w5.alloc (.cells #[.slice ras S1.length rcs, .slice rbs F1.length rds] 26)).heap.size = ys + 1 by simp [hys]] at hy
      rw [← hNw6]; exact hy
    clear hb
    have NE := neqHs H1.u H1.r H1.p H1.o H1.l H1.s
    have ph0x3 : w6.cell? ⟨yx + 1, 0, none⟩ = some (.bool H1.u) := (cell_of_block bh 0).trans rfl
    have ph1x3 : w6.cell? ⟨yx + 1, 1, none⟩ = some (.int .i64 H1.r) := (cell_of_block bh 1).trans rfl
    have ph2x3 : w6.cell? ⟨yx + 1, 2, none⟩ = some (.int .i64 H1.p) := (cell_of_block bh 2).trans rfl
    have ph3x3 : w6.cell? ⟨yx + 1, 3, none⟩ = some (.bool H1.o) := (cell_of_block bh 3).trans rfl
    have ph4x3 : w6.cell? ⟨yx + 1, 4, none⟩ = some (.int .i64 H1.l) := (cell_of_block bh 4).trans rfl
    have ph5x3 : w6.cell? ⟨yx + 1, 5, none⟩ = some (.int .i64 H1.s) := (cell_of_block bh 5).trans rfl
    have pk0x4 : w6.cell? ⟨ys + 1, 0, none⟩ = some (.bool H1.u) := (cell_of_block bk 0).trans rfl
    have pk1x4 : w6.cell? ⟨ys + 1, 1, none⟩ = some (.int .i64 H1.r) := (cell_of_block bk 1).trans rfl
    have pk2x4 : w6.cell? ⟨ys + 1, 2, none⟩ = some (.int .i64 H1.p) := (cell_of_block bk 2).trans rfl
    have pk3x4 : w6.cell? ⟨ys + 1, 3, none⟩ = some (.bool H1.o) := (cell_of_block bk 3).trans rfl
    have pk4x4 : w6.cell? ⟨ys + 1, 4, none⟩ = some (.int .i64 H1.l) := (cell_of_block bk 4).trans rfl
    have pk5x4 : w6.cell? ⟨ys + 1, 5, none⟩ = some (.int .i64 H1.s) := (cell_of_block bk 5).trans rfl
    by_cases hc : C1 = 0
    · subst hc
      obtain ⟨k, rfl, P, rfl, hS1, hF1⟩ := lend_at HR.out rfl
      obtain rfl := hF1.symm
      clear hF1 HR
      have HP : Hid (LentAt S F H1 k) := P
      have HY : Hid (S.set k (lendH H1 (H1.l + 1)) = S1) := hS1.symm
      clear P hS1
      obtain ⟨ob, hob⟩ : ∃ o, H1.o = o := ⟨_, rfl⟩
      have HOB : Hid (H1.o = ob) := hob
      clear hob
      have K := implDrop _ _ rcx rdx S1 F (k : Int) H1.r S1 F zH 4 w6 (tabO_rows Tx.out).1 (tabO_rows Tx.out).2 (small_len HSx.out).1 (small_len HSx.out).2 (small_ok HSx.out.1) (by rw [← HY.out]; exact lent_drop HP.out)
      unfold tabV at K
      try unfold hdV at K
      simp only [zH] at K
      have px0x5 : w6.cell? ⟨yx, 0, none⟩ = some (.slice rax S1.length rcx) := (cell_of_block bx 0).trans rfl
      have px1x5 : w6.cell? ⟨yx, 1, none⟩ = some (.slice rbx F.length rdx) := (cell_of_block bx 1).trans rfl
      go_wp2_with fail
      clear hNw6 hys ph0x3 ph1x3 ph2x3 ph3x3 ph4x3 ph5x3 pk0x4 pk1x4 pk2x4 pk3x4 pk4x4 pk5x4 px0x5 px1x5
      refine (K).mono ?_
      rintro e w7 ⟨v, u, rfl, Td, hb⟩
      replace Td : Hid _ := Td.out.base HB.out.size
      replace bt := (hb.block (yt) (lt_of_block bt)).trans bt
      replace bx := (hb.block (yx) (lt_of_block bx)).trans bx
      replace bh := (hb.block (yx + 1) (lt_of_block bh)).trans bh
      replace bs := (hb.block (ys) (lt_of_block bs)).trans bs
      replace bk := (hb.block (ys + 1) (lt_of_block bk)).trans bk
      replace Tt : Hid (TabO w.heap.size w7 (.slice rat S.length rct) (.slice rbt F.length rdt) S F) := Tt.out.below hb
      replace Tx : Hid (TabO w.heap.size w7 (.slice rax S1.length rcx) (.slice rbx F.length rdx) S1 F) := Tx.out.below hb
      replace Ts : Hid (TabO w.heap.size w7 (.slice ras S1.length rcs) (.slice rbs F.length rds) S1 F) := Ts.out.below hb
      replace HB : Hid (Below w.heap.size w w7) := bel_step HB.out hb
      replace LB : Hid (g ≤ w7.heap.size) := Nat.le_trans LB.out hb.size
      clear hb
      clear K
      obtain ⟨rad, rcd, rbd, rdd, rfl, rfl, _, _, _⟩ := Td.out.shape2
      replace Td : Hid (TabO w.heap.size w7 (.slice rad S1.length rcd) (.slice rbd F.length rdd) S1 F) := Td
      have HBo := HB
      have hlt_ : ∀ q o, w7.heap[q]? = some o → q < w7.heap.size := fun q o h => lt_of_block h
      have hnt := hlt_ _ _ bt
      have hnx := hlt_ _ _ bx
      have hnh := hlt_ _ _ bh
      have hns := hlt_ _ _ bs
      have hnk := hlt_ _ _ bk
      have hzTt := Tt.out
      have hzTx := Tx.out
      have hzTs := Ts.out
      have hzTd := Td.out
      clear hlt_
      obtain ⟨yd, hyd⟩ : ∃ z, w7.heap.size = z := ⟨_, rfl⟩
      obtain ⟨w8, hNw8⟩ : ∃ W, ((w7.alloc (.cells #[.slice rad S1.length rcd, .slice rbd F.length rdd] 26)).alloc (.cells #[.bool false, .int .i64 0, .int .i64 0, .bool false, .int .i64 0, .int .i64 0] 28)) = W := ⟨_, rfl⟩
      have hb : Below w7.heap.size w7 w8 := by rw [← hNw8]; exact (bel_alloc (bel_alloc (Below.refl _ _) _) _)
      replace bt := (hb.block (yt) (lt_of_block bt)).trans bt
      replace bx := (hb.block (yx) (lt_of_block bx)).trans bx
      replace bh := (hb.block (yx + 1) (lt_of_block bh)).trans bh
      replace bs := (hb.block (ys) (lt_of_block bs)).trans bs
      replace bk := (hb.block (ys + 1) (lt_of_block bk)).trans bk
      replace Tt : Hid (TabO w.heap.size w8 (.slice rat S.length rct) (.slice rbt F.length rdt) S F) := Tt.out.below hb
      replace Tx : Hid (TabO w.heap.size w8 (.slice rax S1.length rcx) (.slice rbx F.length rdx) S1 F) := Tx.out.below hb
      replace Ts : Hid (TabO w.heap.size w8 (.slice ras S1.length rcs) (.slice rbs F.length rds) S1 F) := Ts.out.below hb
      replace Td : Hid (TabO w.heap.size w8 (.slice rad S1.length rcd) (.slice rbd F.length rdd) S1 F) := Td.out.below hb
      replace HB : Hid (Below w.heap.size w w8) := bel_step HB.out hb
      replace LB : Hid (g ≤ w8.heap.size) := Nat.le_trans LB.out hb.size
      have bd : w8.heap[yd]? = some (.cells #[.slice rad S1.length rcd, .slice rbd F.length rdd] 26 (0, 0)) := by
        have hy := heap_alloc_new w7 (.cells #[.slice rad S1.length rcd, .slice rbd F.length rdd] 26)
        rw [show w7.heap.size = yd by exact hyd] at hy
        replace hy := (Below.heap_alloc _ (.cells #[.bool false, .int .i64 0, .int .i64 0, .bool false, .int .i64 0, .int .i64 0] 28) _ (lt_of_block hy)).trans hy
        rw [← hNw8]; exact hy
      have be : w8.heap[yd + 1]? = some (.cells #[.bool false, .int .i64 0, .int .i64 0, .bool false, .int .i64 0, .int .i64 0] 28 (0, 0)) := by
        have hy := heap_alloc_new (w7.alloc (.cells #[.slice rad S1.length rcd, .slice rbd F.length rdd] 26)) (.cells #[.bool false, .int .i64 0, .int .i64 0, .bool false, .int .i64 0, .int .i64 0] 28)
        rw [show (w7.alloc (.cells #[.slice rad S1.length rcd, .slice rbd F.length rdd] 26)).heap.size = yd + 1 by simp [hyd]] at hy
        rw [← hNw8]; exact hy
      clear hb
      rw [hyd] at hnt
      rw [hyd] at hnx
      rw [hyd] at hnh
      rw [hyd] at hns
      rw [hyd] at hnk
      have hqTt := Tt.out
      have hqTx := Tx.out
      have hqTs := Ts.out
      have hqTd := Td.out
      have hlw : w.heap.size ≤ yd := by rw [← hyd]; exact HBo.out.size
      have pe0x6 : w8.cell? ⟨yd + 1, 0, none⟩ = some (.bool false) := (cell_of_block be 0).trans rfl
      have pe1x6 : w8.cell? ⟨yd + 1, 1, none⟩ = some (.int .i64 0) := (cell_of_block be 1).trans rfl
      have pe2x6 : w8.cell? ⟨yd + 1, 2, none⟩ = some (.int .i64 0) := (cell_of_block be 2).trans rfl
      have pe3x6 : w8.cell? ⟨yd + 1, 3, none⟩ = some (.bool false) := (cell_of_block be 3).trans rfl
      have pe4x6 : w8.cell? ⟨yd + 1, 4, none⟩ = some (.int .i64 0) := (cell_of_block be 4).trans rfl
      have pe5x6 : w8.cell? ⟨yd + 1, 5, none⟩ = some (.int .i64 0) := (cell_of_block be 5).trans rfl
      have fe0x6 := free_of_block be 0
      have fe1x6 := free_of_block be 1
      have fe2x6 := free_of_block be 2
      have fe3x6 := free_of_block be 3
      have fe4x6 := free_of_block be 4
      have fe5x6 := free_of_block be 5
      obtain ⟨w9, hNw9⟩ : ∃ G, ((((((w8.setCell ⟨yd + 1, 0, none⟩ (.bool false)).setCell ⟨yd + 1, 1, none⟩ (.int .i64 0)).setCell ⟨yd + 1, 2, none⟩ (.int .i64 0)).setCell ⟨yd + 1, 3, none⟩ (.bool false)).setCell ⟨yd + 1, 4, none⟩ (.int .i64 0)).setCell ⟨yd + 1, 5, none⟩ (.int .i64 0)) = G := ⟨_, rfl⟩
      obtain ⟨s1, s2, s3, s4⟩ := set6T be _ _ _ _ _ _ hNw9
      replace bt := (s2 (yt) (by omega)).trans bt
      replace bx := (s2 (yx) (by omega)).trans bx
      replace bh := (s2 (yx + 1) (by omega)).trans bh
      replace bs := (s2 (ys) (by omega)).trans bs
      replace bk := (s2 (ys + 1) (by omega)).trans bk
      replace bd := (s2 (yd) (by omega)).trans bd
      replace Tt : Hid (TabO w.heap.size w9 (.slice rat S.length rct) (.slice rbt F.length rdt) S F) := ⟨own_keep hqTt.hds (fun q hq => s2 q (by have := (hzTt.hds.lt q hq).2; omega)), own_keep hqTt.ints (fun q hq => s2 q (by have := (hzTt.ints.lt q hq).2; omega))⟩
      replace Tx : Hid (TabO w.heap.size w9 (.slice rax S1.length rcx) (.slice rbx F.length rdx) S1 F) := ⟨own_keep hqTx.hds (fun q hq => s2 q (by have := (hzTx.hds.lt q hq).2; omega)), own_keep hqTx.ints (fun q hq => s2 q (by have := (hzTx.ints.lt q hq).2; omega))⟩
      replace Ts : Hid (TabO w.heap.size w9 (.slice ras S1.length rcs) (.slice rbs F.length rds) S1 F) := ⟨own_keep hqTs.hds (fun q hq => s2 q (by have := (hzTs.hds.lt q hq).2; omega)), own_keep hqTs.ints (fun q hq => s2 q (by have := (hzTs.ints.lt q hq).2; omega))⟩
      replace Td : Hid (TabO w.heap.size w9 (.slice rad S1.length rcd) (.slice rbd F.length rdd) S1 F) := ⟨own_keep hqTd.hds (fun q hq => s2 q (by have := (hzTd.hds.lt q hq).2; omega)), own_keep hqTd.ints (fun q hq => s2 q (by have := (hzTd.ints.lt q hq).2; omega))⟩
      replace HB : Hid (Below w.heap.size w w9) := s4 _ _ (by omega) HB.out
      replace LB : Hid (g ≤ w9.heap.size) := by unfold Hid; rw [s3]; exact LB.out
      replace be := s1
      clear s1 s2 s3 s4 hlw HBo hnt hnx hnh hns hnk hqTt hzTt hqTx hzTx hqTs hzTs hqTd hzTd
      clear NE
      obtain ⟨D, hD⟩ : ∃ D : Int, (if H1.o = true then (4 : Int) else 6) = D := ⟨_, rfl⟩
      have HD : Hid ((if ob = true then (4 : Int) else 6) = D) := by rw [← HOB.out]; exact hD
      have HMV : Hid (OutR true S1 F (k : Int) H1.r S1 F zH D) := by rw [← hD, ← HY.out]; exact lent_move HP.out
      clear hD
      have K := implMove _ _ rcx rdx S1 F (k : Int) H1.r S1 F zH D w9 (tabO_rows Tx.out).1 (tabO_rows Tx.out).2 (small_len HSx.out).1 (small_len HSx.out).2 (small_ok HSx.out.1) HMV.out
      unfold tabV at K
      try unfold hdV at K
      simp only [zH] at K
      have px0x7 : w9.cell? ⟨yx, 0, none⟩ = some (.slice rax S1.length rcx) := (cell_of_block bx 0).trans rfl
      have px1x7 : w9.cell? ⟨yx, 1, none⟩ = some (.slice rbx F.length rdx) := (cell_of_block bx 1).trans rfl
      go_wp2_with fail
      clear hNw8 hyd pe0x6 pe1x6 pe2x6 pe3x6 pe4x6 pe5x6 fe0x6 fe1x6 fe2x6 fe3x6 fe4x6 fe5x6 hNw9 px0x7 px1x7
      refine (K).mono ?_
      rintro e w10 ⟨v, u, rfl, Tm, hb⟩
      replace Tm : Hid _ := Tm.out.base HB.out.size
      replace bt := (hb.block (yt) (lt_of_block bt)).trans bt
      replace bx := (hb.block (yx) (lt_of_block bx)).trans bx
      replace bh := (hb.block (yx + 1) (lt_of_block bh)).trans bh
      replace bs := (hb.block (ys) (lt_of_block bs)).trans bs
      replace bk := (hb.block (ys + 1) (lt_of_block bk)).trans bk
      replace bd := (hb.block (yd) (lt_of_block bd)).trans bd
      replace be := (hb.block (yd + 1) (lt_of_block be)).trans be
      replace Tt : Hid (TabO w.heap.size w10 (.slice rat S.length rct) (.slice rbt F.length rdt) S F) := Tt.out.below hb
      replace Tx : Hid (TabO w.heap.size w10 (.slice rax S1.length rcx) (.slice rbx F.length rdx) S1 F) := Tx.out.below hb
      replace Ts : Hid (TabO w.heap.size w10 (.slice ras S1.length rcs) (.slice rbs F.length rds) S1 F) := Ts.out.below hb
      replace Td : Hid (TabO w.heap.size w10 (.slice rad S1.length rcd) (.slice rbd F.length rdd) S1 F) := Td.out.below hb
      replace HB : Hid (Below w.heap.size w w10) := bel_step HB.out hb
      replace LB : Hid (g ≤ w10.heap.size) := Nat.le_trans LB.out hb.size
      clear hb
      clear K
      obtain ⟨ram, rcm, rbm, rdm, rfl, rfl, _, _, _⟩ := Tm.out.shape2
      replace Tm : Hid (TabO w.heap.size w10 (.slice ram S1.length rcm) (.slice rbm F.length rdm) S1 F) := Tm
      have HBo := HB
      have hlt_ : ∀ q o, w10.heap[q]? = some o → q < w10.heap.size := fun q o h => lt_of_block h
      have hnt := hlt_ _ _ bt
      have hnx := hlt_ _ _ bx
      have hnh := hlt_ _ _ bh
      have hns := hlt_ _ _ bs
      have hnk := hlt_ _ _ bk
      have hnd := hlt_ _ _ bd
      have hne := hlt_ _ _ be
      have hzTt := Tt.out
      have hzTx := Tx.out
      have hzTs := Ts.out
      have hzTd := Td.out
      have hzTm := Tm.out
      clear hlt_
      obtain ⟨ym, hym⟩ : ∃ z, w10.heap.size = z := ⟨_, rfl⟩
      obtain ⟨w11, hNw11⟩ : ∃ W, ((w10.alloc (.cells #[.slice ram S1.length rcm, .slice rbm F.length rdm] 26)).alloc (.cells #[.bool false, .int .i64 0, .int .i64 0, .bool false, .int .i64 0, .int .i64 0] 28)) = W := ⟨_, rfl⟩
      have hb : Below w10.heap.size w10 w11 := by rw [← hNw11]; exact (bel_alloc (bel_alloc (Below.refl _ _) _) _)
      replace bt := (hb.block (yt) (lt_of_block bt)).trans bt
      replace bx := (hb.block (yx) (lt_of_block bx)).trans bx
      replace bh := (hb.block (yx + 1) (lt_of_block bh)).trans bh
      replace bs := (hb.block (ys) (lt_of_block bs)).trans bs
      replace bk := (hb.block (ys + 1) (lt_of_block bk)).trans bk
      replace bd := (hb.block (yd) (lt_of_block bd)).trans bd
      replace be := (hb.block (yd + 1) (lt_of_block be)).trans be
      replace Tt : Hid (TabO w.heap.size w11 (.slice rat S.length rct) (.slice rbt F.length rdt) S F) := Tt.out.below hb
      replace Tx : Hid (TabO w.heap.size w11 (.slice rax S1.length rcx) (.slice rbx F.length rdx) S1 F) := Tx.out.below hb
      replace Ts : Hid (TabO w.heap.size w11 (.slice ras S1.length rcs) (.slice rbs F.length rds) S1 F) := Ts.out.below hb
      replace Td : Hid (TabO w.heap.size w11 (.slice rad S1.length rcd) (.slice rbd F.length rdd) S1 F) := Td.out.below hb
      replace Tm : Hid (TabO w.heap.size w11 (.slice ram S1.length rcm) (.slice rbm F.length rdm) S1 F) := Tm.out.below hb
      replace HB : Hid (Below w.heap.size w w11) := bel_step HB.out hb
      replace LB : Hid (g ≤ w11.heap.size) := Nat.le_trans LB.out hb.size
      have bm : w11.heap[ym]? = some (.cells #[.slice ram S1.length rcm, .slice rbm F.length rdm] 26 (0, 0)) := by
        have hy := heap_alloc_new w10 (.cells #[.slice ram S1.length rcm, .slice rbm F.length rdm] 26)
        rw [show w10.heap.size = ym by exact hym] at hy
        replace hy := (Below.heap_alloc _ (.cells #[.bool false, .int .i64 0, .int .i64 0, .bool false, .int .i64 0, .int .i64 0] 28) _ (lt_of_block hy)).trans hy
        rw [← hNw11]; exact hy
      have bq : w11.heap[ym + 1]? = some (.cells #[.bool false, .int .i64 0, .int .i64 0, .bool false, .int .i64 0, .int .i64 0] 28 (0, 0)) := by
        have hy := heap_alloc_new (w10.alloc (.cells #[.slice ram S1.length rcm, .slice rbm F.length rdm] 26)) (.cells #[.bool false, .int .i64 0, .int .i64 0, .bool false, .int .i64 0, .int .i64 0] 28)
        rw [show (w10.alloc (.cells #[.slice ram S1.length rcm, .slice rbm F.length rdm] 26)).heap.size = ym + 1 by simp [hym]] at hy
        rw [← hNw11]; exact hy
      clear hb
      rw [hym] at hnt
      rw [hym] at hnx
      rw [hym] at hnh
      rw [hym] at hns
      rw [hym] at hnk
      rw [hym] at hnd
      rw [hym] at hne
      have hqTt := Tt.out
      have hqTx := Tx.out
      have hqTs := Ts.out
      have hqTd := Td.out
      have hqTm := Tm.out
      have hlw : w.heap.size ≤ ym := by rw [← hym]; exact HBo.out.size
      have pq0x8 : w11.cell? ⟨ym + 1, 0, none⟩ = some (.bool false) := (cell_of_block bq 0).trans rfl
      have pq1x8 : w11.cell? ⟨ym + 1, 1, none⟩ = some (.int .i64 0) := (cell_of_block bq 1).trans rfl
      have pq2x8 : w11.cell? ⟨ym + 1, 2, none⟩ = some (.int .i64 0) := (cell_of_block bq 2).trans rfl
      have pq3x8 : w11.cell? ⟨ym + 1, 3, none⟩ = some (.bool false) := (cell_of_block bq 3).trans rfl
      have pq4x8 : w11.cell? ⟨ym + 1, 4, none⟩ = some (.int .i64 0) := (cell_of_block bq 4).trans rfl
      have pq5x8 : w11.cell? ⟨ym + 1, 5, none⟩ = some (.int .i64 0) := (cell_of_block bq 5).trans rfl
      have fq0x8 := free_of_block bq 0
      have fq1x8 := free_of_block bq 1
      have fq2x8 := free_of_block bq 2
      have fq3x8 := free_of_block bq 3
      have fq4x8 := free_of_block bq 4
      have fq5x8 := free_of_block bq 5
      obtain ⟨w12, hNw12⟩ : ∃ G, ((((((w11.setCell ⟨ym + 1, 0, none⟩ (.bool false)).setCell ⟨ym + 1, 1, none⟩ (.int .i64 0)).setCell ⟨ym + 1, 2, none⟩ (.int .i64 0)).setCell ⟨ym + 1, 3, none⟩ (.bool false)).setCell ⟨ym + 1, 4, none⟩ (.int .i64 0)).setCell ⟨ym + 1, 5, none⟩ (.int .i64 0)) = G := ⟨_, rfl⟩
      obtain ⟨s1, s2, s3, s4⟩ := set6T bq _ _ _ _ _ _ hNw12
      replace bt := (s2 (yt) (by omega)).trans bt
      replace bx := (s2 (yx) (by omega)).trans bx
      replace bh := (s2 (yx + 1) (by omega)).trans bh
      replace bs := (s2 (ys) (by omega)).trans bs
      replace bk := (s2 (ys + 1) (by omega)).trans bk
      replace bd := (s2 (yd) (by omega)).trans bd
      replace be := (s2 (yd + 1) (by omega)).trans be
      replace bm := (s2 (ym) (by omega)).trans bm
      replace Tt : Hid (TabO w.heap.size w12 (.slice rat S.length rct) (.slice rbt F.length rdt) S F) := ⟨own_keep hqTt.hds (fun q hq => s2 q (by have := (hzTt.hds.lt q hq).2; omega)), own_keep hqTt.ints (fun q hq => s2 q (by have := (hzTt.ints.lt q hq).2; omega))⟩
      replace Tx : Hid (TabO w.heap.size w12 (.slice rax S1.length rcx) (.slice rbx F.length rdx) S1 F) := ⟨own_keep hqTx.hds (fun q hq => s2 q (by have := (hzTx.hds.lt q hq).2; omega)), own_keep hqTx.ints (fun q hq => s2 q (by have := (hzTx.ints.lt q hq).2; omega))⟩
      replace Ts : Hid (TabO w.heap.size w12 (.slice ras S1.length rcs) (.slice rbs F.length rds) S1 F) := ⟨own_keep hqTs.hds (fun q hq => s2 q (by have := (hzTs.hds.lt q hq).2; omega)), own_keep hqTs.ints (fun q hq => s2 q (by have := (hzTs.ints.lt q hq).2; omega))⟩
      replace Td : Hid (TabO w.heap.size w12 (.slice rad S1.length rcd) (.slice rbd F.length rdd) S1 F) := ⟨own_keep hqTd.hds (fun q hq => s2 q (by have := (hzTd.hds.lt q hq).2; omega)), own_keep hqTd.ints (fun q hq => s2 q (by have := (hzTd.ints.lt q hq).2; omega))⟩
      replace Tm : Hid (TabO w.heap.size w12 (.slice ram S1.length rcm) (.slice rbm F.length rdm) S1 F) := ⟨own_keep hqTm.hds (fun q hq => s2 q (by have := (hzTm.hds.lt q hq).2; omega)), own_keep hqTm.ints (fun q hq => s2 q (by have := (hzTm.ints.lt q hq).2; omega))⟩
      replace HB : Hid (Below w.heap.size w w12) := s4 _ _ (by omega) HB.out
      replace LB : Hid (g ≤ w12.heap.size) := by unfold Hid; rw [s3]; exact LB.out
      replace bq := s1
      clear s1 s2 s3 s4 hlw HBo hnt hnx hnh hns hnk hnd hne hqTt hzTt hqTx hzTx hqTs hzTs hqTd hzTd hqTm hzTm
      clear HMV
      have HSz : Hid (Small S F 100 ∧ 100 ≤ 900) := ⟨HSt.out.1, by decide⟩
      have K := implRet _ _ rcx rdx S1 F (k : Int) S F 0 w12 (tabO_rows Tx.out).1 (tabO_rows Tx.out).2 (small_len HSx.out).1 (small_len HSx.out).2 (small_ok HSx.out.1) (by rw [← HY.out]; exact lent_back HP.out)
      unfold tabV at K
      try unfold hdV at K
      have px0x9 : w12.cell? ⟨yx, 0, none⟩ = some (.slice rax S1.length rcx) := (cell_of_block bx 0).trans rfl
      have px1x9 : w12.cell? ⟨yx, 1, none⟩ = some (.slice rbx F.length rdx) := (cell_of_block bx 1).trans rfl
      go_wp2_with fail
      clear hNw11 hym pq0x8 pq1x8 pq2x8 pq3x8 pq4x8 pq5x8 fq0x8 fq1x8 fq2x8 fq3x8 fq4x8 fq5x8 hNw12 px0x9 px1x9
      refine (K).mono ?_
      rintro e w13 ⟨v, u, rfl, Tz, hb⟩
      replace Tz : Hid _ := Tz.out.base HB.out.size
      replace bt := (hb.block (yt) (lt_of_block bt)).trans bt
      replace bx := (hb.block (yx) (lt_of_block bx)).trans bx
      replace bh := (hb.block (yx + 1) (lt_of_block bh)).trans bh
      replace bs := (hb.block (ys) (lt_of_block bs)).trans bs
      replace bk := (hb.block (ys + 1) (lt_of_block bk)).trans bk
      replace bd := (hb.block (yd) (lt_of_block bd)).trans bd
      replace be := (hb.block (yd + 1) (lt_of_block be)).trans be
      replace bm := (hb.block (ym) (lt_of_block bm)).trans bm
      replace bq := (hb.block (ym + 1) (lt_of_block bq)).trans bq
      replace Tt : Hid (TabO w.heap.size w13 (.slice rat S.length rct) (.slice rbt F.length rdt) S F) := Tt.out.below hb
      replace Tx : Hid (TabO w.heap.size w13 (.slice rax S1.length rcx) (.slice rbx F.length rdx) S1 F) := Tx.out.below hb
      replace Ts : Hid (TabO w.heap.size w13 (.slice ras S1.length rcs) (.slice rbs F.length rds) S1 F) := Ts.out.below hb
      replace Td : Hid (TabO w.heap.size w13 (.slice rad S1.length rcd) (.slice rbd F.length rdd) S1 F) := Td.out.below hb
      replace Tm : Hid (TabO w.heap.size w13 (.slice ram S1.length rcm) (.slice rbm F.length rdm) S1 F) := Tm.out.below hb
      replace HB : Hid (Below w.heap.size w w13) := bel_step HB.out hb
      replace LB : Hid (g ≤ w13.heap.size) := Nat.le_trans LB.out hb.size
      clear hb
      clear K
      obtain ⟨raz, rcz, rbz, rdz, rfl, rfl, _, _, _⟩ := Tz.out.shape2
      replace Tz : Hid (TabO w.heap.size w13 (.slice raz S.length rcz) (.slice rbz F.length rdz) S F) := Tz
      obtain ⟨yz, hyz⟩ : ∃ z, w13.heap.size = z := ⟨_, rfl⟩
      obtain ⟨w14, hNw14⟩ : ∃ W, w13.alloc (.cells #[.slice raz S.length rcz, .slice rbz F.length rdz] 26) = W := ⟨_, rfl⟩
      have hb : Below w13.heap.size w13 w14 := by rw [← hNw14]; exact bel_alloc (Below.refl _ _) _
      have hleyz : Hid (g ≤ yz) := by unfold Hid; rw [← hyz]; exact LB.out
      replace bt := (hb.block (yt) (lt_of_block bt)).trans bt
      replace bx := (hb.block (yx) (lt_of_block bx)).trans bx
      replace bh := (hb.block (yx + 1) (lt_of_block bh)).trans bh
      replace bs := (hb.block (ys) (lt_of_block bs)).trans bs
      replace bk := (hb.block (ys + 1) (lt_of_block bk)).trans bk
      replace bd := (hb.block (yd) (lt_of_block bd)).trans bd
      replace be := (hb.block (yd + 1) (lt_of_block be)).trans be
      replace bm := (hb.block (ym) (lt_of_block bm)).trans bm
      replace bq := (hb.block (ym + 1) (lt_of_block bq)).trans bq
      replace Tt : Hid (TabO w.heap.size w14 (.slice rat S.length rct) (.slice rbt F.length rdt) S F) := Tt.out.below hb
      replace Tx : Hid (TabO w.heap.size w14 (.slice rax S1.length rcx) (.slice rbx F.length rdx) S1 F) := Tx.out.below hb
      replace Ts : Hid (TabO w.heap.size w14 (.slice ras S1.length rcs) (.slice rbs F.length rds) S1 F) := Ts.out.below hb
      replace Td : Hid (TabO w.heap.size w14 (.slice rad S1.length rcd) (.slice rbd F.length rdd) S1 F) := Td.out.below hb
      replace Tm : Hid (TabO w.heap.size w14 (.slice ram S1.length rcm) (.slice rbm F.length rdm) S1 F) := Tm.out.below hb
      replace Tz : Hid (TabO w.heap.size w14 (.slice raz S.length rcz) (.slice rbz F.length rdz) S F) := Tz.out.below hb
      replace HB : Hid (Below w.heap.size w w14) := bel_step HB.out hb
      replace LB : Hid (g ≤ w14.heap.size) := Nat.le_trans LB.out hb.size
      have bz : w14.heap[yz]? = some (.cells #[.slice raz S.length rcz, .slice rbz F.length rdz] 26 (0, 0)) := by rw [← hNw14, ← hyz]; exact heap_alloc_new _ _
      clear hb
      have ph3x10 : w14.cell? ⟨yx + 1, 3, none⟩ = some (.bool H1.o) := (cell_of_block bh 3).trans rfl
      have pz0x11 : w14.cell? ⟨yz, 0, none⟩ = some (.slice raz S.length rcz) := (cell_of_block bz 0).trans rfl
      have pz1x11 : w14.cell? ⟨yz, 1, none⟩ = some (.slice rbz F.length rdz) := (cell_of_block bz 1).trans rfl
      have pt0x12 : w14.cell? ⟨yt, 0, none⟩ = some (.slice rat S.length rct) := (cell_of_block bt 0).trans rfl
      have pt1x12 : w14.cell? ⟨yt, 1, none⟩ = some (.slice rbt F.length rdt) := (cell_of_block bt 1).trans rfl
      have px0x13 : w14.cell? ⟨yx, 0, none⟩ = some (.slice rax S1.length rcx) := (cell_of_block bx 0).trans rfl
      have px1x13 : w14.cell? ⟨yx, 1, none⟩ = some (.slice rbx F.length rdx) := (cell_of_block bx 1).trans rfl
      have KS := fun w' (hb : Below w14.heap.size w14 w') => sameTab _ _ _ _ rcz rct rdz rdt S F w' ((tabO_rows Tz.out).1.below hb) ((tabO_rows Tt.out).1.below hb) ((tabO_rows Tz.out).2.below hb) ((tabO_rows Tt.out).2.below hb) (small_len HSt.out).1 (small_len HSt.out).2
      have KG := fun w' (hb : Below w14.heap.size w14 w') => implGoodT _ _ rcx rdx S1 F w' ((tabO_rows Tx.out).1.below hb) ((tabO_rows Tx.out).2.below hb) (small_len HSx.out).1 (small_len HSx.out).2 (small_ok HSx.out.1)
      unfold tabV at KS KG
      have HKS : Hid _ := KS
      have HKG : Hid _ := KG
      clear KS KG
      go_upto_region 13 with fail
      clear hNw14 hyz ph3x10 pz0x11 pz1x11 pt0x12 pt1x12 px0x13 px1x13
      go_cut [116] (fun s wx => s = .bool false ∧ Hid (Below w14.heap.size w14 wx))
      case first =>
        have ph3 : w14.cell? ⟨yx + 1, 3, none⟩ = some (.bool ob) := by have h := (cell_of_block bh 3).trans rfl; rw [← HOB.out]; exact h
        have pz0x14 : w14.cell? ⟨yz, 0, none⟩ = some (.slice raz S.length rcz) := (cell_of_block bz 0).trans rfl
        have pz1x14 : w14.cell? ⟨yz, 1, none⟩ = some (.slice rbz F.length rdz) := (cell_of_block bz 1).trans rfl
        have pt0x15 : w14.cell? ⟨yt, 0, none⟩ = some (.slice rat S.length rct) := (cell_of_block bt 0).trans rfl
        have pt1x15 : w14.cell? ⟨yt, 1, none⟩ = some (.slice rbt F.length rdt) := (cell_of_block bt 1).trans rfl
        have px0x16 : w14.cell? ⟨yx, 0, none⟩ = some (.slice rax S1.length rcx) := (cell_of_block bx 0).trans rfl
        have px1x16 : w14.cell? ⟨yx, 1, none⟩ = some (.slice rbx F.length rdx) := (cell_of_block bx 1).trans rfl
        have HDD := HD.out
        cases ob
        · obtain rfl : D = 6 := by rw [← HDD]; rfl
          clear HDD
          go_wp2_with fail
          refine (HKS.out w14 (Below.refl _ _)).mono ?_
          rintro e wA ⟨rfl, hbA⟩
          have pA0 : wA.cell? ⟨yx, 0, none⟩ = some (.slice rax S1.length rcx) := (cell_of_block ((hbA.block yx (lt_of_block bx)).trans bx) 0).trans rfl
          have pA1 : wA.cell? ⟨yx, 1, none⟩ = some (.slice rbx F.length rdx) := (cell_of_block ((hbA.block yx (lt_of_block bx)).trans bx) 1).trans rfl
          go_wp2_with fail
          refine (HKG.out wA hbA).mono ?_
          rintro e wB ⟨⟨r, rfl, hr⟩, hbB⟩
          obtain rfl : r = true := hr.mpr (by rw [← HY.out]; exact lent_good HP.out)
          have hAB := bel_step hbA hbB
          clear hr hbB hbA pA0 pA1
          go_wp2
          go_meet
          exact ⟨rfl, hAB⟩
        · obtain rfl : D = 4 := by rw [← HDD]; rfl
          clear HDD
          go_wp2_with fail
          refine (HKS.out w14 (Below.refl _ _)).mono ?_
          rintro e wA ⟨rfl, hbA⟩
          have pA0 : wA.cell? ⟨yx, 0, none⟩ = some (.slice rax S1.length rcx) := (cell_of_block ((hbA.block yx (lt_of_block bx)).trans bx) 0).trans rfl
          have pA1 : wA.cell? ⟨yx, 1, none⟩ = some (.slice rbx F.length rdx) := (cell_of_block ((hbA.block yx (lt_of_block bx)).trans bx) 1).trans rfl
          go_wp2_with fail
          refine (HKG.out wA hbA).mono ?_
          rintro e wB ⟨⟨r, rfl, hr⟩, hbB⟩
          obtain rfl : r = true := hr.mpr (by rw [← HY.out]; exact lent_good HP.out)
          have hAB := bel_step hbA hbB
          clear hr hbB hbA pA0 pA1
          go_wp2
          go_meet
          exact ⟨rfl, hAB⟩
      case rest =>
      obtain ⟨rfl, hcb⟩ := hcut
      obtain ⟨w15, hwc⟩ : ∃ W, wc = W := ⟨_, rfl⟩
      rw [hwc] at hcb ⊢
      have hb := hcb.out
      clear hwc hcb HKS HKG HD
      replace bt := (hb.block (yt) (lt_of_block bt)).trans bt
      replace bx := (hb.block (yx) (lt_of_block bx)).trans bx
      replace bh := (hb.block (yx + 1) (lt_of_block bh)).trans bh
      replace bs := (hb.block (ys) (lt_of_block bs)).trans bs
      replace bk := (hb.block (ys + 1) (lt_of_block bk)).trans bk
      replace bd := (hb.block (yd) (lt_of_block bd)).trans bd
      replace be := (hb.block (yd + 1) (lt_of_block be)).trans be
      replace bm := (hb.block (ym) (lt_of_block bm)).trans bm
      replace bq := (hb.block (ym + 1) (lt_of_block bq)).trans bq
      replace bz := (hb.block (yz) (lt_of_block bz)).trans bz
      replace Tt : Hid (TabO w.heap.size w15 (.slice rat S.length rct) (.slice rbt F.length rdt) S F) := Tt.out.below hb
      replace Tx : Hid (TabO w.heap.size w15 (.slice rax S1.length rcx) (.slice rbx F.length rdx) S1 F) := Tx.out.below hb
      replace Ts : Hid (TabO w.heap.size w15 (.slice ras S1.length rcs) (.slice rbs F.length rds) S1 F) := Ts.out.below hb
      replace Td : Hid (TabO w.heap.size w15 (.slice rad S1.length rcd) (.slice rbd F.length rdd) S1 F) := Td.out.below hb
      replace Tm : Hid (TabO w.heap.size w15 (.slice ram S1.length rcm) (.slice rbm F.length rdm) S1 F) := Tm.out.below hb
      replace Tz : Hid (TabO w.heap.size w15 (.slice raz S.length rcz) (.slice rbz F.length rdz) S F) := Tz.out.below hb
      replace HB : Hid (Below w.heap.size w w15) := bel_step HB.out hb
      replace LB : Hid (g ≤ w15.heap.size) := Nat.le_trans LB.out hb.size
      clear hb
      by_cases hl : 0 < H1.l
      · have HL : Hid (0 < H1.l) := hl
        clear hl
        have K := implDrop _ _ rcz rdz S F (k : Int) H1.r S F zH 4 w15 (tabO_rows Tz.out).1 (tabO_rows Tz.out).2 (small_len HSz.out).1 (small_len HSz.out).2 (small_ok HSz.out.1) (lent_out HP.out HL.out)
        unfold tabV at K
        try unfold hdV at K
        simp only [zH] at K
        have pz0x14 : w15.cell? ⟨yz, 0, none⟩ = some (.slice raz S.length rcz) := (cell_of_block bz 0).trans rfl
        have pz1x14 : w15.cell? ⟨yz, 1, none⟩ = some (.slice rbz F.length rdz) := (cell_of_block bz 1).trans rfl
        go_wp2_with fail
        clear pz0x14 pz1x14
        refine (K).mono ?_
        rintro e w16 ⟨v, u, rfl, Tp, hb⟩
        replace Tp : Hid _ := Tp.out.base HB.out.size
        replace bt := (hb.block (yt) (lt_of_block bt)).trans bt
        replace bx := (hb.block (yx) (lt_of_block bx)).trans bx
        replace bh := (hb.block (yx + 1) (lt_of_block bh)).trans bh
        replace bs := (hb.block (ys) (lt_of_block bs)).trans bs
        replace bk := (hb.block (ys + 1) (lt_of_block bk)).trans bk
        replace bd := (hb.block (yd) (lt_of_block bd)).trans bd
        replace be := (hb.block (yd + 1) (lt_of_block be)).trans be
        replace bm := (hb.block (ym) (lt_of_block bm)).trans bm
        replace bq := (hb.block (ym + 1) (lt_of_block bq)).trans bq
        replace bz := (hb.block (yz) (lt_of_block bz)).trans bz
        replace Tt : Hid (TabO w.heap.size w16 (.slice rat S.length rct) (.slice rbt F.length rdt) S F) := Tt.out.below hb
        replace Tx : Hid (TabO w.heap.size w16 (.slice rax S1.length rcx) (.slice rbx F.length rdx) S1 F) := Tx.out.below hb
        replace Ts : Hid (TabO w.heap.size w16 (.slice ras S1.length rcs) (.slice rbs F.length rds) S1 F) := Ts.out.below hb
        replace Td : Hid (TabO w.heap.size w16 (.slice rad S1.length rcd) (.slice rbd F.length rdd) S1 F) := Td.out.below hb
        replace Tm : Hid (TabO w.heap.size w16 (.slice ram S1.length rcm) (.slice rbm F.length rdm) S1 F) := Tm.out.below hb
        replace Tz : Hid (TabO w.heap.size w16 (.slice raz S.length rcz) (.slice rbz F.length rdz) S F) := Tz.out.below hb
        replace HB : Hid (Below w.heap.size w w16) := bel_step HB.out hb
        replace LB : Hid (g ≤ w16.heap.size) := Nat.le_trans LB.out hb.size
        clear hb
        clear K
        obtain ⟨rap, rcp, rbp, rdp, rfl, rfl, _, _, _⟩ := Tp.out.shape2
        replace Tp : Hid (TabO w.heap.size w16 (.slice rap S.length rcp) (.slice rbp F.length rdp) S F) := Tp
        have HBo := HB
        have hlt_ : ∀ q o, w16.heap[q]? = some o → q < w16.heap.size := fun q o h => lt_of_block h
        have hnt := hlt_ _ _ bt
        have hnx := hlt_ _ _ bx
        have hnh := hlt_ _ _ bh
        have hns := hlt_ _ _ bs
        have hnk := hlt_ _ _ bk
        have hnd := hlt_ _ _ bd
        have hne := hlt_ _ _ be
        have hnm := hlt_ _ _ bm
        have hnq := hlt_ _ _ bq
        have hnz := hlt_ _ _ bz
        have hzTt := Tt.out
        have hzTx := Tx.out
        have hzTs := Ts.out
        have hzTd := Td.out
        have hzTm := Tm.out
        have hzTz := Tz.out
        have hzTp := Tp.out
        clear hlt_
        obtain ⟨yp, hyp⟩ : ∃ z, w16.heap.size = z := ⟨_, rfl⟩
        obtain ⟨w17, hNw17⟩ : ∃ W, ((w16.alloc (.cells #[.slice rap S.length rcp, .slice rbp F.length rdp] 26)).alloc (.cells #[.bool false, .int .i64 0, .int .i64 0, .bool false, .int .i64 0, .int .i64 0] 28)) = W := ⟨_, rfl⟩
        have hb : Below w16.heap.size w16 w17 := by rw [← hNw17]; exact (bel_alloc (bel_alloc (Below.refl _ _) _) _)
        replace bt := (hb.block (yt) (lt_of_block bt)).trans bt
        replace bx := (hb.block (yx) (lt_of_block bx)).trans bx
        replace bh := (hb.block (yx + 1) (lt_of_block bh)).trans bh
        replace bs := (hb.block (ys) (lt_of_block bs)).trans bs
        replace bk := (hb.block (ys + 1) (lt_of_block bk)).trans bk
        replace bd := (hb.block (yd) (lt_of_block bd)).trans bd
        replace be := (hb.block (yd + 1) (lt_of_block be)).trans be
        replace bm := (hb.block (ym) (lt_of_block bm)).trans bm
        replace bq := (hb.block (ym + 1) (lt_of_block bq)).trans bq
        replace bz := (hb.block (yz) (lt_of_block bz)).trans bz
        replace Tt : Hid (TabO w.heap.size w17 (.slice rat S.length rct) (.slice rbt F.length rdt) S F) := Tt.out.below hb
        replace Tx : Hid (TabO w.heap.size w17 (.slice rax S1.length rcx) (.slice rbx F.length rdx) S1 F) := Tx.out.below hb
        replace Ts : Hid (TabO w.heap.size w17 (.slice ras S1.length rcs) (.slice rbs F.length rds) S1 F) := Ts.out.below hb
        replace Td : Hid (TabO w.heap.size w17 (.slice rad S1.length rcd) (.slice rbd F.length rdd) S1 F) := Td.out.below hb
        replace Tm : Hid (TabO w.heap.size w17 (.slice ram S1.length rcm) (.slice rbm F.length rdm) S1 F) := Tm.out.below hb
        replace Tz : Hid (TabO w.heap.size w17 (.slice raz S.length rcz) (.slice rbz F.length rdz) S F) := Tz.out.below hb
        replace Tp : Hid (TabO w.heap.size w17 (.slice rap S.length rcp) (.slice rbp F.length rdp) S F) := Tp.out.below hb
        replace HB : Hid (Below w.heap.size w w17) := bel_step HB.out hb
        replace LB : Hid (g ≤ w17.heap.size) := Nat.le_trans LB.out hb.size
        have bp : w17.heap[yp]? = some (.cells #[.slice rap S.length rcp, .slice rbp F.length rdp] 26 (0, 0)) := by
          have hy := heap_alloc_new w16 (.cells #[.slice rap S.length rcp, .slice rbp F.length rdp] 26)
          rw [show w16.heap.size = yp by exact hyp] at hy
          replace hy := (Below.heap_alloc _ (.cells #[.bool false, .int .i64 0, .int .i64 0, .bool false, .int .i64 0, .int .i64 0] 28) _ (lt_of_block hy)).trans hy
          rw [← hNw17]; exact hy
        have bo : w17.heap[yp + 1]? = some (.cells #[.bool false, .int .i64 0, .int .i64 0, .bool false, .int .i64 0, .int .i64 0] 28 (0, 0)) := by
          have hy := heap_alloc_new (w16.alloc (.cells #[.slice rap S.length rcp, .slice rbp F.length rdp] 26)) (.cells #[.bool false, .int .i64 0, .int .i64 0, .bool false, .int .i64 0, .int .i64 0] 28)
          rw [show (w16.alloc (.cells #[.slice rap S.length rcp, .slice rbp F.length rdp] 26)).heap.size = yp + 1 by simp [hyp]] at hy
          rw [← hNw17]; exact hy
        clear hb
        rw [hyp] at hnt
        rw [hyp] at hnx
        rw [hyp] at hnh
        rw [hyp] at hns
        rw [hyp] at hnk
        rw [hyp] at hnd
        rw [hyp] at hne
        rw [hyp] at hnm
        rw [hyp] at hnq
        rw [hyp] at hnz
        have hqTt := Tt.out
        have hqTx := Tx.out
        have hqTs := Ts.out
        have hqTd := Td.out
        have hqTm := Tm.out
        have hqTz := Tz.out
        have hqTp := Tp.out
        have hlw : w.heap.size ≤ yp := by rw [← hyp]; exact HBo.out.size
        have po0x15 : w17.cell? ⟨yp + 1, 0, none⟩ = some (.bool false) := (cell_of_block bo 0).trans rfl
        have po1x15 : w17.cell? ⟨yp + 1, 1, none⟩ = some (.int .i64 0) := (cell_of_block bo 1).trans rfl
        have po2x15 : w17.cell? ⟨yp + 1, 2, none⟩ = some (.int .i64 0) := (cell_of_block bo 2).trans rfl
        have po3x15 : w17.cell? ⟨yp + 1, 3, none⟩ = some (.bool false) := (cell_of_block bo 3).trans rfl
        have po4x15 : w17.cell? ⟨yp + 1, 4, none⟩ = some (.int .i64 0) := (cell_of_block bo 4).trans rfl
        have po5x15 : w17.cell? ⟨yp + 1, 5, none⟩ = some (.int .i64 0) := (cell_of_block bo 5).trans rfl
        have fo0x15 := free_of_block bo 0
        have fo1x15 := free_of_block bo 1
        have fo2x15 := free_of_block bo 2
        have fo3x15 := free_of_block bo 3
        have fo4x15 := free_of_block bo 4
        have fo5x15 := free_of_block bo 5
        obtain ⟨w18, hNw18⟩ : ∃ G, ((((((w17.setCell ⟨yp + 1, 0, none⟩ (.bool false)).setCell ⟨yp + 1, 1, none⟩ (.int .i64 0)).setCell ⟨yp + 1, 2, none⟩ (.int .i64 0)).setCell ⟨yp + 1, 3, none⟩ (.bool false)).setCell ⟨yp + 1, 4, none⟩ (.int .i64 0)).setCell ⟨yp + 1, 5, none⟩ (.int .i64 0)) = G := ⟨_, rfl⟩
        obtain ⟨s1, s2, s3, s4⟩ := set6T bo _ _ _ _ _ _ hNw18
        replace bt := (s2 (yt) (by omega)).trans bt
        replace bx := (s2 (yx) (by omega)).trans bx
        replace bh := (s2 (yx + 1) (by omega)).trans bh
        replace bs := (s2 (ys) (by omega)).trans bs
        replace bk := (s2 (ys + 1) (by omega)).trans bk
        replace bd := (s2 (yd) (by omega)).trans bd
        replace be := (s2 (yd + 1) (by omega)).trans be
        replace bm := (s2 (ym) (by omega)).trans bm
        replace bq := (s2 (ym + 1) (by omega)).trans bq
        replace bz := (s2 (yz) (by omega)).trans bz
        replace bp := (s2 (yp) (by omega)).trans bp
        replace Tt : Hid (TabO w.heap.size w18 (.slice rat S.length rct) (.slice rbt F.length rdt) S F) := ⟨own_keep hqTt.hds (fun q hq => s2 q (by have := (hzTt.hds.lt q hq).2; omega)), own_keep hqTt.ints (fun q hq => s2 q (by have := (hzTt.ints.lt q hq).2; omega))⟩
        replace Tx : Hid (TabO w.heap.size w18 (.slice rax S1.length rcx) (.slice rbx F.length rdx) S1 F) := ⟨own_keep hqTx.hds (fun q hq => s2 q (by have := (hzTx.hds.lt q hq).2; omega)), own_keep hqTx.ints (fun q hq => s2 q (by have := (hzTx.ints.lt q hq).2; omega))⟩
        replace Ts : Hid (TabO w.heap.size w18 (.slice ras S1.length rcs) (.slice rbs F.length rds) S1 F) := ⟨own_keep hqTs.hds (fun q hq => s2 q (by have := (hzTs.hds.lt q hq).2; omega)), own_keep hqTs.ints (fun q hq => s2 q (by have := (hzTs.ints.lt q hq).2; omega))⟩
        replace Td : Hid (TabO w.heap.size w18 (.slice rad S1.length rcd) (.slice rbd F.length rdd) S1 F) := ⟨own_keep hqTd.hds (fun q hq => s2 q (by have := (hzTd.hds.lt q hq).2; omega)), own_keep hqTd.ints (fun q hq => s2 q (by have := (hzTd.ints.lt q hq).2; omega))⟩
        replace Tm : Hid (TabO w.heap.size w18 (.slice ram S1.length rcm) (.slice rbm F.length rdm) S1 F) := ⟨own_keep hqTm.hds (fun q hq => s2 q (by have := (hzTm.hds.lt q hq).2; omega)), own_keep hqTm.ints (fun q hq => s2 q (by have := (hzTm.ints.lt q hq).2; omega))⟩
        replace Tz : Hid (TabO w.heap.size w18 (.slice raz S.length rcz) (.slice rbz F.length rdz) S F) := ⟨own_keep hqTz.hds (fun q hq => s2 q (by have := (hzTz.hds.lt q hq).2; omega)), own_keep hqTz.ints (fun q hq => s2 q (by have := (hzTz.ints.lt q hq).2; omega))⟩
        replace Tp : Hid (TabO w.heap.size w18 (.slice rap S.length rcp) (.slice rbp F.length rdp) S F) := ⟨own_keep hqTp.hds (fun q hq => s2 q (by have := (hzTp.hds.lt q hq).2; omega)), own_keep hqTp.ints (fun q hq => s2 q (by have := (hzTp.ints.lt q hq).2; omega))⟩
        replace HB : Hid (Below w.heap.size w w18) := s4 _ _ (by omega) HB.out
        replace LB : Hid (g ≤ w18.heap.size) := by unfold Hid; rw [s3]; exact LB.out
        replace bo := s1
        clear s1 s2 s3 s4 hlw HBo hnt hnx hnh hns hnk hnd hne hnm hnq hnz hqTt hzTt hqTx hzTx hqTs hzTs hqTd hzTd hqTm hzTm hqTz hzTz hqTp hzTp
        have hl := HL.out
        have ph4x16 : w18.cell? ⟨yx + 1, 4, none⟩ = some (.int .i64 H1.l) := (cell_of_block bh 4).trans rfl
        go_wp2
        go_ret
        exact ⟨rfl, HB.out⟩
      · have HL : Hid (H1.l = 0) := by have h1 := HP.out.lends; have h2 : ¬ 0 < H1.l := hl; unfold Hid; omega
        have HNL : Hid (¬ 0 < H1.l) := hl
        clear hl
        obtain ⟨Sp, hSp⟩ : ∃ L, S.set k zH = L := ⟨_, rfl⟩
        obtain ⟨Fp, hFp⟩ : ∃ L, F ++ [(k : Int)] = L := ⟨_, rfl⟩
        have HPP : Hid (OutR false S F (k : Int) H1.r Sp Fp H1 0 ∧ GoodT Sp Fp) := by have h := lent_gone HP.out HL.out; rw [hSp, hFp] at h; exact h
        clear hSp hFp
        have HSp : Hid (Small Sp Fp 101 ∧ 101 ≤ 900) := ⟨small_out HPP.out.1 HSz.out.1 (by decide), by decide⟩
        have K := implDrop _ _ rcz rdz S F (k : Int) H1.r Sp Fp H1 0 w15 (tabO_rows Tz.out).1 (tabO_rows Tz.out).2 (small_len HSz.out).1 (small_len HSz.out).2 (small_ok HSz.out.1) HPP.out.1
        unfold tabV at K
        try unfold hdV at K
        have pz0x14 : w15.cell? ⟨yz, 0, none⟩ = some (.slice raz S.length rcz) := (cell_of_block bz 0).trans rfl
        have pz1x14 : w15.cell? ⟨yz, 1, none⟩ = some (.slice rbz F.length rdz) := (cell_of_block bz 1).trans rfl
        go_wp2_with fail
        clear pz0x14 pz1x14
        refine (K).mono ?_
        rintro e w16 ⟨v, u, rfl, Tp, hb⟩
        replace Tp : Hid _ := Tp.out.base HB.out.size
        replace bt := (hb.block (yt) (lt_of_block bt)).trans bt
        replace bx := (hb.block (yx) (lt_of_block bx)).trans bx
        replace bh := (hb.block (yx + 1) (lt_of_block bh)).trans bh
        replace bs := (hb.block (ys) (lt_of_block bs)).trans bs
        replace bk := (hb.block (ys + 1) (lt_of_block bk)).trans bk
        replace bd := (hb.block (yd) (lt_of_block bd)).trans bd
        replace be := (hb.block (yd + 1) (lt_of_block be)).trans be
        replace bm := (hb.block (ym) (lt_of_block bm)).trans bm
        replace bq := (hb.block (ym + 1) (lt_of_block bq)).trans bq
        replace bz := (hb.block (yz) (lt_of_block bz)).trans bz
        replace Tt : Hid (TabO w.heap.size w16 (.slice rat S.length rct) (.slice rbt F.length rdt) S F) := Tt.out.below hb
        replace Tx : Hid (TabO w.heap.size w16 (.slice rax S1.length rcx) (.slice rbx F.length rdx) S1 F) := Tx.out.below hb
        replace Ts : Hid (TabO w.heap.size w16 (.slice ras S1.length rcs) (.slice rbs F.length rds) S1 F) := Ts.out.below hb
        replace Td : Hid (TabO w.heap.size w16 (.slice rad S1.length rcd) (.slice rbd F.length rdd) S1 F) := Td.out.below hb
        replace Tm : Hid (TabO w.heap.size w16 (.slice ram S1.length rcm) (.slice rbm F.length rdm) S1 F) := Tm.out.below hb
        replace Tz : Hid (TabO w.heap.size w16 (.slice raz S.length rcz) (.slice rbz F.length rdz) S F) := Tz.out.below hb
        replace HB : Hid (Below w.heap.size w w16) := bel_step HB.out hb
        replace LB : Hid (g ≤ w16.heap.size) := Nat.le_trans LB.out hb.size
        clear hb
        clear K
        obtain ⟨rap, rcp, rbp, rdp, rfl, rfl, _, _, _⟩ := Tp.out.shape2
        replace Tp : Hid (TabO w.heap.size w16 (.slice rap Sp.length rcp) (.slice rbp Fp.length rdp) Sp Fp) := Tp
        obtain ⟨yp, hyp⟩ : ∃ z, w16.heap.size = z := ⟨_, rfl⟩
        obtain ⟨w17, hNw17⟩ : ∃ W, ((w16.alloc (.cells #[.slice rap Sp.length rcp, .slice rbp Fp.length rdp] 26)).alloc (.cells #[.bool H1.u, .int .i64 H1.r, .int .i64 H1.p, .bool H1.o, .int .i64 H1.l, .int .i64 H1.s] 28)) = W := ⟨_, rfl⟩
        have hb : Below w16.heap.size w16 w17 := by rw [← hNw17]; exact (bel_alloc (bel_alloc (Below.refl _ _) _) _)
        replace bt := (hb.block (yt) (lt_of_block bt)).trans bt
        replace bx := (hb.block (yx) (lt_of_block bx)).trans bx
        replace bh := (hb.block (yx + 1) (lt_of_block bh)).trans bh
        replace bs := (hb.block (ys) (lt_of_block bs)).trans bs
        replace bk := (hb.block (ys + 1) (lt_of_block bk)).trans bk
        replace bd := (hb.block (yd) (lt_of_block bd)).trans bd
        replace be := (hb.block (yd + 1) (lt_of_block be)).trans be
        replace bm := (hb.block (ym) (lt_of_block bm)).trans bm
        replace bq := (hb.block (ym + 1) (lt_of_block bq)).trans bq
        replace bz := (hb.block (yz) (lt_of_block bz)).trans bz
        replace Tt : Hid (TabO w.heap.size w17 (.slice rat S.length rct) (.slice rbt F.length rdt) S F) := Tt.out.below hb
        replace Tx : Hid (TabO w.heap.size w17 (.slice rax S1.length rcx) (.slice rbx F.length rdx) S1 F) := Tx.out.below hb
        replace Ts : Hid (TabO w.heap.size w17 (.slice ras S1.length rcs) (.slice rbs F.length rds) S1 F) := Ts.out.below hb
        replace Td : Hid (TabO w.heap.size w17 (.slice rad S1.length rcd) (.slice rbd F.length rdd) S1 F) := Td.out.below hb
        replace Tm : Hid (TabO w.heap.size w17 (.slice ram S1.length rcm) (.slice rbm F.length rdm) S1 F) := Tm.out.below hb
        replace Tz : Hid (TabO w.heap.size w17 (.slice raz S.length rcz) (.slice rbz F.length rdz) S F) := Tz.out.below hb
        replace Tp : Hid (TabO w.heap.size w17 (.slice rap Sp.length rcp) (.slice rbp Fp.length rdp) Sp Fp) := Tp.out.below hb
        replace HB : Hid (Below w.heap.size w w17) := bel_step HB.out hb
        replace LB : Hid (g ≤ w17.heap.size) := Nat.le_trans LB.out hb.size
        have bp : w17.heap[yp]? = some (.cells #[.slice rap Sp.length rcp, .slice rbp Fp.length rdp] 26 (0, 0)) := by
          have hy := heap_alloc_new w16 (.cells #[.slice rap Sp.length rcp, .slice rbp Fp.length rdp] 26)
          rw [show w16.heap.size = yp by exact hyp] at hy
          replace hy := (Below.heap_alloc _ (.cells #[.bool H1.u, .int .i64 H1.r, .int .i64 H1.p, .bool H1.o, .int .i64 H1.l, .int .i64 H1.s] 28) _ (lt_of_block hy)).trans hy
          rw [← hNw17]; exact hy
        have bo : w17.heap[yp + 1]? = some (.cells #[.bool H1.u, .int .i64 H1.r, .int .i64 H1.p, .bool H1.o, .int .i64 H1.l, .int .i64 H1.s] 28 (0, 0)) := by
          have hy := heap_alloc_new (w16.alloc (.cells #[.slice rap Sp.length rcp, .slice rbp Fp.length rdp] 26)) (.cells #[.bool H1.u, .int .i64 H1.r, .int .i64 H1.p, .bool H1.o, .int .i64 H1.l, .int .i64 H1.s] 28)
          rw [show (w16.alloc (.cells #[.slice rap Sp.length rcp, .slice rbp Fp.length rdp] 26)).heap.size = yp + 1 by simp [hyp]] at hy
          rw [← hNw17]; exact hy
        clear hb
        have EQ := eqHs H1.u H1.r H1.p H1.o H1.l H1.s
        have hl := HNL.out
        have po0x15 : w17.cell? ⟨yp + 1, 0, none⟩ = some (.bool H1.u) := (cell_of_block bo 0).trans rfl
        have po1x15 : w17.cell? ⟨yp + 1, 1, none⟩ = some (.int .i64 H1.r) := (cell_of_block bo 1).trans rfl
        have po2x15 : w17.cell? ⟨yp + 1, 2, none⟩ = some (.int .i64 H1.p) := (cell_of_block bo 2).trans rfl
        have po3x15 : w17.cell? ⟨yp + 1, 3, none⟩ = some (.bool H1.o) := (cell_of_block bo 3).trans rfl
        have po4x15 : w17.cell? ⟨yp + 1, 4, none⟩ = some (.int .i64 H1.l) := (cell_of_block bo 4).trans rfl
        have po5x15 : w17.cell? ⟨yp + 1, 5, none⟩ = some (.int .i64 H1.s) := (cell_of_block bo 5).trans rfl
        have ph0x16 : w17.cell? ⟨yx + 1, 0, none⟩ = some (.bool H1.u) := (cell_of_block bh 0).trans rfl
        have ph1x16 : w17.cell? ⟨yx + 1, 1, none⟩ = some (.int .i64 H1.r) := (cell_of_block bh 1).trans rfl
        have ph2x16 : w17.cell? ⟨yx + 1, 2, none⟩ = some (.int .i64 H1.p) := (cell_of_block bh 2).trans rfl
        have ph3x16 : w17.cell? ⟨yx + 1, 3, none⟩ = some (.bool H1.o) := (cell_of_block bh 3).trans rfl
        have ph4x16 : w17.cell? ⟨yx + 1, 4, none⟩ = some (.int .i64 H1.l) := (cell_of_block bh 4).trans rfl
        have ph5x16 : w17.cell? ⟨yx + 1, 5, none⟩ = some (.int .i64 H1.s) := (cell_of_block bh 5).trans rfl
        have K := implGoodT _ _ rcp rdp Sp Fp w17 (tabO_rows Tp.out).1 (tabO_rows Tp.out).2 (small_len HSp.out).1 (small_len HSp.out).2 (small_ok HSp.out.1)
        unfold tabV at K
        have pp0x17 : w17.cell? ⟨yp, 0, none⟩ = some (.slice rap Sp.length rcp) := (cell_of_block bp 0).trans rfl
        have pp1x17 : w17.cell? ⟨yp, 1, none⟩ = some (.slice rbp Fp.length rdp) := (cell_of_block bp 1).trans rfl
        go_wp2_with fail
        clear hNw17 hyp po0x15 po1x15 po2x15 po3x15 po4x15 po5x15 ph0x16 ph1x16 ph2x16 ph3x16 ph4x16 ph5x16 pp0x17 pp1x17
        refine (K).mono ?_
        rintro e w18 ⟨⟨r, rfl, hr⟩, hb⟩
        replace bt := (hb.block (yt) (lt_of_block bt)).trans bt
        replace bx := (hb.block (yx) (lt_of_block bx)).trans bx
        replace bh := (hb.block (yx + 1) (lt_of_block bh)).trans bh
        replace bs := (hb.block (ys) (lt_of_block bs)).trans bs
        replace bk := (hb.block (ys + 1) (lt_of_block bk)).trans bk
        replace bd := (hb.block (yd) (lt_of_block bd)).trans bd
        replace be := (hb.block (yd + 1) (lt_of_block be)).trans be
        replace bm := (hb.block (ym) (lt_of_block bm)).trans bm
        replace bq := (hb.block (ym + 1) (lt_of_block bq)).trans bq
        replace bz := (hb.block (yz) (lt_of_block bz)).trans bz
        replace bp := (hb.block (yp) (lt_of_block bp)).trans bp
        replace bo := (hb.block (yp + 1) (lt_of_block bo)).trans bo
        replace Tt : Hid (TabO w.heap.size w18 (.slice rat S.length rct) (.slice rbt F.length rdt) S F) := Tt.out.below hb
        replace Tx : Hid (TabO w.heap.size w18 (.slice rax S1.length rcx) (.slice rbx F.length rdx) S1 F) := Tx.out.below hb
        replace Ts : Hid (TabO w.heap.size w18 (.slice ras S1.length rcs) (.slice rbs F.length rds) S1 F) := Ts.out.below hb
        replace Td : Hid (TabO w.heap.size w18 (.slice rad S1.length rcd) (.slice rbd F.length rdd) S1 F) := Td.out.below hb
        replace Tm : Hid (TabO w.heap.size w18 (.slice ram S1.length rcm) (.slice rbm F.length rdm) S1 F) := Tm.out.below hb
        replace Tz : Hid (TabO w.heap.size w18 (.slice raz S.length rcz) (.slice rbz F.length rdz) S F) := Tz.out.below hb
        replace Tp : Hid (TabO w.heap.size w18 (.slice rap Sp.length rcp) (.slice rbp Fp.length rdp) Sp Fp) := Tp.out.below hb
        replace HB : Hid (Below w.heap.size w w18) := bel_step HB.out hb
        replace LB : Hid (g ≤ w18.heap.size) := Nat.le_trans LB.out hb.size
        clear hb
        clear K hl
        obtain rfl : r = true := hr.mpr HPP.out.2
        clear hr EQ
        go_wp2
        go_ret
        exact ⟨rfl, HB.out⟩
    · have hc2 : (C1 == 0) = false := by simpa using hc
      obtain rfl := lend_not HR.out hc
      have EQ := eqHs false 0 0 false 0 0
      replace bh : w6.heap[yx + 1]? = some (.cells #[.bool false, .int .i64 0, .int .i64 0, .bool false, .int .i64 0, .int .i64 0] 28 (0, 0)) := bh
      replace bk : w6.heap[ys + 1]? = some (.cells #[.bool false, .int .i64 0, .int .i64 0, .bool false, .int .i64 0, .int .i64 0] 28 (0, 0)) := bk
      have NE2 := neqHs false 0 0 false 0 0
      clear NE HR hc ph0x3 ph1x3 ph2x3 ph3x3 ph4x3 ph5x3 pk0x4 pk1x4 pk2x4 pk3x4 pk4x4 pk5x4
      have ph0x5 : w6.cell? ⟨yx + 1, 0, none⟩ = some (.bool false) := (cell_of_block bh 0).trans rfl
      have ph1x5 : w6.cell? ⟨yx + 1, 1, none⟩ = some (.int .i64 0) := (cell_of_block bh 1).trans rfl
      have ph2x5 : w6.cell? ⟨yx + 1, 2, none⟩ = some (.int .i64 0) := (cell_of_block bh 2).trans rfl
      have ph3x5 : w6.cell? ⟨yx + 1, 3, none⟩ = some (.bool false) := (cell_of_block bh 3).trans rfl
      have ph4x5 : w6.cell? ⟨yx + 1, 4, none⟩ = some (.int .i64 0) := (cell_of_block bh 4).trans rfl
      have ph5x5 : w6.cell? ⟨yx + 1, 5, none⟩ = some (.int .i64 0) := (cell_of_block bh 5).trans rfl
      have pk0x6 : w6.cell? ⟨ys + 1, 0, none⟩ = some (.bool false) := (cell_of_block bk 0).trans rfl
      have pk1x6 : w6.cell? ⟨ys + 1, 1, none⟩ = some (.int .i64 0) := (cell_of_block bk 1).trans rfl
      have pk2x6 : w6.cell? ⟨ys + 1, 2, none⟩ = some (.int .i64 0) := (cell_of_block bk 2).trans rfl
      have pk3x6 : w6.cell? ⟨ys + 1, 3, none⟩ = some (.bool false) := (cell_of_block bk 3).trans rfl
      have pk4x6 : w6.cell? ⟨ys + 1, 4, none⟩ = some (.int .i64 0) := (cell_of_block bk 4).trans rfl
      have pk5x6 : w6.cell? ⟨ys + 1, 5, none⟩ = some (.int .i64 0) := (cell_of_block bk 5).trans rfl
      go_wp2
      go_ret
      exact ⟨rfl, HB.out⟩

end Go.Proofs.Ytjielcilcningaa
