/-
  A word that is put in a place of another type comes back from it: the law.
-/
import Derived.Test.YtkehpfoohkamoaaWW2
import Derived.Test.YtkehpfoohkamoaaWS1
import Derived.Laws.StructEq
namespace Go.Proofs.Ytkehpfoohkamoaa
open Go.ChangeShapes Go.WideShapes Go.ChangeAt Go.RowKit

theorem BysS.mono {w : World} {a : Option Addr} {n B B' : Nat} (h : Bys w a n B) (hB : B ≤ B') : Bys w a n B' := fun hn => by
  obtain ⟨b, off, rfl, hl, hc⟩ := h hn
  exact ⟨b, off, rfl, by omega, hc⟩
theorem may_cases {ty t : Int} (h : mayW ty t = true) : (t = 126 ∧ 125 ≤ ty ∧ ty ≤ 127) ∨ (t = 127 ∧ (ty = 127 ∨ ty = 125)) ∨ (t = 125 ∧ ty = 125) := by
  simp [mayW, isTW] at h
  omega
theorem may_good (ty x t : Int) (h : mayW t ty = true) (h0 : 0 ≤ x) (h1 : x ≤ 18446744073709551615) : gW t (cutW t x) = true ∧ 0 ≤ cutW t x ∧ cutW t x ≤ 18446744073709551615 := by
  have hm := may_cases h
  have ht : 125 ≤ t ∧ t ≤ 127 := by omega
  by_cases e : t = 126
  · subst e
    exact ⟨rfl, h0, h1⟩
  · have c : cutW t x = x % 4294967296 := if_neg e
    rw [c]
    refine ⟨?_, by omega, by omega⟩
    unfold gW isTW
    have : x % 4294967296 ≤ 4294967295 := by omega
    simp [ht, this]
theorem slots_back (ty x t : Int) (hg : gW ty x = true) (h : mayW ty t = true) (h0 : 0 ≤ x) (h1 : x ≤ 18446744073709551615) : gW t (cutW t x) = true ∧ cutW ty (cutW t x) = x ∧ 0 ≤ cutW t x ∧ cutW t x ≤ 18446744073709551615 := by
  have hm := may_cases h
  have ht : 125 ≤ t ∧ t ≤ 127 := by omega
  have hb : ty = 126 ∨ x ≤ 4294967295 := by
    unfold gW at hg
    simp at hg
    exact hg.2
  have c2 : ∀ y, cutW ty y = if ty = 126 then y else y % 4294967296 := fun _ => rfl
  by_cases e : t = 126
  · subst e
    refine ⟨rfl, ?_, h0, h1⟩
    rw [c2]
    show (if ty = 126 then x else x % 4294967296) = x
    split <;> omega
  · have c : cutW t x = x % 4294967296 := if_neg e
    have hx : x ≤ 4294967295 := by omega
    have cx : x % 4294967296 = x := by omega
    rw [c, cx]
    refine ⟨?_, ?_, h0, h1⟩
    · unfold gW isTW
      simp [ht, hx]
    · rw [c2]
      split <;> omega

theorem eqlW (p q : Int) (w : World) : (binOp .eql 25 (.agg #[.int .i64 p, .int .u64 q]) (.agg #[.int .i64 p, .int .u64 q])).run Try.prog w = .ok (.bool true) w := by
  rw [run_eql_struct, run_equalIn_agg w 9999 25 _ _ (by kernel_rfl) (by kernel_rfl)]
  simp only [Program.fieldsOf, Try.underlying25]
  simp [Op.eqFields, go_sem, Try.underlying3, Try.underlying23]
theorem neqW (p q : Int) (w : World) : (binOp .neq 25 (.agg #[.int .i64 p, .int .u64 q]) (.agg #[.int .i64 p, .int .u64 q])).run Try.prog w = .ok (.bool false) w := by
  rw [run_neq_struct, run_equalIn_agg w 9999 25 _ _ (by kernel_rfl) (by kernel_rfl)]
  simp only [Program.fieldsOf, Try.underlying25]
  simp [Op.eqFields, go_sem, Try.underlying3, Try.underlying23]

set_option maxRecDepth 2000000 in
set_option maxHeartbeats 6400000 in
theorem slotsB (a1 : Option Addr) (n1 c1 : Nat) (a2 : Option Addr) (n2 c2 : Nat) (w : World) (h1 : Bys w a1 n1 w.heap.size) (h2' : Bys w a2 n2 w.heap.size) :
    Calls Try.prog 3 #[.slice a1 n1 c1, .slice a2 n2 c2] w fun e w' => e = .returned (.bool true) ∧ Below w.heap.size w w' := by
  have h2 : Hid (Bys w a2 n2 w.heap.size) := h2'
  clear h2'
  by_cases hlen : 1048576 < wrap64 ((n1 : Int) + n2)
  · go_enter Try.func3, Try.ntmps3
    go_wp2
    go_ret
    exact ⟨rfl, Below.refl _ _⟩
  · go_enter Try.func3, Try.ntmps3
    go_wp2_with fail
    refine (drawWordAs a1 n1 c1 w h1).mono ?_
    rintro e w1 ⟨ty, x, t, hty, hx, rfl, B1⟩
    have HB1 : Hid (Below w.heap.size w w1) := B1
    clear B1 hlen h1 hty
    have I := implWordAs ty x t hx.1 hx.2
    have S := specWordAs ty x t hx.1 hx.2
    cases hc : (gW ty x && mayW ty t)
    · have E : WordAsR ty x t = .tuple #[.agg #[.int .i64 0, .int .u64 0], .bool false] := by unfold WordAsR; rw [hc]; rfl
      rw [E] at I S
      clear E hc hx
      have NQ := neqW 0 0
      go_wp2_with fail
      refine (I _).mono ?_
      rintro e w2 ⟨rfl, B2⟩
      have K5 := (B2.block w1.heap.size (by simp)).trans (heap_alloc_new _ _)
      have HB2 : Hid (Below w.heap.size w w2) := bel_step (HB1.out.alloc HB1.out.size _) B2
      clear B2 I
      have d0 : (w2.alloc (.cells #[.int .i64 0, .int .u64 0] 25)).cell? ⟨w1.heap.size, 0, none⟩ = some (.int .i64 ty) := pastCell (lt_of_block K5) ((cell_of_block K5 0).trans rfl)
      have d1 : (w2.alloc (.cells #[.int .i64 0, .int .u64 0] 25)).cell? ⟨w1.heap.size, 1, none⟩ = some (.int .u64 x) := pastCell (lt_of_block K5) ((cell_of_block K5 1).trans rfl)
      go_wp2_with fail
      refine (S _).mono ?_
      rintro e w3 ⟨rfl, B3⟩
      have K7 := (B3.block w2.heap.size (by simp)).trans (heap_alloc_new _ _)
      have K6 := (B3.block w1.heap.size (lt_of_block (pastBlk K5))).trans (pastBlk K5)
      have HB3 : Hid (Below w.heap.size w w3) := bel_step (HB2.out.alloc HB2.out.size _) B3
      clear B3 S d0 d1 K5
      have e0 : (w3.alloc (.cells #[.int .i64 0, .int .u64 0] 25)).cell? ⟨w2.heap.size, 0, none⟩ = some (.int .i64 0) := pastCell (lt_of_block K7) ((cell_of_block K7 0).trans rfl)
      have e1 : (w3.alloc (.cells #[.int .i64 0, .int .u64 0] 25)).cell? ⟨w2.heap.size, 1, none⟩ = some (.int .u64 0) := pastCell (lt_of_block K7) ((cell_of_block K7 1).trans rfl)
      go_wp2_with fail
      clear e0 e1 K6 K7 NQ
      have HBV : Hid (Below w.heap.size w (w3.alloc (.cells #[.int .i64 0, .int .u64 0] 25))) := HB3.out.alloc HB3.out.size _
      refine (drawWordFrom a2 n2 c2 _ (BysS.mono (h2.out.below HBV.out) HBV.out.size)).mono ?_
      rintro e w6 ⟨ty2, x2, t2, hty2, hx2, rfl, B6⟩
      have HB6 : Hid (Below w.heap.size w w6) := bel_step HBV.out B6
      clear HBV B6 hty2
      have I2 := implWordFrom ty2 x2 t2 hx2.1 hx2.2
      have S2 := specWordFrom ty2 x2 t2 hx2.1 hx2.2
      cases hc2 : (gW ty2 x2 && mayW t2 ty2)
      · have E2 : WordFromR ty2 x2 t2 = .tuple #[.agg #[.int .i64 0, .int .u64 0], .bool false] := by unfold WordFromR; rw [hc2]; rfl
        rw [E2] at I2 S2
        clear E2 hc2 hx2
        have EQ := eqlW 0 0
        go_wp2_with fail
        refine (I2 _).mono ?_
        rintro e w7 ⟨rfl, B7⟩
        have K13 := (B7.block w6.heap.size (by simp)).trans (heap_alloc_new _ _)
        have HB7 : Hid (Below w.heap.size w w7) := bel_step (HB6.out.alloc HB6.out.size _) B7
        clear B7 I2
        have d0 : (w7.alloc (.cells #[.int .i64 0, .int .u64 0] 25)).cell? ⟨w6.heap.size, 0, none⟩ = some (.int .i64 ty2) := pastCell (lt_of_block K13) ((cell_of_block K13 0).trans rfl)
        have d1 : (w7.alloc (.cells #[.int .i64 0, .int .u64 0] 25)).cell? ⟨w6.heap.size, 1, none⟩ = some (.int .u64 x2) := pastCell (lt_of_block K13) ((cell_of_block K13 1).trans rfl)
        go_wp2_with fail
        refine (S2 _).mono ?_
        rintro e w8 ⟨rfl, B8⟩
        have K15 := (B8.block w7.heap.size (by simp)).trans (heap_alloc_new _ _)
        have HB8 : Hid (Below w.heap.size w w8) := bel_step (HB7.out.alloc HB7.out.size _) B8
        clear B8 S2 d0 d1 K13
        have e0 : (w8.alloc (.cells #[.int .i64 0, .int .u64 0] 25)).cell? ⟨w7.heap.size, 0, none⟩ = some (.int .i64 0) := pastCell (lt_of_block K15) ((cell_of_block K15 0).trans rfl)
        have e1 : (w8.alloc (.cells #[.int .i64 0, .int .u64 0] 25)).cell? ⟨w7.heap.size, 1, none⟩ = some (.int .u64 0) := pastCell (lt_of_block K15) ((cell_of_block K15 1).trans rfl)
        have HB9 : Hid (Below w.heap.size w (w8.alloc (.cells #[.int .i64 0, .int .u64 0] 25))) := HB8.out.alloc HB8.out.size _
        go_wp2
        go_ret
        exact ⟨by first | rfl | simp, HB9.out⟩
      · have E2 : WordFromR ty2 x2 t2 = .tuple #[.agg #[.int .i64 t2, .int .u64 (cutW t2 x2)], .bool true] := by unfold WordFromR; rw [hc2]; rfl
        rw [E2] at I2 S2
        obtain ⟨g1, g2, g3⟩ := may_good ty2 x2 t2 (by simp at hc2; exact hc2.2) hx2.1 hx2.2
        have G2 := implGW t2 (cutW t2 x2) g2 g3
        rw [g1] at G2
        clear E2 hc2 hx2 g1 g2 g3
        generalize cutW t2 x2 = X2 at I2 S2 G2
        have EQ := eqlW t2 X2
        go_wp2_with fail
        refine (I2 _).mono ?_
        rintro e w7 ⟨rfl, B7⟩
        have K13 := (B7.block w6.heap.size (by simp)).trans (heap_alloc_new _ _)
        have HB7 : Hid (Below w.heap.size w w7) := bel_step (HB6.out.alloc HB6.out.size _) B7
        clear B7 I2
        have d0 : (w7.alloc (.cells #[.int .i64 t2, .int .u64 X2] 25)).cell? ⟨w6.heap.size, 0, none⟩ = some (.int .i64 ty2) := pastCell (lt_of_block K13) ((cell_of_block K13 0).trans rfl)
        have d1 : (w7.alloc (.cells #[.int .i64 t2, .int .u64 X2] 25)).cell? ⟨w6.heap.size, 1, none⟩ = some (.int .u64 x2) := pastCell (lt_of_block K13) ((cell_of_block K13 1).trans rfl)
        go_wp2_with fail
        refine (S2 _).mono ?_
        rintro e w8 ⟨rfl, B8⟩
        have K15 := (B8.block w7.heap.size (by simp)).trans (heap_alloc_new _ _)
        have HB8 : Hid (Below w.heap.size w w8) := bel_step (HB7.out.alloc HB7.out.size _) B8
        clear B8 S2 d0 d1 K13
        have e0 : (w8.alloc (.cells #[.int .i64 t2, .int .u64 X2] 25)).cell? ⟨w7.heap.size, 0, none⟩ = some (.int .i64 t2) := pastCell (lt_of_block K15) ((cell_of_block K15 0).trans rfl)
        have e1 : (w8.alloc (.cells #[.int .i64 t2, .int .u64 X2] 25)).cell? ⟨w7.heap.size, 1, none⟩ = some (.int .u64 X2) := pastCell (lt_of_block K15) ((cell_of_block K15 1).trans rfl)
        go_wp2_with fail
        refine (G2 _).mono ?_
        rintro e w9 ⟨rfl, B9⟩
        have K16 := (B9.block w7.heap.size (lt_of_block (pastBlk K15))).trans (pastBlk K15)
        have HB9 : Hid (Below w.heap.size w w9) := bel_step (HB8.out.alloc HB8.out.size _) B9
        have m0 : w9.cell? ⟨w7.heap.size, 0, none⟩ = some (.int .i64 t2) := (cell_of_block K16 0).trans rfl
        clear B9 G2 e0 e1 K15
        go_wp2
        go_ret
        exact ⟨by first | rfl | simp, HB9.out⟩
    · have E : WordAsR ty x t = .tuple #[.agg #[.int .i64 t, .int .u64 (cutW t x)], .bool true] := by unfold WordAsR; rw [hc]; rfl
      rw [E] at I S
      have hc' : gW ty x = true ∧ mayW ty t = true := by simpa using hc
      obtain ⟨g1, g2, g3, g4⟩ := slots_back ty x t hc'.1 hc'.2 hx.1 hx.2
      have F := implWordFrom t (cutW t x) ty g3 g4
      have EF : WordFromR t (cutW t x) ty = .tuple #[.agg #[.int .i64 ty, .int .u64 x], .bool true] := by unfold WordFromR; rw [g1, hc'.2, g2]; rfl
      rw [EF] at F
      have G := implGW t (cutW t x) g3 g4
      rw [g1] at G
      clear E EF hc hc' hx g1 g2 g3 g4
      generalize cutW t x = X at I S F G
      have htt : (t != t) = false := by simp
      have NQ2 := neqW ty x
      have NQ := neqW t X
      go_wp2_with fail
      refine (I _).mono ?_
      rintro e w2 ⟨rfl, B2⟩
      have K5 := (B2.block w1.heap.size (by simp)).trans (heap_alloc_new _ _)
      have HB2 : Hid (Below w.heap.size w w2) := bel_step (HB1.out.alloc HB1.out.size _) B2
      clear B2 I
      have d0 : (w2.alloc (.cells #[.int .i64 t, .int .u64 X] 25)).cell? ⟨w1.heap.size, 0, none⟩ = some (.int .i64 ty) := pastCell (lt_of_block K5) ((cell_of_block K5 0).trans rfl)
      have d1 : (w2.alloc (.cells #[.int .i64 t, .int .u64 X] 25)).cell? ⟨w1.heap.size, 1, none⟩ = some (.int .u64 x) := pastCell (lt_of_block K5) ((cell_of_block K5 1).trans rfl)
      go_wp2_with fail
      refine (S _).mono ?_
      rintro e w3 ⟨rfl, B3⟩
      have K7 := (B3.block w2.heap.size (by simp)).trans (heap_alloc_new _ _)
      have K6 := (B3.block w1.heap.size (lt_of_block (pastBlk K5))).trans (pastBlk K5)
      have HB3 : Hid (Below w.heap.size w w3) := bel_step (HB2.out.alloc HB2.out.size _) B3
      clear B3 S d0 d1 K5
      have e0 : (w3.alloc (.cells #[.int .i64 t, .int .u64 X] 25)).cell? ⟨w2.heap.size, 0, none⟩ = some (.int .i64 t) := pastCell (lt_of_block K7) ((cell_of_block K7 0).trans rfl)
      have e1 : (w3.alloc (.cells #[.int .i64 t, .int .u64 X] 25)).cell? ⟨w2.heap.size, 1, none⟩ = some (.int .u64 X) := pastCell (lt_of_block K7) ((cell_of_block K7 1).trans rfl)
      have d0 : (w3.alloc (.cells #[.int .i64 t, .int .u64 X] 25)).cell? ⟨w1.heap.size, 0, none⟩ = some (.int .i64 ty) := pastCell (lt_of_block K6) ((cell_of_block K6 0).trans rfl)
      go_wp2_with fail
      refine (F _).mono ?_
      rintro e w4 ⟨rfl, B4⟩
      have K8 := (B4.block w2.heap.size (lt_of_block (pastBlk K7))).trans (pastBlk K7)
      have K9 := (B4.block w1.heap.size (lt_of_block (pastBlk K6))).trans (pastBlk K6)
      have HB4 : Hid (Below w.heap.size w w4) := bel_step (HB3.out.alloc HB3.out.size _) B4
      clear B4 F d0 e0 e1 K6 K7
      have e0 : (w4.alloc (.cells #[.int .i64 ty, .int .u64 x] 25)).cell? ⟨w2.heap.size, 0, none⟩ = some (.int .i64 t) := pastCell (lt_of_block K8) ((cell_of_block K8 0).trans rfl)
      have e1 : (w4.alloc (.cells #[.int .i64 ty, .int .u64 x] 25)).cell? ⟨w2.heap.size, 1, none⟩ = some (.int .u64 X) := pastCell (lt_of_block K8) ((cell_of_block K8 1).trans rfl)
      have d0 : (w4.alloc (.cells #[.int .i64 ty, .int .u64 x] 25)).cell? ⟨w1.heap.size, 0, none⟩ = some (.int .i64 ty) := pastCell (lt_of_block K9) ((cell_of_block K9 0).trans rfl)
      have d1 : (w4.alloc (.cells #[.int .i64 ty, .int .u64 x] 25)).cell? ⟨w1.heap.size, 1, none⟩ = some (.int .u64 x) := pastCell (lt_of_block K9) ((cell_of_block K9 1).trans rfl)
      go_wp2_with fail
      refine (G _).mono ?_
      rintro e w5 ⟨rfl, B5⟩
      have HB5 : Hid (Below w.heap.size w w5) := bel_step (HB4.out.alloc HB4.out.size _) B5
      clear B5 G d0 d1 e0 e1 K8 K9 NQ NQ2
      go_wp2_with fail
      have HBV : Hid (Below w.heap.size w w5) := HB5.out
      refine (drawWordFrom a2 n2 c2 _ (BysS.mono (h2.out.below HBV.out) HBV.out.size)).mono ?_
      rintro e w6 ⟨ty2, x2, t2, hty2, hx2, rfl, B6⟩
      have HB6 : Hid (Below w.heap.size w w6) := bel_step HBV.out B6
      clear HBV B6 hty2
      have I2 := implWordFrom ty2 x2 t2 hx2.1 hx2.2
      have S2 := specWordFrom ty2 x2 t2 hx2.1 hx2.2
      cases hc2 : (gW ty2 x2 && mayW t2 ty2)
      · have E2 : WordFromR ty2 x2 t2 = .tuple #[.agg #[.int .i64 0, .int .u64 0], .bool false] := by unfold WordFromR; rw [hc2]; rfl
        rw [E2] at I2 S2
        clear E2 hc2 hx2
        have EQ := eqlW 0 0
        go_wp2_with fail
        refine (I2 _).mono ?_
        rintro e w7 ⟨rfl, B7⟩
        have K13 := (B7.block w6.heap.size (by simp)).trans (heap_alloc_new _ _)
        have HB7 : Hid (Below w.heap.size w w7) := bel_step (HB6.out.alloc HB6.out.size _) B7
        clear B7 I2
        have d0 : (w7.alloc (.cells #[.int .i64 0, .int .u64 0] 25)).cell? ⟨w6.heap.size, 0, none⟩ = some (.int .i64 ty2) := pastCell (lt_of_block K13) ((cell_of_block K13 0).trans rfl)
        have d1 : (w7.alloc (.cells #[.int .i64 0, .int .u64 0] 25)).cell? ⟨w6.heap.size, 1, none⟩ = some (.int .u64 x2) := pastCell (lt_of_block K13) ((cell_of_block K13 1).trans rfl)
        go_wp2_with fail
        refine (S2 _).mono ?_
        rintro e w8 ⟨rfl, B8⟩
        have K15 := (B8.block w7.heap.size (by simp)).trans (heap_alloc_new _ _)
        have HB8 : Hid (Below w.heap.size w w8) := bel_step (HB7.out.alloc HB7.out.size _) B8
        clear B8 S2 d0 d1 K13
        have e0 : (w8.alloc (.cells #[.int .i64 0, .int .u64 0] 25)).cell? ⟨w7.heap.size, 0, none⟩ = some (.int .i64 0) := pastCell (lt_of_block K15) ((cell_of_block K15 0).trans rfl)
        have e1 : (w8.alloc (.cells #[.int .i64 0, .int .u64 0] 25)).cell? ⟨w7.heap.size, 1, none⟩ = some (.int .u64 0) := pastCell (lt_of_block K15) ((cell_of_block K15 1).trans rfl)
        have HB9 : Hid (Below w.heap.size w (w8.alloc (.cells #[.int .i64 0, .int .u64 0] 25))) := HB8.out.alloc HB8.out.size _
        go_wp2
        go_ret
        exact ⟨by first | rfl | simp, HB9.out⟩
      · have E2 : WordFromR ty2 x2 t2 = .tuple #[.agg #[.int .i64 t2, .int .u64 (cutW t2 x2)], .bool true] := by unfold WordFromR; rw [hc2]; rfl
        rw [E2] at I2 S2
        obtain ⟨g1, g2, g3⟩ := may_good ty2 x2 t2 (by simp at hc2; exact hc2.2) hx2.1 hx2.2
        have G2 := implGW t2 (cutW t2 x2) g2 g3
        rw [g1] at G2
        clear E2 hc2 hx2 g1 g2 g3
        generalize cutW t2 x2 = X2 at I2 S2 G2
        have EQ := eqlW t2 X2
        go_wp2_with fail
        refine (I2 _).mono ?_
        rintro e w7 ⟨rfl, B7⟩
        have K13 := (B7.block w6.heap.size (by simp)).trans (heap_alloc_new _ _)
        have HB7 : Hid (Below w.heap.size w w7) := bel_step (HB6.out.alloc HB6.out.size _) B7
        clear B7 I2
        have d0 : (w7.alloc (.cells #[.int .i64 t2, .int .u64 X2] 25)).cell? ⟨w6.heap.size, 0, none⟩ = some (.int .i64 ty2) := pastCell (lt_of_block K13) ((cell_of_block K13 0).trans rfl)
        have d1 : (w7.alloc (.cells #[.int .i64 t2, .int .u64 X2] 25)).cell? ⟨w6.heap.size, 1, none⟩ = some (.int .u64 x2) := pastCell (lt_of_block K13) ((cell_of_block K13 1).trans rfl)
        go_wp2_with fail
        refine (S2 _).mono ?_
        rintro e w8 ⟨rfl, B8⟩
        have K15 := (B8.block w7.heap.size (by simp)).trans (heap_alloc_new _ _)
        have HB8 : Hid (Below w.heap.size w w8) := bel_step (HB7.out.alloc HB7.out.size _) B8
        clear B8 S2 d0 d1 K13
        have e0 : (w8.alloc (.cells #[.int .i64 t2, .int .u64 X2] 25)).cell? ⟨w7.heap.size, 0, none⟩ = some (.int .i64 t2) := pastCell (lt_of_block K15) ((cell_of_block K15 0).trans rfl)
        have e1 : (w8.alloc (.cells #[.int .i64 t2, .int .u64 X2] 25)).cell? ⟨w7.heap.size, 1, none⟩ = some (.int .u64 X2) := pastCell (lt_of_block K15) ((cell_of_block K15 1).trans rfl)
        go_wp2_with fail
        refine (G2 _).mono ?_
        rintro e w9 ⟨rfl, B9⟩
        have K16 := (B9.block w7.heap.size (lt_of_block (pastBlk K15))).trans (pastBlk K15)
        have HB9 : Hid (Below w.heap.size w w9) := bel_step (HB8.out.alloc HB8.out.size _) B9
        have m0 : w9.cell? ⟨w7.heap.size, 0, none⟩ = some (.int .i64 t2) := (cell_of_block K16 0).trans rfl
        clear B9 G2 e0 e1 K15
        go_wp2
        go_ret
        exact ⟨by first | rfl | simp, HB9.out⟩

end Go.Proofs.Ytkehpfoohkamoaa
