/-
  The law on good states: whole.
-/
import Derived.Test.YtbliopgdkphoaaaSOpen
import Derived.Test.YtbliopgdkphoaaaSState2
import Derived.Test.YtbliopgdkphoaaaGModT2
import Derived.Test.YtbliopgdkphoaaaGModEq
namespace Go.Proofs.Ytbliopgdkphoaaa
open Go.ChangeShapes Go.WideShapes Go.ChangeAt Go.RowKit

set_option maxRecDepth 2000000 in
set_option maxHeartbeats 1600000 in
theorem szMem8 (mx : Int) (D : ByteArray) (l : Int) (w : World) (hn : D.size ≤ 9223372036854775807) (h0 : 0 ≤ l) (h1 : l ≤ 1048576) :
    Calls Try.prog 54 #[.agg #[.int .i64 mx, .string D], .int .i64 l] w fun e w' => ∃ r : Int, e = .returned (.int .i64 r) ∧ (0 ≤ r → D.size ≤ 1048576 ∧ r ≤ 1048576) ∧ Below w.heap.size w w' := by
  obtain ⟨N, hN⟩ : ∃ N : Int, (D.size : Int) = N := ⟨_, rfl⟩
  by_cases h2 : N ≤ l
  · go_enter Try.func54, Try.ntmps54
    go_wp2
    go_ret
    exact ⟨_, rfl, fun _ => by omega, (Below.refl _ _).alloc (Nat.le_refl _) _⟩
  · go_enter Try.func54, Try.ntmps54
    go_wp2
    go_ret
    exact ⟨_, rfl, fun h => absurd h (by omega), (Below.refl _ _).alloc (Nat.le_refl _) _⟩

set_option maxRecDepth 100000 in
set_option maxHeartbeats 1600000 in
theorem szSt (mx : Int) (D : ByteArray) (a : Option Addr) (n c : Nat) (l : Int) (w : World) (hn : n ≤ 9223372036854775807) (hD : D.size ≤ 9223372036854775807) (h0 : 0 ≤ l) (h1 : l ≤ 1048576) :
    Calls Try.prog 26 #[.agg #[.int .i64 mx, .string D, .slice a n c], .int .i64 l] w fun e w' => ∃ r : Int, e = .returned (.int .i64 r) ∧ (0 ≤ r → n ≤ 1048576 ∧ D.size ≤ 1048576) ∧ Below w.heap.size w w' := by
  have A := fun w => szMem8 mx D l w hD h0 h1
  go_enter Try.func26, Try.ntmps26
  go_wp2_with fail
  refine (A _).mono ?_
  rintro e w1 ⟨r, rfl, hr, hb1⟩
  have hx1 := (hb1.block w.heap.size (by simp)).trans (heap_alloc_new _ _)
  have HB1 : Hid (Below w.heap.size w w1) := bel_step ((Below.refl _ _).alloc (Nat.le_refl _) _) hb1
  clear hb1 A
  by_cases hr0 : r < 0
  · clear hr hx1
    go_wp2
    go_ret
    exact ⟨_, rfl, fun h => absurd h (by omega), HB1.out⟩
  · have hr2 := hr (by omega)
    have B := szWd1 a c n r w1 hn (by omega) hr2.2
    have x2 := (cell_of_block hx1 2).trans rfl
    have HS : Hid (D.size ≤ 1048576) := hr2.1
    clear hr hr2 hx1
    go_wp2_with fail
    refine B.mono ?_
    rintro e w2 ⟨r2, rfl, hr3, hw⟩
    obtain rfl := hw.symm
    clear B
    by_cases hr4 : r2 < 0
    · clear hr3
      go_wp2
      go_ret
      exact ⟨_, rfl, fun h => absurd h (by omega), HB1.out⟩
    · have HS2 : Hid (n ≤ 1048576) := (hr3 (by omega)).1
      clear hr3
      go_wp2
      go_ret
      exact ⟨_, rfl, fun _ => ⟨HS2.out, HS.out⟩, HB1.out⟩

set_option maxRecDepth 100000 in
set_option maxHeartbeats 800000 in
theorem toMem8 (mx : Int) (D : ByteArray) (w : World) :
    Calls Try.prog 58 #[.agg #[.int .i64 mx, .string D]] w fun e w' => e = .returned (.agg #[.int .i64 mx, .string D]) ∧ Below w.heap.size w w' := by
  go_enter Try.func58, Try.ntmps58
  go_wp2
  exact bodyPost_ret (v := .agg #[.int .i64 mx, .string D]) (by simp [results, Try.results58, go_sem]) rfl ⟨rfl, by (repeat (first | refine Below.alloc ?_ (by first | (simp; done) | (simp; omega)) _ | refine Below.setCell ?_ (by first | (simp; done) | (simp; omega)) _ | refine bel_dN ?_ _ | refine Below.drew ?_ | exact Below.refl _ _))⟩

set_option maxRecDepth 100000 in
set_option maxHeartbeats 1600000 in
theorem toSt (mx : Int) (D : ByteArray) (a : Option Addr) (c : Nat) (L : List Wd8) (w : World) (hL : Hid (Wds w a L)) (hlen : L.length ≤ 1048576) :
    Calls Try.prog 28 #[.agg #[.int .i64 mx, .string D, .slice a L.length c]] w fun e w' => ∃ a' c', e = .returned (.agg #[.int .i64 mx, .string D, .slice a' L.length c']) ∧ Hid (Wds w' a' L) ∧ Below w.heap.size w w' := by
  have A := toMem8 mx D
  have Bq : Hid (∀ w', Below w.heap.size w w' → Calls Try.prog 59 #[.slice a L.length c] w' fun e w'' => e = .returned (.slice (some ⟨w'.heap.size, 0, none⟩) L.length L.length) ∧ w'.heap.size < w''.heap.size ∧ Wds w'' (some ⟨w'.heap.size, 0, none⟩) L ∧ Below w'.heap.size w' w'') := fun w' hb => toWds a c L w' (hL.out.below hb) hlen
  obtain ⟨n, hn⟩ : ∃ n, L.length = n := ⟨_, rfl⟩
  rw [hn] at Bq ⊢
  clear hn hL hlen
  go_enter Try.func28, Try.ntmps28
  go_wp2_with fail
  obtain ⟨z, hz⟩ : ∃ z, w.heap.size = z := ⟨_, rfl⟩
  obtain ⟨W, hW⟩ : ∃ W, ((w.alloc (.cells #[.int .i64 mx, .string D, .slice a n c] 55)).alloc (.cells #[.int .i64 0, .string ⟨#[]⟩, .slice none 0 0] 46)).alloc (.cells #[.int .i64 0, .string ⟨#[]⟩, .slice none 0 0] 46) = W := ⟨_, rfl⟩
  have hb0 : Below w.heap.size w W := by rw [← hW]; exact bel_alloc (bel_alloc (bel_alloc (Below.refl _ _) _) _) _
  have hx0 : W.heap[z]? = some (.cells #[.int .i64 mx, .string D, .slice a n c] 55 (0, 0)) := by
    rw [← hW, ← hz]
    exact ((Below.heap_alloc _ _ _ (by simp; omega)).trans (Below.heap_alloc _ _ _ (by simp))).trans (heap_alloc_new _ _)
  have hr0 : W.heap[z + 1]? = some (.cells #[.int .i64 0, .string ⟨#[]⟩, .slice none 0 0] 46 (0, 0)) := by
    rw [← hW, ← hz]
    have h := heap_alloc_new (w.alloc (.cells #[.int .i64 mx, .string D, .slice a n c] 55)) (.cells #[.int .i64 0, .string ⟨#[]⟩, .slice none 0 0] 46)
    exact (Below.heap_alloc _ _ _ (by simp)).trans (by simpa using h)
  have hg0 : W.heap[z + 1 + 1]? = some (.cells #[.int .i64 0, .string ⟨#[]⟩, .slice none 0 0] 46 (0, 0)) := by
    rw [← hW, ← hz]
    have h := heap_alloc_new ((w.alloc (.cells #[.int .i64 mx, .string D, .slice a n c] 55)).alloc (.cells #[.int .i64 0, .string ⟨#[]⟩, .slice none 0 0] 46)) (.cells #[.int .i64 0, .string ⟨#[]⟩, .slice none 0 0] 46)
    simpa using h
  have HB0 : Hid (Below w.heap.size w W) := hb0
  have HZ : Hid (w.heap.size = z) := hz
  rw [hW, hz]
  clear hb0 hW hz
  refine (A _).mono ?_
  rintro e w1 ⟨rfl, hb1⟩
  have hx1 := (hb1.block z (lt_of_block hx0)).trans hx0
  have hr1 := (hb1.block (z + 1) (lt_of_block hr0)).trans hr0
  have hg1 := (hb1.block (z + 1 + 1) (lt_of_block hg0)).trans hg0
  have HB1 : Hid (Below w.heap.size w w1) := bel_step HB0.out hb1
  clear hb1 hx0 hr0 hg0 HB0 A
  have c2 := (cell_of_block hx1 2).trans rfl
  have d0 := (cell_of_block hg1 0).trans rfl
  have d1 := (cell_of_block hg1 1).trans rfl
  have f0 := free_of_block hg1 0
  have f1 := free_of_block hg1 1
  go_wp2_with fail
  obtain ⟨W2, hW2⟩ : ∃ W, (w1.setCell ⟨z + 1 + 1, 0, none⟩ (.int .i64 mx)).setCell ⟨z + 1 + 1, 1, none⟩ (.string D) = W := ⟨_, rfl⟩
  have hle : w.heap.size ≤ z + 1 + 1 := by have := HZ.out; omega
  have hr2 : W2.heap[z + 1]? = some (.cells #[.int .i64 0, .string ⟨#[]⟩, .slice none 0 0] 46 (0, 0)) := by
    rw [← hW2]; exact (heap_setCell_other _ ⟨z + 1 + 1, 1, none⟩ (z + 1) _ (show z + 1 ≠ z + 1 + 1 by omega)).trans ((heap_setCell_other _ ⟨z + 1 + 1, 0, none⟩ (z + 1) _ (show z + 1 ≠ z + 1 + 1 by omega)).trans hr1)
  have hg2 : W2.heap[z + 1 + 1]? = some (.cells #[.int .i64 mx, .string D, .slice none 0 0] 46 (0, 0)) := by
    rw [← hW2]; exact heap_setCell_same _ _ _ _ _ _ (heap_setCell_same _ _ _ _ _ _ hg1)
  have HB2 : Hid (Below w.heap.size w W2) := by unfold Hid; rw [← hW2]; exact (HB1.out.setCell hle _).setCell hle _
  have T2 := Bq.out W2 HB2.out
  obtain ⟨z2, hz2⟩ : ∃ z, W2.heap.size = z := ⟨_, rfl⟩
  have hzz : z + 1 + 1 < z2 := by rw [← hz2]; exact lt_of_block hg2
  rw [hz2] at T2
  rw [hW2]
  clear hW2 HB1 hx1 hg1 hr1 c2 d0 d1 f0 f1 Bq
  refine T2.mono ?_
  rintro e w3 ⟨rfl, hl3, hI3, hb3⟩
  have hg3 := (hb3.block (z + 1 + 1) (by omega)).trans hg2
  have hr3 := (hb3.block (z + 1) (by omega)).trans hr2
  have HB3 : Hid (Below w.heap.size w w3) := HB2.out.trans (hb3.mono (by have := HB2.out.size; omega))
  have HJ3 : Hid (Wds w3 (some ⟨z2, 0, none⟩) L) := hI3
  clear T2 hb3 hg2 hr2 HB2 hI3 hz2
  have g0 := (cell_of_block hg3 0).trans rfl
  have g1 := (cell_of_block hg3 1).trans rfl
  have g2 := (cell_of_block hg3 2).trans rfl
  have f2 := free_of_block hg3 2
  have q0 := (cell_of_block hr3 0).trans rfl
  have q1 := (cell_of_block hr3 1).trans rfl
  have q2 := (cell_of_block hr3 2).trans rfl
  have k0 := free_of_block hr3 0
  have k1 := free_of_block hr3 1
  have k2 := free_of_block hr3 2
  go_wp2
  have hle2 : w.heap.size ≤ z + 1 := by have := HZ.out; omega
  refine bodyPost_ret (v := .agg #[.int .i64 mx, .string D, .slice (some ⟨z2, 0, none⟩) n n]) (by simp [results, Try.results28, go_sem, q0, q1, q2]) rfl ⟨some ⟨z2, 0, none⟩, n, rfl, ?_, ?_⟩
  · unfold Hid
    repeat refine Wds.set ?_ (by omega) _ _
    exact HJ3.out
  · repeat (first | refine Below.setCell ?_ hle _ | refine Below.setCell ?_ hle2 _)
    exact HB3.out

set_option maxRecDepth 100000 in
set_option maxHeartbeats 1600000 in
theorem eqMem8 (mx : Int) (D : ByteArray) (w : World) :
    Calls Try.prog 48 #[.agg #[.int .i64 mx, .string D], .agg #[.int .i64 mx, .string D]] w fun e w' => e = .returned (.bool true) ∧ Below w.heap.size w w' := by
  go_enter Try.func48, Try.ntmps48
  go_wp2
  go_ret
  exact ⟨rfl, ((Below.refl _ _).alloc (Nat.le_refl _) _).alloc (by simp) _⟩

set_option maxRecDepth 100000 in
set_option maxHeartbeats 1600000 in
theorem eqSt (mx : Int) (D : ByteArray) (a a' : Option Addr) (c c' : Nat) (L : List Wd8) (w : World) (hL : Hid (Wds w a L)) (hL' : Hid (Wds w a' L)) (hlen : L.length ≤ 1048576) :
    Calls Try.prog 22 #[.agg #[.int .i64 mx, .string D, .slice a L.length c], .agg #[.int .i64 mx, .string D, .slice a' L.length c']] w fun e w' => e = .returned (.bool true) ∧ Below w.heap.size w w' := by
  have A := eqMem8 mx D
  have Bq : Hid (∀ w', Below w.heap.size w w' → Calls Try.prog 49 #[.slice a L.length c, .slice a' L.length c'] w' fun e w'' => e = .returned (.bool true) ∧ Below w'.heap.size w' w'') := fun w' hb => eqWds a a' c c' L w' (hL.out.below hb) (hL'.out.below hb) (by omega)
  obtain ⟨n, hn⟩ : ∃ n, L.length = n := ⟨_, rfl⟩
  rw [hn] at Bq ⊢
  clear hn hL hL' hlen
  go_enter Try.func22, Try.ntmps22
  go_wp2_with fail
  refine (A _).mono ?_
  rintro e w1 ⟨rfl, hb1⟩
  have hx1 := (hb1.block w.heap.size (by simp; omega)).trans ((Below.heap_alloc _ _ _ (by simp)).trans (heap_alloc_new _ _))
  have hy0 := heap_alloc_new (w.alloc (.cells #[.int .i64 mx, .string D, .slice a n c] 46)) (.cells #[.int .i64 mx, .string D, .slice a' n c'] 46)
  have hsz : (w.alloc (.cells #[.int .i64 mx, .string D, .slice a n c] 46)).heap.size = w.heap.size + 1 := by simp
  rw [hsz] at hy0
  have hy1 := (hb1.block (w.heap.size + 1) (by simp)).trans hy0
  have HB1 : Hid (Below w.heap.size w w1) := bel_step (((Below.refl _ _).alloc (Nat.le_refl _) _).alloc (by simp) _) hb1
  have x2 := (cell_of_block hx1 2).trans rfl
  have y2 := (cell_of_block hy1 2).trans rfl
  clear hb1 A hx1 hy1 hy0 hsz
  go_wp2_with fail
  refine (Bq.out _ HB1.out).mono ?_
  rintro e w2 ⟨rfl, hb2⟩
  have HB2 : Hid (Below w.heap.size w w2) := bel_step HB1.out hb2
  clear hb2 Bq x2 y2
  go_wp2
  go_ret
  exact ⟨rfl, HB2.out⟩

end Go.Proofs.Ytbliopgdkphoaaa
