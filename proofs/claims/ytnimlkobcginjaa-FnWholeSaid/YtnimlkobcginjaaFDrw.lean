/-
  Floats that are drawn: a kind, and any bits.
-/
import Derived.Test.YtnimlkobcginjaaCurW
import Derived.Test.YtnimlkobcginjaaQChain
import Derived.Test.YtnimlkobcginjaaQStep
import Derived.Test.YtnimlkobcginjaaFOfI
namespace Go.Proofs.Ytnimlkobcginjaa
open Go.RowKit

theorem Aft.of_below {B g : Nat} {w w' : World} (h : Below w.heap.size w w') (hB : B ≤ w.heap.size) : Aft B g w w' := ⟨h.mono hB, h.size, fun b _ hb => h.block b hb⟩

theorem w32_lo (x : Int) : 0 ≤ IntKind.u32.wrap x := by rw [wr_u32]; omega
theorem w32_hi (x : Int) : IntKind.u32.wrap x ≤ 4294967295 := by rw [wr_u32]; omega

theorem curOfInt16 (n : Int) (n0 : -9223372036854775808 ≤ n) (n1 : n ≤ 9223372036854775807) (w : World) :
    Calls Try.prog 100 #[(.agg #[.int .u64 5, .int .u64 10]), .int .i64 n] w fun e w' => (∃ r : Int, 0 ≤ r ∧ r ≤ 4294967295 ∧ e = .returned (.int .u32 r)) ∧ Below w.heap.size w w' := by
  obtain ⟨A, hA⟩ : ∃ A : Nat, (A : Int) = if n < 0 then -n else n := by
    by_cases h : n < 0
    · exact ⟨(-n).toNat, by rw [if_pos h]; omega⟩
    · exact ⟨n.toNat, by rw [if_neg h]; omega⟩
  refine (ofIntSpec16 n n0 n1 A hA w).mono ?_
  rintro e w' ⟨⟨j, _, _, _, rfl⟩, hb⟩
  refine ⟨⟨_, ?_, ?_, rfl⟩, hb⟩
  · cases decide (n < 0) <;> simp <;> omega
  · cases decide (n < 0) <;> simp <;> omega

theorem curOfInt32 (n : Int) (n0 : -9223372036854775808 ≤ n) (n1 : n ≤ 9223372036854775807) (w : World) :
    Calls Try.prog 100 #[(.agg #[.int .u64 8, .int .u64 23]), .int .i64 n] w fun e w' => (∃ r : Int, 0 ≤ r ∧ r ≤ 4294967295 ∧ e = .returned (.int .u32 r)) ∧ Below w.heap.size w w' := by
  obtain ⟨A, hA⟩ : ∃ A : Nat, (A : Int) = if n < 0 then -n else n := by
    by_cases h : n < 0
    · exact ⟨(-n).toNat, by rw [if_pos h]; omega⟩
    · exact ⟨n.toNat, by rw [if_neg h]; omega⟩
  refine (ofIntSpec32 n n0 n1 A hA w).mono ?_
  rintro e w' ⟨⟨j, _, _, _, rfl⟩, hb⟩
  refine ⟨⟨_, ?_, ?_, rfl⟩, hb⟩
  · cases decide (n < 0) <;> simp <;> omega
  · cases decide (n < 0) <;> simp <;> omega

set_option maxHeartbeats 1000000 in
theorem curKind (g : Nat) (a : Option Addr) (n cap B m : Nat) (hm : Hid (m ≤ 800000)) (w : World) (C : Cur w g a n cap B m) :
    Calls Try.prog 76 #[.pointer (some ⟨g, 0, none⟩)] w fun e w' => ∃ r : Int, (r = 16 ∨ r = 32 ∨ r = 64) ∧ e = .returned (.int .i64 r) ∧ Cur w' g a n cap B (m + 4) ∧ Aft B g w w' := by
  go_enter Try.func76, Try.ntmps76
  go_wp2_with fail
  refine (curOne 40 (by omega) (by omega) g a n cap B m (hid_le (by have := hm.out; omega)) w C).mono ?_
  rintro e w1 ⟨o, rfl, C1, B1⟩
  cases o
  · go_wp2_with fail
    refine (curPick 2 (by omega) (by omega) g a n cap B (m + 2) (hid_le (by have := hm.out; omega)) w1 C1).mono ?_
    rintro e w2 ⟨q, q0, q1, rfl, C2, B2⟩
    go_wp2
    go_ret
    exact ⟨16 + 16 * q, by omega, by first | rfl | (congr 2; omega), C2, B1.trans B2⟩
  · go_wp2
    go_ret
    exact ⟨64, by omega, rfl, C1.more (by omega), B1⟩

set_option maxHeartbeats 2000000 in
theorem curFloat16 (g : Nat) (a : Option Addr) (n cap B m : Nat) (hm : Hid (m ≤ 800000)) (w : World) (C : Cur w g a n cap B m) :
    Calls Try.prog 77 #[.pointer (some ⟨g, 0, none⟩), .int .i64 16] w fun e w' => ∃ r : Int, 0 ≤ r ∧ r ≤ 4294967295 ∧ e = .returned (.int .u32 r) ∧ Cur w' g a n cap B (m + 20) ∧ Aft B g w w' := by
  go_enter Try.func77, Try.ntmps77
  go_wp2_with fail
  refine (curWide g a n cap B m (hid_le (by have := hm.out; omega)) w C).mono ?_
  rintro e w1 ⟨x, _, _, rfl, C1, B1⟩
  go_wp2_with fail
  refine (curPick 8 (by omega) (by omega) g a n cap B (m + 8) (hid_le (by have := hm.out; omega)) w1 C1).mono ?_
  rintro e w2 ⟨p, p0, p1, rfl, C2, B2⟩
  have hl2 := C2.lt
  have hB2 := C2.hg
  by_cases h0 : p = 0
  · subst h0
    go_wp2_with fail
    refine (curAmong w2.heap.size 10 (by omega) (by omega) g a n cap B (m + 8 + 2) (hid_le (by have := hm.out; omega)) _ (C2.alloc _) (row_new w2 [.int .i64 0, .int .i64 1, .int .i64 15360, .int .i64 31743, .int .i64 31744, .int .i64 32256, .int .i64 32768, .int .i64 1024, .int .i64 1023, .int .i64 64512] _ (by decide)) (by simp) (by have := C2.lt; omega)).mono ?_
    rintro e w3 ⟨qw3, _, _, rfl, C3, B3⟩
    go_wp2
    go_ret
    exact ⟨_, w32_lo _, w32_hi _, rfl, C3.more (by omega), ((B1.trans B2).trans (Aft.alloc (by omega) _)).trans B3⟩
  · have k0 : (p == 0) = false := by simp [h0]
    by_cases h12 : p = 1 ∨ p = 2
    · rcases h12 with rfl | rfl
      · go_wp2_with fail
        refine (l4Kind16 _).mono ?_
        rintro e w3 ⟨rfl, B3⟩
        have C3 := C2.kept B3
        have hl3 := C3.lt
        have hz3 := B3.size
        go_wp2_with fail
        obtain ⟨W, hW⟩ : ∃ W, w3.alloc (.cells #[.int .u64 5, .int .u64 10] 97) = W := ⟨_, rfl⟩
        have C4 : Cur W g a n cap B (m + 8 + 2) := by rw [← hW]; exact C3.alloc _
        have A4 : Aft B g w2 W := by rw [← hW]; exact (Aft.of_below B3 (by omega)).trans (Aft.alloc (by omega) _)
        obtain ⟨kb, hkb⟩ : ∃ kb, w3.heap.size = kb := ⟨_, rfl⟩
        have hK : W.heap[kb]? = some (.cells #[.int .u64 5, .int .u64 10] 97 (0, 0)) := by rw [← hW, ← hkb]; exact heap_alloc_new w3 _
        rw [hW, hkb]
        have hne : kb ≠ g := by omega
        have hkl : kb < W.heap.size := (Array.getElem?_eq_some_iff.1 hK).1
        clear hW hkb
        refine wa_begin (by kernel_rfl) ?_
        refine wa_take 1 (some 35) (.pointer (some ⟨g, 0, none⟩)) rfl rfl (by kernel_rfl) (by kernel_rfl) (by kernel_rfl) (fun _ _ _ h => h) (by rfl) (fun _ => by rfl) ?_
        simp only [Act.put, List.setIfInBounds_toArray, List.set_cons_zero, List.set_cons_succ]
        refine wa_first 0 (some 34) (.agg #[.int .u64 5, .int .u64 10]) (fun w' => w'.heap[kb]? = some (.cells #[.int .u64 5, .int .u64 10] 97 (0, 0))) rfl rfl (by kernel_rfl) (by kernel_rfl) (by kernel_rfl) (fun _ _ _ h => h) (by rfl) (fun w' hS => ?_) hK ?_
        · have c0 : w'.cell? ⟨kb, 0, none⟩ = some (.int .u64 5) := by simp [World.cell?, hS]
          have c1 : w'.cell? ⟨kb, 1, none⟩ = some (.int .u64 10) := by simp [World.cell?, hS]
          clear hS
          go_simp
        simp only [Act.put, List.setIfInBounds_toArray, List.set_cons_zero, List.set_cons_succ]
        refine wb_call 2 (some 36) 53 #[.pointer (some ⟨g, 0, none⟩), .int .i64 300] (by kernel_rfl) (by kernel_rfl) rfl rfl (by rfl) (by kernel_rfl) ?_
        refine (curPick 300 (by omega) (by omega) g a n cap B (m + 8 + 2) (hid_le (by have := hm.out; omega)) _ (C4.kept (Below.refl _ _).drew)).mono ?_
        rintro e w5 ⟨r5, r50, r51, rfl, C5, B5⟩
        have hK5 := (B5.blk kb hne hkl).trans hK
        refine ⟨_, rfl, hK5, ?_⟩
        simp only [Act.put, List.setIfInBounds_toArray, List.set_cons_zero, List.set_cons_succ]
        have v5 : IntKind.i64.wrap (r5 - 100) = r5 - 100 := by rw [IntKind.wrap_i64]; omega
        refine wb_val 3 (some 37) (.int .i64 (r5 - 100)) w5 (by kernel_rfl) (by kernel_rfl) rfl rfl (by rfl) (by go_simp) hK5 ?_
        simp only [Act.put, List.setIfInBounds_toArray, List.set_cons_zero, List.set_cons_succ]
        refine wb_leave 4 (some 38) 100 #[.agg #[.int .u64 5, .int .u64 10], .int .i64 (r5 - 100)] (by kernel_rfl) (by kernel_rfl) rfl rfl (by rfl) (by kernel_rfl) ?_
        refine (curOfInt16 (r5 - 100) (by omega) (by omega) w5).mono ?_
        rintro e w6 ⟨⟨r6, r60, r61, rfl⟩, K6⟩
        refine ⟨_, rfl, ?_⟩
        simp only [Act.put, List.setIfInBounds_toArray, List.set_cons_zero, List.set_cons_succ]
        refine wa_take 5 (some 5) (.int .u32 r6) rfl rfl (by kernel_rfl) (by kernel_rfl) (by kernel_rfl) (fun _ _ _ h => h) (by rfl) (fun _ => by rfl) ?_
        simp only [Act.put, List.setIfInBounds_toArray, List.set_cons_zero, List.set_cons_succ]
        refine wa_done (by kernel_rfl) ?_
        have HC : Hid (Cur w6 g a n cap B (m + 20) ∧ Aft B g w w6) := ⟨(C5.kept K6).more (by omega), (((B1.trans B2).trans A4).trans (Aft.of_below (Below.refl _ _).drew (by have := A4.size; omega))).trans (B5.trans (Aft.of_below K6 (by have := C5.hg; have := C5.lt; omega)))⟩
        clear C5 K6 B5 A4 C4 hK5 hK C3 B3
        go_wp2
        go_ret
        exact ⟨r6, r60, r61, rfl, HC.out.1, HC.out.2⟩
      · go_wp2_with fail
        refine (l4Kind16 _).mono ?_
        rintro e w3 ⟨rfl, B3⟩
        have C3 := C2.kept B3
        have hl3 := C3.lt
        have hz3 := B3.size
        go_wp2_with fail
        obtain ⟨W, hW⟩ : ∃ W, w3.alloc (.cells #[.int .u64 5, .int .u64 10] 97) = W := ⟨_, rfl⟩
        have C4 : Cur W g a n cap B (m + 8 + 2) := by rw [← hW]; exact C3.alloc _
        have A4 : Aft B g w2 W := by rw [← hW]; exact (Aft.of_below B3 (by omega)).trans (Aft.alloc (by omega) _)
        obtain ⟨kb, hkb⟩ : ∃ kb, w3.heap.size = kb := ⟨_, rfl⟩
        have hK : W.heap[kb]? = some (.cells #[.int .u64 5, .int .u64 10] 97 (0, 0)) := by rw [← hW, ← hkb]; exact heap_alloc_new w3 _
        rw [hW, hkb]
        have hne : kb ≠ g := by omega
        have hkl : kb < W.heap.size := (Array.getElem?_eq_some_iff.1 hK).1
        clear hW hkb
        refine wa_begin (by kernel_rfl) ?_
        refine wa_take 1 (some 35) (.pointer (some ⟨g, 0, none⟩)) rfl rfl (by kernel_rfl) (by kernel_rfl) (by kernel_rfl) (fun _ _ _ h => h) (by rfl) (fun _ => by rfl) ?_
        simp only [Act.put, List.setIfInBounds_toArray, List.set_cons_zero, List.set_cons_succ]
        refine wa_first 0 (some 34) (.agg #[.int .u64 5, .int .u64 10]) (fun w' => w'.heap[kb]? = some (.cells #[.int .u64 5, .int .u64 10] 97 (0, 0))) rfl rfl (by kernel_rfl) (by kernel_rfl) (by kernel_rfl) (fun _ _ _ h => h) (by rfl) (fun w' hS => ?_) hK ?_
        · have c0 : w'.cell? ⟨kb, 0, none⟩ = some (.int .u64 5) := by simp [World.cell?, hS]
          have c1 : w'.cell? ⟨kb, 1, none⟩ = some (.int .u64 10) := by simp [World.cell?, hS]
          clear hS
          go_simp
        simp only [Act.put, List.setIfInBounds_toArray, List.set_cons_zero, List.set_cons_succ]
        refine wb_call 2 (some 36) 53 #[.pointer (some ⟨g, 0, none⟩), .int .i64 300] (by kernel_rfl) (by kernel_rfl) rfl rfl (by rfl) (by kernel_rfl) ?_
        refine (curPick 300 (by omega) (by omega) g a n cap B (m + 8 + 2) (hid_le (by have := hm.out; omega)) _ (C4.kept (Below.refl _ _).drew)).mono ?_
        rintro e w5 ⟨r5, r50, r51, rfl, C5, B5⟩
        have hK5 := (B5.blk kb hne hkl).trans hK
        refine ⟨_, rfl, hK5, ?_⟩
        simp only [Act.put, List.setIfInBounds_toArray, List.set_cons_zero, List.set_cons_succ]
        have v5 : IntKind.i64.wrap (r5 - 100) = r5 - 100 := by rw [IntKind.wrap_i64]; omega
        refine wb_val 3 (some 37) (.int .i64 (r5 - 100)) w5 (by kernel_rfl) (by kernel_rfl) rfl rfl (by rfl) (by go_simp) hK5 ?_
        simp only [Act.put, List.setIfInBounds_toArray, List.set_cons_zero, List.set_cons_succ]
        refine wb_leave 4 (some 38) 100 #[.agg #[.int .u64 5, .int .u64 10], .int .i64 (r5 - 100)] (by kernel_rfl) (by kernel_rfl) rfl rfl (by rfl) (by kernel_rfl) ?_
        refine (curOfInt16 (r5 - 100) (by omega) (by omega) w5).mono ?_
        rintro e w6 ⟨⟨r6, r60, r61, rfl⟩, K6⟩
        refine ⟨_, rfl, ?_⟩
        simp only [Act.put, List.setIfInBounds_toArray, List.set_cons_zero, List.set_cons_succ]
        refine wa_take 5 (some 5) (.int .u32 r6) rfl rfl (by kernel_rfl) (by kernel_rfl) (by kernel_rfl) (fun _ _ _ h => h) (by rfl) (fun _ => by rfl) ?_
        simp only [Act.put, List.setIfInBounds_toArray, List.set_cons_zero, List.set_cons_succ]
        refine wa_done (by kernel_rfl) ?_
        have HC : Hid (Cur w6 g a n cap B (m + 20) ∧ Aft B g w w6) := ⟨(C5.kept K6).more (by omega), (((B1.trans B2).trans A4).trans (Aft.of_below (Below.refl _ _).drew (by have := A4.size; omega))).trans (B5.trans (Aft.of_below K6 (by have := C5.hg; have := C5.lt; omega)))⟩
        clear C5 K6 B5 A4 C4 hK5 hK C3 B3
        go_wp2
        go_ret
        exact ⟨r6, r60, r61, rfl, HC.out.1, HC.out.2⟩
    · have k1 : (p == 1) = false := by simp; omega
      have k2 : (p == 2) = false := by simp; omega
      by_cases h3 : p = 3
      · subst h3
        go_wp2_with fail
        refine (curWide g a n cap B (m + 8 + 2) (hid_le (by have := hm.out; omega)) w2 C2).mono ?_
        rintro e w3 ⟨y, _, _, rfl, C3, B3⟩
        go_wp2
        go_ret
        exact ⟨_, w32_lo _, w32_hi _, rfl, C3.more (by omega), (B1.trans B2).trans B3⟩
      · have k3 : (p == 3) = false := by simp [h3]
        go_wp2
        go_ret
        exact ⟨_, w32_lo _, w32_hi _, rfl, C2.more (by omega), B1.trans B2⟩

set_option maxHeartbeats 2000000 in
theorem curFloat32 (g : Nat) (a : Option Addr) (n cap B m : Nat) (hm : Hid (m ≤ 800000)) (w : World) (C : Cur w g a n cap B m) :
    Calls Try.prog 77 #[.pointer (some ⟨g, 0, none⟩), .int .i64 32] w fun e w' => ∃ r : Int, 0 ≤ r ∧ r ≤ 4294967295 ∧ e = .returned (.int .u32 r) ∧ Cur w' g a n cap B (m + 20) ∧ Aft B g w w' := by
  go_enter Try.func77, Try.ntmps77
  go_wp2_with fail
  refine (curWide g a n cap B m (hid_le (by have := hm.out; omega)) w C).mono ?_
  rintro e w1 ⟨x, _, _, rfl, C1, B1⟩
  go_wp2_with fail
  refine (curPick 8 (by omega) (by omega) g a n cap B (m + 8) (hid_le (by have := hm.out; omega)) w1 C1).mono ?_
  rintro e w2 ⟨p, p0, p1, rfl, C2, B2⟩
  have hl2 := C2.lt
  have hB2 := C2.hg
  by_cases h0 : p = 0
  · subst h0
    go_wp2_with fail
    refine (curAmong w2.heap.size 10 (by omega) (by omega) g a n cap B (m + 8 + 2) (hid_le (by have := hm.out; omega)) _ (C2.alloc _) (row_new w2 [.int .i64 0, .int .i64 1, .int .i64 15360, .int .i64 31743, .int .i64 31744, .int .i64 32256, .int .i64 32768, .int .i64 1024, .int .i64 1023, .int .i64 64512] _ (by decide)) (by simp) (by have := C2.lt; omega)).mono ?_
    rintro e w3 ⟨qw3, _, _, rfl, C3, B3⟩
    go_wp2_with fail
    refine (curAmong w3.heap.size 10 (by omega) (by omega) g a n cap B (m + 8 + 2 + 2) (hid_le (by have := hm.out; omega)) _ (C3.alloc _) (row_new w3 [.int .i64 0, .int .i64 1, .int .i64 1065353216, .int .i64 2139095039, .int .i64 2139095040, .int .i64 2143289344, .int .i64 2147483648, .int .i64 8388608, .int .i64 8388607, .int .i64 4286578688] _ (by decide)) (by simp) (by have := C3.lt; omega)).mono ?_
    rintro e w4 ⟨qw4, _, _, rfl, C4, B4⟩
    go_wp2
    go_ret
    exact ⟨_, w32_lo _, w32_hi _, rfl, C4.more (by omega), ((((B1.trans B2).trans (Aft.alloc (by omega) _)).trans B3).trans (Aft.alloc (by have := C3.hg; have := C3.lt; omega) _)).trans B4⟩
  · have k0 : (p == 0) = false := by simp [h0]
    by_cases h12 : p = 1 ∨ p = 2
    · rcases h12 with rfl | rfl
      · go_wp2_with fail
        refine (l4Kind32 _).mono ?_
        rintro e w3 ⟨rfl, B3⟩
        have C3 := C2.kept B3
        have hl3 := C3.lt
        have hz3 := B3.size
        go_wp2_with fail
        obtain ⟨W, hW⟩ : ∃ W, w3.alloc (.cells #[.int .u64 8, .int .u64 23] 97) = W := ⟨_, rfl⟩
        have C4 : Cur W g a n cap B (m + 8 + 2) := by rw [← hW]; exact C3.alloc _
        have A4 : Aft B g w2 W := by rw [← hW]; exact (Aft.of_below B3 (by omega)).trans (Aft.alloc (by omega) _)
        obtain ⟨kb, hkb⟩ : ∃ kb, w3.heap.size = kb := ⟨_, rfl⟩
        have hK : W.heap[kb]? = some (.cells #[.int .u64 8, .int .u64 23] 97 (0, 0)) := by rw [← hW, ← hkb]; exact heap_alloc_new w3 _
        rw [hW, hkb]
        have hne : kb ≠ g := by omega
        have hkl : kb < W.heap.size := (Array.getElem?_eq_some_iff.1 hK).1
        clear hW hkb
        refine wa_begin (by kernel_rfl) ?_
        refine wa_take 1 (some 35) (.pointer (some ⟨g, 0, none⟩)) rfl rfl (by kernel_rfl) (by kernel_rfl) (by kernel_rfl) (fun _ _ _ h => h) (by rfl) (fun _ => by rfl) ?_
        simp only [Act.put, List.setIfInBounds_toArray, List.set_cons_zero, List.set_cons_succ]
        refine wa_first 0 (some 34) (.agg #[.int .u64 8, .int .u64 23]) (fun w' => w'.heap[kb]? = some (.cells #[.int .u64 8, .int .u64 23] 97 (0, 0))) rfl rfl (by kernel_rfl) (by kernel_rfl) (by kernel_rfl) (fun _ _ _ h => h) (by rfl) (fun w' hS => ?_) hK ?_
        · have c0 : w'.cell? ⟨kb, 0, none⟩ = some (.int .u64 8) := by simp [World.cell?, hS]
          have c1 : w'.cell? ⟨kb, 1, none⟩ = some (.int .u64 23) := by simp [World.cell?, hS]
          clear hS
          go_simp
        simp only [Act.put, List.setIfInBounds_toArray, List.set_cons_zero, List.set_cons_succ]
        refine wb_call 2 (some 36) 53 #[.pointer (some ⟨g, 0, none⟩), .int .i64 300] (by kernel_rfl) (by kernel_rfl) rfl rfl (by rfl) (by kernel_rfl) ?_
        refine (curPick 300 (by omega) (by omega) g a n cap B (m + 8 + 2) (hid_le (by have := hm.out; omega)) _ (C4.kept (Below.refl _ _).drew)).mono ?_
        rintro e w5 ⟨r5, r50, r51, rfl, C5, B5⟩
        have hK5 := (B5.blk kb hne hkl).trans hK
        refine ⟨_, rfl, hK5, ?_⟩
        simp only [Act.put, List.setIfInBounds_toArray, List.set_cons_zero, List.set_cons_succ]
        have v5 : IntKind.i64.wrap (r5 - 100) = r5 - 100 := by rw [IntKind.wrap_i64]; omega
        refine wb_val 3 (some 37) (.int .i64 (r5 - 100)) w5 (by kernel_rfl) (by kernel_rfl) rfl rfl (by rfl) (by go_simp) hK5 ?_
        simp only [Act.put, List.setIfInBounds_toArray, List.set_cons_zero, List.set_cons_succ]
        refine wb_leave 4 (some 38) 100 #[.agg #[.int .u64 8, .int .u64 23], .int .i64 (r5 - 100)] (by kernel_rfl) (by kernel_rfl) rfl rfl (by rfl) (by kernel_rfl) ?_
        refine (curOfInt32 (r5 - 100) (by omega) (by omega) w5).mono ?_
        rintro e w6 ⟨⟨r6, r60, r61, rfl⟩, K6⟩
        refine ⟨_, rfl, ?_⟩
        simp only [Act.put, List.setIfInBounds_toArray, List.set_cons_zero, List.set_cons_succ]
        refine wa_take 5 (some 5) (.int .u32 r6) rfl rfl (by kernel_rfl) (by kernel_rfl) (by kernel_rfl) (fun _ _ _ h => h) (by rfl) (fun _ => by rfl) ?_
        simp only [Act.put, List.setIfInBounds_toArray, List.set_cons_zero, List.set_cons_succ]
        refine wa_done (by kernel_rfl) ?_
        have HC : Hid (Cur w6 g a n cap B (m + 20) ∧ Aft B g w w6) := ⟨(C5.kept K6).more (by omega), (((B1.trans B2).trans A4).trans (Aft.of_below (Below.refl _ _).drew (by have := A4.size; omega))).trans (B5.trans (Aft.of_below K6 (by have := C5.hg; have := C5.lt; omega)))⟩
        clear C5 K6 B5 A4 C4 hK5 hK C3 B3
        go_wp2
        go_ret
        exact ⟨r6, r60, r61, rfl, HC.out.1, HC.out.2⟩
      · go_wp2_with fail
        refine (l4Kind32 _).mono ?_
        rintro e w3 ⟨rfl, B3⟩
        have C3 := C2.kept B3
        have hl3 := C3.lt
        have hz3 := B3.size
        go_wp2_with fail
        obtain ⟨W, hW⟩ : ∃ W, w3.alloc (.cells #[.int .u64 8, .int .u64 23] 97) = W := ⟨_, rfl⟩
        have C4 : Cur W g a n cap B (m + 8 + 2) := by rw [← hW]; exact C3.alloc _
        have A4 : Aft B g w2 W := by rw [← hW]; exact (Aft.of_below B3 (by omega)).trans (Aft.alloc (by omega) _)
        obtain ⟨kb, hkb⟩ : ∃ kb, w3.heap.size = kb := ⟨_, rfl⟩
        have hK : W.heap[kb]? = some (.cells #[.int .u64 8, .int .u64 23] 97 (0, 0)) := by rw [← hW, ← hkb]; exact heap_alloc_new w3 _
        rw [hW, hkb]
        have hne : kb ≠ g := by omega
        have hkl : kb < W.heap.size := (Array.getElem?_eq_some_iff.1 hK).1
        clear hW hkb
        refine wa_begin (by kernel_rfl) ?_
        refine wa_take 1 (some 35) (.pointer (some ⟨g, 0, none⟩)) rfl rfl (by kernel_rfl) (by kernel_rfl) (by kernel_rfl) (fun _ _ _ h => h) (by rfl) (fun _ => by rfl) ?_
        simp only [Act.put, List.setIfInBounds_toArray, List.set_cons_zero, List.set_cons_succ]
        refine wa_first 0 (some 34) (.agg #[.int .u64 8, .int .u64 23]) (fun w' => w'.heap[kb]? = some (.cells #[.int .u64 8, .int .u64 23] 97 (0, 0))) rfl rfl (by kernel_rfl) (by kernel_rfl) (by kernel_rfl) (fun _ _ _ h => h) (by rfl) (fun w' hS => ?_) hK ?_
        · have c0 : w'.cell? ⟨kb, 0, none⟩ = some (.int .u64 8) := by simp [World.cell?, hS]
          have c1 : w'.cell? ⟨kb, 1, none⟩ = some (.int .u64 23) := by simp [World.cell?, hS]
          clear hS
          go_simp
        simp only [Act.put, List.setIfInBounds_toArray, List.set_cons_zero, List.set_cons_succ]
        refine wb_call 2 (some 36) 53 #[.pointer (some ⟨g, 0, none⟩), .int .i64 300] (by kernel_rfl) (by kernel_rfl) rfl rfl (by rfl) (by kernel_rfl) ?_
        refine (curPick 300 (by omega) (by omega) g a n cap B (m + 8 + 2) (hid_le (by have := hm.out; omega)) _ (C4.kept (Below.refl _ _).drew)).mono ?_
        rintro e w5 ⟨r5, r50, r51, rfl, C5, B5⟩
        have hK5 := (B5.blk kb hne hkl).trans hK
        refine ⟨_, rfl, hK5, ?_⟩
        simp only [Act.put, List.setIfInBounds_toArray, List.set_cons_zero, List.set_cons_succ]
        have v5 : IntKind.i64.wrap (r5 - 100) = r5 - 100 := by rw [IntKind.wrap_i64]; omega
        refine wb_val 3 (some 37) (.int .i64 (r5 - 100)) w5 (by kernel_rfl) (by kernel_rfl) rfl rfl (by rfl) (by go_simp) hK5 ?_
        simp only [Act.put, List.setIfInBounds_toArray, List.set_cons_zero, List.set_cons_succ]
        refine wb_leave 4 (some 38) 100 #[.agg #[.int .u64 8, .int .u64 23], .int .i64 (r5 - 100)] (by kernel_rfl) (by kernel_rfl) rfl rfl (by rfl) (by kernel_rfl) ?_
        refine (curOfInt32 (r5 - 100) (by omega) (by omega) w5).mono ?_
        rintro e w6 ⟨⟨r6, r60, r61, rfl⟩, K6⟩
        refine ⟨_, rfl, ?_⟩
        simp only [Act.put, List.setIfInBounds_toArray, List.set_cons_zero, List.set_cons_succ]
        refine wa_take 5 (some 5) (.int .u32 r6) rfl rfl (by kernel_rfl) (by kernel_rfl) (by kernel_rfl) (fun _ _ _ h => h) (by rfl) (fun _ => by rfl) ?_
        simp only [Act.put, List.setIfInBounds_toArray, List.set_cons_zero, List.set_cons_succ]
        refine wa_done (by kernel_rfl) ?_
        have HC : Hid (Cur w6 g a n cap B (m + 20) ∧ Aft B g w w6) := ⟨(C5.kept K6).more (by omega), (((B1.trans B2).trans A4).trans (Aft.of_below (Below.refl _ _).drew (by have := A4.size; omega))).trans (B5.trans (Aft.of_below K6 (by have := C5.hg; have := C5.lt; omega)))⟩
        clear C5 K6 B5 A4 C4 hK5 hK C3 B3
        go_wp2
        go_ret
        exact ⟨r6, r60, r61, rfl, HC.out.1, HC.out.2⟩
    · have k1 : (p == 1) = false := by simp; omega
      have k2 : (p == 2) = false := by simp; omega
      by_cases h3 : p = 3
      · subst h3
        go_wp2_with fail
        refine (curWide g a n cap B (m + 8 + 2) (hid_le (by have := hm.out; omega)) w2 C2).mono ?_
        rintro e w3 ⟨y, _, _, rfl, C3, B3⟩
        go_wp2
        go_ret
        exact ⟨_, w32_lo _, w32_hi _, rfl, C3.more (by omega), (B1.trans B2).trans B3⟩
      · have k3 : (p == 3) = false := by simp [h3]
        go_wp2
        go_ret
        exact ⟨_, w32_lo _, w32_hi _, rfl, C2.more (by omega), B1.trans B2⟩

set_option maxHeartbeats 2000000 in
theorem curFloat64 (g : Nat) (a : Option Addr) (n cap B m : Nat) (hm : Hid (m ≤ 800000)) (w : World) (C : Cur w g a n cap B m) :
    Calls Try.prog 77 #[.pointer (some ⟨g, 0, none⟩), .int .i64 64] w fun e w' => ∃ r : Int, 0 ≤ r ∧ r ≤ 4294967295 ∧ e = .returned (.int .u32 r) ∧ Cur w' g a n cap B (m + 20) ∧ Aft B g w w' := by
  go_enter Try.func77, Try.ntmps77
  go_wp2_with fail
  refine (curWide g a n cap B m (hid_le (by have := hm.out; omega)) w C).mono ?_
  rintro e w1 ⟨x, _, _, rfl, C1, B1⟩
  go_wp2_with fail
  refine (curPick 8 (by omega) (by omega) g a n cap B (m + 8) (hid_le (by have := hm.out; omega)) w1 C1).mono ?_
  rintro e w2 ⟨p, p0, p1, rfl, C2, B2⟩
  have hl2 := C2.lt
  have hB2 := C2.hg
  by_cases h0 : p = 0
  · subst h0
    go_wp2_with fail
    refine (curAmong w2.heap.size 10 (by omega) (by omega) g a n cap B (m + 8 + 2) (hid_le (by have := hm.out; omega)) _ (C2.alloc _) (row_new w2 [.int .i64 0, .int .i64 1, .int .i64 15360, .int .i64 31743, .int .i64 31744, .int .i64 32256, .int .i64 32768, .int .i64 1024, .int .i64 1023, .int .i64 64512] _ (by decide)) (by simp) (by have := C2.lt; omega)).mono ?_
    rintro e w3 ⟨qw3, _, _, rfl, C3, B3⟩
    go_wp2
    go_ret
    exact ⟨_, w32_lo _, w32_hi _, rfl, C3.more (by omega), ((B1.trans B2).trans (Aft.alloc (by omega) _)).trans B3⟩
  · have k0 : (p == 0) = false := by simp [h0]
    by_cases h12 : p = 1 ∨ p = 2
    · rcases h12 with rfl | rfl
      · go_wp2_with fail
        refine (l4KindNo 64 (by decide) (by decide) _).mono ?_
        rintro e w3 ⟨rfl, B3⟩
        go_wp2
        go_ret
        exact ⟨_, w32_lo _, w32_hi _, rfl, ((C2.kept B3).alloc _).more (by omega), ((B1.trans B2).trans (Aft.of_below B3 (by omega))).trans (Aft.alloc (by have := B3.size; omega) _)⟩
      · go_wp2_with fail
        refine (l4KindNo 64 (by decide) (by decide) _).mono ?_
        rintro e w3 ⟨rfl, B3⟩
        go_wp2
        go_ret
        exact ⟨_, w32_lo _, w32_hi _, rfl, ((C2.kept B3).alloc _).more (by omega), ((B1.trans B2).trans (Aft.of_below B3 (by omega))).trans (Aft.alloc (by have := B3.size; omega) _)⟩
    · have k1 : (p == 1) = false := by simp; omega
      have k2 : (p == 2) = false := by simp; omega
      by_cases h3 : p = 3
      · subst h3
        go_wp2_with fail
        refine (curWide g a n cap B (m + 8 + 2) (hid_le (by have := hm.out; omega)) w2 C2).mono ?_
        rintro e w3 ⟨y, _, _, rfl, C3, B3⟩
        go_wp2
        go_ret
        exact ⟨_, w32_lo _, w32_hi _, rfl, C3.more (by omega), (B1.trans B2).trans B3⟩
      · have k3 : (p == 3) = false := by simp [h3]
        go_wp2
        go_ret
        exact ⟨_, w32_lo _, w32_hi _, rfl, C2.more (by omega), B1.trans B2⟩

end Go.Proofs.Ytnimlkobcginjaa
