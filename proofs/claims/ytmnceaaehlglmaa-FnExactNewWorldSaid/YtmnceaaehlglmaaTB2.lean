/-
  Tables in memory: copied, compared, counted; read as they come in.
-/
import Derived.Test.YtmnceaaehlglmaaTB1
namespace Go.Proofs.Ytmnceaaehlglmaa
open Go.ChangeShapes Go.WideShapes Go.ChangeAt Go.RowKit

theorem iv_len (L : List Int) : (iv L).length = L.length := by simp [iv]

set_option maxRecDepth 100000 in
set_option maxHeartbeats 800000 in
theorem toIntsO (a : Option Addr) (cap : Nat) (L : List Int) (w : World) (hL : Hid (Ints w a L)) (hlen : L.length ≤ 1048576) :
    Calls Try.prog 41 #[.slice a L.length cap] w fun e w' => e = .returned (.slice (some ⟨w.heap.size, 0, none⟩) L.length L.length) ∧ w.heap.size < w'.heap.size ∧ w'.ownsRow w.heap.size 3 1 (.slice (some ⟨w.heap.size, 0, none⟩) L.length L.length) L.length (iv L) ∧ Below w.heap.size w w' := by
  obtain ⟨i0, hi, hz0, hz1, hz2⟩ := info_parts Try.info3
  obtain ⟨M, hM⟩ : ∃ M, M = madeCells (Value.int .i64 0).cells (((L.length : Nat) : Int).toNat * i0.size) := ⟨_, rfl⟩
  have hMs : M.size = L.length := by rw [hM, size_madeCells, hz1]; simp
  have hmk : ∀ W : World, (Instr.makeSlice 25 (.int .i64 (L.length : Int)) (.int .i64 (L.length : Int))).run Try.prog W = .ok (.slice (some ⟨W.heap.size, 0, none⟩) L.length L.length) (W.alloc (.cells M 3)) := fun W => by
    have h := run_make (P := Try.prog) W 25 3 i0 _ Try.underlying25 hi hz0 .i64 .i64 (L.length : Int) (L.length : Int) (by omega) (by omega) (by rw [hz2]; omega) (by omega)
    rw [← hM] at h
    simpa using h
  clear hM
  go_enter Try.func41, Try.ntmps41
  go_wp2
  go_loopw [4] (fun i wr => ∃ (k : Nat) (arr : Array Value), k ≤ L.length ∧ i = .int .i64 k ∧ wr.heap[w.heap.size]? = some (.cells arr 3 (0, 0)) ∧ arr.size = L.length ∧ Hid (LaidTo arr (iv L) k) ∧ Below w.heap.size w wr) (fun i _ => L.length - (intOf i).toNat)
  case atStart => exact ⟨0, M, by omega, rfl, heap_alloc_new _ _, hMs, fun j h => absurd h (by omega), (Below.refl _ _).alloc (Nat.le_refl _) _⟩
  case round =>
    clear hmk hMs
    obtain ⟨k, arr, hk, rfl, harr, hsz, hA, hnx⟩ := hrel
    have hgl := lt_of_block harr
    by_cases hlt : k < L.length
    · obtain ⟨b, off, rfl, hb, hc⟩ := hL.out.at k hlt
      obtain ⟨x, hx⟩ : ∃ x, x = L[k] := ⟨_, rfl⟩
      rw [← hx] at hc
      have HX : Hid (x = L[k]) := hx
      clear hx
      have hc0 : wr.cell? ⟨b, off + k, none⟩ = some (.int .i64 x) := (hnx.cell (by exact hb)).trans hc
      clear hc
      have HS : Hid (arr.size = L.length) := hsz
      obtain ⟨o0, ho0⟩ : ∃ o, arr[k]? = some o := ⟨_, Array.getElem?_eq_getElem (by omega)⟩
      clear hsz
      have d0 := (cell_of_block harr k).trans ho0
      have f0 := free_of_block harr k
      go_wp2
      go_roundw
      case rel =>
        refine ⟨k + 1, _, by omega, by go_num, heap_setCell_same _ _ _ _ _ _ harr, by simpa using HS.out, ?_, hnx.setCell (Nat.le_refl _) _⟩
        intro j hj
        by_cases e : j = k
        · subst e; rw [Array.getElem?_setIfInBounds_self_of_lt (by rw [HS.out]; exact hlt), HX.out]; simp [iv, hlt]
        · rw [Array.getElem?_setIfInBounds_ne (by omega)]; exact hA.out j (by omega)
      case measure => simp [intOf]; omega
    · obtain rfl : k = L.length := by omega
      go_wp2
      go_ret
      exact ⟨rfl, hgl, LaidTo.whole (n := L.length) (sz := 1) (by rw [Nat.mul_one]; exact hA.out) (by rw [iv_len, Nat.mul_one]) (by rw [Nat.mul_one]; exact hsz) (Nat.le_refl _) (by unfold maxLen; omega) harr (Nat.le_refl _), hnx⟩

/-- A table as a value. -/
def tabV (a : Option Addr) (n c : Nat) (b : Option Addr) (m d : Nat) : Value := .agg #[.slice a n c, .slice b m d]
/-- What a table has that came in. -/
structure IsTab (w : World) (a b : Option Addr) (S : List Hd) (F : List Int) : Prop where
  hds : Hds w a S
  ints : Ints w b F
  lS : S.length ≤ 9223372036854775807
  lF : F.length ≤ 9223372036854775807
  okS : ∀ h ∈ S, (-9223372036854775808 ≤ h.r ∧ h.r ≤ 9223372036854775807) ∧ (-9223372036854775808 ≤ h.p ∧ h.p ≤ 9223372036854775807) ∧ (-9223372036854775808 ≤ h.l ∧ h.l ≤ 9223372036854775807) ∧ (-9223372036854775808 ≤ h.s ∧ h.s ≤ 9223372036854775807)
  okF : ∀ x ∈ F, -9223372036854775808 ≤ x ∧ x ≤ 9223372036854775807
/-- The two rows of a table, each in a block of its own from B on. -/
structure TabO (B : Nat) (w : World) (v u : Value) (S : List Hd) (F : List Int) : Prop where
  hds : w.ownsRow B 62 6 v S.length (hv S)
  ints : w.ownsRow B 3 1 u F.length (iv F)
theorem TabO.below {B : Nat} {w w' : World} {v u : Value} {S : List Hd} {F : List Int} (h : TabO B w v u S F) (hb : Below w.heap.size w w') : TabO B w' v u S F := ⟨ownT_kept h.hds hb, ownT_kept h.ints hb⟩
theorem TabO.base {B B' : Nat} {w : World} {v u : Value} {S : List Hd} {F : List Int} (h : TabO B w v u S F) (hb : B' ≤ B) : TabO B' w v u S F := ⟨ownT_base h.hds hb, ownT_base h.ints hb⟩
theorem TabO.shape {B : Nat} {w : World} {v u : Value} {S : List Hd} {F : List Int} (h : TabO B w v u S F) : ∃ a c b d, v = .slice a S.length c ∧ u = .slice b F.length d ∧ Hds w a S ∧ Ints w b F := by
  obtain ⟨a, c, rfl, h1, _⟩ := own_hds h.hds
  obtain ⟨b, d, rfl, h2⟩ := ints_of_row h.ints
  exact ⟨a, c, b, d, rfl, rfl, h1, h2⟩
theorem TabO.same {B : Nat} {w w' : World} {v u : Value} {S : List Hd} {F : List Int} (h : TabO B w v u S F) (hs : ∀ g, B ≤ g → g < w.heap.size → w'.heap[g]? = w.heap[g]?) : TabO B w' v u S F :=
  ⟨own_keep h.hds (fun g hg => hs g (h.hds.lt g hg).1 (h.hds.lt g hg).2), own_keep h.ints (fun g hg => hs g (h.ints.lt g hg).1 (h.ints.lt g hg).2)⟩

set_option maxRecDepth 100000 in
set_option maxHeartbeats 1600000 in
theorem szTab (a b : Option Addr) (n c m d : Nat) (w : World) (hn : n ≤ 9223372036854775807) (hm : m ≤ 9223372036854775807) :
    Calls Try.prog 54 #[tabV a n c b m d, .int .i64 1048576] w fun e w' => ∃ r : Int, e = .returned (.int .i64 r) ∧ (0 ≤ r → n ≤ 1048576 ∧ m ≤ 1048576) ∧ Below w.heap.size w w' := by
  have Z1 := fun w => szHd1 a c n 1048576 w hn (by omega) (by omega)
  have Z2 := fun l w h0 h1 => szIntT b d m l w hm h0 h1
  unfold tabV
  clear hn hm
  obtain ⟨g, hg⟩ : ∃ g, w.heap.size = g := ⟨_, rfl⟩
  go_enter Try.func54, Try.ntmps54
  go_wp2_with fail
  refine (Z1 _).mono ?_
  rintro e w1 ⟨r, rfl, hr, hw⟩
  obtain rfl := hw.symm
  clear Z1
  by_cases hr0 : r < 0
  · clear hr Z2
    go_wp2
    go_ret
    exact ⟨-1, rfl, fun h => absurd h (by omega), by (repeat (first | refine Below.alloc ?_ (by first | (simp; done) | (simp; omega)) _ | refine Below.setCell ?_ (by first | (simp; done) | (simp; omega)) _ | refine bel_dN ?_ _ | refine Below.drew ?_ | exact Below.refl _ _))⟩
  · have hs : Hid (n ≤ 1048576) := (hr (by omega)).1
    have ZT := fun w => Z2 r w (by omega) (hr (by omega)).2
    clear hr Z2
    go_wp2_with fail
    refine (ZT _).mono ?_
    rintro e w2 ⟨r2, rfl, hr2, hw⟩
    obtain rfl := hw.symm
    clear ZT
    by_cases hr3 : r2 < 0
    · clear hr2
      go_wp2
      go_ret
      exact ⟨-1, rfl, fun h => absurd h (by omega), by (repeat (first | refine Below.alloc ?_ (by first | (simp; done) | (simp; omega)) _ | refine Below.setCell ?_ (by first | (simp; done) | (simp; omega)) _ | refine bel_dN ?_ _ | refine Below.drew ?_ | exact Below.refl _ _))⟩
    · have h2 : Hid (m ≤ 1048576) := (hr2 (by omega)).1
      clear hr2
      go_wp2
      go_ret
      exact ⟨r2, rfl, fun _ => ⟨hs.out, h2.out⟩, by (repeat (first | refine Below.alloc ?_ (by first | (simp; done) | (simp; omega)) _ | refine Below.setCell ?_ (by first | (simp; done) | (simp; omega)) _ | refine bel_dN ?_ _ | refine Below.drew ?_ | exact Below.refl _ _))⟩

set_option maxRecDepth 100000 in
set_option maxHeartbeats 1600000 in
theorem toTab (a b : Option Addr) (c d : Nat) (S : List Hd) (F : List Int) (w : World) (hS : Hid (Hds w a S)) (hF : Hid (Ints w b F)) (lS : S.length ≤ 1048576) (lF : F.length ≤ 1048576) :
    Calls Try.prog 58 #[tabV a S.length c b F.length d] w fun e w' => ∃ v u, e = .returned (.agg #[v, u]) ∧ Hid (TabO w.heap.size w' v u S F) ∧ Below w.heap.size w w' := by
  have T1 : Hid (∀ w', Below w.heap.size w w' → Calls Try.prog 68 #[.slice a S.length c] w' fun e w'' => e = .returned (.slice (some ⟨w'.heap.size, 0, none⟩) S.length S.length) ∧ w'.heap.size < w''.heap.size ∧ w''.ownsRow w'.heap.size 62 6 (.slice (some ⟨w'.heap.size, 0, none⟩) S.length S.length) S.length (hv S) ∧ Below w'.heap.size w' w'') := fun w' hb => toHds a c S w' (hS.out.below hb) lS
  have T2 : Hid (∀ w', Below w.heap.size w w' → Calls Try.prog 41 #[.slice b F.length d] w' fun e w'' => e = .returned (.slice (some ⟨w'.heap.size, 0, none⟩) F.length F.length) ∧ w'.heap.size < w''.heap.size ∧ w''.ownsRow w'.heap.size 3 1 (.slice (some ⟨w'.heap.size, 0, none⟩) F.length F.length) F.length (iv F) ∧ Below w'.heap.size w' w'') := fun w' hb => toIntsO b d F w' (hF.out.below hb) lF
  obtain ⟨z, hz⟩ : ∃ z, w.heap.size = z := ⟨_, rfl⟩
  obtain ⟨n, hn⟩ : ∃ n, S.length = n := ⟨_, rfl⟩
  obtain ⟨m, hm⟩ : ∃ m, F.length = m := ⟨_, rfl⟩
  have HN : Hid (S.length = n ∧ F.length = m) := ⟨hn, hm⟩
  unfold tabV
  rw [hn] at T1 ⊢
  rw [hm] at T2 ⊢
  obtain ⟨W, hW⟩ : ∃ W, ((w.alloc (.cells #[.slice a n c, .slice b m d] 81)).alloc (.cells #[.slice none 0 0, .slice none 0 0] 59)).alloc (.cells #[.slice none 0 0, .slice none 0 0] 59) = W := ⟨_, rfl⟩
  have hb0 : Below w.heap.size w W := by rw [← hW]; exact bel_alloc (bel_alloc (bel_alloc (Below.refl _ _) _) _) _
  have hzW : W.heap.size = z + 1 + 1 + 1 := by rw [← hW, ← hz]; simp
  have x0 : W.heap[z]? = some (.cells #[.slice a n c, .slice b m d] 81 (0, 0)) := by
    rw [← hW, ← hz]
    exact ((Below.heap_alloc _ _ _ (by simp; omega)).trans (Below.heap_alloc _ _ _ (by simp))).trans (heap_alloc_new _ _)
  have r0 : W.heap[z + 1]? = some (.cells #[.slice none 0 0, .slice none 0 0] 59 (0, 0)) := by
    rw [← hW, ← hz]
    have h := heap_alloc_new (w.alloc (.cells #[.slice a n c, .slice b m d] 81)) (.cells #[.slice none 0 0, .slice none 0 0] 59)
    exact (Below.heap_alloc _ _ _ (by simp)).trans (by simpa using h)
  have g0 : W.heap[z + 1 + 1]? = some (.cells #[.slice none 0 0, .slice none 0 0] 59 (0, 0)) := by
    rw [← hW, ← hz]
    have h := heap_alloc_new ((w.alloc (.cells #[.slice a n c, .slice b m d] 81)).alloc (.cells #[.slice none 0 0, .slice none 0 0] 59)) (.cells #[.slice none 0 0, .slice none 0 0] 59)
    simpa using h
  have HB0 : Hid (Below w.heap.size w W) := hb0
  have HZ : Hid (w.heap.size = z) := hz
  have A1 := T1.out W hb0
  have p0 : W.cell? ⟨z, 0, none⟩ = some (.slice a n c) := (cell_of_block x0 0).trans rfl
  clear hS hF T1 hb0 hn hm
  go_enter Try.func58, Try.ntmps58
  go_wp2_with fail
  clear hW hz p0
  refine A1.mono ?_
  rintro e w1 ⟨rfl, hl1, ho1, hb1⟩
  rw [hzW] at hl1 ho1 hb1 ⊢
  have x1 := (hb1.block z (by omega)).trans x0
  have r1 := (hb1.block (z + 1) (by omega)).trans r0
  have g1 := (hb1.block (z + 1 + 1) (by omega)).trans g0
  have HB1 : Hid (Below w.heap.size w w1) := HB0.out.trans (hb1.mono (by have := HZ.out; omega))
  have HO1 : Hid (w1.ownsRow (z + 1 + 1 + 1) 62 6 (.slice (some ⟨z + 1 + 1 + 1, 0, none⟩) n n) n (hv S)) := ho1
  clear ho1 hb1 x0 r0 g0 A1 HB0 hzW
  have c1 : w1.cell? ⟨z, 1, none⟩ = some (.slice b m d) := (cell_of_block x1 1).trans rfl
  have d0 : w1.cell? ⟨z + 1 + 1, 0, none⟩ = some (.slice none 0 0) := (cell_of_block g1 0).trans rfl
  have f0 := free_of_block g1 0
  go_wp2_with fail
  obtain ⟨W2, hW2⟩ : ∃ W, w1.setCell ⟨z + 1 + 1, 0, none⟩ (.slice (some ⟨z + 1 + 1 + 1, 0, none⟩) n n) = W := ⟨_, rfl⟩
  obtain ⟨z2, hz2⟩ : ∃ z, W2.heap.size = z := ⟨_, rfl⟩
  have hzz : z + 1 + 1 + 1 < z2 := by rw [← hz2, ← hW2]; simpa using hl1
  have r2 : W2.heap[z + 1]? = some (.cells #[.slice none 0 0, .slice none 0 0] 59 (0, 0)) := by
    rw [← hW2]; exact (heap_setCell_other _ ⟨z + 1 + 1, 0, none⟩ (z + 1) _ (show z + 1 ≠ z + 1 + 1 by omega)).trans r1
  have g2 : W2.heap[z + 1 + 1]? = some (.cells #[.slice (some ⟨z + 1 + 1 + 1, 0, none⟩) n n, .slice none 0 0] 59 (0, 0)) := by
    rw [← hW2]; exact heap_setCell_same _ _ _ _ _ _ g1
  have HB2 : Hid (Below w.heap.size w W2) := by
    have hle : w.heap.size ≤ z + 1 + 1 := by have := HZ.out; omega
    unfold Hid; rw [← hW2]; exact HB1.out.setCell hle _
  have HO2 : Hid (W2.ownsRow (z + 1 + 1 + 1) 62 6 (.slice (some ⟨z + 1 + 1 + 1, 0, none⟩) n n) n (hv S)) := by
    unfold Hid; rw [← hW2]
    exact own_keep HO1.out (fun g hg => heap_setCell_other _ ⟨z + 1 + 1, 0, none⟩ g _ (by have := (HO1.out.lt g hg).1; show g ≠ z + 1 + 1; omega))
  have A2 := T2.out W2 HB2.out
  rw [hz2] at A2
  rw [hW2]
  clear hW2 HB1 HO1 x1 r1 g1 c1 d0 f0 T2
  refine A2.mono ?_
  rintro e w3 ⟨rfl, hl3, ho3, hb3⟩
  have r3 := (hb3.block (z + 1) (by omega)).trans r2
  have g3 := (hb3.block (z + 1 + 1) (by omega)).trans g2
  have HB3 : Hid (Below w.heap.size w w3) := HB2.out.trans (hb3.mono (by have := HZ.out; omega))
  have HO3 : Hid (w3.ownsRow (z + 1 + 1 + 1) 62 6 (.slice (some ⟨z + 1 + 1 + 1, 0, none⟩) n n) n (hv S)) := ownT_kept HO2.out (by rw [hz2]; exact hb3)
  have HI3 : Hid (w3.ownsRow z2 3 1 (.slice (some ⟨z2, 0, none⟩) m m) m (iv F)) := ho3
  clear ho3 hb3 r2 g2 A2 HB2 HO2 hz2
  have c0 : w3.cell? ⟨z + 1 + 1, 0, none⟩ = some (.slice (some ⟨z + 1 + 1 + 1, 0, none⟩) n n) := (cell_of_block g3 0).trans rfl
  have d0 : w3.cell? ⟨z + 1 + 1, 1, none⟩ = some (.slice none 0 0) := (cell_of_block g3 1).trans rfl
  have f0 := free_of_block g3 1
  have q0 : w3.cell? ⟨z + 1, 0, none⟩ = some (.slice none 0 0) := (cell_of_block r3 0).trans rfl
  have q1 : w3.cell? ⟨z + 1, 1, none⟩ = some (.slice none 0 0) := (cell_of_block r3 1).trans rfl
  have k0 := free_of_block r3 0
  have k1 := free_of_block r3 1
  go_wp2
  have hle : w.heap.size ≤ z + 1 + 1 := by have := HZ.out; omega
  have hle2 : w.heap.size ≤ z + 1 := by have := HZ.out; omega
  refine bodyPost_ret (v := .agg #[.slice (some ⟨z + 1 + 1 + 1, 0, none⟩) n n, .slice (some ⟨z2, 0, none⟩) m m]) (by simp [results, Try.results58, go_sem, q0, q1]) rfl ⟨_, _, rfl, ?_, ((HB3.out.setCell hle _).setCell hle2 _).setCell hle2 _⟩
  have hw : ∀ g, z + 1 + 1 + 1 ≤ g → (((w3.setCell ⟨z + 1 + 1, 1, none⟩ (.slice (some ⟨z2, 0, none⟩) m m)).setCell ⟨z + 1, 0, none⟩ (.slice (some ⟨z + 1 + 1 + 1, 0, none⟩) n n)).setCell ⟨z + 1, 1, none⟩ (.slice (some ⟨z2, 0, none⟩) m m)).heap[g]? = w3.heap[g]? := fun g hg =>
    (heap_setCell_other _ ⟨z + 1, 1, none⟩ g _ (show g ≠ z + 1 by omega)).trans ((heap_setCell_other _ ⟨z + 1, 0, none⟩ g _ (show g ≠ z + 1 by omega)).trans (heap_setCell_other _ ⟨z + 1 + 1, 1, none⟩ g _ (show g ≠ z + 1 + 1 by omega)))
  refine ⟨?_, ?_⟩
  · rw [HN.out.1]
    exact ownT_base (own_keep HO3.out (fun g hg => hw g (HO3.out.lt g hg).1)) (by have := HZ.out; omega)
  · rw [HN.out.2]
    exact ownT_base (own_keep HI3.out (fun g hg => hw g (by have := (HI3.out.lt g hg).1; omega))) (by have := HZ.out; omega)

set_option maxRecDepth 100000 in
set_option maxHeartbeats 1600000 in
theorem eqTab (a a' b b' : Option Addr) (c c' d d' : Nat) (S : List Hd) (F : List Int) (w : World) (hS : Hid (Hds w a S)) (hS' : Hid (Hds w a' S)) (hF : Hid (Ints w b F)) (hF' : Hid (Ints w b' F)) (lS : S.length ≤ 9223372036854775807) (lF : F.length ≤ 9223372036854775807) :
    Calls Try.prog 50 #[tabV a S.length c b F.length d, tabV a' S.length c' b' F.length d'] w fun e w' => e = .returned (.bool true) ∧ Below w.heap.size w w' := by
  have E1 : Hid (∀ w', Below w.heap.size w w' → Calls Try.prog 66 #[.slice a S.length c, .slice a' S.length c'] w' fun e w'' => e = .returned (.bool true) ∧ Below w'.heap.size w' w'') := fun w' hb => eqHds a a' c c' S w' (hS.out.below hb) (hS'.out.below hb) lS
  have E2 : Hid (∀ w', Below w.heap.size w w' → Calls Try.prog 17 #[.slice b F.length d, .slice b' F.length d'] w' fun e w'' => e = .returned (.bool true) ∧ Below w'.heap.size w' w'') := fun w' hb => eqInts b b' d d' F w' (hF.out.below hb) (hF'.out.below hb) lF
  obtain ⟨z, hz⟩ : ∃ z, w.heap.size = z := ⟨_, rfl⟩
  obtain ⟨n, hn⟩ : ∃ n, S.length = n := ⟨_, rfl⟩
  obtain ⟨m, hm⟩ : ∃ m, F.length = m := ⟨_, rfl⟩
  unfold tabV
  rw [hn] at E1 ⊢
  rw [hm] at E2 ⊢
  clear hS hS' hF hF' lS lF hn hm
  have hb0 : Below w.heap.size w ((w.alloc (.cells #[.slice a n c, .slice b m d] 59)).alloc (.cells #[.slice a' n c', .slice b' m d'] 59)) := bel_alloc (bel_alloc (Below.refl _ _) _) _
  have x0 : ((w.alloc (.cells #[.slice a n c, .slice b m d] 59)).alloc (.cells #[.slice a' n c', .slice b' m d'] 59)).heap[z]? = some (.cells #[.slice a n c, .slice b m d] 59 (0, 0)) := by rw [← hz]; exact (Below.heap_alloc _ _ _ (by simp)).trans (heap_alloc_new _ _)
  have y0 : ((w.alloc (.cells #[.slice a n c, .slice b m d] 59)).alloc (.cells #[.slice a' n c', .slice b' m d'] 59)).heap[z + 1]? = some (.cells #[.slice a' n c', .slice b' m d'] 59 (0, 0)) := by
    have h := heap_alloc_new (w.alloc (.cells #[.slice a n c, .slice b m d] 59)) (.cells #[.slice a' n c', .slice b' m d'] 59)
    rw [← hz]; simpa using h
  go_enter Try.func50, Try.ntmps50
  go_wp2_with fail
  refine (E1.out _ hb0).mono ?_
  rintro e w1 ⟨rfl, hb1⟩
  have x1 := (hb1.block z (lt_of_block x0)).trans x0
  have y1 := (hb1.block (z + 1) (lt_of_block y0)).trans y0
  have HB1 : Hid (Below w.heap.size w w1) := bel_step hb0 hb1
  clear hb1 hb0 x0 y0 E1
  have c1 : w1.cell? ⟨z, 1, none⟩ = some (.slice b m d) := (cell_of_block x1 1).trans rfl
  have d1 : w1.cell? ⟨z + 1, 1, none⟩ = some (.slice b' m d') := (cell_of_block y1 1).trans rfl
  go_wp2_with fail
  refine (E2.out _ HB1.out).mono ?_
  rintro e w2 ⟨rfl, hb2⟩
  have HB2 : Hid (Below w.heap.size w w2) := bel_step HB1.out hb2
  clear hb2 E2 x1 y1 c1 d1 HB1
  go_wp2
  go_ret
  exact ⟨rfl, HB2.out⟩

end Go.Proofs.Ytmnceaaehlglmaa
