/-
  A table is drawn. (Made by a generator.)
-/
import Derived.Test.YtjielcilcningaaTD1
import Derived.Deep.CutRange
import Derived.Deep.DeepCutAuto
namespace Go.Proofs.Ytjielcilcningaa
open Go.ChangeShapes Go.WideShapes Go.ChangeAt Go.RowKit

/-- A table that is small. -/
def Small (S : List Hd) (F : List Int) (N : Nat) : Prop := S.length ≤ N ∧ F.length ≤ N ∧ ∀ x ∈ F, 0 ≤ x ∧ x ≤ 1000
theorem small_out {own : Bool} {S : List Hd} {F : List Int} {x res : Int} {S1 : List Hd} {F1 : List Int} {H1 : Hd} {C1 : Int} {N : Nat} (h : OutR own S F x res S1 F1 H1 C1) (hs : Small S F N) (hN : N ≤ 900) : Small S1 F1 (N + 1) := by
  obtain ⟨s1, s2, s3⟩ := hs
  rcases h with ⟨_, rfl, rfl, _⟩ | ⟨_, H0, C0, _, ⟨_, rfl, rfl, _⟩ | ⟨_, _, rfl, rfl, _⟩ | ⟨_, _, _, rfl, rfl, _⟩ | ⟨_, _, _, _, _, k, hk, _, _, _, rfl, rfl⟩⟩
  · exact ⟨by simp, by simp, by simp⟩
  · exact ⟨by omega, by omega, s3⟩
  · exact ⟨by omega, by omega, s3⟩
  · exact ⟨by omega, by omega, s3⟩
  · refine ⟨by simp; omega, by simp; omega, fun y hy => ?_⟩
    rcases List.mem_append.mp hy with h | h
    · exact s3 y h
    · simp at h; omega
theorem small_lend {S : List Hd} {F : List Int} {x res : Int} {S1 : List Hd} {F1 : List Int} {H1 : Hd} {C1 : Int} {N : Nat} (h : LendR S F x res S1 F1 H1 C1) (hs : Small S F N) : Small S1 F1 (N + 1) := by
  obtain ⟨s1, s2, s3⟩ := hs
  rcases h with ⟨_, rfl, rfl, _⟩ | ⟨_, rfl, H0, C0, _, ⟨_, rfl, _⟩ | ⟨_, _, rfl, _⟩ | ⟨_, _, _, _, k, hk, _, _, rfl⟩⟩
  · exact ⟨by simp, by simp, by simp⟩
  · exact ⟨by omega, by omega, s3⟩
  · exact ⟨by omega, by omega, s3⟩
  · exact ⟨by simp; omega, by omega, s3⟩
theorem small_new {S : List Hd} {F : List Int} {h : Hd} {S1 : List Hd} {F1 : List Int} {N1 C1 : Int} {N : Nat} (hf : NewR S F h S1 F1 N1 C1) (hs : Small S F N) : Small S1 F1 (N + 1) := by
  obtain ⟨s1, s2, s3⟩ := hs
  rcases hf with ⟨_, rfl, rfl, _⟩ | ⟨_, _, rfl, rfl, _⟩ | ⟨_, _, _, rfl, rfl, _⟩ | ⟨_, _, _, ⟨F0, k, _, rfl, rfl, rfl, _⟩ | ⟨_, _, rfl, rfl, _⟩ | ⟨_, _, rfl, rfl, _⟩⟩
  · exact ⟨by simp, by simp, by simp⟩
  · exact ⟨by omega, by omega, s3⟩
  · exact ⟨by omega, by omega, s3⟩
  · exact ⟨by simp; omega, by simp at s2; omega, fun y hy => s3 y (by simp [hy])⟩
  · exact ⟨by omega, by simp, by simp⟩
  · exact ⟨by simp; omega, by simp, by simp⟩
theorem w64n (j : Nat) (h : j ≤ 50) : wrap64 (j : Int) = (j : Int) ∧ (intOf (Value.int .i64 (wrap64 (j : Int)))).toNat < (intOf (Value.int .i64 ((j + 1 : Nat) : Int))).toNat := by
  have e : wrap64 (j : Int) = (j : Int) := by unfold wrap64; omega
  refine ⟨e, ?_⟩
  rw [e]
  simp [intOf]
/-- How a table stands that is being drawn. -/
structure TabL (B g : Nat) (w : World) (z : Nat) (a : Option Addr) (n cap M : Nat) (wr : World) (S : List Hd) (F : List Int) : Prop where
  out : ∃ av c bv d, wr.heap[z + 1]? = some (.cells #[.slice av S.length c, .slice bv F.length d] 26 (0, 0)) ∧ TabO (z + 1 + 1) wr (.slice av S.length c) (.slice bv F.length d) S F
  res : wr.heap[z]? = some (.cells #[.slice none 0 0, .slice none 0 0] 26 (0, 0))
  cur : Cur wr g a n cap B M
  aft : Aft B g w wr
  size : z + 1 + 1 ≤ wr.heap.size
theorem tabO_d {B : Nat} {w : World} {v bv : Value} {x : Option Addr} {m d : Nat} {S : List Hd} {F : List Int} (h : TabO B w v bv S F) (e : bv = .slice x m d) : F.length ≤ d := by
  obtain ⟨_, _, _, _, _, e2, _, _, hd⟩ := h.shape2
  rw [e] at e2
  simp only [Value.slice.injEq] at e2
  rw [e2.2.2]; exact hd
theorem tabO_rows {B : Nat} {w : World} {a b : Option Addr} {n c m d : Nat} {S : List Hd} {F : List Int} (h : TabO B w (.slice a n c) (.slice b m d) S F) : Hds w a S ∧ Ints w b F := by
  obtain ⟨_, _, _, _, e1, e2, h1, h2, _⟩ := h.shape2
  simp only [Value.slice.injEq] at e1 e2
  rw [e1.1, e2.1]; exact ⟨h1, h2⟩
theorem tabO_at {B : Nat} {w : World} {q n c : Nat} {u : Value} {S : List Hd} {F : List Int} (h : TabO B w (.slice (some ⟨q, 0, none⟩) n c) u S F) (k : Nat) (hk : k < S.length) : HdAt w q (k * 6) S[k] := by
  obtain ⟨_, _, _, _, e1, rfl, h1, _, _⟩ := h.shape2
  simp only [Value.slice.injEq] at e1
  rw [← e1.1] at h1
  obtain ⟨b, off, e, _, hh⟩ := h1.at k hk
  simp only [Option.some.injEq, Addr.mk.injEq] at e
  obtain ⟨rfl, rfl, _⟩ := e
  rw [Nat.zero_add] at hh
  exact hh


set_option maxRecDepth 100000 in
set_option maxHeartbeats 1600000 in
theorem curTable (g : Nat) (a : Option Addr) (n cap B m : Nat) (hm : Hid (m ≤ 600000)) (w : World) (C : Cur w g a n cap B m) :
    Calls Try.prog 18 #[.pointer (some ⟨g, 0, none⟩)] w fun e w' => ∃ S F v u, e = .returned (.agg #[v, u]) ∧ Hid (TabO w.heap.size w' v u S F ∧ Small S F 100) ∧ Cur w' g a n cap B (m + 2000) ∧ Aft B g w w' := by
  have HC : Hid (g < w.heap.size ∧ B ≤ g) := ⟨C.lt, C.hg⟩
  obtain ⟨z, hz⟩ : ∃ z, w.heap.size = z := ⟨_, rfl⟩
  have HZ : Hid (w.heap.size = z) := hz
  obtain ⟨V, hV⟩ : ∃ W, ((w.alloc (.cells #[.slice none 0 0, .slice none 0 0] 26)).alloc (.cells #[.slice none 0 0, .slice none 0 0] 26)) = W := ⟨_, rfl⟩
  have hb : Below w.heap.size w V := by rw [← hV]; exact (bel_alloc (bel_alloc (Below.refl _ _) _) _)
  have br : V.heap[z]? = some (.cells #[.slice none 0 0, .slice none 0 0] 26 (0, 0)) := by
    have h := heap_alloc_new w (.cells #[.slice none 0 0, .slice none 0 0] 26)
    have e : w.heap.size = z := by exact hz
    rw [e] at h
    rw [← hV]
    replace h := (Below.heap_alloc _ (.cells #[.slice none 0 0, .slice none 0 0] 26) _ (lt_of_block h)).trans h
    exact h
  have bt : V.heap[z + 1]? = some (.cells #[.slice none 0 0, .slice none 0 0] 26 (0, 0)) := by
    have h := heap_alloc_new (w.alloc (.cells #[.slice none 0 0, .slice none 0 0] 26)) (.cells #[.slice none 0 0, .slice none 0 0] 26)
    have e : (w.alloc (.cells #[.slice none 0 0, .slice none 0 0] 26)).heap.size = z + 1 := by simp [hz]
    rw [e] at h
    rw [← hV]
    exact h
  have LB : Hid (z + 1 + 1 ≤ V.heap.size) := by unfold Hid; rw [← hV]; simp [hz]
  replace C := C.kept hb
  have A : Hid (Aft B g w V) := aft_step (Aft.refl _ _ _) hb (Nat.le_trans HC.out.2 (Nat.le_of_lt HC.out.1))
  clear hb
  have pt0x1 : V.cell? ⟨z + 1, 0, none⟩ = some (.slice none 0 0) := (cell_of_block bt 0).trans rfl
  have pt1x1 : V.cell? ⟨z + 1, 1, none⟩ = some (.slice none 0 0) := (cell_of_block bt 1).trans rfl
  have ft0x1 := free_of_block bt 0
  have ft1x1 := free_of_block bt 1
  obtain ⟨w1, hNw1⟩ : ∃ G, ((V.setCell ⟨z + 1, 0, none⟩ (.slice none 0 0)).setCell ⟨z + 1, 1, none⟩ (.slice none 0 0)) = G := ⟨_, rfl⟩
  obtain ⟨s1, s2, s3, s4⟩ := set2T bt _ _ hNw1
  replace br := (s2 (z) (by omega)).trans br
  have hsl : w.heap.size ≤ z + 1 := by have hc1 := HC.out; have hc2 := HZ.out; omega
  have hs : Below w.heap.size V w1 := s4 _ _ hsl (Below.refl _ _)
  replace C := cur_upto C hs HC.out.1
  replace A : Hid (Aft B g w w1) := aft_upto A.out hs (Nat.le_trans HC.out.2 (Nat.le_of_lt HC.out.1))
  replace LB : Hid (z + 1 + 1 ≤ w1.heap.size) := by unfold Hid; rw [s3]; exact LB.out
  replace bt := s1
  clear s1 s2 s3 s4 hs hsl
  go_enter Try.func18, Try.ntmps18
  go_wp2_with fail
  clear hV hz pt0x1 pt1x1 ft0x1 ft1x1 hNw1
  refine (curPick 10 (by omega) (by omega) g a n cap B (m) (hid_le (by have := hm.out; omega)) w1 C).mono ?_
  rintro e w2 ⟨x, x0, x1, rfl, C1, ha⟩
  replace br := (ha.blk (z) (by have hc1 := HC.out; have hc2 := HZ.out; omega) (lt_of_block br)).trans br
  replace bt := (ha.blk (z + 1) (by have hc1 := HC.out; have hc2 := HZ.out; omega) (lt_of_block bt)).trans bt
  replace A : Hid (Aft B g w w2) := A.out.trans ha
  replace LB : Hid (z + 1 + 1 ≤ w2.heap.size) := Nat.le_trans LB.out ha.size
  clear ha C
  have C := C1
  clear C1
  go_wp2_with fail
  refine (curOne 20 (by omega) (by omega) g a n cap B (m + 2) (hid_le (by have := hm.out; omega)) w2 C).mono ?_
  rintro e w3 ⟨o, rfl, C1, ha⟩
  replace br := (ha.blk (z) (by have hc1 := HC.out; have hc2 := HZ.out; omega) (lt_of_block br)).trans br
  replace bt := (ha.blk (z + 1) (by have hc1 := HC.out; have hc2 := HZ.out; omega) (lt_of_block bt)).trans bt
  replace A : Hid (Aft B g w w3) := A.out.trans ha
  replace LB : Hid (z + 1 + 1 ≤ w3.heap.size) := Nat.le_trans LB.out ha.size
  clear ha C
  have C := C1
  clear C1
  obtain ⟨k, HK, hk⟩ : ∃ k : Nat, Hid (k ≤ 50) ∧ (if o then (50 : Int) else x) = (k : Int) := by
    cases o
    · exact ⟨x.toNat, (by unfold Hid; omega), (by simp; omega)⟩
    · exact ⟨50, (by unfold Hid; omega), rfl⟩
  clear x0 x1
  have IV : Hid (∃ N, N + k ≤ 60 ∧ Small ([] : List Hd) ([] : List Int) N) := ⟨0, by have := HK.out; omega, by simp [Small]⟩
  have IL : Hid (∃ M, M + 20 * k ≤ m + 1100 ∧ TabL B g w z a n cap M w3 ([] : List Hd) ([] : List Int)) := ⟨m + 2 + 2, by have := HK.out; omega, ⟨⟨none, 0, none, 0, bt, ⟨World.ownsRow_nil _ _ _ _, World.ownsRow_nil _ _ _ _⟩⟩, br, C, A.out, LB.out⟩⟩
  clear br bt C A LB
  have HKO : Hid ((if o then (50 : Int) else x) = (k : Int)) := hk
  clear hk
  go_upto_if 11 with fail
  go_cut [4] (fun s4 wx => s4 = .int .i64 (k : Int) ∧ wx = w3)
  case first =>
    have hk := HKO.out
    clear HKO IV IL
    cases o
    · go_wp2
      go_meet
      exact ⟨congrArg (Value.int .i64) (by simpa using hk), rfl⟩
    · go_wp2
      go_meet
      exact ⟨congrArg (Value.int .i64) (by simpa using hk), rfl⟩
  case rest =>
  obtain ⟨rfl, hwc⟩ := hcut
  obtain rfl := hwc.symm
  clear hwc
  go_wp2
  go_loopw [4, 5, 6] (fun vn _ _ wr => ∃ (j : Nat) (S : List Hd) (F : List Int), vn = .int .i64 (j : Int) ∧ Hid (j ≤ 50) ∧ Hid (∃ N, N + j ≤ 60 ∧ Small S F N) ∧ Hid (∃ M, M + 20 * j ≤ m + 1100 ∧ TabL B g w z a n cap M wr S F)) (fun vn _ _ _ => (intOf vn).toNat)
  case atStart => exact ⟨k, [], [], rfl, HK, IV, IL⟩
  case round =>
    clear IV IL HK
    obtain ⟨j, S, F, rfl, HJ, HN, HL⟩ := hrel
    obtain ⟨M, hM, L⟩ := HL.out
    obtain ⟨N, hN, hSm⟩ := HN.out
    obtain ⟨av, c, bv, d, bt, HT⟩ := L.out
    have HMJ : Hid (M + 20 * j ≤ m + 1100) := hM
    have HM : Hid (M ≤ 690000) := by unfold Hid; have := hm.out; omega
    have HSM : Hid (N + j ≤ 60 ∧ Small S F N) := ⟨hN, hSm⟩
    have hlS : S.length ≤ 60 := by have := hSm.1; omega
    have hlF : F.length ≤ 60 := by have := hSm.2.1; omega
    have br := L.res
    have C := L.cur
    have A : Hid (Aft B g w wr) := L.aft
    have LB : Hid (z + 1 + 1 ≤ wr.heap.size) := L.size
    replace HT : Hid (TabO (z + 1 + 1) wr (.slice av S.length c) (.slice bv F.length d) S F) := HT
    clear HL HN hM hN hSm L
    by_cases hj : 0 < (j : Int)
    · obtain ⟨j, rfl⟩ : ∃ i, j = i + 1 := ⟨j - 1, by omega⟩
      have HWJ : Hid (wrap64 (j : Int) = (j : Int) ∧ (intOf (Value.int .i64 (wrap64 (j : Int)))).toNat < (intOf (Value.int .i64 ((j + 1 : Nat) : Int))).toNat) := w64n j (Nat.le_of_succ_le HJ.out)
      go_wp2_with fail
      refine (curPick 5 (by omega) (by omega) g a n cap B (M) (hid_le (by have := HM.out; omega)) wr C).mono ?_
      rintro e w4 ⟨q, q0, q1, rfl, C1, ha⟩
      replace br := (ha.blk (z) (by have hc1 := HC.out; have hc2 := HZ.out; omega) (lt_of_block br)).trans br
      replace bt := (ha.blk (z + 1) (by have hc1 := HC.out; have hc2 := HZ.out; omega) (lt_of_block bt)).trans bt
      replace HT : Hid (TabO (z + 1 + 1) w4 (.slice av S.length c) (.slice bv F.length d) S F) := HT.out.same (fun q hq1 hq2 => ha.blk q (by have hc1 := HC.out; have hc2 := HZ.out; omega) hq2)
      replace A : Hid (Aft B g w w4) := A.out.trans ha
      replace LB : Hid (z + 1 + 1 ≤ w4.heap.size) := Nat.le_trans LB.out ha.size
      clear ha C
      have C := C1
      clear C1
      have hq : q = 0 ∨ q = 1 ∨ (¬ q = 0 ∧ ¬ q = 1) := by omega
      clear q0 q1
      rcases hq with rfl | rfl | ⟨hq0, hq1⟩
      · have pt0x2 : w4.cell? ⟨z + 1, 0, none⟩ = some (.slice av S.length c) := (cell_of_block bt 0).trans rfl
        by_cases hS : 0 < S.length
        · have hS1 : (0 : Int) < (S.length : Int) := by omega
          go_wp2_with fail
          clear pt0x2
          refine (curPick S.length (by omega) (by omega) g a n cap B (M + 2) (hid_le (by have := HM.out; omega)) w4 C).mono ?_
          rintro e w5 ⟨x, x0, x1, rfl, C1, ha⟩
          replace br := (ha.blk (z) (by have hc1 := HC.out; have hc2 := HZ.out; omega) (lt_of_block br)).trans br
          replace bt := (ha.blk (z + 1) (by have hc1 := HC.out; have hc2 := HZ.out; omega) (lt_of_block bt)).trans bt
          replace HT : Hid (TabO (z + 1 + 1) w5 (.slice av S.length c) (.slice bv F.length d) S F) := HT.out.same (fun q hq1 hq2 => ha.blk q (by have hc1 := HC.out; have hc2 := HZ.out; omega) hq2)
          replace A : Hid (Aft B g w w5) := A.out.trans ha
          replace LB : Hid (z + 1 + 1 ≤ w5.heap.size) := Nat.le_trans LB.out ha.size
          clear ha C
          have C := C1
          clear C1
          obtain ⟨i, rfl⟩ : ∃ i : Nat, x = (i : Int) := ⟨x.toNat, by omega⟩
          have hi : i < S.length := by omega
          obtain ⟨q, rfl, hq1, hq2⟩ := row_pos HT.out.hds hS
          obtain ⟨f, hf⟩ : ∃ f, S[i] = f := ⟨_, rfl⟩
          have HQ : Hid (z + 1 + 1 ≤ q) := hq1
          obtain ⟨S1, F1, H1, C1, hR⟩ := out_r false S F (i : Int) f.r
          have hSm1 := small_out hR HSM.out.2 (by have := HSM.out.1; omega)
          have CC : ∀ w', Below w5.heap.size w5 w' → Calls Try.prog 36 #[tabV (some ⟨q, 0, none⟩) S.length c bv F.length d, .int .i64 (i : Int), .int .i64 f.r] w' fun e w'' => ∃ v u, e = .returned (.tuple #[.agg #[v, u], hdV H1, .int .i64 C1]) ∧ Hid (TabO w'.heap.size w'' v u S1 F1) ∧ Below w'.heap.size w' w'' := fun w' hb => specDrop _ _ c d S F (i : Int) f.r S1 F1 H1 C1 w' ((tabO_rows HT.out).1.below hb) ((tabO_rows HT.out).2.below hb) (by omega) (by omega) (tabO_d HT.out rfl) hR
          have HSM1 : Hid (Small S1 F1 (N + 1)) := hSm1
          have hl1 : S1.length ≤ 70 := by have := hSm1.1; have := HSM.out.1; omega
          have hl2 : F1.length ≤ 70 := by have := hSm1.2.1; have := HSM.out.1; omega
          unfold tabV hdV at CC
          have HCC : Hid _ := CC
          clear hR hSm1 CC x0 x1 hS1 hq1
          have pt0x3 : w5.cell? ⟨z + 1, 0, none⟩ = some (.slice (some ⟨q, 0, none⟩) S.length c) := (cell_of_block bt 0).trans rfl
          have pt1x3 : w5.cell? ⟨z + 1, 1, none⟩ = some (.slice bv F.length d) := (cell_of_block bt 1).trans rfl
          have prow : w5.cell? ⟨q, i * 6 + 1, none⟩ = some (.int .i64 f.r) := by have h := (tabO_at HT.out i hi).2.1; rw [hf] at h; exact h
          have hi1 : (i : Int) < (S.length : Int) := by omega
          go_wp2
          clear pt0x3 pt1x3
          refine wa_begin (by kernel_rfl) ?_
          obtain ⟨w6, hD⟩ : ∃ W, w5.drew = W := ⟨_, rfl⟩
          have hb : Below w5.heap.size w5 w6 := by rw [← hD]; exact (Below.refl _ _).drew
          rw [hD]
          have prow : w6.cell? ⟨q, i * 6 + 1, none⟩ = some (.int .i64 f.r) := (hb.cell (p := ⟨q, i * 6 + 1, none⟩) hq2).trans prow
          have CC := HCC.out w6 hb
          replace br := (hb.block (z) (lt_of_block br)).trans br
          replace bt := (hb.block (z + 1) (lt_of_block bt)).trans bt
          replace HT : Hid (TabO (z + 1 + 1) w6 (.slice (some ⟨q, 0, none⟩) S.length c) (.slice bv F.length d) S F) := HT.out.below hb
          replace C := C.kept hb
          replace A : Hid (Aft B g w w6) := aft_step A.out hb (Nat.le_trans HC.out.2 (Nat.le_of_lt HC.out.1))
          replace LB : Hid (z + 1 + 1 ≤ w6.heap.size) := Nat.le_trans LB.out hb.size
          clear hb hD HCC
          refine wa_take 1 (some 39) (.int .i64 (i : Int)) rfl rfl (by kernel_rfl) (by kernel_rfl) (by kernel_rfl) (fun _ _ _ h => h) (by rfl) (fun _ => by kernel_rfl) ?_
          simp only [Act.put, List.setIfInBounds_toArray, List.set_cons_zero, List.set_cons_succ]
          refine wa_take 2 (some 40) (.pointer (some ⟨z + 1, 0, none⟩)) rfl rfl (by kernel_rfl) (by kernel_rfl) (by kernel_rfl) (fun _ _ _ h => h) (by rfl) (fun _ => by kernel_rfl) ?_
          simp only [Act.put, List.setIfInBounds_toArray, List.set_cons_zero, List.set_cons_succ]
          refine wa_take 4 (some 42) (.int .i64 (i : Int)) rfl rfl (by kernel_rfl) (by kernel_rfl) (by kernel_rfl) (fun _ _ _ h => h) (by rfl) (fun _ => by kernel_rfl) ?_
          simp only [Act.put, List.setIfInBounds_toArray, List.set_cons_zero, List.set_cons_succ]
          refine wa_first 0 (some 38) (.agg #[.slice (some ⟨q, 0, none⟩) S.length c, .slice bv F.length d]) (fun w' : World => w'.heap[z + 1]? = some (.cells #[.slice (some ⟨q, 0, none⟩) S.length c, .slice bv F.length d] 26 (0, 0))) rfl rfl (by kernel_rfl) (by kernel_rfl) (by kernel_rfl) (fun _ _ _ h => h) (by rfl) (fun w' hS => by have q0 : w'.cell? ⟨z + 1, 0, none⟩ = some (.slice (some ⟨q, 0, none⟩) S.length c) := (cell_of_block hS 0).trans rfl; have q1 : w'.cell? ⟨z + 1, 1, none⟩ = some (.slice bv F.length d) := (cell_of_block hS 1).trans rfl; clear hS; go_simp) bt ?_
          simp only [Act.put, List.setIfInBounds_toArray, List.set_cons_zero, List.set_cons_succ]
          have pt0x4 : w6.cell? ⟨z + 1, 0, none⟩ = some (.slice (some ⟨q, 0, none⟩) S.length c) := (cell_of_block bt 0).trans rfl
          have pt1x4 : w6.cell? ⟨z + 1, 1, none⟩ = some (.slice bv F.length d) := (cell_of_block bt 1).trans rfl
          refine wb_val 3 (some 41) (.slice (some ⟨q, 0, none⟩) S.length c) w6 (by kernel_rfl) (by kernel_rfl) rfl rfl (by rfl) (by go_simp) bt ?_
          simp only [Act.put, List.setIfInBounds_toArray, List.set_cons_zero, List.set_cons_succ]
          refine wb_val 5 (some 43) (.pointer (some ⟨q, i * 6, none⟩)) w6 (by kernel_rfl) (by kernel_rfl) rfl rfl (by rfl) (by go_simp) bt ?_
          simp only [Act.put, List.setIfInBounds_toArray, List.set_cons_zero, List.set_cons_succ]
          refine wb_val 6 (some 44) (.pointer (some ⟨q, i * 6 + 1, none⟩)) w6 (by kernel_rfl) (by kernel_rfl) rfl rfl (by rfl) (by go_simp) bt ?_
          simp only [Act.put, List.setIfInBounds_toArray, List.set_cons_zero, List.set_cons_succ]
          refine wb_val 7 (some 45) (.int .i64 f.r) w6 (by kernel_rfl) (by kernel_rfl) rfl rfl (by rfl) (by go_simp) bt ?_
          simp only [Act.put, List.setIfInBounds_toArray, List.set_cons_zero, List.set_cons_succ]
          clear pt0x4 pt1x4
          refine wb_leave 8 (some 46) 36 #[.agg #[.slice (some ⟨q, 0, none⟩) S.length c, .slice bv F.length d], .int .i64 (i : Int), .int .i64 f.r] (by kernel_rfl) (by kernel_rfl) rfl rfl (by rfl) (by kernel_rfl) ?_
          refine CC.mono ?_
          rintro e w7 ⟨v, u, rfl, HT1, hb⟩
          replace HT1 := HT1.out.base LB.out
          obtain ⟨a1, c1, b1, d1, rfl, rfl, _, _, _⟩ := HT1.shape2
          clear HT CC prow
          replace br := (hb.block (z) (lt_of_block br)).trans br
          replace bt := (hb.block (z + 1) (lt_of_block bt)).trans bt
          replace C := C.kept hb
          replace A : Hid (Aft B g w w7) := aft_step A.out hb (Nat.le_trans HC.out.2 (Nat.le_of_lt HC.out.1))
          replace LB : Hid (z + 1 + 1 ≤ w7.heap.size) := Nat.le_trans LB.out hb.size
          clear hb
          have HT : Hid (TabO (z + 1 + 1) w7 (.slice a1 S1.length c1) (.slice b1 F1.length d1) S1 F1) := HT1
          clear HT1
          refine ⟨_, rfl, ?_⟩
          simp only [Act.put, List.setIfInBounds_toArray, List.set_cons_zero, List.set_cons_succ]
          refine wa_take 9 (some 37) (.tuple #[.agg #[.slice a1 S1.length c1, .slice b1 F1.length d1], .agg #[.bool H1.u, .int .i64 H1.r, .int .i64 H1.p, .bool H1.o, .int .i64 H1.l, .int .i64 H1.s], .int .i64 C1]) rfl rfl (by kernel_rfl) (by kernel_rfl) (by kernel_rfl) (fun _ _ _ h => h) (by rfl) (fun _ => by go_simp) ?_
          simp only [Act.put, List.setIfInBounds_toArray, List.set_cons_zero, List.set_cons_succ]
          refine wa_take 10 (some 47) (.agg #[.slice a1 S1.length c1, .slice b1 F1.length d1]) rfl rfl (by kernel_rfl) (by kernel_rfl) (by kernel_rfl) (fun _ _ _ h => h) (by rfl) (fun _ => by first | rfl | go_simp) ?_
          simp only [Act.put, List.setIfInBounds_toArray, List.set_cons_zero, List.set_cons_succ]
          refine wa_take 11 (some 48) (.agg #[.bool H1.u, .int .i64 H1.r, .int .i64 H1.p, .bool H1.o, .int .i64 H1.l, .int .i64 H1.s]) rfl rfl (by kernel_rfl) (by kernel_rfl) (by kernel_rfl) (fun _ _ _ h => h) (by rfl) (fun _ => by first | rfl | go_simp) ?_
          simp only [Act.put, List.setIfInBounds_toArray, List.set_cons_zero, List.set_cons_succ]
          refine wa_take 12 (some 49) (.int .i64 C1) rfl rfl (by kernel_rfl) (by kernel_rfl) (by kernel_rfl) (fun _ _ _ h => h) (by rfl) (fun _ => by first | rfl | go_simp) ?_
          simp only [Act.put, List.setIfInBounds_toArray, List.set_cons_zero, List.set_cons_succ]
          have pt0x5 : w7.cell? ⟨z + 1, 0, none⟩ = some (.slice (some ⟨q, 0, none⟩) S.length c) := (cell_of_block bt 0).trans rfl
          have pt1x5 : w7.cell? ⟨z + 1, 1, none⟩ = some (.slice bv F.length d) := (cell_of_block bt 1).trans rfl
          have ft0x5 := free_of_block bt 0
          have ft1x5 := free_of_block bt 1
          obtain ⟨w8, hNw8⟩ : ∃ G, ((w7.setCell ⟨z + 1, 0, none⟩ (.slice a1 S1.length c1)).setCell ⟨z + 1, 1, none⟩ (.slice b1 F1.length d1)) = G := ⟨_, rfl⟩
          obtain ⟨s1, s2, s3, s4⟩ := set2T bt _ _ hNw8
          replace br := (s2 (z) (by omega)).trans br
          replace HT : Hid (TabO (z + 1 + 1) w8 (.slice a1 S1.length c1) (.slice b1 F1.length d1) S1 F1) := HT.out.same (fun q hq1 _ => s2 q (by omega))
          have hsl : w.heap.size ≤ z + 1 := by have hc1 := HC.out; have hc2 := HZ.out; omega
          have hs : Below w.heap.size w7 w8 := s4 _ _ hsl (Below.refl _ _)
          replace C := cur_upto C hs HC.out.1
          replace A : Hid (Aft B g w w8) := aft_upto A.out hs (Nat.le_trans HC.out.2 (Nat.le_of_lt HC.out.1))
          replace LB : Hid (z + 1 + 1 ≤ w8.heap.size) := by unfold Hid; rw [s3]; exact LB.out
          replace bt := s1
          clear s1 s2 s3 s4 hs hsl
          refine wa_store 13 none w8 (by kernel_rfl) rfl rfl (by rfl) (by rw [← hNw8]; go_simp) ?_
          simp only [Act.put]
          clear pt0x5 pt1x5 ft0x5 ft1x5 hNw8
          refine wa_done (by kernel_rfl) ?_
          have REL : Hid (∃ N', N' + j ≤ 60 ∧ Small S1 F1 N') := ⟨N + 1, by have := HSM.out.1; omega, HSM1.out⟩
          have REL2 : Hid (∃ M', M' + 20 * j ≤ m + 1100 ∧ TabL B g w z a n cap M' w8 S1 F1) := ⟨M + 2 + 2, by have := HMJ.out; omega, ⟨⟨a1, c1, b1, d1, bt, HT.out⟩, br, C, A.out, LB.out⟩⟩
          have HJ2 : Hid (j ≤ 50) := by unfold Hid; have := HJ.out; omega
          go_wp2
          go_roundw
          case rel => exact ⟨j, S1, F1, congrArg (Value.int .i64) HWJ.out.1, HJ2, REL, REL2⟩
          case measure => exact HWJ.out.2
        · have hS1 : ¬ (0 : Int) < (S.length : Int) := by omega
          clear hS
          have REL : Hid (∃ N', N' + j ≤ 60 ∧ Small S F N') := ⟨N, by have := HSM.out.1; omega, HSM.out.2⟩
          have REL2 : Hid (∃ M', M' + 20 * j ≤ m + 1100 ∧ TabL B g w z a n cap M' w4 S F) := ⟨M + 2, by have := HMJ.out; omega, ⟨⟨av, c, bv, d, bt, HT.out⟩, br, C, A.out, LB.out⟩⟩
          have HJ2 : Hid (j ≤ 50) := by unfold Hid; have := HJ.out; omega
          go_wp2
          go_roundw
          case rel => exact ⟨j, S, F, congrArg (Value.int .i64) HWJ.out.1, HJ2, REL, REL2⟩
          case measure => exact HWJ.out.2
      · have pt0x2 : w4.cell? ⟨z + 1, 0, none⟩ = some (.slice av S.length c) := (cell_of_block bt 0).trans rfl
        by_cases hS : 0 < S.length
        · have hS1 : (0 : Int) < (S.length : Int) := by omega
          go_wp2_with fail
          clear pt0x2
          refine (curPick S.length (by omega) (by omega) g a n cap B (M + 2) (hid_le (by have := HM.out; omega)) w4 C).mono ?_
          rintro e w5 ⟨x, x0, x1, rfl, C1, ha⟩
          replace br := (ha.blk (z) (by have hc1 := HC.out; have hc2 := HZ.out; omega) (lt_of_block br)).trans br
          replace bt := (ha.blk (z + 1) (by have hc1 := HC.out; have hc2 := HZ.out; omega) (lt_of_block bt)).trans bt
          replace HT : Hid (TabO (z + 1 + 1) w5 (.slice av S.length c) (.slice bv F.length d) S F) := HT.out.same (fun q hq1 hq2 => ha.blk q (by have hc1 := HC.out; have hc2 := HZ.out; omega) hq2)
          replace A : Hid (Aft B g w w5) := A.out.trans ha
          replace LB : Hid (z + 1 + 1 ≤ w5.heap.size) := Nat.le_trans LB.out ha.size
          clear ha C
          have C := C1
          clear C1
          obtain ⟨i, rfl⟩ : ∃ i : Nat, x = (i : Int) := ⟨x.toNat, by omega⟩
          have hi : i < S.length := by omega
          obtain ⟨q, rfl, hq1, hq2⟩ := row_pos HT.out.hds hS
          obtain ⟨f, hf⟩ : ∃ f, S[i] = f := ⟨_, rfl⟩
          have HQ : Hid (z + 1 + 1 ≤ q) := hq1
          obtain ⟨S1, F1, H1, C1, hR⟩ := lend_r S F (i : Int) f.r
          have hSm1 := small_lend hR HSM.out.2
          have CC : ∀ w', Below w5.heap.size w5 w' → Calls Try.prog 15 #[tabV (some ⟨q, 0, none⟩) S.length c bv F.length d, .int .i64 (i : Int), .int .i64 f.r] w' fun e w'' => ∃ v u, e = .returned (.tuple #[.agg #[v, u], hdV H1, .int .i64 C1]) ∧ Hid (TabO w'.heap.size w'' v u S1 F1) ∧ Below w'.heap.size w' w'' := fun w' hb => specLend _ _ c d S F (i : Int) f.r S1 F1 H1 C1 w' ((tabO_rows HT.out).1.below hb) ((tabO_rows HT.out).2.below hb) (by omega) (by omega) (tabO_d HT.out rfl) hR
          have HSM1 : Hid (Small S1 F1 (N + 1)) := hSm1
          have hl1 : S1.length ≤ 70 := by have := hSm1.1; have := HSM.out.1; omega
          have hl2 : F1.length ≤ 70 := by have := hSm1.2.1; have := HSM.out.1; omega
          unfold tabV hdV at CC
          have HCC : Hid _ := CC
          clear hR hSm1 CC x0 x1 hS1 hq1
          have pt0x3 : w5.cell? ⟨z + 1, 0, none⟩ = some (.slice (some ⟨q, 0, none⟩) S.length c) := (cell_of_block bt 0).trans rfl
          have pt1x3 : w5.cell? ⟨z + 1, 1, none⟩ = some (.slice bv F.length d) := (cell_of_block bt 1).trans rfl
          have prow : w5.cell? ⟨q, i * 6 + 1, none⟩ = some (.int .i64 f.r) := by have h := (tabO_at HT.out i hi).2.1; rw [hf] at h; exact h
          have hi1 : (i : Int) < (S.length : Int) := by omega
          go_wp2
          clear pt0x3 pt1x3
          refine wa_begin (by kernel_rfl) ?_
          obtain ⟨w6, hD⟩ : ∃ W, w5.drew = W := ⟨_, rfl⟩
          have hb : Below w5.heap.size w5 w6 := by rw [← hD]; exact (Below.refl _ _).drew
          rw [hD]
          have prow : w6.cell? ⟨q, i * 6 + 1, none⟩ = some (.int .i64 f.r) := (hb.cell (p := ⟨q, i * 6 + 1, none⟩) hq2).trans prow
          have CC := HCC.out w6 hb
          replace br := (hb.block (z) (lt_of_block br)).trans br
          replace bt := (hb.block (z + 1) (lt_of_block bt)).trans bt
          replace HT : Hid (TabO (z + 1 + 1) w6 (.slice (some ⟨q, 0, none⟩) S.length c) (.slice bv F.length d) S F) := HT.out.below hb
          replace C := C.kept hb
          replace A : Hid (Aft B g w w6) := aft_step A.out hb (Nat.le_trans HC.out.2 (Nat.le_of_lt HC.out.1))
          replace LB : Hid (z + 1 + 1 ≤ w6.heap.size) := Nat.le_trans LB.out hb.size
          clear hb hD HCC
          refine wa_take 1 (some 63) (.int .i64 (i : Int)) rfl rfl (by kernel_rfl) (by kernel_rfl) (by kernel_rfl) (fun _ _ _ h => h) (by rfl) (fun _ => by kernel_rfl) ?_
          simp only [Act.put, List.setIfInBounds_toArray, List.set_cons_zero, List.set_cons_succ]
          refine wa_take 2 (some 64) (.pointer (some ⟨z + 1, 0, none⟩)) rfl rfl (by kernel_rfl) (by kernel_rfl) (by kernel_rfl) (fun _ _ _ h => h) (by rfl) (fun _ => by kernel_rfl) ?_
          simp only [Act.put, List.setIfInBounds_toArray, List.set_cons_zero, List.set_cons_succ]
          refine wa_take 4 (some 66) (.int .i64 (i : Int)) rfl rfl (by kernel_rfl) (by kernel_rfl) (by kernel_rfl) (fun _ _ _ h => h) (by rfl) (fun _ => by kernel_rfl) ?_
          simp only [Act.put, List.setIfInBounds_toArray, List.set_cons_zero, List.set_cons_succ]
          refine wa_first 0 (some 62) (.agg #[.slice (some ⟨q, 0, none⟩) S.length c, .slice bv F.length d]) (fun w' : World => w'.heap[z + 1]? = some (.cells #[.slice (some ⟨q, 0, none⟩) S.length c, .slice bv F.length d] 26 (0, 0))) rfl rfl (by kernel_rfl) (by kernel_rfl) (by kernel_rfl) (fun _ _ _ h => h) (by rfl) (fun w' hS => by have q0 : w'.cell? ⟨z + 1, 0, none⟩ = some (.slice (some ⟨q, 0, none⟩) S.length c) := (cell_of_block hS 0).trans rfl; have q1 : w'.cell? ⟨z + 1, 1, none⟩ = some (.slice bv F.length d) := (cell_of_block hS 1).trans rfl; clear hS; go_simp) bt ?_
          simp only [Act.put, List.setIfInBounds_toArray, List.set_cons_zero, List.set_cons_succ]
          have pt0x4 : w6.cell? ⟨z + 1, 0, none⟩ = some (.slice (some ⟨q, 0, none⟩) S.length c) := (cell_of_block bt 0).trans rfl
          have pt1x4 : w6.cell? ⟨z + 1, 1, none⟩ = some (.slice bv F.length d) := (cell_of_block bt 1).trans rfl
          refine wb_val 3 (some 65) (.slice (some ⟨q, 0, none⟩) S.length c) w6 (by kernel_rfl) (by kernel_rfl) rfl rfl (by rfl) (by go_simp) bt ?_
          simp only [Act.put, List.setIfInBounds_toArray, List.set_cons_zero, List.set_cons_succ]
          refine wb_val 5 (some 67) (.pointer (some ⟨q, i * 6, none⟩)) w6 (by kernel_rfl) (by kernel_rfl) rfl rfl (by rfl) (by go_simp) bt ?_
          simp only [Act.put, List.setIfInBounds_toArray, List.set_cons_zero, List.set_cons_succ]
          refine wb_val 6 (some 68) (.pointer (some ⟨q, i * 6 + 1, none⟩)) w6 (by kernel_rfl) (by kernel_rfl) rfl rfl (by rfl) (by go_simp) bt ?_
          simp only [Act.put, List.setIfInBounds_toArray, List.set_cons_zero, List.set_cons_succ]
          refine wb_val 7 (some 69) (.int .i64 f.r) w6 (by kernel_rfl) (by kernel_rfl) rfl rfl (by rfl) (by go_simp) bt ?_
          simp only [Act.put, List.setIfInBounds_toArray, List.set_cons_zero, List.set_cons_succ]
          clear pt0x4 pt1x4
          refine wb_leave 8 (some 70) 15 #[.agg #[.slice (some ⟨q, 0, none⟩) S.length c, .slice bv F.length d], .int .i64 (i : Int), .int .i64 f.r] (by kernel_rfl) (by kernel_rfl) rfl rfl (by rfl) (by kernel_rfl) ?_
          refine CC.mono ?_
          rintro e w7 ⟨v, u, rfl, HT1, hb⟩
          replace HT1 := HT1.out.base LB.out
          obtain ⟨a1, c1, b1, d1, rfl, rfl, _, _, _⟩ := HT1.shape2
          clear HT CC prow
          replace br := (hb.block (z) (lt_of_block br)).trans br
          replace bt := (hb.block (z + 1) (lt_of_block bt)).trans bt
          replace C := C.kept hb
          replace A : Hid (Aft B g w w7) := aft_step A.out hb (Nat.le_trans HC.out.2 (Nat.le_of_lt HC.out.1))
          replace LB : Hid (z + 1 + 1 ≤ w7.heap.size) := Nat.le_trans LB.out hb.size
          clear hb
          have HT : Hid (TabO (z + 1 + 1) w7 (.slice a1 S1.length c1) (.slice b1 F1.length d1) S1 F1) := HT1
          clear HT1
          refine ⟨_, rfl, ?_⟩
          simp only [Act.put, List.setIfInBounds_toArray, List.set_cons_zero, List.set_cons_succ]
          refine wa_take 9 (some 61) (.tuple #[.agg #[.slice a1 S1.length c1, .slice b1 F1.length d1], .agg #[.bool H1.u, .int .i64 H1.r, .int .i64 H1.p, .bool H1.o, .int .i64 H1.l, .int .i64 H1.s], .int .i64 C1]) rfl rfl (by kernel_rfl) (by kernel_rfl) (by kernel_rfl) (fun _ _ _ h => h) (by rfl) (fun _ => by go_simp) ?_
          simp only [Act.put, List.setIfInBounds_toArray, List.set_cons_zero, List.set_cons_succ]
          refine wa_take 10 (some 71) (.agg #[.slice a1 S1.length c1, .slice b1 F1.length d1]) rfl rfl (by kernel_rfl) (by kernel_rfl) (by kernel_rfl) (fun _ _ _ h => h) (by rfl) (fun _ => by first | rfl | go_simp) ?_
          simp only [Act.put, List.setIfInBounds_toArray, List.set_cons_zero, List.set_cons_succ]
          refine wa_take 11 (some 72) (.agg #[.bool H1.u, .int .i64 H1.r, .int .i64 H1.p, .bool H1.o, .int .i64 H1.l, .int .i64 H1.s]) rfl rfl (by kernel_rfl) (by kernel_rfl) (by kernel_rfl) (fun _ _ _ h => h) (by rfl) (fun _ => by first | rfl | go_simp) ?_
          simp only [Act.put, List.setIfInBounds_toArray, List.set_cons_zero, List.set_cons_succ]
          refine wa_take 12 (some 73) (.int .i64 C1) rfl rfl (by kernel_rfl) (by kernel_rfl) (by kernel_rfl) (fun _ _ _ h => h) (by rfl) (fun _ => by first | rfl | go_simp) ?_
          simp only [Act.put, List.setIfInBounds_toArray, List.set_cons_zero, List.set_cons_succ]
          have pt0x5 : w7.cell? ⟨z + 1, 0, none⟩ = some (.slice (some ⟨q, 0, none⟩) S.length c) := (cell_of_block bt 0).trans rfl
          have pt1x5 : w7.cell? ⟨z + 1, 1, none⟩ = some (.slice bv F.length d) := (cell_of_block bt 1).trans rfl
          have ft0x5 := free_of_block bt 0
          have ft1x5 := free_of_block bt 1
          obtain ⟨w8, hNw8⟩ : ∃ G, ((w7.setCell ⟨z + 1, 0, none⟩ (.slice a1 S1.length c1)).setCell ⟨z + 1, 1, none⟩ (.slice b1 F1.length d1)) = G := ⟨_, rfl⟩
          obtain ⟨s1, s2, s3, s4⟩ := set2T bt _ _ hNw8
          replace br := (s2 (z) (by omega)).trans br
          replace HT : Hid (TabO (z + 1 + 1) w8 (.slice a1 S1.length c1) (.slice b1 F1.length d1) S1 F1) := HT.out.same (fun q hq1 _ => s2 q (by omega))
          have hsl : w.heap.size ≤ z + 1 := by have hc1 := HC.out; have hc2 := HZ.out; omega
          have hs : Below w.heap.size w7 w8 := s4 _ _ hsl (Below.refl _ _)
          replace C := cur_upto C hs HC.out.1
          replace A : Hid (Aft B g w w8) := aft_upto A.out hs (Nat.le_trans HC.out.2 (Nat.le_of_lt HC.out.1))
          replace LB : Hid (z + 1 + 1 ≤ w8.heap.size) := by unfold Hid; rw [s3]; exact LB.out
          replace bt := s1
          clear s1 s2 s3 s4 hs hsl
          refine wa_store 13 none w8 (by kernel_rfl) rfl rfl (by rfl) (by rw [← hNw8]; go_simp) ?_
          simp only [Act.put]
          clear pt0x5 pt1x5 ft0x5 ft1x5 hNw8
          refine wa_done (by kernel_rfl) ?_
          have REL : Hid (∃ N', N' + j ≤ 60 ∧ Small S1 F1 N') := ⟨N + 1, by have := HSM.out.1; omega, HSM1.out⟩
          have REL2 : Hid (∃ M', M' + 20 * j ≤ m + 1100 ∧ TabL B g w z a n cap M' w8 S1 F1) := ⟨M + 2 + 2, by have := HMJ.out; omega, ⟨⟨a1, c1, b1, d1, bt, HT.out⟩, br, C, A.out, LB.out⟩⟩
          have HJ2 : Hid (j ≤ 50) := by unfold Hid; have := HJ.out; omega
          go_wp2
          go_roundw
          case rel => exact ⟨j, S1, F1, congrArg (Value.int .i64) HWJ.out.1, HJ2, REL, REL2⟩
          case measure => exact HWJ.out.2
        · have hS1 : ¬ (0 : Int) < (S.length : Int) := by omega
          clear hS
          have REL : Hid (∃ N', N' + j ≤ 60 ∧ Small S F N') := ⟨N, by have := HSM.out.1; omega, HSM.out.2⟩
          have REL2 : Hid (∃ M', M' + 20 * j ≤ m + 1100 ∧ TabL B g w z a n cap M' w4 S F) := ⟨M + 2, by have := HMJ.out; omega, ⟨⟨av, c, bv, d, bt, HT.out⟩, br, C, A.out, LB.out⟩⟩
          have HJ2 : Hid (j ≤ 50) := by unfold Hid; have := HJ.out; omega
          go_wp2
          go_roundw
          case rel => exact ⟨j, S, F, congrArg (Value.int .i64) HWJ.out.1, HJ2, REL, REL2⟩
          case measure => exact HWJ.out.2
      · have hq0' : (q == 0) = false := by simpa using hq0
        have hq1' : (q == 1) = false := by simpa using hq1
        clear hq0 hq1
        go_wp2
        refine wa_begin (by kernel_rfl) ?_
        obtain ⟨w5, hD⟩ : ∃ W, w4.drew = W := ⟨_, rfl⟩
        have hb : Below w4.heap.size w4 w5 := by rw [← hD]; exact (Below.refl _ _).drew
        rw [hD]
        replace br := (hb.block (z) (lt_of_block br)).trans br
        replace bt := (hb.block (z + 1) (lt_of_block bt)).trans bt
        replace HT : Hid (TabO (z + 1 + 1) w5 (.slice av S.length c) (.slice bv F.length d) S F) := HT.out.below hb
        replace C := C.kept hb
        replace A : Hid (Aft B g w w5) := aft_step A.out hb (Nat.le_trans HC.out.2 (Nat.le_of_lt HC.out.1))
        replace LB : Hid (z + 1 + 1 ≤ w5.heap.size) := Nat.le_trans LB.out hb.size
        clear hb hD hq0' hq1'
        refine wa_take 1 (some 20) (.pointer (some ⟨g, 0, none⟩)) rfl rfl (by kernel_rfl) (by kernel_rfl) (by kernel_rfl) (fun _ _ _ h => h) (by rfl) (fun _ => by kernel_rfl) ?_
        simp only [Act.put, List.setIfInBounds_toArray, List.set_cons_zero, List.set_cons_succ]
        refine wa_first 0 (some 19) (.agg #[.slice av S.length c, .slice bv F.length d]) (fun w' : World => w'.heap[z + 1]? = some (.cells #[.slice av S.length c, .slice bv F.length d] 26 (0, 0))) rfl rfl (by kernel_rfl) (by kernel_rfl) (by kernel_rfl) (fun _ _ _ h => h) (by rfl) (fun w' hS => by have q0 : w'.cell? ⟨z + 1, 0, none⟩ = some (.slice av S.length c) := (cell_of_block hS 0).trans rfl; have q1 : w'.cell? ⟨z + 1, 1, none⟩ = some (.slice bv F.length d) := (cell_of_block hS 1).trans rfl; clear hS; go_simp) bt ?_
        simp only [Act.put, List.setIfInBounds_toArray, List.set_cons_zero, List.set_cons_succ]
        refine wb_call 2 (some 21) 19 #[.pointer (some ⟨g, 0, none⟩)] (by kernel_rfl) (by kernel_rfl) rfl rfl (by rfl) (by kernel_rfl) ?_
        refine (curHandle g a n cap B (M + 2) (hid_le (by have := HM.out; omega)) w5 C).mono ?_
        rintro e w6 ⟨h, rfl, C1, ha⟩
        replace br := (ha.blk (z) (by have hc1 := HC.out; have hc2 := HZ.out; omega) (lt_of_block br)).trans br
        replace bt := (ha.blk (z + 1) (by have hc1 := HC.out; have hc2 := HZ.out; omega) (lt_of_block bt)).trans bt
        replace HT : Hid (TabO (z + 1 + 1) w6 (.slice av S.length c) (.slice bv F.length d) S F) := HT.out.same (fun q hq1 hq2 => ha.blk q (by have hc1 := HC.out; have hc2 := HZ.out; omega) hq2)
        replace A : Hid (Aft B g w w6) := A.out.trans ha
        replace LB : Hid (z + 1 + 1 ≤ w6.heap.size) := Nat.le_trans LB.out ha.size
        clear ha C
        have C := C1
        clear C1
        refine ⟨_, rfl, bt, ?_⟩
        simp only [Act.put, List.setIfInBounds_toArray, List.set_cons_zero, List.set_cons_succ]
        obtain ⟨S1, F1, N1, C1, hR⟩ := new_r S F h
        have hSm1 := small_new hR HSM.out.2
        have CC := specNew _ _ c d S F h S1 F1 N1 C1 w6 (tabO_rows HT.out).1 (tabO_rows HT.out).2 (by omega) (by omega) (tabO_d HT.out rfl) hR
        have HSM1 : Hid (Small S1 F1 (N + 1)) := hSm1
        have hl1 : S1.length ≤ 70 := by have := hSm1.1; have := HSM.out.1; omega
        have hl2 : F1.length ≤ 70 := by have := hSm1.2.1; have := HSM.out.1; omega
        unfold tabV hdV at CC
        clear hR hSm1
        refine wb_leave 3 (some 22) 7 #[.agg #[.slice av S.length c, .slice bv F.length d], .agg #[.bool h.u, .int .i64 h.r, .int .i64 h.p, .bool h.o, .int .i64 h.l, .int .i64 h.s]] (by kernel_rfl) (by kernel_rfl) rfl rfl (by rfl) (by kernel_rfl) ?_
        refine CC.mono ?_
        rintro e w7 ⟨v, u, rfl, HT1, hb⟩
        replace HT1 := HT1.out.base LB.out
        obtain ⟨a1, c1, b1, d1, rfl, rfl, _, _, _⟩ := HT1.shape2
        clear HT CC
        replace br := (hb.block (z) (lt_of_block br)).trans br
        replace bt := (hb.block (z + 1) (lt_of_block bt)).trans bt
        replace C := C.kept hb
        replace A : Hid (Aft B g w w7) := aft_step A.out hb (Nat.le_trans HC.out.2 (Nat.le_of_lt HC.out.1))
        replace LB : Hid (z + 1 + 1 ≤ w7.heap.size) := Nat.le_trans LB.out hb.size
        clear hb
        have HT : Hid (TabO (z + 1 + 1) w7 (.slice a1 S1.length c1) (.slice b1 F1.length d1) S1 F1) := HT1
        clear HT1
        refine ⟨_, rfl, ?_⟩
        simp only [Act.put, List.setIfInBounds_toArray, List.set_cons_zero, List.set_cons_succ]
        refine wa_take 4 (some 18) (.tuple #[.agg #[.slice a1 S1.length c1, .slice b1 F1.length d1], .int .i64 N1, .int .i64 C1]) rfl rfl (by kernel_rfl) (by kernel_rfl) (by kernel_rfl) (fun _ _ _ h => h) (by rfl) (fun _ => by go_simp) ?_
        simp only [Act.put, List.setIfInBounds_toArray, List.set_cons_zero, List.set_cons_succ]
        refine wa_take 5 (some 23) (.agg #[.slice a1 S1.length c1, .slice b1 F1.length d1]) rfl rfl (by kernel_rfl) (by kernel_rfl) (by kernel_rfl) (fun _ _ _ h => h) (by rfl) (fun _ => by first | rfl | go_simp) ?_
        simp only [Act.put, List.setIfInBounds_toArray, List.set_cons_zero, List.set_cons_succ]
        refine wa_take 6 (some 24) (.int .i64 N1) rfl rfl (by kernel_rfl) (by kernel_rfl) (by kernel_rfl) (fun _ _ _ h => h) (by rfl) (fun _ => by first | rfl | go_simp) ?_
        simp only [Act.put, List.setIfInBounds_toArray, List.set_cons_zero, List.set_cons_succ]
        refine wa_take 7 (some 25) (.int .i64 C1) rfl rfl (by kernel_rfl) (by kernel_rfl) (by kernel_rfl) (fun _ _ _ h => h) (by rfl) (fun _ => by first | rfl | go_simp) ?_
        simp only [Act.put, List.setIfInBounds_toArray, List.set_cons_zero, List.set_cons_succ]
        have pt0x2 : w7.cell? ⟨z + 1, 0, none⟩ = some (.slice av S.length c) := (cell_of_block bt 0).trans rfl
        have pt1x2 : w7.cell? ⟨z + 1, 1, none⟩ = some (.slice bv F.length d) := (cell_of_block bt 1).trans rfl
        have ft0x2 := free_of_block bt 0
        have ft1x2 := free_of_block bt 1
        obtain ⟨w8, hNw8⟩ : ∃ G, ((w7.setCell ⟨z + 1, 0, none⟩ (.slice a1 S1.length c1)).setCell ⟨z + 1, 1, none⟩ (.slice b1 F1.length d1)) = G := ⟨_, rfl⟩
        obtain ⟨s1, s2, s3, s4⟩ := set2T bt _ _ hNw8
        replace br := (s2 (z) (by omega)).trans br
        replace HT : Hid (TabO (z + 1 + 1) w8 (.slice a1 S1.length c1) (.slice b1 F1.length d1) S1 F1) := HT.out.same (fun q hq1 _ => s2 q (by omega))
        have hsl : w.heap.size ≤ z + 1 := by have hc1 := HC.out; have hc2 := HZ.out; omega
        have hs : Below w.heap.size w7 w8 := s4 _ _ hsl (Below.refl _ _)
        replace C := cur_upto C hs HC.out.1
        replace A : Hid (Aft B g w w8) := aft_upto A.out hs (Nat.le_trans HC.out.2 (Nat.le_of_lt HC.out.1))
        replace LB : Hid (z + 1 + 1 ≤ w8.heap.size) := by unfold Hid; rw [s3]; exact LB.out
        replace bt := s1
        clear s1 s2 s3 s4 hs hsl
        refine wa_store 8 none w8 (by kernel_rfl) rfl rfl (by rfl) (by rw [← hNw8]; go_simp) ?_
        simp only [Act.put]
        clear pt0x2 pt1x2 ft0x2 ft1x2 hNw8
        refine wa_done (by kernel_rfl) ?_
        have REL : Hid (∃ N', N' + j ≤ 60 ∧ Small S1 F1 N') := ⟨N + 1, by have := HSM.out.1; omega, HSM1.out⟩
        have REL2 : Hid (∃ M', M' + 20 * j ≤ m + 1100 ∧ TabL B g w z a n cap M' w8 S1 F1) := ⟨M + 2 + 16, by have := HMJ.out; omega, ⟨⟨a1, c1, b1, d1, bt, HT.out⟩, br, C, A.out, LB.out⟩⟩
        have HJ2 : Hid (j ≤ 50) := by unfold Hid; have := HJ.out; omega
        go_wp2
        go_roundw
        case rel => exact ⟨j, S1, F1, congrArg (Value.int .i64) HWJ.out.1, HJ2, REL, REL2⟩
        case measure => exact HWJ.out.2
    · obtain rfl : j = 0 := by omega
      have hj0 : ¬ (0 : Int) < ((0 : Nat) : Int) := by omega
      go_wp2_with fail
      refine (curPick 40 (by omega) (by omega) g a n cap B (M) (hid_le (by have := HM.out; omega)) wr C).mono ?_
      rintro e w4 ⟨q, q0, q1, rfl, C1, ha⟩
      replace br := (ha.blk (z) (by have hc1 := HC.out; have hc2 := HZ.out; omega) (lt_of_block br)).trans br
      replace bt := (ha.blk (z + 1) (by have hc1 := HC.out; have hc2 := HZ.out; omega) (lt_of_block bt)).trans bt
      replace HT : Hid (TabO (z + 1 + 1) w4 (.slice av S.length c) (.slice bv F.length d) S F) := HT.out.same (fun q hq1 hq2 => ha.blk q (by have hc1 := HC.out; have hc2 := HZ.out; omega) hq2)
      replace A : Hid (Aft B g w w4) := A.out.trans ha
      replace LB : Hid (z + 1 + 1 ≤ w4.heap.size) := Nat.le_trans LB.out ha.size
      clear ha C
      have C := C1
      clear C1
      have hq : q = 0 ∨ q = 1 ∨ (¬ q = 0 ∧ ¬ q = 1) := by omega
      clear q0 q1
      rcases hq with rfl | rfl | ⟨hq0, hq1⟩
      · go_wp2
        refine wa_begin (by kernel_rfl) ?_
        obtain ⟨w5, hD⟩ : ∃ W, w4.drew = W := ⟨_, rfl⟩
        have hb : Below w4.heap.size w4 w5 := by rw [← hD]; exact (Below.refl _ _).drew
        rw [hD]
        replace br := (hb.block (z) (lt_of_block br)).trans br
        replace bt := (hb.block (z + 1) (lt_of_block bt)).trans bt
        replace HT : Hid (TabO (z + 1 + 1) w5 (.slice av S.length c) (.slice bv F.length d) S F) := HT.out.below hb
        replace C := C.kept hb
        replace A : Hid (Aft B g w w5) := aft_step A.out hb (Nat.le_trans HC.out.2 (Nat.le_of_lt HC.out.1))
        replace LB : Hid (z + 1 + 1 ≤ w5.heap.size) := Nat.le_trans LB.out hb.size
        clear hb hD
        refine wa_take 0 (some 78) (.pointer (some ⟨z + 1, 1, none⟩)) rfl rfl (by kernel_rfl) (by kernel_rfl) (by kernel_rfl) (fun _ _ _ h => h) (by rfl) (fun _ => by kernel_rfl) ?_
        simp only [Act.put, List.setIfInBounds_toArray, List.set_cons_zero, List.set_cons_succ]
        refine wa_take 2 (some 80) (.pointer (some ⟨g, 0, none⟩)) rfl rfl (by kernel_rfl) (by kernel_rfl) (by kernel_rfl) (fun _ _ _ h => h) (by rfl) (fun _ => by kernel_rfl) ?_
        simp only [Act.put, List.setIfInBounds_toArray, List.set_cons_zero, List.set_cons_succ]
        refine wa_first 1 (some 79) (.slice bv F.length d) (fun w' : World => w'.heap[z + 1]? = some (.cells #[.slice av S.length c, .slice bv F.length d] 26 (0, 0))) rfl rfl (by kernel_rfl) (by kernel_rfl) (by kernel_rfl) (fun _ _ _ h => h) (by rfl) (fun w' hS => by have q1 : w'.cell? ⟨z + 1, 1, none⟩ = some (.slice bv F.length d) := (cell_of_block hS 1).trans rfl; clear hS; go_simp) bt ?_
        simp only [Act.put, List.setIfInBounds_toArray, List.set_cons_zero, List.set_cons_succ]
        refine wb_call 3 (some 81) 34 #[.pointer (some ⟨g, 0, none⟩), .int .i64 5] (by kernel_rfl) (by kernel_rfl) rfl rfl (by rfl) (by kernel_rfl) ?_
        refine (curPick 5 (by omega) (by omega) g a n cap B (M + 2) (hid_le (by have := HM.out; omega)) w5 C).mono ?_
        rintro e w6 ⟨x, x0, x1, rfl, C1, ha⟩
        replace br := (ha.blk (z) (by have hc1 := HC.out; have hc2 := HZ.out; omega) (lt_of_block br)).trans br
        replace bt := (ha.blk (z + 1) (by have hc1 := HC.out; have hc2 := HZ.out; omega) (lt_of_block bt)).trans bt
        replace HT : Hid (TabO (z + 1 + 1) w6 (.slice av S.length c) (.slice bv F.length d) S F) := HT.out.same (fun q hq1 hq2 => ha.blk q (by have hc1 := HC.out; have hc2 := HZ.out; omega) hq2)
        replace A : Hid (Aft B g w w6) := A.out.trans ha
        replace LB : Hid (z + 1 + 1 ≤ w6.heap.size) := Nat.le_trans LB.out ha.size
        clear ha C
        have C := C1
        clear C1
        refine ⟨_, rfl, bt, ?_⟩
        simp only [Act.put, List.setIfInBounds_toArray, List.set_cons_zero, List.set_cons_succ]
        obtain ⟨y, hy⟩ : ∃ y, w6.heap.size = y := ⟨_, rfl⟩
        have hb : Below w6.heap.size w6 (w6.alloc (.cells #[.int .i64 x] 3)) := bel_alloc (Below.refl _ _) _
        have by_ : (w6.alloc (.cells #[.int .i64 x] 3)).heap[y]? = some (.cells #[.int .i64 x] 3 (0, 0)) := by rw [← hy]; exact heap_alloc_new _ _
        have bt' := (hb.block (z + 1) (lt_of_block bt)).trans bt
        refine wb_val 4 (some 82) (.slice (some ⟨w6.heap.size, 0, none⟩) 1 1) (w6.alloc (.cells #[.int .i64 x] 3)) (by kernel_rfl) (by kernel_rfl) rfl rfl (by rfl) (by go_simp) bt' ?_
        simp only [Act.put, List.setIfInBounds_toArray, List.set_cons_zero, List.set_cons_succ]
        rw [hy]
        obtain ⟨w7, hW⟩ : ∃ W, w6.alloc (.cells #[.int .i64 x] 3) = W := ⟨_, rfl⟩
        rw [hW] at hb by_ bt' ⊢
        replace br := (hb.block (z) (lt_of_block br)).trans br
        replace bt := (hb.block (z + 1) (lt_of_block bt)).trans bt
        replace HT : Hid (TabO (z + 1 + 1) w7 (.slice av S.length c) (.slice bv F.length d) S F) := HT.out.below hb
        replace C := C.kept hb
        replace A : Hid (Aft B g w w7) := aft_step A.out hb (Nat.le_trans HC.out.2 (Nat.le_of_lt HC.out.1))
        replace LB : Hid (z + 1 + 1 ≤ w7.heap.size) := Nat.le_trans LB.out hb.size
        clear hb bt' hW hy
        obtain ⟨u', wA, hrun, hown, hgr⟩ := appI1 w7 (z + 1 + 1) (.slice bv F.length d) F HT.out.ints x y ((cell_of_block by_ 0).trans rfl) (by omega) LB.out 24
        refine wb_leave_val 5 (some 83) u' wA (by kernel_rfl) (by kernel_rfl) rfl rfl (by rfl) (by simp [execOp, resolve, invoke, builtin, Act.eval, hrun, Result.andThen]) ?_
        simp only [Act.put, List.setIfInBounds_toArray, List.set_cons_zero, List.set_cons_succ]
        obtain ⟨bA, dA, rfl, _⟩ := ownT_shape hown
        have hb : Below (z + 1 + 1) w7 wA := (Below.refl _ _).grown hgr LB.out (fun q hq => (HT.out.ints.lt q hq).1)
        have HT1 : Hid (TabO (z + 1 + 1) wA (.slice av S.length c) (.slice bA (F ++ [x]).length dA) S (F ++ [x])) := ⟨other_row HT.out.ints hgr HT.out.hds (by decide), hown⟩
        clear HT by_ hrun hgr hown
        replace br := (hb.block z (by omega)).trans br
        replace bt := (hb.block (z + 1) (by omega)).trans bt
        replace C := cur_upto C hb (by have hc1 := HC.out; have hc2 := HZ.out; omega)
        replace A : Hid (Aft B g w wA) := aft_upto A.out (hb.mono (by have hc2 := HZ.out; omega)) (Nat.le_trans HC.out.2 (Nat.le_of_lt HC.out.1))
        replace LB : Hid (z + 1 + 1 ≤ wA.heap.size) := Nat.le_trans LB.out hb.size
        have HT := HT1
        clear HT1 hb
        have hlen : (F ++ [x]).length = F.length + 1 := by simp
        rw [hlen] at HT ⊢
        refine wa_take 6 (some 84) (.pointer (some ⟨z + 1, 1, none⟩)) rfl rfl (by kernel_rfl) (by kernel_rfl) (by kernel_rfl) (fun _ _ _ h => h) (by rfl) (fun _ => by kernel_rfl) ?_
        simp only [Act.put, List.setIfInBounds_toArray, List.set_cons_zero, List.set_cons_succ]
        have pt0x2 : wA.cell? ⟨z + 1, 0, none⟩ = some (.slice av S.length c) := (cell_of_block bt 0).trans rfl
        have pt1x2 : wA.cell? ⟨z + 1, 1, none⟩ = some (.slice bv F.length d) := (cell_of_block bt 1).trans rfl
        have ft0x2 := free_of_block bt 0
        have ft1x2 := free_of_block bt 1
        obtain ⟨w8, hNw8⟩ : ∃ G, (wA.setCell ⟨z + 1, 1, none⟩ (.slice bA (F.length + 1) dA)) = G := ⟨_, rfl⟩
        obtain ⟨s1, s2, s3, s4⟩ := set1T bt 1 (.slice bA (F.length + 1) dA) hNw8
        replace s1 : w8.heap[z + 1]? = some (.cells #[.slice av S.length c, .slice bA (F.length + 1) dA] 26 (0, 0)) := s1
        replace br := (s2 (z) (by omega)).trans br
        replace HT : Hid (TabO (z + 1 + 1) w8 (.slice av S.length c) (.slice bA (F.length + 1) dA) S (F ++ [x])) := HT.out.same (fun q hq1 _ => s2 q (by omega))
        have hsl : w.heap.size ≤ z + 1 := by have hc1 := HC.out; have hc2 := HZ.out; omega
        have hs : Below w.heap.size wA w8 := s4 _ _ hsl (Below.refl _ _)
        replace C := cur_upto C hs HC.out.1
        replace A : Hid (Aft B g w w8) := aft_upto A.out hs (Nat.le_trans HC.out.2 (Nat.le_of_lt HC.out.1))
        replace LB : Hid (z + 1 + 1 ≤ w8.heap.size) := by unfold Hid; rw [s3]; exact LB.out
        replace bt := s1
        clear s1 s2 s3 s4 hs hsl
        refine wa_store 7 none w8 (by kernel_rfl) rfl rfl (by rfl) (by rw [← hNw8]; go_simp) ?_
        simp only [Act.put]
        clear pt0x2 pt1x2 ft0x2 ft1x2 hNw8
        refine wa_done (by kernel_rfl) ?_
        have HX : Hid (0 ≤ x ∧ x < 5) := ⟨x0, x1⟩
        clear hlen x0 x1
        have HSF : Hid (Small S (F ++ [x]) 100) := ⟨by have := HSM.out.2.1; have := HSM.out.1; omega, by have := HSM.out.2.2.1; have := HSM.out.1; simp; omega, fun y hy => by rcases List.mem_append.mp hy with h | h; exact HSM.out.2.2.2 y h; simp at h; have := HX.out; omega⟩
        have pt0x3 : w8.cell? ⟨z + 1, 0, none⟩ = some (.slice av S.length c) := (cell_of_block bt 0).trans rfl
        have pt1x3 : w8.cell? ⟨z + 1, 1, none⟩ = some (.slice bA (F.length + 1) dA) := (cell_of_block bt 1).trans rfl
        have pr0x4 : w8.cell? ⟨z, 0, none⟩ = some (.slice none 0 0) := (cell_of_block br 0).trans rfl
        have pr1x4 : w8.cell? ⟨z, 1, none⟩ = some (.slice none 0 0) := (cell_of_block br 1).trans rfl
        have fr0x4 := free_of_block br 0
        have fr1x4 := free_of_block br 1
        obtain ⟨w9, hNw9⟩ : ∃ G, ((w8.setCell ⟨z, 0, none⟩ (.slice av S.length c)).setCell ⟨z, 1, none⟩ (.slice bA (F.length + 1) dA)) = G := ⟨_, rfl⟩
        obtain ⟨s1, s2, s3, s4⟩ := set2T br _ _ hNw9
        replace bt := (s2 (z + 1) (by omega)).trans bt
        replace HT : Hid (TabO (z + 1 + 1) w9 (.slice av S.length c) (.slice bA (F.length + 1) dA) S (F ++ [x])) := HT.out.same (fun q hq1 _ => s2 q (by omega))
        have hsl : w.heap.size ≤ z := by have hc1 := HC.out; have hc2 := HZ.out; omega
        have hs : Below w.heap.size w8 w9 := s4 _ _ hsl (Below.refl _ _)
        replace C := cur_upto C hs HC.out.1
        replace A : Hid (Aft B g w w9) := aft_upto A.out hs (Nat.le_trans HC.out.2 (Nat.le_of_lt HC.out.1))
        replace LB : Hid (z + 1 + 1 ≤ w9.heap.size) := by unfold Hid; rw [s3]; exact LB.out
        replace br := s1
        clear s1 s2 s3 s4 hs hsl
        have zr0 : w9.cell? ⟨z, 0, none⟩ = some (.slice av S.length c) := (cell_of_block br 0).trans rfl
        have zr1 : w9.cell? ⟨z, 1, none⟩ = some (.slice bA (F.length + 1) dA) := (cell_of_block br 1).trans rfl
        go_wp2
        exact bodyPost_ret (v := .agg #[.slice av S.length c, .slice bA (F.length + 1) dA]) (by simp [results, Try.results18, go_sem, zr0, zr1]) rfl ⟨S, (F ++ [x]), .slice av S.length c, .slice bA (F.length + 1) dA, rfl, ⟨HT.out.base (by have := HZ.out; omega), HSF.out⟩, C.more (by have := HMJ.out; omega), A.out⟩
      · have pt0x2 : w4.cell? ⟨z + 1, 0, none⟩ = some (.slice av S.length c) := (cell_of_block bt 0).trans rfl
        by_cases hS : 0 < S.length
        · have hS1 : (0 : Int) < (S.length : Int) := by omega
          go_wp2
          clear pt0x2
          refine wa_begin (by kernel_rfl) ?_
          obtain ⟨w5, hD⟩ : ∃ W, w4.drew = W := ⟨_, rfl⟩
          have hb : Below w4.heap.size w4 w5 := by rw [← hD]; exact (Below.refl _ _).drew
          rw [hD]
          replace br := (hb.block (z) (lt_of_block br)).trans br
          replace bt := (hb.block (z + 1) (lt_of_block bt)).trans bt
          replace HT : Hid (TabO (z + 1 + 1) w5 (.slice av S.length c) (.slice bv F.length d) S F) := HT.out.below hb
          replace C := C.kept hb
          replace A : Hid (Aft B g w w5) := aft_step A.out hb (Nat.le_trans HC.out.2 (Nat.le_of_lt HC.out.1))
          replace LB : Hid (z + 1 + 1 ≤ w5.heap.size) := Nat.le_trans LB.out hb.size
          clear hb hD
          obtain ⟨q, rfl, hq1, hq2⟩ := row_pos HT.out.hds hS
          clear hq2
          refine wa_take 0 (some 91) (.pointer (some ⟨z + 1, 0, none⟩)) rfl rfl (by kernel_rfl) (by kernel_rfl) (by kernel_rfl) (fun _ _ _ h => h) (by rfl) (fun _ => by kernel_rfl) ?_
          simp only [Act.put, List.setIfInBounds_toArray, List.set_cons_zero, List.set_cons_succ]
          refine wa_take 2 (some 93) (.pointer (some ⟨g, 0, none⟩)) rfl rfl (by kernel_rfl) (by kernel_rfl) (by kernel_rfl) (fun _ _ _ h => h) (by rfl) (fun _ => by kernel_rfl) ?_
          simp only [Act.put, List.setIfInBounds_toArray, List.set_cons_zero, List.set_cons_succ]
          refine wa_first 1 (some 92) (.slice (some ⟨q, 0, none⟩) S.length c) (fun w' : World => w'.heap[z + 1]? = some (.cells #[.slice (some ⟨q, 0, none⟩) S.length c, .slice bv F.length d] 26 (0, 0))) rfl rfl (by kernel_rfl) (by kernel_rfl) (by kernel_rfl) (fun _ _ _ h => h) (by rfl) (fun w' hS => by have q0 : w'.cell? ⟨z + 1, 0, none⟩ = some (.slice (some ⟨q, 0, none⟩) S.length c) := (cell_of_block hS 0).trans rfl; clear hS; go_simp) bt ?_
          simp only [Act.put, List.setIfInBounds_toArray, List.set_cons_zero, List.set_cons_succ]
          obtain ⟨y, hy⟩ : ∃ y, w5.heap.size = y := ⟨_, rfl⟩
          have hb : Below w5.heap.size w5 (w5.alloc (.cells #[.int .i64 (-1), .int .i64 1000, .int .i64 1001] 3)) := bel_alloc (Below.refl _ _) _
          have by_ : (w5.alloc (.cells #[.int .i64 (-1), .int .i64 1000, .int .i64 1001] 3)).heap[y]? = some (.cells #[.int .i64 (-1), .int .i64 1000, .int .i64 1001] 3 (0, 0)) := by rw [← hy]; exact heap_alloc_new _ _
          have hr := row_new w5 [.int .i64 (-1), .int .i64 1000, .int .i64 1001] 3 (by decide)
          have bt' := (hb.block (z + 1) (lt_of_block bt)).trans bt
          have hly : Hid (z + 1 + 1 ≤ y) := by unfold Hid; rw [← hy]; exact LB.out
          refine wb_val 3 (some 94) (.slice (some ⟨w5.heap.size, 0, none⟩) 3 3) (w5.alloc (.cells #[.int .i64 (-1), .int .i64 1000, .int .i64 1001] 3)) (by kernel_rfl) (by kernel_rfl) rfl rfl (by rfl) (by go_simp) bt' ?_
          simp only [Act.put, List.setIfInBounds_toArray, List.set_cons_zero, List.set_cons_succ]
          rw [hy] at hr ⊢
          obtain ⟨w6, hW⟩ : ∃ W, w5.alloc (.cells #[.int .i64 (-1), .int .i64 1000, .int .i64 1001] 3) = W := ⟨_, rfl⟩
          rw [show (w5.alloc (.cells [Value.int .i64 (-1), .int .i64 1000, .int .i64 1001].toArray 3)) = w6 from hW] at hr
          rw [hW] at hb by_ bt' ⊢
          replace br := (hb.block (z) (lt_of_block br)).trans br
          replace bt := (hb.block (z + 1) (lt_of_block bt)).trans bt
          replace HT : Hid (TabO (z + 1 + 1) w6 (.slice (some ⟨q, 0, none⟩) S.length c) (.slice bv F.length d) S F) := HT.out.below hb
          replace C := C.kept hb
          replace A : Hid (Aft B g w w6) := aft_step A.out hb (Nat.le_trans HC.out.2 (Nat.le_of_lt HC.out.1))
          replace LB : Hid (z + 1 + 1 ≤ w6.heap.size) := Nat.le_trans LB.out hb.size
          clear hb bt' hW hy
          refine wb_call 4 (some 95) 37 #[.pointer (some ⟨g, 0, none⟩), .slice (some ⟨y, 0, none⟩) 3 3] (by kernel_rfl) (by kernel_rfl) rfl rfl (by rfl) (by kernel_rfl) ?_
          refine (curAmong y 3 (by omega) (by omega) g a n cap B (M + 2) (hid_le (by have := HM.out; omega)) w6 C hr (lt_of_block by_) (by have := hly.out; have hc1 := HC.out; have hc2 := HZ.out; omega)).mono ?_
          clear hr by_ hly
          rintro e w7 ⟨x, _, _, rfl, C1, ha⟩
          replace br := (ha.blk (z) (by have hc1 := HC.out; have hc2 := HZ.out; omega) (lt_of_block br)).trans br
          replace bt := (ha.blk (z + 1) (by have hc1 := HC.out; have hc2 := HZ.out; omega) (lt_of_block bt)).trans bt
          replace HT : Hid (TabO (z + 1 + 1) w7 (.slice (some ⟨q, 0, none⟩) S.length c) (.slice bv F.length d) S F) := HT.out.same (fun q hq1 hq2 => ha.blk q (by have hc1 := HC.out; have hc2 := HZ.out; omega) hq2)
          replace A : Hid (Aft B g w w7) := A.out.trans ha
          replace LB : Hid (z + 1 + 1 ≤ w7.heap.size) := Nat.le_trans LB.out ha.size
          clear ha C
          have C := C1
          clear C1
          refine ⟨_, rfl, bt, ?_⟩
          simp only [Act.put, List.setIfInBounds_toArray, List.set_cons_zero, List.set_cons_succ]
          refine wb_leave_val 5 (some 96) (.pointer (some ⟨q, 0, none⟩)) w7 (by kernel_rfl) (by kernel_rfl) rfl rfl (by rfl) (by go_simp) ?_
          simp only [Act.put, List.setIfInBounds_toArray, List.set_cons_zero, List.set_cons_succ]
          refine wa_val 6 (some 97) (.pointer (some ⟨q, 4, none⟩)) w7 (by kernel_rfl) rfl rfl (by rfl) (by kernel_rfl) ?_
          simp only [Act.put, List.setIfInBounds_toArray, List.set_cons_zero, List.set_cons_succ]
          have HS4 := HT.out.setL rfl 0 hS x
          rw [Nat.zero_mul, Nat.zero_add] at HS4
          obtain ⟨_, _, _, _, pl, _⟩ := tabO_at HT.out 0 hS
          rw [Nat.zero_mul, Nat.zero_add] at pl
          have pf : w7.frozen? ⟨q, 4, none⟩ = false := by obtain ⟨cur, hc, _⟩ := own_at HT.out.hds (g := q) rfl; exact free_of_block hc 4
          have hs : Below (z + 1 + 1) w7 (w7.setCell ⟨q, 4, none⟩ (.int .i64 x)) := (Below.refl _ _).setCell (p := ⟨q, 4, none⟩) hq1 _
          refine wa_store 7 none (w7.setCell ⟨q, 4, none⟩ (.int .i64 x)) (by kernel_rfl) rfl rfl (by rfl) (by go_simp) ?_
          simp only [Act.put]
          clear pl pf
          obtain ⟨w8, hW⟩ : ∃ W, w7.setCell ⟨q, 4, none⟩ (.int .i64 x) = W := ⟨_, rfl⟩
          rw [hW] at HS4 hs ⊢
          replace br := (hs.block z (by omega)).trans br
          replace bt := (hs.block (z + 1) (by omega)).trans bt
          replace C := cur_upto C hs (by have hc1 := HC.out; have hc2 := HZ.out; omega)
          replace A : Hid (Aft B g w w8) := aft_upto A.out (hs.mono (by have hc2 := HZ.out; omega)) (Nat.le_trans HC.out.2 (Nat.le_of_lt HC.out.1))
          replace LB : Hid (z + 1 + 1 ≤ w8.heap.size) := Nat.le_trans LB.out hs.size
          clear HT hW hs
          have HT : Hid (TabO (z + 1 + 1) w8 (.slice (some ⟨q, 0, none⟩) S.length c) (.slice bv F.length d) (S.set 0 (lendH S[0] x)) F) := HS4
          clear HS4
          refine wa_done (by kernel_rfl) ?_
          have HSF : Hid (Small (S.set 0 (lendH S[0] x)) F 100) := ⟨by have := HSM.out.2.1; have := HSM.out.1; simp; omega, by have := HSM.out.2.2.1; have := HSM.out.1; omega, HSM.out.2.2.2⟩
          have pt0x3 : w8.cell? ⟨z + 1, 0, none⟩ = some (.slice (some ⟨q, 0, none⟩) S.length c) := (cell_of_block bt 0).trans rfl
          have pt1x3 : w8.cell? ⟨z + 1, 1, none⟩ = some (.slice bv F.length d) := (cell_of_block bt 1).trans rfl
          have pr0x4 : w8.cell? ⟨z, 0, none⟩ = some (.slice none 0 0) := (cell_of_block br 0).trans rfl
          have pr1x4 : w8.cell? ⟨z, 1, none⟩ = some (.slice none 0 0) := (cell_of_block br 1).trans rfl
          have fr0x4 := free_of_block br 0
          have fr1x4 := free_of_block br 1
          obtain ⟨w9, hNw9⟩ : ∃ G, ((w8.setCell ⟨z, 0, none⟩ (.slice (some ⟨q, 0, none⟩) S.length c)).setCell ⟨z, 1, none⟩ (.slice bv F.length d)) = G := ⟨_, rfl⟩
          obtain ⟨s1, s2, s3, s4⟩ := set2T br _ _ hNw9
          replace bt := (s2 (z + 1) (by omega)).trans bt
          replace HT : Hid (TabO (z + 1 + 1) w9 (.slice (some ⟨q, 0, none⟩) S.length c) (.slice bv F.length d) (S.set 0 (lendH S[0] x)) F) := HT.out.same (fun q hq1 _ => s2 q (by omega))
          have hsl : w.heap.size ≤ z := by have hc1 := HC.out; have hc2 := HZ.out; omega
          have hs : Below w.heap.size w8 w9 := s4 _ _ hsl (Below.refl _ _)
          replace C := cur_upto C hs HC.out.1
          replace A : Hid (Aft B g w w9) := aft_upto A.out hs (Nat.le_trans HC.out.2 (Nat.le_of_lt HC.out.1))
          replace LB : Hid (z + 1 + 1 ≤ w9.heap.size) := by unfold Hid; rw [s3]; exact LB.out
          replace br := s1
          clear s1 s2 s3 s4 hs hsl
          have zr0 : w9.cell? ⟨z, 0, none⟩ = some (.slice (some ⟨q, 0, none⟩) S.length c) := (cell_of_block br 0).trans rfl
          have zr1 : w9.cell? ⟨z, 1, none⟩ = some (.slice bv F.length d) := (cell_of_block br 1).trans rfl
          go_wp2
          exact bodyPost_ret (v := .agg #[.slice (some ⟨q, 0, none⟩) S.length c, .slice bv F.length d]) (by simp [results, Try.results18, go_sem, zr0, zr1]) rfl ⟨(S.set 0 (lendH S[0] x)), F, .slice (some ⟨q, 0, none⟩) S.length c, .slice bv F.length d, rfl, ⟨HT.out.base (by have := HZ.out; omega), HSF.out⟩, C.more (by have := HMJ.out; omega), A.out⟩
        · have hS1 : ¬ (0 : Int) < (S.length : Int) := by omega
          clear hS
          have HSF : Hid (Small S F 100) := ⟨by have := HSM.out.2.1; have := HSM.out.1; omega, by have := HSM.out.2.2.1; have := HSM.out.1; omega, HSM.out.2.2.2⟩
          have pt0x3 : w4.cell? ⟨z + 1, 0, none⟩ = some (.slice av S.length c) := (cell_of_block bt 0).trans rfl
          have pt1x3 : w4.cell? ⟨z + 1, 1, none⟩ = some (.slice bv F.length d) := (cell_of_block bt 1).trans rfl
          have pr0x4 : w4.cell? ⟨z, 0, none⟩ = some (.slice none 0 0) := (cell_of_block br 0).trans rfl
          have pr1x4 : w4.cell? ⟨z, 1, none⟩ = some (.slice none 0 0) := (cell_of_block br 1).trans rfl
          have fr0x4 := free_of_block br 0
          have fr1x4 := free_of_block br 1
          obtain ⟨w5, hNw5⟩ : ∃ G, ((w4.setCell ⟨z, 0, none⟩ (.slice av S.length c)).setCell ⟨z, 1, none⟩ (.slice bv F.length d)) = G := ⟨_, rfl⟩
          obtain ⟨s1, s2, s3, s4⟩ := set2T br _ _ hNw5
          replace bt := (s2 (z + 1) (by omega)).trans bt
          replace HT : Hid (TabO (z + 1 + 1) w5 (.slice av S.length c) (.slice bv F.length d) S F) := HT.out.same (fun q hq1 _ => s2 q (by omega))
          have hsl : w.heap.size ≤ z := by have hc1 := HC.out; have hc2 := HZ.out; omega
          have hs : Below w.heap.size w4 w5 := s4 _ _ hsl (Below.refl _ _)
          replace C := cur_upto C hs HC.out.1
          replace A : Hid (Aft B g w w5) := aft_upto A.out hs (Nat.le_trans HC.out.2 (Nat.le_of_lt HC.out.1))
          replace LB : Hid (z + 1 + 1 ≤ w5.heap.size) := by unfold Hid; rw [s3]; exact LB.out
          replace br := s1
          clear s1 s2 s3 s4 hs hsl
          have zr0 : w5.cell? ⟨z, 0, none⟩ = some (.slice av S.length c) := (cell_of_block br 0).trans rfl
          have zr1 : w5.cell? ⟨z, 1, none⟩ = some (.slice bv F.length d) := (cell_of_block br 1).trans rfl
          go_wp2
          exact bodyPost_ret (v := .agg #[.slice av S.length c, .slice bv F.length d]) (by simp [results, Try.results18, go_sem, zr0, zr1]) rfl ⟨S, F, .slice av S.length c, .slice bv F.length d, rfl, ⟨HT.out.base (by have := HZ.out; omega), HSF.out⟩, C.more (by have := HMJ.out; omega), A.out⟩
      · have hq0' : (q == 0) = false := by simpa using hq0
        have hq1' : (q == 1) = false := by simpa using hq1
        clear hq0 hq1
        have HSF : Hid (Small S F 100) := ⟨by have := HSM.out.2.1; have := HSM.out.1; omega, by have := HSM.out.2.2.1; have := HSM.out.1; omega, HSM.out.2.2.2⟩
        have pt0x2 : w4.cell? ⟨z + 1, 0, none⟩ = some (.slice av S.length c) := (cell_of_block bt 0).trans rfl
        have pt1x2 : w4.cell? ⟨z + 1, 1, none⟩ = some (.slice bv F.length d) := (cell_of_block bt 1).trans rfl
        have pr0x3 : w4.cell? ⟨z, 0, none⟩ = some (.slice none 0 0) := (cell_of_block br 0).trans rfl
        have pr1x3 : w4.cell? ⟨z, 1, none⟩ = some (.slice none 0 0) := (cell_of_block br 1).trans rfl
        have fr0x3 := free_of_block br 0
        have fr1x3 := free_of_block br 1
        obtain ⟨w5, hNw5⟩ : ∃ G, ((w4.setCell ⟨z, 0, none⟩ (.slice av S.length c)).setCell ⟨z, 1, none⟩ (.slice bv F.length d)) = G := ⟨_, rfl⟩
        obtain ⟨s1, s2, s3, s4⟩ := set2T br _ _ hNw5
        replace bt := (s2 (z + 1) (by omega)).trans bt
        replace HT : Hid (TabO (z + 1 + 1) w5 (.slice av S.length c) (.slice bv F.length d) S F) := HT.out.same (fun q hq1 _ => s2 q (by omega))
        have hsl : w.heap.size ≤ z := by have hc1 := HC.out; have hc2 := HZ.out; omega
        have hs : Below w.heap.size w4 w5 := s4 _ _ hsl (Below.refl _ _)
        replace C := cur_upto C hs HC.out.1
        replace A : Hid (Aft B g w w5) := aft_upto A.out hs (Nat.le_trans HC.out.2 (Nat.le_of_lt HC.out.1))
        replace LB : Hid (z + 1 + 1 ≤ w5.heap.size) := by unfold Hid; rw [s3]; exact LB.out
        replace br := s1
        clear s1 s2 s3 s4 hs hsl
        have zr0 : w5.cell? ⟨z, 0, none⟩ = some (.slice av S.length c) := (cell_of_block br 0).trans rfl
        have zr1 : w5.cell? ⟨z, 1, none⟩ = some (.slice bv F.length d) := (cell_of_block br 1).trans rfl
        go_wp2
        exact bodyPost_ret (v := .agg #[.slice av S.length c, .slice bv F.length d]) (by simp [results, Try.results18, go_sem, zr0, zr1]) rfl ⟨S, F, .slice av S.length c, .slice bv F.length d, rfl, ⟨HT.out.base (by have := HZ.out; omega), HSF.out⟩, C.more (by have := HMJ.out; omega), A.out⟩

end Go.Proofs.Ytjielcilcningaa
