/-
  Equal tables, equal handles, and what is drawn for NewHandle.
-/
import Derived.Test.YtjielcilcningaaTD2
import Derived.Test.YtjielcilcningaaTC1
import Derived.Deep.QuietTactic
namespace Go.Proofs.Ytjielcilcningaa
open Go.ChangeShapes Go.WideShapes Go.ChangeAt Go.RowKit

theorem neqHs (u : Bool) (r p : Int) (o : Bool) (l s : Int) (w : World) : (binOp .neq 28 (.agg #[.bool u, .int .i64 r, .int .i64 p, .bool o, .int .i64 l, .int .i64 s]) (.agg #[.bool u, .int .i64 r, .int .i64 p, .bool o, .int .i64 l, .int .i64 s])).run Try.prog w = .ok (.bool false) w := by
  rw [run_neq_struct, run_equalIn_agg w 9999 28 _ _ (by kernel_rfl) (by kernel_rfl)]
  simp only [Program.fieldsOf, Try.underlying28]
  simp [Op.eqFields, go_sem, Try.underlying3, Try.underlying4]
theorem eqHs (u : Bool) (r p : Int) (o : Bool) (l s : Int) (w : World) : (binOp .eql 28 (.agg #[.bool u, .int .i64 r, .int .i64 p, .bool o, .int .i64 l, .int .i64 s]) (.agg #[.bool u, .int .i64 r, .int .i64 p, .bool o, .int .i64 l, .int .i64 s])).run Try.prog w = .ok (.bool true) w := by
  rw [run_eql_struct, run_equalIn_agg w 9999 28 _ _ (by kernel_rfl) (by kernel_rfl)]
  simp only [Program.fieldsOf, Try.underlying28]
  simp [Op.eqFields, go_sem, Try.underlying3, Try.underlying4]

theorem sameIntsT (a a' : Option Addr) (cap cap' : Nat) (L : List Int) (w : World) (hL : Hid (Ints w a L)) (hL' : Hid (Ints w a' L)) (hlen : L.length ≤ 9223372036854775807) :
    Calls Try.prog 28 #[.slice a L.length cap, .slice a' L.length cap'] w fun e w' => e = .returned (.bool true) ∧ Below w.heap.size w w' := by
  go_enter Try.func28, Try.ntmps28
  go_wp2
  go_loopw [13] (fun i wr => ∃ (k : Nat), k ≤ L.length ∧ i = .int .i64 k ∧ Below w.heap.size w wr) (fun i _ => L.length - (intOf i).toNat)
  case atStart => exact ⟨0, by omega, rfl, Below.refl _ _⟩
  case round =>
    obtain ⟨k, hk, rfl, hnx⟩ := hrel
    by_cases hlt : k < L.length
    · obtain ⟨b, off, rfl, hb, hc⟩ := hL.out.at k hlt
      obtain ⟨b', off', rfl, hb', hd⟩ := hL'.out.at k hlt
      obtain ⟨x, hx⟩ : ∃ x, x = L[k] := ⟨_, rfl⟩
      rw [← hx] at hc hd
      clear hx
      have hc0 : wr.cell? ⟨b, off + k, none⟩ = some (.int .i64 x) := (hnx.cell (by exact hb)).trans hc
      have hd0 : wr.cell? ⟨b', off' + k, none⟩ = some (.int .i64 x) := (hnx.cell (by exact hb')).trans hd
      clear hc hd
      go_wp2
      go_quiet (fail)
      go_wp2
      go_roundw
      case rel => exact ⟨k + 1, by omega, by go_num, hnx.trans ⟨rfl, rfl, rfl, Nat.le_refl _, fun _ _ => rfl⟩⟩
      case measure => simp [intOf]; omega
    · go_wp2
      go_ret
      exact ⟨rfl, hnx⟩

set_option maxRecDepth 100000 in
set_option maxHeartbeats 1600000 in
theorem sameTab (a a' b b' : Option Addr) (c c' d d' : Nat) (S : List Hd) (F : List Int) (w : World) (hS : Hid (Hds w a S)) (hS' : Hid (Hds w a' S)) (hF : Hid (Ints w b F)) (hF' : Hid (Ints w b' F)) (lS : S.length ≤ 1048576) (lF : F.length ≤ 1048576) :
    Calls Try.prog 8 #[tabV a S.length c b F.length d, tabV a' S.length c' b' F.length d'] w fun e w' => e = .returned (.bool true) ∧ Below w.heap.size w w' := by
  obtain ⟨z, hz⟩ : ∃ z, w.heap.size = z := ⟨_, rfl⟩
  obtain ⟨V, hV⟩ : ∃ W, (w.alloc (.cells #[.slice a S.length c, .slice b F.length d] 26)).alloc (.cells #[.slice a' S.length c', .slice b' F.length d'] 26) = W := ⟨_, rfl⟩
  have hbV : Below w.heap.size w V := by rw [← hV]; exact bel_alloc (bel_alloc (Below.refl _ _) _) _
  have b0 : V.heap[z]? = some (.cells #[.slice a S.length c, .slice b F.length d] 26 (0, 0)) := by rw [← hV, ← hz]; exact (Below.heap_alloc _ _ _ (by simp)).trans (heap_alloc_new _ _)
  have b1 : V.heap[z + 1]? = some (.cells #[.slice a' S.length c', .slice b' F.length d'] 26 (0, 0)) := by
    have h := heap_alloc_new (w.alloc (.cells #[.slice a S.length c, .slice b F.length d] 26)) (.cells #[.slice a' S.length c', .slice b' F.length d'] 26)
    rw [← hV, ← hz]; simpa using h
  have SI := sameIntsT b b' d d' F V (hF.out.below hbV) (hF'.out.below hbV) (by omega)
  have HZ : Hid (w.heap.size = z) := hz
  have HB : Hid (Below w.heap.size w V) := hbV
  have p0 : V.cell? ⟨z, 0, none⟩ = some (.slice a S.length c) := (cell_of_block b0 0).trans rfl
  have p1 : V.cell? ⟨z, 1, none⟩ = some (.slice b F.length d) := (cell_of_block b0 1).trans rfl
  have p2 : V.cell? ⟨z + 1, 0, none⟩ = some (.slice a' S.length c') := (cell_of_block b1 0).trans rfl
  have p3 : V.cell? ⟨z + 1, 1, none⟩ = some (.slice b' F.length d') := (cell_of_block b1 1).trans rfl
  unfold tabV
  clear hbV hF hF'
  go_enter Try.func8, Try.ntmps8
  go_wp2_with fail
  clear hV hz p0 p1 p2 p3
  refine SI.mono ?_
  rintro e w1 ⟨rfl, hb⟩
  replace b0 := (hb.block z (lt_of_block b0)).trans b0
  replace b1 := (hb.block (z + 1) (lt_of_block b1)).trans b1
  replace HB : Hid (Below w.heap.size w w1) := bel_step HB.out hb
  clear hb SI
  have p0 : w1.cell? ⟨z, 0, none⟩ = some (.slice a S.length c) := (cell_of_block b0 0).trans rfl
  go_wp2
  clear p0
  go_loopw [5, 24] (fun _ i wr => ∃ (k : Nat), k ≤ S.length ∧ i = .int .i64 k ∧ Hid (Below w1.heap.size w1 wr)) (fun _ i _ => S.length - (intOf i).toNat)
  case atStart => exact ⟨0, by omega, rfl, Below.refl _ _⟩
  case round =>
    obtain ⟨k, hk, rfl, hnx⟩ := hrel
    by_cases hlt : k < S.length
    · obtain ⟨q, off, rfl, hq, hc⟩ := hS.out.at k hlt
      obtain ⟨q', off', rfl, hq', hd⟩ := hS'.out.at k hlt
      obtain ⟨f, hf⟩ : ∃ f, S[k] = f := ⟨_, rfl⟩
      rw [hf] at hc hd
      clear hf
      have hbw : Below w.heap.size w wr := bel_step HB.out hnx.out
      have kc : ∀ j, wr.cell? ⟨q, j, none⟩ = w.cell? ⟨q, j, none⟩ := fun j => hbw.cell (p := ⟨q, j, none⟩) hq
      have kd : ∀ j, wr.cell? ⟨q', j, none⟩ = w.cell? ⟨q', j, none⟩ := fun j => hbw.cell (p := ⟨q', j, none⟩) hq'
      obtain ⟨c0, c1, c2, c3, c4, c5⟩ := hc.kept kc
      obtain ⟨d0, d1, d2, d3, d4, d5⟩ := hd.kept kd
      have p0 : wr.cell? ⟨z, 0, none⟩ = some (.slice (some ⟨q, off, none⟩) S.length c) := (cell_of_block ((hnx.out.block z (lt_of_block b0)).trans b0) 0).trans rfl
      have p2 : wr.cell? ⟨z + 1, 0, none⟩ = some (.slice (some ⟨q', off', none⟩) S.length c') := (cell_of_block ((hnx.out.block (z + 1) (lt_of_block b1)).trans b1) 0).trans rfl
      have NE := neqHs f.u f.r f.p f.o f.l f.s
      have hki : (k : Int) < (S.length : Int) := by omega
      clear hc hd kc kd hbw b0 b1
      go_wp2
      go_quiet (fail)
      go_wp2
      go_roundw
      case rel => exact ⟨k + 1, by omega, by go_num, hnx.out.trans ⟨rfl, rfl, rfl, Nat.le_refl _, fun _ _ => rfl⟩⟩
      case measure => simp [intOf]; omega
    · have hki : ¬ (k : Int) < (S.length : Int) := by omega
      go_wp2
      go_ret
      exact ⟨rfl, bel_step HB.out hnx.out⟩
theorem bysS_alloc {w : World} {a : Option Addr} {n : Nat} (h : Bys w a n w.heap.size) (o : Obj) : Bys (w.alloc o) a n (w.alloc o).heap.size := fun hn => by
  obtain ⟨b, off, e, hl, hc⟩ := (h.below ((Below.refl _ _).alloc (Nat.le_refl _) o)) hn
  exact ⟨b, off, e, by simp; omega, hc⟩
theorem cur_newT (w : World) (a : Option Addr) (n cap : Nat) (t : TypeId) (hb : Bys w a n w.heap.size) : Cur (w.alloc (.cells #[.slice a n cap, .int .i64 0, .int .u64 0] t)) w.heap.size a n cap w.heap.size 0 := by
  refine ⟨?_, ⟨0, by omega, by omega, ?_⟩, ⟨0, by omega, by omega, ?_⟩, hb.below ((Below.refl _ _).alloc (Nat.le_refl _) _), Nat.le_refl _, by simp, fun j => ?_⟩
  · exact (cell_of_block (heap_alloc_new w (.cells #[.slice a n cap, .int .i64 0, .int .u64 0] t)) 0).trans rfl
  · exact (cell_of_block (heap_alloc_new w (.cells #[.slice a n cap, .int .i64 0, .int .u64 0] t)) 1).trans rfl
  · exact (cell_of_block (heap_alloc_new w (.cells #[.slice a n cap, .int .i64 0, .int .u64 0] t)) 2).trans rfl
  · exact free_of_block (heap_alloc_new w (.cells #[.slice a n cap, .int .i64 0, .int .u64 0] t)) j

set_option maxRecDepth 100000 in
set_option maxHeartbeats 1600000 in
theorem drawNew (a : Option Addr) (n cap : Nat) (w : World) (hb : Bys w a n w.heap.size) :
    Calls Try.prog 5 #[.slice a n cap] w fun e w' => ∃ S F v u h, e = .returned (.tuple #[.agg #[v, u], hdV h]) ∧ Hid (TabO w.heap.size w' v u S F ∧ Small S F 100) ∧ Below w.heap.size w w' := by
  have C0 := cur_newT _ a n cap 48 (bysS_alloc (bysS_alloc hb (.cells #[.slice none 0 0, .slice none 0 0] 26)) (.cells #[.bool false, .int .i64 0, .int .i64 0, .bool false, .int .i64 0, .int .i64 0] 28))
  obtain ⟨z, hz⟩ : ∃ z, w.heap.size = z := ⟨_, rfl⟩
  have e1 : ((w.alloc (.cells #[.slice none 0 0, .slice none 0 0] 26)).alloc (.cells #[.bool false, .int .i64 0, .int .i64 0, .bool false, .int .i64 0, .int .i64 0] 28)).heap.size = z + 1 + 1 := by simp [hz]
  rw [e1] at C0
  obtain ⟨V, hV⟩ : ∃ W, ((w.alloc (.cells #[.slice none 0 0, .slice none 0 0] 26)).alloc (.cells #[.bool false, .int .i64 0, .int .i64 0, .bool false, .int .i64 0, .int .i64 0] 28)).alloc (.cells #[.slice a n cap, .int .i64 0, .int .u64 0] 48) = W := ⟨_, rfl⟩
  have hbV : Below w.heap.size w V := by rw [← hV]; exact bel_alloc (bel_alloc (bel_alloc (Below.refl _ _) _) _) _
  have br : V.heap[z]? = some (.cells #[.slice none 0 0, .slice none 0 0] 26 (0, 0)) := by
    have h := heap_alloc_new w (.cells #[.slice none 0 0, .slice none 0 0] 26)
    rw [hz] at h
    replace h := (Below.heap_alloc _ (.cells #[.bool false, .int .i64 0, .int .i64 0, .bool false, .int .i64 0, .int .i64 0] 28) _ (lt_of_block h)).trans h
    replace h := (Below.heap_alloc _ (.cells #[.slice a n cap, .int .i64 0, .int .u64 0] 48) _ (lt_of_block h)).trans h
    rw [← hV]; exact h
  have bh : V.heap[z + 1]? = some (.cells #[.bool false, .int .i64 0, .int .i64 0, .bool false, .int .i64 0, .int .i64 0] 28 (0, 0)) := by
    have h := heap_alloc_new (w.alloc (.cells #[.slice none 0 0, .slice none 0 0] 26)) (.cells #[.bool false, .int .i64 0, .int .i64 0, .bool false, .int .i64 0, .int .i64 0] 28)
    rw [show (w.alloc (.cells #[.slice none 0 0, .slice none 0 0] 26)).heap.size = z + 1 by simp [hz]] at h
    replace h := (Below.heap_alloc _ (.cells #[.slice a n cap, .int .i64 0, .int .u64 0] 48) _ (lt_of_block h)).trans h
    rw [← hV]; exact h
  rw [hV] at C0
  have hzV : V.heap.size = z + 1 + 1 + 1 := by rw [← hV]; simp [hz]
  have HZ : Hid (w.heap.size = z ∧ V.heap.size = z + 1 + 1 + 1) := ⟨hz, hzV⟩
  have HB : Hid (Below w.heap.size w V) := hbV
  clear hbV e1 hzV
  go_enter Try.func5, Try.ntmps5
  go_wp2_with fail
  clear hV hz
  refine (curTable (z + 1 + 1) a n cap (z + 1 + 1) 0 (hid_le (by omega)) V C0).mono ?_
  rintro e w1 ⟨S, F, v, u, rfl, HT, C1, ha⟩
  replace br := (ha.blk z (by omega) (lt_of_block br)).trans br
  replace bh := (ha.blk (z + 1) (by omega) (lt_of_block bh)).trans bh
  replace HB : Hid (Below w.heap.size w w1) := HB.out.trans (ha.below.mono (by have := HZ.out.1; omega))
  rw [HZ.out.2] at HT
  have LB : Hid (z + 1 + 1 + 1 ≤ w1.heap.size) := by unfold Hid; rw [← HZ.out.2]; exact ha.size
  obtain ⟨a1, c1, b1, d1, rfl, rfl, _, _, _⟩ := HT.out.1.shape2
  have HS : Hid (Small S F 100) := HT.out.2
  replace HT : Hid (TabO (z + 1 + 1 + 1) w1 (.slice a1 S.length c1) (.slice b1 F.length d1) S F) := HT.out.1
  clear ha C0
  have CH := curHandle (z + 1 + 1) a n cap (z + 1 + 1) _ (hid_le (by omega)) w1 C1
  unfold hdV at CH
  go_wp2_with fail
  refine CH.mono ?_
  rintro e w2 ⟨h, rfl, C2, ha⟩
  replace br := (ha.blk z (by omega) (lt_of_block br)).trans br
  replace bh := (ha.blk (z + 1) (by omega) (lt_of_block bh)).trans bh
  replace HB : Hid (Below w.heap.size w w2) := HB.out.trans (ha.below.mono (by have := HZ.out.1; omega))
  replace HT : Hid (TabO (z + 1 + 1 + 1) w2 (.slice a1 S.length c1) (.slice b1 F.length d1) S F) := HT.out.same (fun q h1 h2 => ha.blk q (by omega) h2)
  clear ha C1 C2 LB CH
  have p0 : w2.cell? ⟨z, 0, none⟩ = some (.slice none 0 0) := (cell_of_block br 0).trans rfl
  have p1 : w2.cell? ⟨z, 1, none⟩ = some (.slice none 0 0) := (cell_of_block br 1).trans rfl
  have f0 := free_of_block br 0
  have f1 := free_of_block br 1
  obtain ⟨w3, hN⟩ : ∃ G, ((w2.setCell ⟨z, 0, none⟩ (.slice a1 S.length c1)).setCell ⟨z, 1, none⟩ (.slice b1 F.length d1)) = G := ⟨_, rfl⟩
  obtain ⟨s1, s2, s3, s4⟩ := set2T br _ _ hN
  replace bh := (s2 (z + 1) (by omega)).trans bh
  replace HT : Hid (TabO (z + 1 + 1 + 1) w3 (.slice a1 S.length c1) (.slice b1 F.length d1) S F) := HT.out.same (fun q h1 _ => s2 q (by omega))
  replace HB : Hid (Below w.heap.size w w3) := s4 _ _ (by have := HZ.out; omega) HB.out
  replace br := s1
  clear s1 s2 s3 s4
  have q0 : w3.cell? ⟨z + 1, 0, none⟩ = some (.bool false) := (cell_of_block bh 0).trans rfl
  have q1 : w3.cell? ⟨z + 1, 1, none⟩ = some (.int .i64 0) := (cell_of_block bh 1).trans rfl
  have q2 : w3.cell? ⟨z + 1, 2, none⟩ = some (.int .i64 0) := (cell_of_block bh 2).trans rfl
  have q3 : w3.cell? ⟨z + 1, 3, none⟩ = some (.bool false) := (cell_of_block bh 3).trans rfl
  have q4 : w3.cell? ⟨z + 1, 4, none⟩ = some (.int .i64 0) := (cell_of_block bh 4).trans rfl
  have q5 : w3.cell? ⟨z + 1, 5, none⟩ = some (.int .i64 0) := (cell_of_block bh 5).trans rfl
  have g0 := free_of_block bh 0
  have g1 := free_of_block bh 1
  have g2 := free_of_block bh 2
  have g3 := free_of_block bh 3
  have g4 := free_of_block bh 4
  have g5 := free_of_block bh 5
  obtain ⟨w4, hN4⟩ : ∃ G, ((((((w3.setCell ⟨z + 1, 0, none⟩ (.bool h.u)).setCell ⟨z + 1, 1, none⟩ (.int .i64 h.r)).setCell ⟨z + 1, 2, none⟩ (.int .i64 h.p)).setCell ⟨z + 1, 3, none⟩ (.bool h.o)).setCell ⟨z + 1, 4, none⟩ (.int .i64 h.l)).setCell ⟨z + 1, 5, none⟩ (.int .i64 h.s)) = G := ⟨_, rfl⟩
  obtain ⟨s1, s2, s3, s4⟩ := set6T bh _ _ _ _ _ _ hN4
  replace br := (s2 z (by omega)).trans br
  replace HT : Hid (TabO (z + 1 + 1 + 1) w4 (.slice a1 S.length c1) (.slice b1 F.length d1) S F) := HT.out.same (fun q h1 _ => s2 q (by omega))
  replace HB : Hid (Below w.heap.size w w4) := s4 _ _ (by have := HZ.out; omega) HB.out
  replace bh := s1
  clear s1 s2 s3 s4
  have x0 : w4.cell? ⟨z, 0, none⟩ = some (.slice a1 S.length c1) := (cell_of_block br 0).trans rfl
  have x1 : w4.cell? ⟨z, 1, none⟩ = some (.slice b1 F.length d1) := (cell_of_block br 1).trans rfl
  have y0 : w4.cell? ⟨z + 1, 0, none⟩ = some (.bool h.u) := (cell_of_block bh 0).trans rfl
  have y1 : w4.cell? ⟨z + 1, 1, none⟩ = some (.int .i64 h.r) := (cell_of_block bh 1).trans rfl
  have y2 : w4.cell? ⟨z + 1, 2, none⟩ = some (.int .i64 h.p) := (cell_of_block bh 2).trans rfl
  have y3 : w4.cell? ⟨z + 1, 3, none⟩ = some (.bool h.o) := (cell_of_block bh 3).trans rfl
  have y4 : w4.cell? ⟨z + 1, 4, none⟩ = some (.int .i64 h.l) := (cell_of_block bh 4).trans rfl
  have y5 : w4.cell? ⟨z + 1, 5, none⟩ = some (.int .i64 h.s) := (cell_of_block bh 5).trans rfl
  go_wp2
  exact bodyPost_ret (v := .tuple #[.agg #[.slice a1 S.length c1, .slice b1 F.length d1], .agg #[.bool h.u, .int .i64 h.r, .int .i64 h.p, .bool h.o, .int .i64 h.l, .int .i64 h.s]]) (by simp [results, Try.results5, go_sem, x0, x1, y0, y1, y2, y3, y4, y5]) rfl ⟨S, F, _, _, h, rfl, ⟨HT.out.base (by have := HZ.out; omega), HS.out⟩, HB.out⟩

end Go.Proofs.Ytjielcilcningaa
