/-
  What is drawn for memories that are copied within, or grow.
-/
import Derived.Test.YtlkbalmkljabhaaCurN
import Derived.Test.YtlkbalmkljabhaaQStep
namespace Go.Proofs.Ytlkbalmkljabhaa
open Go.ChangeShapes Go.WideShapes Go.ChangeAt Go.RowKit

section
variable {P : Program} {ops : Array Oper} {Q : Exit → Act → World → Prop} {S : World → Prop} {f : Nat} {L : Array Bool} {a : Act} {w : World}
/-- A store that waits for what was taken first. -/
theorem wb_skip {i : Nat} (j : Nat) (d : Option Tmp) {o : Oper} (w' : World) (h1 : Region.ready .any ops (L.setIfInBounds i true) = [j]) (h0 : (Region.ready .any ops L).contains j = false) (ho : ops[j]? = some o) (hd : o.dst = d) (hw : Region.wanted o (yielded ops a.tmps) = true)
    (hrun : (execOp a.eval o).run P w = .ok .skip w') (h : WA P ops Q f ((L.setIfInBounds i true).setIfInBounds j true) (a.put d undef) w') : WB P ops Q S i (f + 1) L a w := by
  subst hd
  refine ⟨fun h => (by rw [h1] at h; cases h), fun k hk => ?_⟩
  rw [h1] at hk
  obtain rfl : k = j := by simpa using hk
  exact ⟨fun h => (by rw [h0] at h; cases h), fun _ => wpOp_skip ho hw hrun h.out⟩
/-- What keeps the world beside a store that waits for what was taken first, in either order. -/
theorem wb_both {i : Nat} (j k : Nat) (d : Option Tmp) {o ok : Oper} (v : Value) (w' : World) (h1 : Region.ready .any ops (L.setIfInBounds i true) = [j, k]) (h0 : (Region.ready .any ops L).contains j = true) (h2 : (Region.ready .any ops L).contains k = false) (ho : ops[j]? = some o) (hok : ops[k]? = some ok) (hd : o.dst = d) (hdk : ok.dst = none) (hw : Region.wanted o (yielded ops a.tmps) = true) (hwk : Region.wanted ok (yielded ops a.tmps) = true)
    (hrun : (execOp a.eval o).run P w = .ok (.value v) w) (hrunk : (execOp a.eval ok).run P w = .ok .skip w') (hS : S w) (h : WB P ops Q S i f (L.setIfInBounds j true) (a.put d v) w) (hk : WA P ops Q f ((L.setIfInBounds i true).setIfInBounds k true) (a.put none undef) w') : WB P ops Q S i (f + 1) L a w := by
  subst hd
  refine ⟨fun h => (by rw [h1] at h; cases h), fun x hx => ?_⟩
  rw [h1] at hx
  simp only [List.mem_cons, List.not_mem_nil, or_false] at hx
  rcases hx with rfl | rfl
  · exact ⟨fun _ => wpOp_wp ho hw (wp_val hrun ⟨hS, h.out⟩), fun h => (by rw [h0] at h; cases h)⟩
  · exact ⟨fun h => (by rw [h2] at h; cases h), fun _ => wpOp_skip hok hwk hrunk (by rw [hdk]; exact hk.out)⟩
end
theorem lt_of_block' {w : World} {g : Nat} {o : Obj} (h : w.heap[g]? = some o) : g < w.heap.size := (Array.getElem?_eq_some_iff.1 h).1

set_option maxRecDepth 100000 in
set_option maxHeartbeats 1000000 in
theorem drawGrowMemory (a : Option Addr) (n cap : Nat) (w : World) (hb : Bys w a n w.heap.size) :
    Calls Try.prog 28 #[.slice a n cap] w fun e w' => ∃ (M y : Int) (D : ByteArray), D.size ≤ 600 ∧ -1 ≤ y ∧ y ≤ 4 ∧ e = .returned (.tuple #[.agg #[.int .i64 M, .string D], .int .i64 y]) ∧ Below w.heap.size w w' := by
  have C0 := cur_new _ a n cap 51 (hb.alloc (.cells #[.int .i64 0, .string ⟨#[]⟩] 40))
  have N0 := below_new (w.alloc (.cells #[.int .i64 0, .string ⟨#[]⟩] 40)) (.cells #[.slice a n cap, .int .i64 0, .int .u64 0] 51)
  have N1 := below_new w (.cells #[.int .i64 0, .string ⟨#[]⟩] 40)
  have hR0 : Hid ((w.alloc (.cells #[.int .i64 0, .string ⟨#[]⟩] 40)).heap[w.heap.size]? = some (.cells #[.int .i64 0, .string ⟨#[]⟩] 40 (0, 0))) := heap_alloc_new _ _
  have hsz : (w.alloc (.cells #[.int .i64 0, .string ⟨#[]⟩] 40)).heap.size = w.heap.size + 1 := by simp
  go_enter Try.func28, Try.ntmps28
  go_wp2_with fail
  try rw [hsz] at C0 N0
  refine (curMem (w.heap.size + 1) a n cap (w.heap.size + 1) 0 (hid_le (by omega)) _ C0).mono ?_
  rintro e w1 ⟨M, D, hD, rfl, C1, B1⟩
  go_wp2_with fail
  refine (curPick 6 (by omega) (by omega) (w.heap.size + 1) a n cap (w.heap.size + 1) _ (hid_le (by omega)) _ C1).mono ?_
  rintro e w3 ⟨r, r0, r1, rfl, C3, B3⟩
  have hB : Below (w.heap.size + 1) (w.alloc (.cells #[.int .i64 0, .string ⟨#[]⟩] 40)) w3 := (N0.trans B1.below).trans B3.below
  have hR4 := (hB.block w.heap.size (by omega)).trans hR0.out
  have HB : Hid (Below w.heap.size w w3) := N1.trans (hB.mono (by omega))
  have d0 : w3.cell? ⟨w.heap.size, 0, none⟩ = some (.int .i64 0) := by simp [World.cell?, hR4]
  have d1 : w3.cell? ⟨w.heap.size, 1, none⟩ = some (.string ⟨#[]⟩) := by simp [World.cell?, hR4]
  have f0 : w3.frozen? ⟨w.heap.size, 0, none⟩ = false := by simp [World.frozen?, hR4]
  have f1 : w3.frozen? ⟨w.heap.size, 1, none⟩ = false := by simp [World.frozen?, hR4]
  clear hB hR4 N0 N1 B1 B3 C0 C1 C3 hsz
  go_wp2
  refine bodyPost_ret (v := .tuple #[.agg #[.int .i64 M, .string D], .int .i64 (r - 1)]) (by simp [results, Try.results28, go_sem, *]) rfl ⟨M, r - 1, D, hD, by omega, by omega, rfl, ?_⟩
  exact (HB.out.setCell (p := ⟨w.heap.size, 0, none⟩) (Nat.le_refl _) _).setCell (p := ⟨w.heap.size, 1, none⟩) (Nat.le_refl _) _

theorem wrap_le (x : Int) : wrap64 x ≤ 9223372036854775807 := by unfold wrap64; omega

set_option maxRecDepth 100000 in
set_option maxHeartbeats 3000000 in
theorem drawCopyWithin (a : Option Addr) (n cap : Nat) (w : World) (hb : Bys w a n w.heap.size) :
    Calls Try.prog 25 #[.slice a n cap] w fun e w' => ∃ (M p q z : Int) (D : ByteArray), D.size ≤ 600 ∧ p ≤ 9223372036854775807 ∧ q ≤ 9223372036854775807 ∧ z ≤ 100 ∧ e = .returned (.tuple #[.agg #[.int .i64 M, .string D], .int .i64 p, .int .i64 q, .int .i64 z]) ∧ Below w.heap.size w w' := by
  have C0 := cur_new _ a n cap 51 (hb.alloc (.cells #[.int .i64 0, .string ⟨#[]⟩] 40))
  have N0 := below_new (w.alloc (.cells #[.int .i64 0, .string ⟨#[]⟩] 40)) (.cells #[.slice a n cap, .int .i64 0, .int .u64 0] 51)
  have N1 := below_new w (.cells #[.int .i64 0, .string ⟨#[]⟩] 40)
  have hR0 : (w.alloc (.cells #[.int .i64 0, .string ⟨#[]⟩] 40)).heap[w.heap.size]? = some (.cells #[.int .i64 0, .string ⟨#[]⟩] 40 (0, 0)) := heap_alloc_new _ _
  have hsz : (w.alloc (.cells #[.int .i64 0, .string ⟨#[]⟩] 40)).heap.size = w.heap.size + 1 := by simp
  have HR0 : Hid ((w.alloc (.cells #[.int .i64 0, .string ⟨#[]⟩] 40)).heap[w.heap.size]? = some (.cells #[.int .i64 0, .string ⟨#[]⟩] 40 (0, 0))) := hR0
  clear hR0
  go_enter Try.func25, Try.ntmps25
  go_wp2_with fail
  try rw [hsz] at C0 N0
  refine (curMem (w.heap.size + 1) a n cap (w.heap.size + 1) 0 (hid_le (by omega)) _ C0).mono ?_
  rintro e w1 ⟨M, D, hD, rfl, C1, B1⟩
  have hB : Below (w.heap.size + 1) (w.alloc (.cells #[.int .i64 0, .string ⟨#[]⟩] 40)) w1 := N0.trans B1.below
  have hR1 := (hB.block w.heap.size (by omega)).trans HR0.out
  have hl1 := C1.lt
  obtain ⟨W1, hW1⟩ : ∃ W, w1.alloc (.cells #[.int .i64 M, .string D] 40) = W := ⟨_, rfl⟩
  obtain ⟨mb, hmb⟩ : ∃ m, w1.heap.size = m := ⟨_, rfl⟩
  have hM1 : W1.heap[mb]? = some (.cells #[.int .i64 M, .string D] 40 (0, 0)) := by rw [← hW1, ← hmb]; exact heap_alloc_new _ _
  have hR1' : W1.heap[w.heap.size]? = some (.cells #[.int .i64 0, .string ⟨#[]⟩] 40 (0, 0)) := by rw [← hW1]; exact (Below.heap_alloc _ _ _ (lt_of_block' hR1)).trans hR1
  have hne : mb ≠ w.heap.size + 1 := by omega
  have CA : Cur W1 (w.heap.size + 1) a n cap (w.heap.size + 1) (0 + 200) := by rw [← hW1]; exact C1.alloc _
  have HBA : Below w.heap.size w W1 := by rw [← hW1]; exact (N1.trans (hB.mono (by omega))).alloc (by omega) _
  have HW : Hid (w1.alloc (.cells #[.int .i64 M, .string D] 40) = W1 ∧ w1.heap.size = mb) := ⟨hW1, hmb⟩
  clear hW1 hmb hR1 hB B1 C0 C1 N0 N1 hsz
  go_wp2_with fail
  rw [HW.out.1, HW.out.2]
  refine (curPlace (w.heap.size + 1) a n cap (w.heap.size + 1) _ (hid_le (by omega)) _ CA).mono ?_
  rintro e w2 ⟨p, p0, p1, rfl, C2, B2⟩
  have hM2 := (B2.blk mb hne (lt_of_block' hM1)).trans hM1
  have hR2 := (B2.blk w.heap.size (by omega) (lt_of_block' hR1')).trans hR1'
  have HB2 : Below w.heap.size w w2 := HBA.trans (B2.below.mono (by omega))
  clear hM1 hR1' HBA B2 CA
  go_wp2_with fail
  refine (curPlace (w.heap.size + 1) a n cap (w.heap.size + 1) _ (hid_le (by omega)) _ C2).mono ?_
  rintro e w3 ⟨q, q0, q1, rfl, C3, B3⟩
  have hM3 := (B3.blk mb hne (lt_of_block' hM2)).trans hM2
  have hR3 := (B3.blk w.heap.size (by omega) (lt_of_block' hR2)).trans hR2
  have HB3 : Below w.heap.size w w3 := HB2.trans (B3.below.mono (by omega))
  clear hM2 hR2 HB2 B3 C2
  go_wp2_with fail
  refine (curOne 2 (by omega) (by omega) (w.heap.size + 1) a n cap (w.heap.size + 1) _ (hid_le (by omega)) _ C3).mono ?_
  rintro e w4 ⟨bb, rfl, C4, B4⟩
  have hM4 := (B4.blk mb hne (lt_of_block' hM3)).trans hM3
  have hR4 := (B4.blk w.heap.size (by omega) (lt_of_block' hR3)).trans hR3
  have HB4 : Below w.heap.size w w4 := HB3.trans (B4.below.mono (by omega))
  clear hM3 hR3 HB3 B4 C3
  cases bb
  · skip
    go_wp2_with fail
    refine wa_begin (by kernel_rfl) ?_
    refine wa_take 1 (some 31) (.int .i64 p) rfl rfl (by kernel_rfl) (by kernel_rfl) (by kernel_rfl) (fun _ _ _ h => h) (by rfl) (fun _ => by rfl) ?_
    simp only [Act.put, List.setIfInBounds_toArray, List.set_cons_zero, List.set_cons_succ]
    refine wa_take 2 (some 32) (.int .i64 q) rfl rfl (by kernel_rfl) (by kernel_rfl) (by kernel_rfl) (fun _ _ _ h => h) (by rfl) (fun _ => by rfl) ?_
    simp only [Act.put, List.setIfInBounds_toArray, List.set_cons_zero, List.set_cons_succ]
    refine wa_take 3 (some 33) (.pointer (some ⟨w.heap.size + 1, 0, none⟩)) rfl rfl (by kernel_rfl) (by kernel_rfl) (by kernel_rfl) (fun _ _ _ h => h) (by rfl) (fun _ => by rfl) ?_
    simp only [Act.put, List.setIfInBounds_toArray, List.set_cons_zero, List.set_cons_succ]
    refine wa_first 0 (some 30) (.agg #[.int .i64 M, .string D]) (fun w' => w'.heap[mb]? = some (.cells #[.int .i64 M, .string D] 40 (0, 0))) rfl rfl (by kernel_rfl) (by kernel_rfl) (by kernel_rfl) (fun _ _ _ h => h) (by rfl) (fun w' hS => ?_) hM4 ?_
    · have c0 : w'.cell? ⟨mb, 0, none⟩ = some (.int .i64 M) := by simp [World.cell?, hS]
      have c1 : w'.cell? ⟨mb, 1, none⟩ = some (.string D) := by simp [World.cell?, hS]
      clear hS
      go_simp
    simp only [Act.put, List.setIfInBounds_toArray, List.set_cons_zero, List.set_cons_succ]
    refine wb_call 4 (some 34) 33 #[.pointer (some ⟨w.heap.size + 1, 0, none⟩), .int .i64 30] (by kernel_rfl) (by kernel_rfl) rfl rfl (by rfl) (by kernel_rfl) ?_
    refine (curPick 30 (by omega) (by omega) (w.heap.size + 1) a n cap (w.heap.size + 1) _ (hid_le (by omega)) _ (C4.kept (Below.refl _ _).drew)).mono ?_
    rintro e wf ⟨rf, rf0, rf1, rfl, Cf, Bf⟩
    have hMf := (Bf.blk mb hne (lt_of_block' hM4)).trans hM4
    have hRf := (Bf.blk w.heap.size (by omega) (lt_of_block' hR4)).trans hR4
    refine ⟨_, rfl, hMf, ?_⟩
    simp only [Act.put, List.setIfInBounds_toArray, List.set_cons_zero, List.set_cons_succ]
    have hrw : IntKind.i64.wrap (rf - 1) = rf - 1 := by rw [IntKind.wrap_i64]; omega
    have d0 : wf.cell? ⟨w.heap.size, 0, none⟩ = some (.int .i64 0) := by simp [World.cell?, hRf]
    have d1 : wf.cell? ⟨w.heap.size, 1, none⟩ = some (.string ⟨#[]⟩) := by simp [World.cell?, hRf]
    have f0 : wf.frozen? ⟨w.heap.size, 0, none⟩ = false := by simp [World.frozen?, hRf]
    have f1 : wf.frozen? ⟨w.heap.size, 1, none⟩ = false := by simp [World.frozen?, hRf]
    have HB : Hid (Below w.heap.size w wf) := HB4.drew.trans (Bf.below.mono (Nat.le_succ _))
    have k0 : ((wf.setCell ⟨w.heap.size, 0, none⟩ (.int .i64 M)).setCell ⟨w.heap.size, 1, none⟩ (.string D)).heap[w.heap.size]? = some (.cells #[.int .i64 M, .string D] 40 (0, 0)) := heap_setCell_same _ _ _ _ _ _ (heap_setCell_same _ _ _ _ _ _ hRf)
    have l0 : ((wf.setCell ⟨w.heap.size, 0, none⟩ (.int .i64 M)).setCell ⟨w.heap.size, 1, none⟩ (.string D)).cell? ⟨w.heap.size, 0, none⟩ = some (.int .i64 M) := by simp [World.cell?, k0]
    have l1 : ((wf.setCell ⟨w.heap.size, 0, none⟩ (.int .i64 M)).setCell ⟨w.heap.size, 1, none⟩ (.string D)).cell? ⟨w.heap.size, 1, none⟩ = some (.string D) := by simp [World.cell?, k0]
    refine wb_both 5 6 (some 35) (.int .i64 (rf - 1)) ((wf.setCell ⟨w.heap.size, 0, none⟩ (.int .i64 M)).setCell ⟨w.heap.size, 1, none⟩ (.string D)) (by kernel_rfl) (by kernel_rfl) (by kernel_rfl) rfl rfl rfl rfl (by rfl) (by rfl) (by go_simp) (by go_simp) hMf ?_ ?_
    · simp only [Act.put, List.setIfInBounds_toArray, List.set_cons_zero, List.set_cons_succ]
      refine wb_skip 6 none ((wf.setCell ⟨w.heap.size, 0, none⟩ (.int .i64 M)).setCell ⟨w.heap.size, 1, none⟩ (.string D)) (by kernel_rfl) (by kernel_rfl) rfl rfl (by rfl) (by go_simp) ?_
      simp only [Act.put]
      refine wa_take 7 (some 3) (.int .i64 p) rfl rfl (by kernel_rfl) (by kernel_rfl) (by kernel_rfl) (fun _ _ _ h => h) (by rfl) (fun _ => by rfl) ?_
      simp only [Act.put, List.setIfInBounds_toArray, List.set_cons_zero, List.set_cons_succ]
      refine wa_take 8 (some 4) (.int .i64 q) rfl rfl (by kernel_rfl) (by kernel_rfl) (by kernel_rfl) (fun _ _ _ h => h) (by rfl) (fun _ => by rfl) ?_
      simp only [Act.put, List.setIfInBounds_toArray, List.set_cons_zero, List.set_cons_succ]
      refine wa_take 9 (some 5) (.int .i64 (rf - 1)) rfl rfl (by kernel_rfl) (by kernel_rfl) (by kernel_rfl) (fun _ _ _ h => h) (by rfl) (fun _ => by rfl) ?_
      simp only [Act.put, List.setIfInBounds_toArray, List.set_cons_zero, List.set_cons_succ]
      refine wa_done (by kernel_rfl) ?_
      clear d0 d1 f0 f1
      go_wp2
      refine bodyPost_ret (v := .tuple #[.agg #[.int .i64 M, .string D], .int .i64 p, .int .i64 q, .int .i64 (rf - 1)]) (by simp [results, Try.results25, go_sem, l0, l1]) rfl ⟨M, p, _, rf - 1, D, hD, p1, q1, by omega, rfl, ?_⟩
      exact (HB.out.setCell (p := ⟨w.heap.size, 0, none⟩) (Nat.le_refl _) _).setCell (p := ⟨w.heap.size, 1, none⟩) (Nat.le_refl _) _
    · simp only [Act.put]
      refine wa_take 5 (some 35) (.int .i64 (rf - 1)) rfl rfl (by kernel_rfl) (by kernel_rfl) (by kernel_rfl) (fun _ _ _ h => h) (by rfl) (fun _ => by go_simp) ?_
      simp only [Act.put, List.setIfInBounds_toArray, List.set_cons_zero, List.set_cons_succ]
      refine wa_take 7 (some 3) (.int .i64 p) rfl rfl (by kernel_rfl) (by kernel_rfl) (by kernel_rfl) (fun _ _ _ h => h) (by rfl) (fun _ => by rfl) ?_
      simp only [Act.put, List.setIfInBounds_toArray, List.set_cons_zero, List.set_cons_succ]
      refine wa_take 8 (some 4) (.int .i64 q) rfl rfl (by kernel_rfl) (by kernel_rfl) (by kernel_rfl) (fun _ _ _ h => h) (by rfl) (fun _ => by rfl) ?_
      simp only [Act.put, List.setIfInBounds_toArray, List.set_cons_zero, List.set_cons_succ]
      refine wa_take 9 (some 5) (.int .i64 (rf - 1)) rfl rfl (by kernel_rfl) (by kernel_rfl) (by kernel_rfl) (fun _ _ _ h => h) (by rfl) (fun _ => by rfl) ?_
      simp only [Act.put, List.setIfInBounds_toArray, List.set_cons_zero, List.set_cons_succ]
      refine wa_done (by kernel_rfl) ?_
      clear d0 d1 f0 f1
      go_wp2
      refine bodyPost_ret (v := .tuple #[.agg #[.int .i64 M, .string D], .int .i64 p, .int .i64 q, .int .i64 (rf - 1)]) (by simp [results, Try.results25, go_sem, l0, l1]) rfl ⟨M, p, _, rf - 1, D, hD, p1, q1, by omega, rfl, ?_⟩
      exact (HB.out.setCell (p := ⟨w.heap.size, 0, none⟩) (Nat.le_refl _) _).setCell (p := ⟨w.heap.size, 1, none⟩) (Nat.le_refl _) _
  · by_cases hp : p < 1000
    · go_wp2_with fail
      refine (curPick 9 (by omega) (by omega) (w.heap.size + 1) a n cap (w.heap.size + 1) _ (hid_le (by omega)) _ C4).mono ?_
      rintro e w5 ⟨r, r0, r1, rfl, C5, B5⟩
      have hM5 := (B5.blk mb hne (lt_of_block' hM4)).trans hM4
      have hR5 := (B5.blk w.heap.size (by omega) (lt_of_block' hR4)).trans hR4
      have HB5 : Below w.heap.size w w5 := HB4.trans (B5.below.mono (by omega))
      clear hM4 hR4 HB4 B5 C4
      go_wp2_with fail
      refine wa_begin (by kernel_rfl) ?_
      refine wa_take 1 (some 31) (.int .i64 p) rfl rfl (by kernel_rfl) (by kernel_rfl) (by kernel_rfl) (fun _ _ _ h => h) (by rfl) (fun _ => by rfl) ?_
      simp only [Act.put, List.setIfInBounds_toArray, List.set_cons_zero, List.set_cons_succ]
      refine wa_take 2 (some 32) (.int .i64 (wrap64 (p + r - 4))) rfl rfl (by kernel_rfl) (by kernel_rfl) (by kernel_rfl) (fun _ _ _ h => h) (by rfl) (fun _ => by rfl) ?_
      simp only [Act.put, List.setIfInBounds_toArray, List.set_cons_zero, List.set_cons_succ]
      refine wa_take 3 (some 33) (.pointer (some ⟨w.heap.size + 1, 0, none⟩)) rfl rfl (by kernel_rfl) (by kernel_rfl) (by kernel_rfl) (fun _ _ _ h => h) (by rfl) (fun _ => by rfl) ?_
      simp only [Act.put, List.setIfInBounds_toArray, List.set_cons_zero, List.set_cons_succ]
      refine wa_first 0 (some 30) (.agg #[.int .i64 M, .string D]) (fun w' => w'.heap[mb]? = some (.cells #[.int .i64 M, .string D] 40 (0, 0))) rfl rfl (by kernel_rfl) (by kernel_rfl) (by kernel_rfl) (fun _ _ _ h => h) (by rfl) (fun w' hS => ?_) hM5 ?_
      · have c0 : w'.cell? ⟨mb, 0, none⟩ = some (.int .i64 M) := by simp [World.cell?, hS]
        have c1 : w'.cell? ⟨mb, 1, none⟩ = some (.string D) := by simp [World.cell?, hS]
        clear hS
        go_simp
      simp only [Act.put, List.setIfInBounds_toArray, List.set_cons_zero, List.set_cons_succ]
      refine wb_call 4 (some 34) 33 #[.pointer (some ⟨w.heap.size + 1, 0, none⟩), .int .i64 30] (by kernel_rfl) (by kernel_rfl) rfl rfl (by rfl) (by kernel_rfl) ?_
      refine (curPick 30 (by omega) (by omega) (w.heap.size + 1) a n cap (w.heap.size + 1) _ (hid_le (by omega)) _ (C5.kept (Below.refl _ _).drew)).mono ?_
      rintro e wf ⟨rf, rf0, rf1, rfl, Cf, Bf⟩
      have hMf := (Bf.blk mb hne (lt_of_block' hM5)).trans hM5
      have hRf := (Bf.blk w.heap.size (by omega) (lt_of_block' hR5)).trans hR5
      refine ⟨_, rfl, hMf, ?_⟩
      simp only [Act.put, List.setIfInBounds_toArray, List.set_cons_zero, List.set_cons_succ]
      have hrw : IntKind.i64.wrap (rf - 1) = rf - 1 := by rw [IntKind.wrap_i64]; omega
      have d0 : wf.cell? ⟨w.heap.size, 0, none⟩ = some (.int .i64 0) := by simp [World.cell?, hRf]
      have d1 : wf.cell? ⟨w.heap.size, 1, none⟩ = some (.string ⟨#[]⟩) := by simp [World.cell?, hRf]
      have f0 : wf.frozen? ⟨w.heap.size, 0, none⟩ = false := by simp [World.frozen?, hRf]
      have f1 : wf.frozen? ⟨w.heap.size, 1, none⟩ = false := by simp [World.frozen?, hRf]
      have HB : Hid (Below w.heap.size w wf) := HB5.drew.trans (Bf.below.mono (Nat.le_succ _))
      have k0 : ((wf.setCell ⟨w.heap.size, 0, none⟩ (.int .i64 M)).setCell ⟨w.heap.size, 1, none⟩ (.string D)).heap[w.heap.size]? = some (.cells #[.int .i64 M, .string D] 40 (0, 0)) := heap_setCell_same _ _ _ _ _ _ (heap_setCell_same _ _ _ _ _ _ hRf)
      have l0 : ((wf.setCell ⟨w.heap.size, 0, none⟩ (.int .i64 M)).setCell ⟨w.heap.size, 1, none⟩ (.string D)).cell? ⟨w.heap.size, 0, none⟩ = some (.int .i64 M) := by simp [World.cell?, k0]
      have l1 : ((wf.setCell ⟨w.heap.size, 0, none⟩ (.int .i64 M)).setCell ⟨w.heap.size, 1, none⟩ (.string D)).cell? ⟨w.heap.size, 1, none⟩ = some (.string D) := by simp [World.cell?, k0]
      refine wb_both 5 6 (some 35) (.int .i64 (rf - 1)) ((wf.setCell ⟨w.heap.size, 0, none⟩ (.int .i64 M)).setCell ⟨w.heap.size, 1, none⟩ (.string D)) (by kernel_rfl) (by kernel_rfl) (by kernel_rfl) rfl rfl rfl rfl (by rfl) (by rfl) (by go_simp) (by go_simp) hMf ?_ ?_
      · simp only [Act.put, List.setIfInBounds_toArray, List.set_cons_zero, List.set_cons_succ]
        refine wb_skip 6 none ((wf.setCell ⟨w.heap.size, 0, none⟩ (.int .i64 M)).setCell ⟨w.heap.size, 1, none⟩ (.string D)) (by kernel_rfl) (by kernel_rfl) rfl rfl (by rfl) (by go_simp) ?_
        simp only [Act.put]
        refine wa_take 7 (some 3) (.int .i64 p) rfl rfl (by kernel_rfl) (by kernel_rfl) (by kernel_rfl) (fun _ _ _ h => h) (by rfl) (fun _ => by rfl) ?_
        simp only [Act.put, List.setIfInBounds_toArray, List.set_cons_zero, List.set_cons_succ]
        refine wa_take 8 (some 4) (.int .i64 (wrap64 (p + r - 4))) rfl rfl (by kernel_rfl) (by kernel_rfl) (by kernel_rfl) (fun _ _ _ h => h) (by rfl) (fun _ => by rfl) ?_
        simp only [Act.put, List.setIfInBounds_toArray, List.set_cons_zero, List.set_cons_succ]
        refine wa_take 9 (some 5) (.int .i64 (rf - 1)) rfl rfl (by kernel_rfl) (by kernel_rfl) (by kernel_rfl) (fun _ _ _ h => h) (by rfl) (fun _ => by rfl) ?_
        simp only [Act.put, List.setIfInBounds_toArray, List.set_cons_zero, List.set_cons_succ]
        refine wa_done (by kernel_rfl) ?_
        clear d0 d1 f0 f1
        go_wp2
        refine bodyPost_ret (v := .tuple #[.agg #[.int .i64 M, .string D], .int .i64 p, .int .i64 (wrap64 (p + r - 4)), .int .i64 (rf - 1)]) (by simp [results, Try.results25, go_sem, l0, l1]) rfl ⟨M, p, _, rf - 1, D, hD, p1, wrap_le _, by omega, rfl, ?_⟩
        exact (HB.out.setCell (p := ⟨w.heap.size, 0, none⟩) (Nat.le_refl _) _).setCell (p := ⟨w.heap.size, 1, none⟩) (Nat.le_refl _) _
      · simp only [Act.put]
        refine wa_take 5 (some 35) (.int .i64 (rf - 1)) rfl rfl (by kernel_rfl) (by kernel_rfl) (by kernel_rfl) (fun _ _ _ h => h) (by rfl) (fun _ => by go_simp) ?_
        simp only [Act.put, List.setIfInBounds_toArray, List.set_cons_zero, List.set_cons_succ]
        refine wa_take 7 (some 3) (.int .i64 p) rfl rfl (by kernel_rfl) (by kernel_rfl) (by kernel_rfl) (fun _ _ _ h => h) (by rfl) (fun _ => by rfl) ?_
        simp only [Act.put, List.setIfInBounds_toArray, List.set_cons_zero, List.set_cons_succ]
        refine wa_take 8 (some 4) (.int .i64 (wrap64 (p + r - 4))) rfl rfl (by kernel_rfl) (by kernel_rfl) (by kernel_rfl) (fun _ _ _ h => h) (by rfl) (fun _ => by rfl) ?_
        simp only [Act.put, List.setIfInBounds_toArray, List.set_cons_zero, List.set_cons_succ]
        refine wa_take 9 (some 5) (.int .i64 (rf - 1)) rfl rfl (by kernel_rfl) (by kernel_rfl) (by kernel_rfl) (fun _ _ _ h => h) (by rfl) (fun _ => by rfl) ?_
        simp only [Act.put, List.setIfInBounds_toArray, List.set_cons_zero, List.set_cons_succ]
        refine wa_done (by kernel_rfl) ?_
        clear d0 d1 f0 f1
        go_wp2
        refine bodyPost_ret (v := .tuple #[.agg #[.int .i64 M, .string D], .int .i64 p, .int .i64 (wrap64 (p + r - 4)), .int .i64 (rf - 1)]) (by simp [results, Try.results25, go_sem, l0, l1]) rfl ⟨M, p, _, rf - 1, D, hD, p1, wrap_le _, by omega, rfl, ?_⟩
        exact (HB.out.setCell (p := ⟨w.heap.size, 0, none⟩) (Nat.le_refl _) _).setCell (p := ⟨w.heap.size, 1, none⟩) (Nat.le_refl _) _
    · have hp2 : decide (p < 1000) = false := by simpa using hp
      go_wp2_with fail
      refine wa_begin (by kernel_rfl) ?_
      refine wa_take 1 (some 31) (.int .i64 p) rfl rfl (by kernel_rfl) (by kernel_rfl) (by kernel_rfl) (fun _ _ _ h => h) (by rfl) (fun _ => by rfl) ?_
      simp only [Act.put, List.setIfInBounds_toArray, List.set_cons_zero, List.set_cons_succ]
      refine wa_take 2 (some 32) (.int .i64 q) rfl rfl (by kernel_rfl) (by kernel_rfl) (by kernel_rfl) (fun _ _ _ h => h) (by rfl) (fun _ => by rfl) ?_
      simp only [Act.put, List.setIfInBounds_toArray, List.set_cons_zero, List.set_cons_succ]
      refine wa_take 3 (some 33) (.pointer (some ⟨w.heap.size + 1, 0, none⟩)) rfl rfl (by kernel_rfl) (by kernel_rfl) (by kernel_rfl) (fun _ _ _ h => h) (by rfl) (fun _ => by rfl) ?_
      simp only [Act.put, List.setIfInBounds_toArray, List.set_cons_zero, List.set_cons_succ]
      refine wa_first 0 (some 30) (.agg #[.int .i64 M, .string D]) (fun w' => w'.heap[mb]? = some (.cells #[.int .i64 M, .string D] 40 (0, 0))) rfl rfl (by kernel_rfl) (by kernel_rfl) (by kernel_rfl) (fun _ _ _ h => h) (by rfl) (fun w' hS => ?_) hM4 ?_
      · have c0 : w'.cell? ⟨mb, 0, none⟩ = some (.int .i64 M) := by simp [World.cell?, hS]
        have c1 : w'.cell? ⟨mb, 1, none⟩ = some (.string D) := by simp [World.cell?, hS]
        clear hS
        go_simp
      simp only [Act.put, List.setIfInBounds_toArray, List.set_cons_zero, List.set_cons_succ]
      refine wb_call 4 (some 34) 33 #[.pointer (some ⟨w.heap.size + 1, 0, none⟩), .int .i64 30] (by kernel_rfl) (by kernel_rfl) rfl rfl (by rfl) (by kernel_rfl) ?_
      refine (curPick 30 (by omega) (by omega) (w.heap.size + 1) a n cap (w.heap.size + 1) _ (hid_le (by omega)) _ (C4.kept (Below.refl _ _).drew)).mono ?_
      rintro e wf ⟨rf, rf0, rf1, rfl, Cf, Bf⟩
      have hMf := (Bf.blk mb hne (lt_of_block' hM4)).trans hM4
      have hRf := (Bf.blk w.heap.size (by omega) (lt_of_block' hR4)).trans hR4
      refine ⟨_, rfl, hMf, ?_⟩
      simp only [Act.put, List.setIfInBounds_toArray, List.set_cons_zero, List.set_cons_succ]
      have hrw : IntKind.i64.wrap (rf - 1) = rf - 1 := by rw [IntKind.wrap_i64]; omega
      have d0 : wf.cell? ⟨w.heap.size, 0, none⟩ = some (.int .i64 0) := by simp [World.cell?, hRf]
      have d1 : wf.cell? ⟨w.heap.size, 1, none⟩ = some (.string ⟨#[]⟩) := by simp [World.cell?, hRf]
      have f0 : wf.frozen? ⟨w.heap.size, 0, none⟩ = false := by simp [World.frozen?, hRf]
      have f1 : wf.frozen? ⟨w.heap.size, 1, none⟩ = false := by simp [World.frozen?, hRf]
      have HB : Hid (Below w.heap.size w wf) := HB4.drew.trans (Bf.below.mono (Nat.le_succ _))
      have k0 : ((wf.setCell ⟨w.heap.size, 0, none⟩ (.int .i64 M)).setCell ⟨w.heap.size, 1, none⟩ (.string D)).heap[w.heap.size]? = some (.cells #[.int .i64 M, .string D] 40 (0, 0)) := heap_setCell_same _ _ _ _ _ _ (heap_setCell_same _ _ _ _ _ _ hRf)
      have l0 : ((wf.setCell ⟨w.heap.size, 0, none⟩ (.int .i64 M)).setCell ⟨w.heap.size, 1, none⟩ (.string D)).cell? ⟨w.heap.size, 0, none⟩ = some (.int .i64 M) := by simp [World.cell?, k0]
      have l1 : ((wf.setCell ⟨w.heap.size, 0, none⟩ (.int .i64 M)).setCell ⟨w.heap.size, 1, none⟩ (.string D)).cell? ⟨w.heap.size, 1, none⟩ = some (.string D) := by simp [World.cell?, k0]
      refine wb_both 5 6 (some 35) (.int .i64 (rf - 1)) ((wf.setCell ⟨w.heap.size, 0, none⟩ (.int .i64 M)).setCell ⟨w.heap.size, 1, none⟩ (.string D)) (by kernel_rfl) (by kernel_rfl) (by kernel_rfl) rfl rfl rfl rfl (by rfl) (by rfl) (by go_simp) (by go_simp) hMf ?_ ?_
      · simp only [Act.put, List.setIfInBounds_toArray, List.set_cons_zero, List.set_cons_succ]
        refine wb_skip 6 none ((wf.setCell ⟨w.heap.size, 0, none⟩ (.int .i64 M)).setCell ⟨w.heap.size, 1, none⟩ (.string D)) (by kernel_rfl) (by kernel_rfl) rfl rfl (by rfl) (by go_simp) ?_
        simp only [Act.put]
        refine wa_take 7 (some 3) (.int .i64 p) rfl rfl (by kernel_rfl) (by kernel_rfl) (by kernel_rfl) (fun _ _ _ h => h) (by rfl) (fun _ => by rfl) ?_
        simp only [Act.put, List.setIfInBounds_toArray, List.set_cons_zero, List.set_cons_succ]
        refine wa_take 8 (some 4) (.int .i64 q) rfl rfl (by kernel_rfl) (by kernel_rfl) (by kernel_rfl) (fun _ _ _ h => h) (by rfl) (fun _ => by rfl) ?_
        simp only [Act.put, List.setIfInBounds_toArray, List.set_cons_zero, List.set_cons_succ]
        refine wa_take 9 (some 5) (.int .i64 (rf - 1)) rfl rfl (by kernel_rfl) (by kernel_rfl) (by kernel_rfl) (fun _ _ _ h => h) (by rfl) (fun _ => by rfl) ?_
        simp only [Act.put, List.setIfInBounds_toArray, List.set_cons_zero, List.set_cons_succ]
        refine wa_done (by kernel_rfl) ?_
        clear d0 d1 f0 f1
        go_wp2
        refine bodyPost_ret (v := .tuple #[.agg #[.int .i64 M, .string D], .int .i64 p, .int .i64 q, .int .i64 (rf - 1)]) (by simp [results, Try.results25, go_sem, l0, l1]) rfl ⟨M, p, _, rf - 1, D, hD, p1, q1, by omega, rfl, ?_⟩
        exact (HB.out.setCell (p := ⟨w.heap.size, 0, none⟩) (Nat.le_refl _) _).setCell (p := ⟨w.heap.size, 1, none⟩) (Nat.le_refl _) _
      · simp only [Act.put]
        refine wa_take 5 (some 35) (.int .i64 (rf - 1)) rfl rfl (by kernel_rfl) (by kernel_rfl) (by kernel_rfl) (fun _ _ _ h => h) (by rfl) (fun _ => by go_simp) ?_
        simp only [Act.put, List.setIfInBounds_toArray, List.set_cons_zero, List.set_cons_succ]
        refine wa_take 7 (some 3) (.int .i64 p) rfl rfl (by kernel_rfl) (by kernel_rfl) (by kernel_rfl) (fun _ _ _ h => h) (by rfl) (fun _ => by rfl) ?_
        simp only [Act.put, List.setIfInBounds_toArray, List.set_cons_zero, List.set_cons_succ]
        refine wa_take 8 (some 4) (.int .i64 q) rfl rfl (by kernel_rfl) (by kernel_rfl) (by kernel_rfl) (fun _ _ _ h => h) (by rfl) (fun _ => by rfl) ?_
        simp only [Act.put, List.setIfInBounds_toArray, List.set_cons_zero, List.set_cons_succ]
        refine wa_take 9 (some 5) (.int .i64 (rf - 1)) rfl rfl (by kernel_rfl) (by kernel_rfl) (by kernel_rfl) (fun _ _ _ h => h) (by rfl) (fun _ => by rfl) ?_
        simp only [Act.put, List.setIfInBounds_toArray, List.set_cons_zero, List.set_cons_succ]
        refine wa_done (by kernel_rfl) ?_
        clear d0 d1 f0 f1
        go_wp2
        refine bodyPost_ret (v := .tuple #[.agg #[.int .i64 M, .string D], .int .i64 p, .int .i64 q, .int .i64 (rf - 1)]) (by simp [results, Try.results25, go_sem, l0, l1]) rfl ⟨M, p, _, rf - 1, D, hD, p1, q1, by omega, rfl, ?_⟩
        exact (HB.out.setCell (p := ⟨w.heap.size, 0, none⟩) (Nat.le_refl _) _).setCell (p := ⟨w.heap.size, 1, none⟩) (Nat.le_refl _) _

end Go.Proofs.Ytlkbalmkljabhaa
