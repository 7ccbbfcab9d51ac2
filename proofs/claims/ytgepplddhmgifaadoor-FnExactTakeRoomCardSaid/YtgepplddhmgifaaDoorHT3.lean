/-
  Room taken of a heap: both functions, and the law. (Made by a generator.)
-/
import Derived.Test.YtgepplddhmgifaaDoorHT2
namespace Go.Proofs.YtgepplddhmgifaaDoor
open Go.ChangeShapes Go.WideShapes Go.ChangeAt Go.RowKit Go.Deep

/-- What is told. -/
def trOk (M : Int) (D : ByteArray) (N A S : Int) : Bool := goodH M D N && (alB A && decide (0 ≤ S))
def trIn (D : ByteArray) (N A S : Int) : Bool := decide (S ≤ (D.size : Int) - upA N A)
def trV (M : Int) (D : ByteArray) (N A S : Int) : Value :=
  if trOk M D N A S = true then (if trIn D N A S = true then .tuple #[hpV M D (upA N A + S), .int .i64 (upA N A), .int .i64 0] else .tuple #[hpV M D N, .int .i64 0, .int .i64 2])
  else .tuple #[hpV (kM M D N) (kD M D N) (kN M D N), .int .i64 0, .int .i64 1]

set_option maxRecDepth 100000 in
set_option maxHeartbeats 1600000 in
theorem implTake_bad (M : Int) (D : ByteArray) (N A S : Int) (h : D.size ≤ 1048576) (hb : trOk M D N A S = false) (w : World) :
    Calls Tryd.prog 9 #[hpV M D N, .int .i64 A, .int .i64 S] w fun e w' => e = .returned (trV M D N A S) ∧ Below w.heap.size w w' := by
  have HG := implGoodHeap M D N h
  have HA := implAlign A
  have HW := heapAsItWas M D N h
  rw [show trV M D N A S = .tuple #[hpV (kM M D N) (kD M D N) (kN M D N), .int .i64 0, .int .i64 1] by unfold trV; rw [hb]; rfl]
  generalize kM M D N = M' at *
  generalize kD M D N = D' at *
  generalize kN M D N = N' at *
  obtain ⟨g, hgs⟩ : ∃ g, w.heap.size = g := ⟨_, rfl⟩
  unfold trOk at hb
  generalize goodH M D N = G at *
  generalize alB A = L at *
  obtain ⟨s, hs9⟩ : ∃ s, decide (0 ≤ S) = s := ⟨_, rfl⟩
  rw [hs9] at hb
  have hS : decide (S < 0) = !s := by rw [← hs9]; by_cases h0 : 0 ≤ S <;> simp [h0] <;> omega
  have HB : Hid ((G && (L && s)) = false) := hb
  clear hb hs9 h
  go_enter Tryd.func9, Tryd.ntmps9
  go_wp2_with fail
  refine (HG _).mono ?_
  rintro e w1 ⟨rfl, B1⟩
  have hs := B1.size
  simp at hs
  have hB : Hid (Below w.heap.size w w1) := by unfold Hid; ((repeat (first | refine bel_alloc ?_ _ | refine bel_dN ?_ _ | refine Below.drew ?_ | refine Below.setCell ?_ (by first | (simp; done) | (simp; omega)) _)); refine bel_step ?_ B1; (repeat (first | refine bel_alloc ?_ _ | refine bel_dN ?_ _ | refine Below.drew ?_ | refine Below.setCell ?_ (by first | (simp; done) | (simp; omega)) _)); exact Below.refl _ _)
  have e0 : w1.heap[g]? = some (.cells #[.int .i64 M, .string D, .int .i64 N] 29 (0, 0)) := (B1.block _ (by simp; omega)).trans (heap_old (heap_blk hgs))
  have e1 : w1.heap[g + 1]? = some (.cells #[.int .i64 0, .string ⟨#[]⟩, .int .i64 0] 29 (0, 0)) := (B1.block _ (by simp; omega)).trans (heap_blk (by simp; omega))
  have p0 : w1.cell? ⟨g, 0, none⟩ = some (.int .i64 M) := (cell_of_block e0 0).trans rfl
  have p1 : w1.cell? ⟨g, 1, none⟩ = some (.string D) := (cell_of_block e0 1).trans rfl
  have p2 : w1.cell? ⟨g, 2, none⟩ = some (.int .i64 N) := (cell_of_block e0 2).trans rfl
  clear B1 HG e0
  have HEND : Hid (∀ w2, Below w1.heap.size w1 w2 → w2.heap[g + 1]? = some (.cells #[.int .i64 0, .string ⟨#[]⟩, .int .i64 0] 29 (0, 0)) ∧ Below w.heap.size w w2 ∧ g + 1 < w2.heap.size) := fun w2 b2 => ⟨(b2.block _ (by omega)).trans e1, bel_stepK hB.out b2, by have := b2.size; omega⟩
  clear e1 hs
  cases G with
  | false =>
    clear HA HB
    go_wp2_with fail
    refine (HW _).mono ?_
    rintro e w2 ⟨rfl, b2⟩
    obtain ⟨e1, hb2, hl⟩ := HEND.out w2 b2
    clear HW b2 HEND p0 p1 p2
    have q0 : w2.cell? ⟨g + 1, 0, none⟩ = some (.int .i64 0) := (cell_of_block e1 0).trans rfl
    have q1 : w2.cell? ⟨g + 1, 1, none⟩ = some (.string ⟨#[]⟩) := (cell_of_block e1 1).trans rfl
    have q2 : w2.cell? ⟨g + 1, 2, none⟩ = some (.int .i64 0) := (cell_of_block e1 2).trans rfl
    have z0 := free_of_block e1 0
    have z1 := free_of_block e1 1
    have z2 := free_of_block e1 2
    have F := set3 e1 (.int .i64 M') (.string D') (.int .i64 N') rfl
    have k7 := (cell_of_block F 0).trans (show _ = some (Value.int .i64 M') from rfl)
    have k8 := (cell_of_block F 1).trans (show _ = some (Value.string D') from rfl)
    have k9 := (cell_of_block F 2).trans (show _ = some (Value.int .i64 N') from rfl)
    clear e1 F 
    go_wp2
    refine bodyPost_ret (v := .tuple #[hpV M' D' N', .int .i64 0, .int .i64 1]) (by simp [results, Tryd.results9, go_sem, k7, k8, k9]) rfl ⟨rfl, ?_⟩
    refine Below.setCell (Below.setCell (Below.setCell hb2 ?_ _) ?_ _) ?_ _ <;> simp <;> omega
  | true =>
    cases L with
    | false =>
      clear HB
      go_wp2_with (go_at_call 21; refine (HA _).mono ?_; rintro e wa ⟨rfl, hwa⟩; obtain rfl := hwa.symm; clear HA)
      refine (HW _).mono ?_
      rintro e w2 ⟨rfl, b2⟩
      obtain ⟨e1, hb2, hl⟩ := HEND.out w2 b2
      clear HW b2 HEND p0 p1 p2
      have q0 : w2.cell? ⟨g + 1, 0, none⟩ = some (.int .i64 0) := (cell_of_block e1 0).trans rfl
      have q1 : w2.cell? ⟨g + 1, 1, none⟩ = some (.string ⟨#[]⟩) := (cell_of_block e1 1).trans rfl
      have q2 : w2.cell? ⟨g + 1, 2, none⟩ = some (.int .i64 0) := (cell_of_block e1 2).trans rfl
      have z0 := free_of_block e1 0
      have z1 := free_of_block e1 1
      have z2 := free_of_block e1 2
      have F := set3 e1 (.int .i64 M') (.string D') (.int .i64 N') rfl
      have k7 := (cell_of_block F 0).trans (show _ = some (Value.int .i64 M') from rfl)
      have k8 := (cell_of_block F 1).trans (show _ = some (Value.string D') from rfl)
      have k9 := (cell_of_block F 2).trans (show _ = some (Value.int .i64 N') from rfl)
      clear e1 F 
      go_wp2
      refine bodyPost_ret (v := .tuple #[hpV M' D' N', .int .i64 0, .int .i64 1]) (by simp [results, Tryd.results9, go_sem, k7, k8, k9]) rfl ⟨rfl, ?_⟩
      refine Below.setCell (Below.setCell (Below.setCell hb2 ?_ _) ?_ _) ?_ _ <;> simp <;> omega
    | true =>
      obtain rfl : s = false := by have := HB.out; simpa using this
      clear HB
      go_wp2_with (go_at_call 21; refine (HA _).mono ?_; rintro e wa ⟨rfl, hwa⟩; obtain rfl := hwa.symm; clear HA)
      refine (HW _).mono ?_
      rintro e w2 ⟨rfl, b2⟩
      obtain ⟨e1, hb2, hl⟩ := HEND.out w2 b2
      clear HW b2 HEND p0 p1 p2
      have q0 : w2.cell? ⟨g + 1, 0, none⟩ = some (.int .i64 0) := (cell_of_block e1 0).trans rfl
      have q1 : w2.cell? ⟨g + 1, 1, none⟩ = some (.string ⟨#[]⟩) := (cell_of_block e1 1).trans rfl
      have q2 : w2.cell? ⟨g + 1, 2, none⟩ = some (.int .i64 0) := (cell_of_block e1 2).trans rfl
      have z0 := free_of_block e1 0
      have z1 := free_of_block e1 1
      have z2 := free_of_block e1 2
      have F := set3 e1 (.int .i64 M') (.string D') (.int .i64 N') rfl
      have k7 := (cell_of_block F 0).trans (show _ = some (Value.int .i64 M') from rfl)
      have k8 := (cell_of_block F 1).trans (show _ = some (Value.string D') from rfl)
      have k9 := (cell_of_block F 2).trans (show _ = some (Value.int .i64 N') from rfl)
      clear e1 F 
      go_wp2
      refine bodyPost_ret (v := .tuple #[hpV M' D' N', .int .i64 0, .int .i64 1]) (by simp [results, Tryd.results9, go_sem, k7, k8, k9]) rfl ⟨rfl, ?_⟩
      refine Below.setCell (Below.setCell (Below.setCell hb2 ?_ _) ?_ _) ?_ _ <;> simp <;> omega

set_option maxRecDepth 100000 in
set_option maxHeartbeats 1600000 in
theorem implTake_good (M : Int) (D : ByteArray) (N A S : Int) (h : D.size ≤ 1048576) (hb : trOk M D N A S = true) (w : World) :
    Calls Tryd.prog 9 #[hpV M D N, .int .i64 A, .int .i64 S] w fun e w' => e = .returned (trV M D N A S) ∧ Below w.heap.size w w' := by
  have HG := implGoodHeap M D N h
  have HA := implAlign A
  have HW := heapAsItWas M D N h
  have HL := newLayer D N 1
  obtain ⟨g1, g2, g3⟩ : goodH M D N = true ∧ alB A = true ∧ 0 ≤ S := by simpa [trOk] using hb
  obtain ⟨_, g4, g5⟩ := goodH_yes g1
  have hAl := alB_yes g2
  unfold kM kD kN at HW
  rw [g1] at HG HW
  simp only [if_true] at HW
  rw [g2] at HA
  obtain ⟨I, hI⟩ : ∃ I, trIn D N A S = I := ⟨_, rfl⟩
  have hI' : Hid (decide (S ≤ (D.size : Int) - upA N A) = I) := hI
  have HTV : Hid (trV M D N A S = if I = true then .tuple #[hpV M D (upA N A + S), .int .i64 (upA N A), .int .i64 0] else .tuple #[hpV M D N, .int .i64 0, .int .i64 2]) := by unfold Hid trV; rw [hb, hI]; rfl
  have HT : Hid (∀ W r c R, Lay W r c R D N 1 → Calls Tryd.prog 24 #[.pointer (some ⟨r + 1, 0, none⟩), .agg #[.int .i64 S, .int .i64 A]] W fun e w' => e = .returned (.tuple #[.int .i64 (if I = true then upA N A else 0), .bool I]) ∧ Lay w' r c R D (if I = true then upA N A + S else N) 1 ∧ LFr r W w') := fun W r c R hl =>
    lTake W r c R D N 1 S A hl hAl g4 g5 h g3 I hI'
  have hS : decide (S < 0) = false := by simp; omega
  obtain ⟨g, hgs⟩ : ∃ g, w.heap.size = g := ⟨_, rfl⟩
  rw [HTV.out]
  generalize upA N A = U at *
  clear hI' HTV hI hb h g1 g2 g3 g4 g5 hAl
  cases I with
  | false =>
    simp only [Bool.false_eq_true, if_false] at HT ⊢
    go_enter Tryd.func9, Tryd.ntmps9
    go_wp2_with fail
    refine (HG _).mono ?_
    rintro e w1 ⟨rfl, B1⟩
    have hs := B1.size
    simp at hs
    have hB : Hid (Below w.heap.size w w1) := by unfold Hid; ((repeat (first | refine bel_alloc ?_ _ | refine bel_dN ?_ _ | refine Below.drew ?_ | refine Below.setCell ?_ (by first | (simp; done) | (simp; omega)) _)); refine bel_step ?_ B1; (repeat (first | refine bel_alloc ?_ _ | refine bel_dN ?_ _ | refine Below.drew ?_ | refine Below.setCell ?_ (by first | (simp; done) | (simp; omega)) _)); exact Below.refl _ _)
    have e0 : w1.heap[g]? = some (.cells #[.int .i64 M, .string D, .int .i64 N] 29 (0, 0)) := (B1.block _ (by simp; omega)).trans (heap_old (heap_blk hgs))
    have e1 : w1.heap[g + 1]? = some (.cells #[.int .i64 0, .string ⟨#[]⟩, .int .i64 0] 29 (0, 0)) := (B1.block _ (by simp; omega)).trans (heap_blk (by simp; omega))
    have p0 : w1.cell? ⟨g, 0, none⟩ = some (.int .i64 M) := (cell_of_block e0 0).trans rfl
    have p1 : w1.cell? ⟨g, 1, none⟩ = some (.string D) := (cell_of_block e0 1).trans rfl
    have p2 : w1.cell? ⟨g, 2, none⟩ = some (.int .i64 N) := (cell_of_block e0 2).trans rfl
    clear B1 HG
    go_wp2_with (go_at_call 21; refine (HA _).mono ?_; rintro e wa ⟨rfl, hwa⟩; obtain rfl := hwa.symm; clear HA)
    refine (HL _).mono ?_
    rintro e w2 ⟨c, R, rfl, L2, b2⟩
    have ht2 := L2.tab
    clear HL p0 p1 p2
    obtain ⟨r, hr⟩ : ∃ r, w1.heap.size = r := ⟨_, rfl⟩
    rw [hr] at L2 b2 hs ht2 ⊢
    have HTT := HT.out w2 r c R L2
    clear HT L2
    go_wp2_with fail
    refine HTT.mono ?_
    rintro e w3 ⟨rfl, L3, f3⟩
    clear HTT
    have b3 : Below r w1 w3 := b2.trans f3.1
    have s3 := f3.2.1
    replace e0 := (b3.block g (by omega)).trans e0
    replace e1 := (b3.block (g + 1) (by omega)).trans e1
    have hB3 : Hid (Below w.heap.size w w3) := hB.out.trans (b3.mono (by omega))
    have p0 : w3.cell? ⟨g, 0, none⟩ = some (.int .i64 M) := (cell_of_block e0 0).trans rfl
    have p1 : w3.cell? ⟨g, 1, none⟩ = some (.string D) := (cell_of_block e0 1).trans rfl
    have p2 : w3.cell? ⟨g, 2, none⟩ = some (.int .i64 N) := (cell_of_block e0 2).trans rfl
    have HEND : Hid (∀ w4, Below w3.heap.size w3 w4 → w4.heap[g + 1]? = some (.cells #[.int .i64 0, .string ⟨#[]⟩, .int .i64 0] 29 (0, 0)) ∧ Below w.heap.size w w4 ∧ g + 1 < w4.heap.size) := fun w4 b4 => ⟨(b4.block _ (by omega)).trans e1, bel_stepK hB3.out b4, by have := b4.size; omega⟩
    clear e0 e1 b2 b3 f3 hB hs
    clear L3
    go_wp2_with fail
    refine (HW _).mono ?_
    rintro e w4 ⟨rfl, b4⟩
    obtain ⟨e1, hb4, hl⟩ := HEND.out w4 b4
    clear HW b4 HEND p0 p1 p2 hB3
    have q0 : w4.cell? ⟨g + 1, 0, none⟩ = some (.int .i64 0) := (cell_of_block e1 0).trans rfl
    have q1 : w4.cell? ⟨g + 1, 1, none⟩ = some (.string ⟨#[]⟩) := (cell_of_block e1 1).trans rfl
    have q2 : w4.cell? ⟨g + 1, 2, none⟩ = some (.int .i64 0) := (cell_of_block e1 2).trans rfl
    have z0 := free_of_block e1 0
    have z1 := free_of_block e1 1
    have z2 := free_of_block e1 2
    have F := set3 e1 (.int .i64 M) (.string D) (.int .i64 N) rfl
    have k7 := (cell_of_block F 0).trans (show _ = some (Value.int .i64 M) from rfl)
    have k8 := (cell_of_block F 1).trans (show _ = some (Value.string D) from rfl)
    have k9 := (cell_of_block F 2).trans (show _ = some (Value.int .i64 N) from rfl)
    clear e1 F 
    go_wp2
    refine bodyPost_ret (v := .tuple #[hpV M D N, .int .i64 0, .int .i64 2]) (by simp [results, Tryd.results9, go_sem, k7, k8, k9]) rfl ⟨rfl, ?_⟩
    refine Below.setCell (Below.setCell (Below.setCell hb4 ?_ _) ?_ _) ?_ _ <;> simp <;> omega
  | true =>
    simp only [if_true] at HT ⊢
    generalize U + S = U2 at *
    go_enter Tryd.func9, Tryd.ntmps9
    go_wp2_with fail
    refine (HG _).mono ?_
    rintro e w1 ⟨rfl, B1⟩
    have hs := B1.size
    simp at hs
    have hB : Hid (Below w.heap.size w w1) := by unfold Hid; ((repeat (first | refine bel_alloc ?_ _ | refine bel_dN ?_ _ | refine Below.drew ?_ | refine Below.setCell ?_ (by first | (simp; done) | (simp; omega)) _)); refine bel_step ?_ B1; (repeat (first | refine bel_alloc ?_ _ | refine bel_dN ?_ _ | refine Below.drew ?_ | refine Below.setCell ?_ (by first | (simp; done) | (simp; omega)) _)); exact Below.refl _ _)
    have e0 : w1.heap[g]? = some (.cells #[.int .i64 M, .string D, .int .i64 N] 29 (0, 0)) := (B1.block _ (by simp; omega)).trans (heap_old (heap_blk hgs))
    have e1 : w1.heap[g + 1]? = some (.cells #[.int .i64 0, .string ⟨#[]⟩, .int .i64 0] 29 (0, 0)) := (B1.block _ (by simp; omega)).trans (heap_blk (by simp; omega))
    have p0 : w1.cell? ⟨g, 0, none⟩ = some (.int .i64 M) := (cell_of_block e0 0).trans rfl
    have p1 : w1.cell? ⟨g, 1, none⟩ = some (.string D) := (cell_of_block e0 1).trans rfl
    have p2 : w1.cell? ⟨g, 2, none⟩ = some (.int .i64 N) := (cell_of_block e0 2).trans rfl
    clear B1 HG
    go_wp2_with (go_at_call 21; refine (HA _).mono ?_; rintro e wa ⟨rfl, hwa⟩; obtain rfl := hwa.symm; clear HA)
    refine (HL _).mono ?_
    rintro e w2 ⟨c, R, rfl, L2, b2⟩
    have ht2 := L2.tab
    clear HL p0 p1 p2
    obtain ⟨r, hr⟩ : ∃ r, w1.heap.size = r := ⟨_, rfl⟩
    rw [hr] at L2 b2 hs ht2 ⊢
    have HTT := HT.out w2 r c R L2
    clear HT L2
    go_wp2_with fail
    refine HTT.mono ?_
    rintro e w3 ⟨rfl, L3, f3⟩
    clear HTT
    have b3 : Below r w1 w3 := b2.trans f3.1
    have s3 := f3.2.1
    replace e0 := (b3.block g (by omega)).trans e0
    replace e1 := (b3.block (g + 1) (by omega)).trans e1
    have hB3 : Hid (Below w.heap.size w w3) := hB.out.trans (b3.mono (by omega))
    have p0 : w3.cell? ⟨g, 0, none⟩ = some (.int .i64 M) := (cell_of_block e0 0).trans rfl
    have p1 : w3.cell? ⟨g, 1, none⟩ = some (.string D) := (cell_of_block e0 1).trans rfl
    have p2 : w3.cell? ⟨g, 2, none⟩ = some (.int .i64 N) := (cell_of_block e0 2).trans rfl
    have HEND : Hid (∀ w4, Below w3.heap.size w3 w4 → w4.heap[g + 1]? = some (.cells #[.int .i64 0, .string ⟨#[]⟩, .int .i64 0] 29 (0, 0)) ∧ Below w.heap.size w w4 ∧ g + 1 < w4.heap.size) := fun w4 b4 => ⟨(b4.block _ (by omega)).trans e1, bel_stepK hB3.out b4, by have := b4.size; omega⟩
    clear e0 e1 b2 b3 f3 hB hs
    have HH := lHeap w3 r c R D U2 1 M N D L3
    clear L3 HW
    go_wp2_with fail
    refine HH.mono ?_
    rintro e w4 ⟨rfl, b4⟩
    obtain ⟨e1, hb4, hl⟩ := HEND.out w4 b4
    clear HH b4 HEND p0 p1 p2 hB3
    have q0 : w4.cell? ⟨g + 1, 0, none⟩ = some (.int .i64 0) := (cell_of_block e1 0).trans rfl
    have q1 : w4.cell? ⟨g + 1, 1, none⟩ = some (.string ⟨#[]⟩) := (cell_of_block e1 1).trans rfl
    have q2 : w4.cell? ⟨g + 1, 2, none⟩ = some (.int .i64 0) := (cell_of_block e1 2).trans rfl
    have z0 := free_of_block e1 0
    have z1 := free_of_block e1 1
    have z2 := free_of_block e1 2
    have F := set3 e1 (.int .i64 M) (.string D) (.int .i64 U2) rfl
    have k7 := (cell_of_block F 0).trans (show _ = some (Value.int .i64 M) from rfl)
    have k8 := (cell_of_block F 1).trans (show _ = some (Value.string D) from rfl)
    have k9 := (cell_of_block F 2).trans (show _ = some (Value.int .i64 U2) from rfl)
    clear e1 F 
    go_wp2
    refine bodyPost_ret (v := .tuple #[hpV M D U2, .int .i64 U, .int .i64 0]) (by simp [results, Tryd.results9, go_sem, k7, k8, k9]) rfl ⟨rfl, ?_⟩
    refine Below.setCell (Below.setCell (Below.setCell hb4 ?_ _) ?_ _) ?_ _ <;> simp <;> omega

theorem implTakeRoom (M : Int) (D : ByteArray) (N A S : Int) (h : D.size ≤ 1048576) (w : World) :
    Calls Tryd.prog 9 #[hpV M D N, .int .i64 A, .int .i64 S] w fun e w' => e = .returned (trV M D N A S) ∧ Below w.heap.size w w' := by
  cases hb : trOk M D N A S with
  | false => exact implTake_bad M D N A S h hb w
  | true => exact implTake_good M D N A S h hb w

end Go.Proofs.YtgepplddhmgifaaDoor
