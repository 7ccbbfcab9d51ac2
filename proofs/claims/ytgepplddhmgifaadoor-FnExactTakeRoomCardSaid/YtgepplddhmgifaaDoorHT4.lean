/-
  Room taken of a heap: the specification, and the law. (Made by a generator.)
-/
import Derived.Test.YtgepplddhmgifaaDoorHT3
namespace Go.Proofs.YtgepplddhmgifaaDoor
open Go.ChangeShapes Go.WideShapes Go.ChangeAt Go.RowKit Go.Deep

set_option maxRecDepth 100000 in
set_option maxHeartbeats 1600000 in
theorem specTake (M : Int) (D : ByteArray) (N A S : Int) (h : D.size ≤ 1048576) (hA : A = 1 ∨ A = 2 ∨ A = 4 ∨ A = 8) (h0 : 0 ≤ N) (h1 : N ≤ (D.size : Int)) (hS : 0 ≤ S) (I : Bool) (hI : Hid (trIn D N A S = I)) (w : World) :
    Calls Tryd.prog 19 #[hpV M D N, .int .i64 A, .int .i64 S] w fun e w' => e = .returned (.tuple #[hpV M D (if I = true then upA N A + S else N), .int .i64 (if I = true then upA N A else 0), .bool I]) ∧ Below w.heap.size w w' := by
  have HU := specUpH N A hA h0 (by omega)
  have hU := upA_in (N := N) hA
  have hi := hI.out
  unfold trIn at hi
  obtain ⟨n, hn⟩ : ∃ n : Int, (D.size : Int) = n := ⟨_, rfl⟩
  rw [hn] at hi
  generalize upA N A = U at *
  have v1 : U ≤ n → wrap64 (n - U) = n - U := fun _ => by unfold wrap64; omega
  have hUn : ¬ U ≤ n → I = false := fun h => by rw [← hi]; simp; omega
  have v2 : I = true → wrap64 (U + S) = U + S := fun h => by rw [h] at hi; simp at hi; unfold wrap64; omega
  have hgt : decide (n - U < S) = !I := by rw [← hi]; by_cases hc : S ≤ n - U <;> simp [hc] <;> omega
  clear hI hi hA h0 h1 hS h hU
  obtain ⟨g, hgs⟩ : ∃ g, w.heap.size = g := ⟨_, rfl⟩
  obtain ⟨W, hW⟩ : ∃ W, (w.alloc (.cells #[.int .i64 M, .string D, .int .i64 N] 29)).alloc (.cells #[.int .i64 0, .string ⟨#[]⟩, .int .i64 0] 29) = W := ⟨_, rfl⟩
  have hB : Hid (Below w.heap.size w W) := by unfold Hid; rw [← hW]; (repeat (first | refine Below.alloc ?_ (by first | (simp; done) | (simp; omega)) _ | refine Below.setCell ?_ (by first | (simp; done) | (simp; omega)) _ | refine bel_dN ?_ _ | refine Below.drew ?_ | exact Below.refl _ _))
  have hs : W.heap.size = g + 2 := by rw [← hW, ← hgs]; simp
  have e0 : W.heap[g]? = some (.cells #[.int .i64 M, .string D, .int .i64 N] 29 (0, 0)) := by rw [← hW]; exact heap_old (heap_blk hgs)
  have e1 : W.heap[g + 1]? = some (.cells #[.int .i64 0, .string ⟨#[]⟩, .int .i64 0] 29 (0, 0)) := by rw [← hW]; exact heap_blk (by simp; omega)
  have p0 : W.cell? ⟨g, 0, none⟩ = some (.int .i64 M) := (cell_of_block e0 0).trans rfl
  have p1 : W.cell? ⟨g, 1, none⟩ = some (.string D) := (cell_of_block e0 1).trans rfl
  have p2 : W.cell? ⟨g, 2, none⟩ = some (.int .i64 N) := (cell_of_block e0 2).trans rfl
  have y2 := free_of_block e0 2
  clear e0
  by_cases hc : U ≤ n
  · have w1 := v1 hc
    have d1 : decide (n < U) = false := by simp; omega
    clear v1 hUn hc
    cases I with
    | false =>
      simp only [Bool.false_eq_true, if_false, Bool.not_false] at hgt ⊢
      clear v2
      have q0 : W.cell? ⟨g + 1, 0, none⟩ = some (.int .i64 0) := (cell_of_block e1 0).trans rfl
      have q1 : W.cell? ⟨g + 1, 1, none⟩ = some (.string ⟨#[]⟩) := (cell_of_block e1 1).trans rfl
      have q2 : W.cell? ⟨g + 1, 2, none⟩ = some (.int .i64 0) := (cell_of_block e1 2).trans rfl
      have z0 := free_of_block e1 0
      have z1 := free_of_block e1 1
      have z2 := free_of_block e1 2
      have F := set3 e1 (.int .i64 M) (.string D) (.int .i64 N) rfl
      have k7 := (cell_of_block F 0).trans (show _ = some (Value.int .i64 M) from rfl)
      have k8 := (cell_of_block F 1).trans (show _ = some (Value.string D) from rfl)
      have k9 := (cell_of_block F 2).trans (show _ = some (Value.int .i64 N) from rfl)
      clear F
      clear e1
      go_enter Tryd.func19, Tryd.ntmps19
      go_wp2_with (go_at_call 40; refine (HU _).mono ?_; rintro e wa ⟨rfl, hwa⟩; obtain rfl := hwa.symm; clear HU)
      refine bodyPost_ret (v := .tuple #[hpV M D N, .int .i64 0, .bool false]) (by simp [results, Tryd.results19, go_sem, k7, k8, k9]) rfl ⟨rfl, ?_⟩
      refine (Below.setCell (Below.setCell (Below.setCell hB.out ?_ _) ?_ _) ?_ _) <;> simp <;> omega
    | true =>
      simp only [if_true, Bool.not_true] at hgt ⊢
      obtain ⟨U2, hU2⟩ : ∃ x, U + S = x := ⟨_, rfl⟩
      have w2 : wrap64 (U + S) = U2 := (v2 rfl).trans hU2
      rw [hU2]
      clear v2 hU2
      have e2 : (W.setCell ⟨g, 2, none⟩ (.int .i64 U2)).heap[g + 1]? = some (.cells #[.int .i64 0, .string ⟨#[]⟩, .int .i64 0] 29 (0, 0)) := (heap_setCell_other _ _ _ _ (by simp)).trans e1
      have r0 : (W.setCell ⟨g, 2, none⟩ (.int .i64 U2)).cell? ⟨g + 1, 0, none⟩ = some (.int .i64 0) := (cell_of_block e2 0).trans rfl
      have r1 : (W.setCell ⟨g, 2, none⟩ (.int .i64 U2)).cell? ⟨g + 1, 1, none⟩ = some (.string ⟨#[]⟩) := (cell_of_block e2 1).trans rfl
      have r2 : (W.setCell ⟨g, 2, none⟩ (.int .i64 U2)).cell? ⟨g + 1, 2, none⟩ = some (.int .i64 0) := (cell_of_block e2 2).trans rfl
      have x0 := free_of_block e2 0
      have x1 := free_of_block e2 1
      have x2 := free_of_block e2 2
      have F := set3 e2 (.int .i64 M) (.string D) (.int .i64 U2) rfl
      have k7 := (cell_of_block F 0).trans (show _ = some (Value.int .i64 M) from rfl)
      have k8 := (cell_of_block F 1).trans (show _ = some (Value.string D) from rfl)
      have k9 := (cell_of_block F 2).trans (show _ = some (Value.int .i64 U2) from rfl)
      clear F
      have q0 : W.cell? ⟨g + 1, 0, none⟩ = some (.int .i64 0) := (cell_of_block e1 0).trans rfl
      have q1 : W.cell? ⟨g + 1, 1, none⟩ = some (.string ⟨#[]⟩) := (cell_of_block e1 1).trans rfl
      have q2 : W.cell? ⟨g + 1, 2, none⟩ = some (.int .i64 0) := (cell_of_block e1 2).trans rfl
      have z0 := free_of_block e1 0
      have z1 := free_of_block e1 1
      have z2 := free_of_block e1 2
      clear e1 e2
      go_enter Tryd.func19, Tryd.ntmps19
      go_wp2_with (go_at_call 40; refine (HU _).mono ?_; rintro e wa ⟨rfl, hwa⟩; obtain rfl := hwa.symm; clear HU)
      refine bodyPost_ret (v := .tuple #[hpV M D U2, .int .i64 U, .bool true]) (by simp [results, Tryd.results19, go_sem, k7, k8, k9]) rfl ⟨rfl, ?_⟩
      refine (Below.setCell (Below.setCell (Below.setCell (Below.setCell hB.out ?_ _) ?_ _) ?_ _) ?_ _) <;> simp <;> omega
  · obtain rfl := hUn hc
    have d1 : decide (n < U) = true := by simp; omega
    simp only [Bool.false_eq_true, if_false, Bool.not_false] at hgt ⊢
    clear v1 v2 hUn hc hgt
    have q0 : W.cell? ⟨g + 1, 0, none⟩ = some (.int .i64 0) := (cell_of_block e1 0).trans rfl
    have q1 : W.cell? ⟨g + 1, 1, none⟩ = some (.string ⟨#[]⟩) := (cell_of_block e1 1).trans rfl
    have q2 : W.cell? ⟨g + 1, 2, none⟩ = some (.int .i64 0) := (cell_of_block e1 2).trans rfl
    have z0 := free_of_block e1 0
    have z1 := free_of_block e1 1
    have z2 := free_of_block e1 2
    have F := set3 e1 (.int .i64 M) (.string D) (.int .i64 N) rfl
    have k7 := (cell_of_block F 0).trans (show _ = some (Value.int .i64 M) from rfl)
    have k8 := (cell_of_block F 1).trans (show _ = some (Value.string D) from rfl)
    have k9 := (cell_of_block F 2).trans (show _ = some (Value.int .i64 N) from rfl)
    clear F
    clear e1
    go_enter Tryd.func19, Tryd.ntmps19
    go_wp2_with (go_at_call 40; refine (HU _).mono ?_; rintro e wa ⟨rfl, hwa⟩; obtain rfl := hwa.symm; clear HU)
    refine bodyPost_ret (v := .tuple #[hpV M D N, .int .i64 0, .bool false]) (by simp [results, Tryd.results19, go_sem, k7, k8, k9]) rfl ⟨rfl, ?_⟩
    refine (Below.setCell (Below.setCell (Below.setCell hB.out ?_ _) ?_ _) ?_ _) <;> simp <;> omega

set_option maxRecDepth 100000 in
set_option maxHeartbeats 1600000 in
theorem specTakeRoom (M : Int) (D : ByteArray) (N A S : Int) (h : D.size ≤ 1048576) (w : World) :
    Calls Tryd.prog 7 #[hpV M D N, .int .i64 A, .int .i64 S] w fun e w' => e = .returned (trV M D N A S) ∧ Below w.heap.size w w' := by
  have HG := specGoodHeap M D N h
  have HA := specAlign A
  obtain ⟨g, hgs⟩ : ∃ g, w.heap.size = g := ⟨_, rfl⟩
  have HST : Hid (∀ w1, Below ((w.alloc (.cells #[.int .i64 M, .string D, .int .i64 N] 29)).alloc (.cells #[.int .i64 0, .string ⟨#[]⟩, .int .i64 0] 29)).heap.size ((w.alloc (.cells #[.int .i64 M, .string D, .int .i64 N] 29)).alloc (.cells #[.int .i64 0, .string ⟨#[]⟩, .int .i64 0] 29)) w1 → g + 1 < w1.heap.size ∧ Below w.heap.size w w1 ∧ w1.heap[g]? = some (.cells #[.int .i64 M, .string D, .int .i64 N] 29 (0, 0)) ∧ w1.heap[g + 1]? = some (.cells #[.int .i64 0, .string ⟨#[]⟩, .int .i64 0] 29 (0, 0))) := fun w1 B1 => by
    have hs := B1.size
    simp at hs
    refine ⟨by omega, ?_, (B1.block _ (by simp; omega)).trans (heap_old (heap_blk hgs)), (B1.block _ (by simp; omega)).trans (heap_blk (by simp; omega))⟩
    ((repeat (first | refine bel_alloc ?_ _ | refine bel_dN ?_ _ | refine Below.drew ?_ | refine Below.setCell ?_ (by first | (simp; done) | (simp; omega)) _)); refine bel_step ?_ B1; (repeat (first | refine bel_alloc ?_ _ | refine bel_dN ?_ _ | refine Below.drew ?_ | refine Below.setCell ?_ (by first | (simp; done) | (simp; omega)) _)); exact Below.refl _ _)
  cases g1 : goodH M D N with
  | false =>
    rw [g1] at HG
    rw [show trV M D N A S = .tuple #[hpV 0 ⟨#[]⟩ 0, .int .i64 0, .int .i64 1] by unfold trV trOk kM kD kN; rw [g1]; rfl]
    clear g1 HA h
    go_enter Tryd.func7, Tryd.ntmps7
    go_wp2_with fail
    refine (HG _).mono ?_
    rintro e w1 ⟨rfl, B1⟩
    obtain ⟨hl, hB, e0, e1⟩ := HST.out w1 B1
    clear B1 HG HST e0
    have q0 : w1.cell? ⟨g + 1, 0, none⟩ = some (.int .i64 0) := (cell_of_block e1 0).trans rfl
    have q1 : w1.cell? ⟨g + 1, 1, none⟩ = some (.string ⟨#[]⟩) := (cell_of_block e1 1).trans rfl
    have q2 : w1.cell? ⟨g + 1, 2, none⟩ = some (.int .i64 0) := (cell_of_block e1 2).trans rfl
    have z0 := free_of_block e1 0
    have z1 := free_of_block e1 1
    have z2 := free_of_block e1 2
    have F := set3 e1 (.int .i64 0) (.string ⟨#[]⟩) (.int .i64 0) rfl
    have k7 := (cell_of_block F 0).trans (show _ = some (Value.int .i64 0) from rfl)
    have k8 := (cell_of_block F 1).trans (show _ = some (Value.string ⟨#[]⟩) from rfl)
    have k9 := (cell_of_block F 2).trans (show _ = some (Value.int .i64 0) from rfl)
    clear F
    clear e1
    go_wp2
    refine bodyPost_ret (v := .tuple #[hpV 0 ⟨#[]⟩ 0, .int .i64 0, .int .i64 1]) (by simp [results, Tryd.results7, go_sem, k7, k8, k9]) rfl ⟨rfl, ?_⟩
    refine (Below.setCell (Below.setCell (Below.setCell hB ?_ _) ?_ _) ?_ _) <;> simp <;> omega
  | true =>
    rw [g1] at HG
    obtain ⟨_, g4, g5⟩ := goodH_yes g1
    obtain ⟨L, hL⟩ : ∃ L, alB A = L := ⟨_, rfl⟩
    obtain ⟨s, hs9⟩ : ∃ s, decide (0 ≤ S) = s := ⟨_, rfl⟩
    have hS : decide (S < 0) = !s := by rw [← hs9]; by_cases h0 : 0 ≤ S <;> simp [h0] <;> omega
    rw [hL] at HA
    by_cases hbad : (L && s) = false
    · rw [show trV M D N A S = .tuple #[hpV M D N, .int .i64 0, .int .i64 1] by unfold trV trOk kM kD kN; rw [g1, hL, hs9, hbad]; rfl]
      have HB : Hid ((L && s) = false) := hbad
      clear g1 h g4 g5 hL hs9 hbad
      go_enter Tryd.func7, Tryd.ntmps7
      go_wp2_with fail
      refine (HG _).mono ?_
      rintro e w1 ⟨rfl, B1⟩
      obtain ⟨hl, hB, e0, e1⟩ := HST.out w1 B1
      have p0 : w1.cell? ⟨g, 0, none⟩ = some (.int .i64 M) := (cell_of_block e0 0).trans rfl
      have p1 : w1.cell? ⟨g, 1, none⟩ = some (.string D) := (cell_of_block e0 1).trans rfl
      have p2 : w1.cell? ⟨g, 2, none⟩ = some (.int .i64 N) := (cell_of_block e0 2).trans rfl
      clear B1 HG HST e0
      have q0 : w1.cell? ⟨g + 1, 0, none⟩ = some (.int .i64 0) := (cell_of_block e1 0).trans rfl
      have q1 : w1.cell? ⟨g + 1, 1, none⟩ = some (.string ⟨#[]⟩) := (cell_of_block e1 1).trans rfl
      have q2 : w1.cell? ⟨g + 1, 2, none⟩ = some (.int .i64 0) := (cell_of_block e1 2).trans rfl
      have z0 := free_of_block e1 0
      have z1 := free_of_block e1 1
      have z2 := free_of_block e1 2
      have F := set3 e1 (.int .i64 M) (.string D) (.int .i64 N) rfl
      have k7 := (cell_of_block F 0).trans (show _ = some (Value.int .i64 M) from rfl)
      have k8 := (cell_of_block F 1).trans (show _ = some (Value.string D) from rfl)
      have k9 := (cell_of_block F 2).trans (show _ = some (Value.int .i64 N) from rfl)
      clear F
      clear e1
      cases L with
      | false =>
        go_wp2_with (go_at_call 18; refine (HA _).mono ?_; rintro e wa ⟨rfl, hwa⟩; obtain rfl := hwa.symm; clear HA)
        refine bodyPost_ret (v := .tuple #[hpV M D N, .int .i64 0, .int .i64 1]) (by simp [results, Tryd.results7, go_sem, k7, k8, k9]) rfl ⟨rfl, ?_⟩
        refine (Below.setCell (Below.setCell (Below.setCell hB ?_ _) ?_ _) ?_ _) <;> simp <;> omega
      | true =>
        obtain rfl : s = false := by have := HB.out; simpa using this
        go_wp2_with (go_at_call 18; refine (HA _).mono ?_; rintro e wa ⟨rfl, hwa⟩; obtain rfl := hwa.symm; clear HA)
        refine bodyPost_ret (v := .tuple #[hpV M D N, .int .i64 0, .int .i64 1]) (by simp [results, Tryd.results7, go_sem, k7, k8, k9]) rfl ⟨rfl, ?_⟩
        refine (Below.setCell (Below.setCell (Below.setCell hB ?_ _) ?_ _) ?_ _) <;> simp <;> omega
    · obtain ⟨rfl, rfl⟩ : L = true ∧ s = true := by simpa using hbad
      obtain ⟨I, hI⟩ : ∃ I, trIn D N A S = I := ⟨_, rfl⟩
      have HT : Hid (∀ W, Calls Tryd.prog 19 #[hpV M D N, .int .i64 A, .int .i64 S] W fun e w' => e = .returned (.tuple #[hpV M D (if I = true then upA N A + S else N), .int .i64 (if I = true then upA N A else 0), .bool I]) ∧ Below W.heap.size W w') := fun W => specTake M D N A S h (alB_yes hL) g4 g5 (by simpa using hs9) I hI W
      rw [show trV M D N A S = if I = true then .tuple #[hpV M D (upA N A + S), .int .i64 (upA N A), .int .i64 0] else .tuple #[hpV M D N, .int .i64 0, .int .i64 2] by unfold trV trOk; rw [g1, hL, hs9, hI]; rfl]
      generalize upA N A = U at *
      generalize U + S = U2 at *
      simp only [Bool.not_true] at hS
      clear g1 h g4 g5 hL hs9 hbad hI
      cases I with
      | false =>
        simp only [Bool.false_eq_true, if_false] at HT ⊢
        go_enter Tryd.func7, Tryd.ntmps7
        go_wp2_with fail
        refine (HG _).mono ?_
        rintro e w1 ⟨rfl, B1⟩
        obtain ⟨hl, hB, e0, e1⟩ := HST.out w1 B1
        have p0 : w1.cell? ⟨g, 0, none⟩ = some (.int .i64 M) := (cell_of_block e0 0).trans rfl
        have p1 : w1.cell? ⟨g, 1, none⟩ = some (.string D) := (cell_of_block e0 1).trans rfl
        have p2 : w1.cell? ⟨g, 2, none⟩ = some (.int .i64 N) := (cell_of_block e0 2).trans rfl
        clear B1 HG HST
        go_wp2_with (go_at_call 18; refine (HA _).mono ?_; rintro e wa ⟨rfl, hwa⟩; obtain rfl := hwa.symm; clear HA)
        refine (HT.out _).mono ?_
        rintro e w2 ⟨rfl, B2⟩
        have s2 := B2.size
        have hB2 := bel_stepK hB B2
        replace e0 := (B2.block g (by omega)).trans e0
        replace e1 := (B2.block (g + 1) (by omega)).trans e1
        clear HT B2 p0 p1 p2 hB
        have p0 : w2.cell? ⟨g, 0, none⟩ = some (.int .i64 M) := (cell_of_block e0 0).trans rfl
        have p1 : w2.cell? ⟨g, 1, none⟩ = some (.string D) := (cell_of_block e0 1).trans rfl
        have p2 : w2.cell? ⟨g, 2, none⟩ = some (.int .i64 N) := (cell_of_block e0 2).trans rfl
        have e3 := heap_old (o := .cells #[.int .i64 M, .string D, .int .i64 N] 29) e0
        have c0 := (cell_of_block e3 0).trans (show _ = some (Value.int .i64 M) from rfl)
        have c1 := (cell_of_block e3 1).trans (show _ = some (Value.string D) from rfl)
        have c2 := (cell_of_block e3 2).trans (show _ = some (Value.int .i64 N) from rfl)
        clear e3
        have F := heap_old (o := .cells #[.int .i64 M, .string D, .int .i64 N] 29) (set3 e1 (.int .i64 M) (.string D) (.int .i64 N) rfl)
        have k7 := (cell_of_block F 0).trans (show _ = some (Value.int .i64 M) from rfl)
        have k8 := (cell_of_block F 1).trans (show _ = some (Value.string D) from rfl)
        have k9 := (cell_of_block F 2).trans (show _ = some (Value.int .i64 N) from rfl)
        clear F
        have hl2 : g + 1 < w2.heap.size := by omega
        have u0 : w2.cell? ⟨g + 1, 0, none⟩ = some (.int .i64 0) := (cell_of_block e1 0).trans rfl
        have u1 : w2.cell? ⟨g + 1, 1, none⟩ = some (.string ⟨#[]⟩) := (cell_of_block e1 1).trans rfl
        have u2 : w2.cell? ⟨g + 1, 2, none⟩ = some (.int .i64 0) := (cell_of_block e1 2).trans rfl
        have v0 := free_of_block e1 0
        have v1 := free_of_block e1 1
        have v2 := free_of_block e1 2
        clear e0 e1
        go_wp2
        refine bodyPost_ret (v := .tuple #[hpV M D N, .int .i64 0, .int .i64 2]) (by simp [results, Tryd.results7, go_sem, k7, k8, k9]) rfl ⟨rfl, ?_⟩
        refine Below.alloc (Below.setCell (Below.setCell (Below.setCell hB2 ?_ _) ?_ _) ?_ _) ?_ _ <;> simp <;> omega
      | true =>
        simp only [if_true] at HT ⊢
        go_enter Tryd.func7, Tryd.ntmps7
        go_wp2_with fail
        refine (HG _).mono ?_
        rintro e w1 ⟨rfl, B1⟩
        obtain ⟨hl, hB, e0, e1⟩ := HST.out w1 B1
        have p0 : w1.cell? ⟨g, 0, none⟩ = some (.int .i64 M) := (cell_of_block e0 0).trans rfl
        have p1 : w1.cell? ⟨g, 1, none⟩ = some (.string D) := (cell_of_block e0 1).trans rfl
        have p2 : w1.cell? ⟨g, 2, none⟩ = some (.int .i64 N) := (cell_of_block e0 2).trans rfl
        clear B1 HG HST
        go_wp2_with (go_at_call 18; refine (HA _).mono ?_; rintro e wa ⟨rfl, hwa⟩; obtain rfl := hwa.symm; clear HA)
        refine (HT.out _).mono ?_
        rintro e w2 ⟨rfl, B2⟩
        have s2 := B2.size
        have hB2 := bel_stepK hB B2
        replace e0 := (B2.block g (by omega)).trans e0
        replace e1 := (B2.block (g + 1) (by omega)).trans e1
        clear HT B2 p0 p1 p2 hB
        have p0 : w2.cell? ⟨g, 0, none⟩ = some (.int .i64 M) := (cell_of_block e0 0).trans rfl
        have p1 : w2.cell? ⟨g, 1, none⟩ = some (.string D) := (cell_of_block e0 1).trans rfl
        have p2 : w2.cell? ⟨g, 2, none⟩ = some (.int .i64 N) := (cell_of_block e0 2).trans rfl
        have e3 := heap_old (o := .cells #[.int .i64 M, .string D, .int .i64 U2] 29) e0
        have c0 := (cell_of_block e3 0).trans (show _ = some (Value.int .i64 M) from rfl)
        have c1 := (cell_of_block e3 1).trans (show _ = some (Value.string D) from rfl)
        have c2 := (cell_of_block e3 2).trans (show _ = some (Value.int .i64 N) from rfl)
        clear e3
        have F := heap_old (o := .cells #[.int .i64 M, .string D, .int .i64 U2] 29) (set3 e1 (.int .i64 M) (.string D) (.int .i64 U2) rfl)
        have k7 := (cell_of_block F 0).trans (show _ = some (Value.int .i64 M) from rfl)
        have k8 := (cell_of_block F 1).trans (show _ = some (Value.string D) from rfl)
        have k9 := (cell_of_block F 2).trans (show _ = some (Value.int .i64 U2) from rfl)
        clear F
        have hl2 : g + 1 < w2.heap.size := by omega
        have u0 : w2.cell? ⟨g + 1, 0, none⟩ = some (.int .i64 0) := (cell_of_block e1 0).trans rfl
        have u1 : w2.cell? ⟨g + 1, 1, none⟩ = some (.string ⟨#[]⟩) := (cell_of_block e1 1).trans rfl
        have u2 : w2.cell? ⟨g + 1, 2, none⟩ = some (.int .i64 0) := (cell_of_block e1 2).trans rfl
        have v0 := free_of_block e1 0
        have v1 := free_of_block e1 1
        have v2 := free_of_block e1 2
        clear e0 e1
        go_wp2
        refine bodyPost_ret (v := .tuple #[hpV M D U2, .int .i64 U, .int .i64 0]) (by simp [results, Tryd.results7, go_sem, k7, k8, k9]) rfl ⟨rfl, ?_⟩
        refine Below.alloc (Below.setCell (Below.setCell (Below.setCell hB2 ?_ _) ?_ _) ?_ _) ?_ _ <;> simp <;> omega
end Go.Proofs.YtgepplddhmgifaaDoor
