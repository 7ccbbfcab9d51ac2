/-
  Room taken of a heap: the law. (Made by a generator.)
-/
import Derived.Test.YtgepplddhmgifaaDoorHT4
import Derived.Test.YtgepplddhmgifaaDoorValid
namespace Go.Proofs.YtgepplddhmgifaaDoor
open Go.ChangeShapes Go.WideShapes Go.ChangeAt Go.RowKit Go.Deep

theorem trV_form (M : Int) (D : ByteArray) (N A S : Int) : ∃ M' D' N' x y, trV M D N A S = .tuple #[hpV M' D' N', .int .i64 x, .int .i64 y] := by
  unfold trV
  split
  · split
    · exact ⟨_, _, _, _, _, rfl⟩
    · exact ⟨_, _, _, _, _, rfl⟩
  · exact ⟨_, _, _, _, _, rfl⟩

set_option maxRecDepth 2000000 in
set_option maxHeartbeats 1000000 in
theorem takeRoom_walk (M : Int) (D : ByteArray) (N : Int) (A : Int) (S : Int) (wb : D.size ≤ maxLen) (_wn : (Lit.int .i64 N).wf = true) (_wA : (Lit.int .i64 A).wf = true) (_wS : (Lit.int .i64 S).wf = true) (w : World) (_hT : UTabs w) :
    Calls Tryd.prog 3 #[hpV M D N, .int .i64 A, .int .i64 S] w fun e w' => e = .returned (.bool true) ∧ Below w.heap.size w w' := by
  unfold maxLen at *
  clear _wA _wS _hT
  clear _wn
  obtain ⟨g, hgs⟩ : ∃ g, w.heap.size = g := ⟨_, rfl⟩
  by_cases h : D.size ≤ 1048576
  · have Z := szHeap_yes M D N h
    obtain ⟨M', D', N', x0, x1, hV⟩ := trV_form M D N A S
    have HSP : Hid (∀ W, Below w.heap.size w W → Calls Tryd.prog 7 #[hpV M D N, .int .i64 A, .int .i64 S] W fun e w' => e = .returned (.tuple #[hpV M' D' N', .int .i64 x0, .int .i64 x1]) ∧ Below W.heap.size W w') := fun W hW => by rw [← hV]; exact specTakeRoom M D N A S h W
    have HIM : Hid (∀ W, Below w.heap.size w W → Calls Tryd.prog 9 #[hpV M D N, .int .i64 A, .int .i64 S] W fun e w' => e = .returned (.tuple #[hpV M' D' N', .int .i64 x0, .int .i64 x1]) ∧ Below W.heap.size W w') := fun W hW => by rw [← hV]; exact implTakeRoom M D N A S h W
    have T := toHeap M D N
    have E := eqHeap M' D' N'
    have k : ¬ 1048576 - (D.size : Int) < 0 := by omega
    generalize (1048576 - (D.size : Int)) = n at *
    clear h wb hV
    go_enter Tryd.func3, Tryd.ntmps3
    go_wp2_with fail
    refine (Z _).mono ?_
    rintro e w1 ⟨rfl, B1⟩
    have h1 := B1.size
    simp at h1
    have e0 : w1.heap[g]? = some (.cells #[.int .i64 M, .string D, .int .i64 N] 25 (0, 0)) := (B1.block _ (by simp; omega)).trans (heap_blk hgs)
    have q0 : w1.cell? ⟨g, 0, none⟩ = some (.int .i64 M) := (cell_of_block e0 0).trans rfl
    have q1 : w1.cell? ⟨g, 1, none⟩ = some (.string D) := (cell_of_block e0 1).trans rfl
    have q2 : w1.cell? ⟨g, 2, none⟩ = some (.int .i64 N) := (cell_of_block e0 2).trans rfl
    have hB : Below w.heap.size w w1 := by ((repeat (first | refine bel_alloc ?_ _ | refine bel_dN ?_ _ | refine Below.drew ?_ | refine Below.setCell ?_ (by first | (simp; done) | (simp; omega)) _)); refine bel_step ?_ B1; (repeat (first | refine bel_alloc ?_ _ | refine bel_dN ?_ _ | refine Below.drew ?_ | refine Below.setCell ?_ (by first | (simp; done) | (simp; omega)) _)); exact Below.refl _ _)
    clear Z B1
    go_wp2_with fail
    refine (T _).mono ?_
    rintro e w2 ⟨rfl, B2⟩
    have h2 := B2.size
    replace e0 := (B2.block g (by omega)).trans e0
    replace hB := bel_stepK hB B2
    clear B2 q0 q1 q2
    have HS := HSP.out w2 hB
    go_wp2_with fail
    refine HS.mono ?_
    rintro e w3 ⟨rfl, B3⟩
    have h3 := B3.size
    replace e0 := (B3.block g (by omega)).trans e0
    have hB3 := bel_stepK hB B3
    clear B3 HSP HS hB
    have e0' := heap_old (o := .cells #[.int .i64 M', .string D', .int .i64 N'] 29) e0
    have q0 := (cell_of_block e0' 0).trans (show _ = some (Value.int .i64 M) from rfl)
    have q1 := (cell_of_block e0' 1).trans (show _ = some (Value.string D) from rfl)
    have q2 := (cell_of_block e0' 2).trans (show _ = some (Value.int .i64 N) from rfl)
    have hB4 := hB3.alloc hB3.size (.cells #[.int .i64 M', .string D', .int .i64 N'] 29)
    have f0 : (w3.alloc (.cells #[.int .i64 M', .string D', .int .i64 N'] 29)).heap[w3.heap.size]? = some (.cells #[.int .i64 M', .string D', .int .i64 N'] 29 (0, 0)) := heap_alloc_new _ _
    clear e0' e0 hB3
    go_wp2_with fail
    refine (T _).mono ?_
    rintro e w5 ⟨rfl, B5⟩
    have h5 := B5.size
    simp at h5
    have hB5 := bel_stepK hB4 B5
    replace f0 := (B5.block _ (by simp)).trans f0
    clear B5 hB4 q0 q1 q2 T
    have HI := HIM.out w5 hB5
    go_wp2_with fail
    refine HI.mono ?_
    rintro e w6 ⟨rfl, B6⟩
    have h6 := B6.size
    replace f0 := (B6.block _ (by omega)).trans f0
    have hB6 := bel_stepK hB5 B6
    clear B6 HIM HI hB5
    obtain ⟨t, ht⟩ : ∃ t, w3.heap.size = t := ⟨_, rfl⟩
    rw [ht] at f0 h5
    have f0' := heap_old (o := .cells #[.int .i64 M', .string D', .int .i64 N'] 29) f0
    have q0 := (cell_of_block f0' 0).trans (show _ = some (Value.int .i64 M') from rfl)
    have q1 := (cell_of_block f0' 1).trans (show _ = some (Value.string D') from rfl)
    have q2 := (cell_of_block f0' 2).trans (show _ = some (Value.int .i64 N') from rfl)
    have hB7 : Hid (Below w.heap.size w (w6.alloc (.cells #[.int .i64 M', .string D', .int .i64 N'] 29))) := hB6.alloc hB6.size _
    clear f0 f0' hB6
    go_wp2_with fail
    refine (E _).mono ?_
    rintro e w7 ⟨rfl, B7⟩
    have hB8 : Hid (Below w.heap.size w w7) := bel_stepK hB7.out B7
    clear B7 E hB7 q0 q1 q2
    go_wp2
    go_ret
    exact ⟨rfl, hB8.out⟩
  · have Z := szHeap_no M D N (by omega) wb
    clear h wb
    go_enter Tryd.func3, Tryd.ntmps3
    go_wp2_with fail
    refine (Z _).mono ?_
    rintro e w1 ⟨rfl, B1⟩
    go_wp2
    go_ret
    refine ⟨rfl, ?_⟩
    ((repeat (first | refine bel_alloc ?_ _ | refine bel_dN ?_ _ | refine Below.drew ?_ | refine Below.setCell ?_ (by first | (simp; done) | (simp; omega)) _)); refine bel_step ?_ B1; (repeat (first | refine bel_alloc ?_ _ | refine bel_dN ?_ _ | refine Below.drew ?_ | refine Below.setCell ?_ (by first | (simp; done) | (simp; omega)) _)); exact Below.refl _ _)

end Go.Proofs.YtgepplddhmgifaaDoor
