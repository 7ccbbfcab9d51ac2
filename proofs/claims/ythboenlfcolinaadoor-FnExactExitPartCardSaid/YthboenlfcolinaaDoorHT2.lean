/-
  Room taken of a heap: both sides.
-/
import Derived.Test.YthboenlfcolinaaDoorHT1
namespace Go.Proofs.YthboenlfcolinaaDoor
open Go.ChangeShapes Go.WideShapes Go.ChangeAt Go.RowKit Go.Deep

def alB (A : Int) : Bool := A == 1 || A == 2 || A == 4 || A == 8
theorem alB_yes {A : Int} (h : alB A = true) : A = 1 ∨ A = 2 ∨ A = 4 ∨ A = 8 := by simpa [alB, or_assoc] using h

/-- What a refusal tells of a heap. -/
def kM (M : Int) (D : ByteArray) (N : Int) : Int := if goodH M D N = true then M else 0
def kD (M : Int) (D : ByteArray) (N : Int) : ByteArray := if goodH M D N = true then D else ⟨#[]⟩
def kN (M : Int) (D : ByteArray) (N : Int) : Int := if goodH M D N = true then N else 0
theorem heap_blk {w : World} {c : Array Value} {t : TypeId} {g : Nat} (h : w.heap.size = g) : (w.alloc (.cells c t)).heap[g]? = some (.cells c t (0, 0)) := by rw [← h]; exact heap_alloc_new _ _
theorem heap_old {w : World} {o : Obj} {g : Nat} {x : Obj} (h : w.heap[g]? = some x) : (w.alloc o).heap[g]? = some x := by
  refine (Below.heap_alloc _ _ _ ?_).trans h
  rcases Nat.lt_or_ge g w.heap.size with h' | h'
  · exact h'
  · rw [Array.getElem?_eq_none h'] at h; simp at h

set_option maxRecDepth 100000 in
set_option maxHeartbeats 1600000 in
theorem heapAsItWas (M : Int) (D : ByteArray) (N : Int) (h : D.size ≤ 1048576) (w : World) :
    Calls Tryd.prog 40 #[hpV M D N] w fun e w' => e = .returned (hpV (kM M D N) (kD M D N) (kN M D N)) ∧ Below w.heap.size w w' := by
  have HG := implGoodHeap M D N h
  have HA := asItWas M D h
  obtain ⟨g, hgs⟩ : ∃ g, w.heap.size = g := ⟨_, rfl⟩
  unfold kM kD kN
  cases hg : goodH M D N with
  | false =>
    rw [hg] at HG
    simp only [Bool.false_eq_true, if_false]
    clear hg HA h
    go_enter Tryd.func40, Tryd.ntmps40
    go_wp2_with fail
    refine (HG _).mono ?_
    rintro e w1 ⟨rfl, B1⟩
    have hs := B1.size
    simp at hs
    have hB : Hid (Below w.heap.size w w1) := by unfold Hid; ((repeat (first | refine bel_alloc ?_ _ | refine bel_dN ?_ _ | refine Below.drew ?_ | refine Below.setCell ?_ (by first | (simp; done) | (simp; omega)) _)); refine bel_step ?_ B1; (repeat (first | refine bel_alloc ?_ _ | refine bel_dN ?_ _ | refine Below.drew ?_ | refine Below.setCell ?_ (by first | (simp; done) | (simp; omega)) _)); exact Below.refl _ _)
    have e1 : w1.heap[g + 1]? = some (.cells #[.int .i64 0, .string ⟨#[]⟩, .int .i64 0] 32 (0, 0)) := (B1.block _ (by simp; omega)).trans (heap_blk (by simp; omega))
    have q0 : w1.cell? ⟨g + 1, 0, none⟩ = some (.int .i64 0) := (cell_of_block e1 0).trans rfl
    have q1 : w1.cell? ⟨g + 1, 1, none⟩ = some (.string ⟨#[]⟩) := (cell_of_block e1 1).trans rfl
    have q2 : w1.cell? ⟨g + 1, 2, none⟩ = some (.int .i64 0) := (cell_of_block e1 2).trans rfl
    have z0 := free_of_block e1 0
    have z1 := free_of_block e1 1
    have z2 := free_of_block e1 2
    have F := set3 e1 (.int .i64 0) (.string ⟨#[]⟩) (.int .i64 0) rfl
    have k0 := (cell_of_block F 0).trans (show _ = some (Value.int .i64 0) from rfl)
    have k1 := (cell_of_block F 1).trans (show _ = some (Value.string ⟨#[]⟩) from rfl)
    have k2 := (cell_of_block F 2).trans (show _ = some (Value.int .i64 0) from rfl)
    clear B1 HG e1 F
    go_wp2
    refine bodyPost_ret (v := hpV 0 ⟨#[]⟩ 0) (by simp [results, Tryd.results40, go_sem, k0, k1, k2]) rfl ⟨rfl, ?_⟩
    refine Below.setCell (Below.setCell (Below.setCell hB.out ?_ _) ?_ _) ?_ _ <;> simp <;> omega
  | true =>
    rw [hg] at HG
    obtain ⟨g1, _, _⟩ := goodH_yes hg
    simp only [kept, g1, if_true] at HA
    simp only [if_true]
    clear hg g1 h
    go_enter Tryd.func40, Tryd.ntmps40
    go_wp2_with fail
    refine (HG _).mono ?_
    rintro e w1 ⟨rfl, B1⟩
    have hs := B1.size
    simp at hs
    have hB : Hid (Below w.heap.size w w1) := by unfold Hid; ((repeat (first | refine bel_alloc ?_ _ | refine bel_dN ?_ _ | refine Below.drew ?_ | refine Below.setCell ?_ (by first | (simp; done) | (simp; omega)) _)); refine bel_step ?_ B1; (repeat (first | refine bel_alloc ?_ _ | refine bel_dN ?_ _ | refine Below.drew ?_ | refine Below.setCell ?_ (by first | (simp; done) | (simp; omega)) _)); exact Below.refl _ _)
    have e0 : w1.heap[g]? = some (.cells #[.int .i64 M, .string D, .int .i64 N] 32 (0, 0)) := (B1.block _ (by simp; omega)).trans (heap_old (heap_blk hgs))
    have e1 : w1.heap[g + 1]? = some (.cells #[.int .i64 0, .string ⟨#[]⟩, .int .i64 0] 32 (0, 0)) := (B1.block _ (by simp; omega)).trans (heap_blk (by simp; omega))
    have k0 : ∀ w, Keeps w1 w → w.cell? ⟨g, 0, none⟩ = some (.int .i64 M) := fun wx h => h.cell (by omega) ((cell_of_block e0 0).trans rfl)
    have k1 : ∀ w, Keeps w1 w → w.cell? ⟨g, 1, none⟩ = some (.string D) := fun wx h => h.cell (by omega) ((cell_of_block e0 1).trans rfl)
    have k2 : ∀ w, Keeps w1 w → w.cell? ⟨g, 2, none⟩ = some (.int .i64 N) := fun wx h => h.cell (by omega) ((cell_of_block e0 2).trans rfl)
    have E1 : Hid (∀ w, Keeps w1 w → w.heap[g + 1]? = some (.cells #[.int .i64 0, .string ⟨#[]⟩, .int .i64 0] 32 (0, 0))) := fun wx h => (h.below.block _ (by omega)).trans e1
    clear B1 HG e0 e1
    go_wp2_with fail
    refine region_qtail (C := Keeps w1) 6 (by kernel_rfl) (by kernel_rfl) (Keeps.drew w1) ?_
    (iterate 6
    (apply wpQuiet_go _ (by rfl)
     · intro wq hq
       go_simp
       first
         | (go_at_call 45; exact qcall hq (HA _))
         | exact rfl
     simp only [Act.put, List.setIfInBounds_toArray, List.set_cons_succ, List.set_cons_zero]))
    refine wpQuiet_nil ?_
    intro w2 hk
    have e1 := E1.out _ hk
    have q0 : w2.cell? ⟨g + 1, 0, none⟩ = some (.int .i64 0) := (cell_of_block e1 0).trans rfl
    have q1 : w2.cell? ⟨g + 1, 1, none⟩ = some (.string ⟨#[]⟩) := (cell_of_block e1 1).trans rfl
    have q2 : w2.cell? ⟨g + 1, 2, none⟩ = some (.int .i64 0) := (cell_of_block e1 2).trans rfl
    have z0 := free_of_block e1 0
    have z1 := free_of_block e1 1
    have z2 := free_of_block e1 2
    have F := set3 e1 (.int .i64 M) (.string D) (.int .i64 N) rfl
    have k7 := (cell_of_block F 0).trans (show _ = some (Value.int .i64 M) from rfl)
    have k8 := (cell_of_block F 1).trans (show _ = some (Value.string D) from rfl)
    have k9 := (cell_of_block F 2).trans (show _ = some (Value.int .i64 N) from rfl)
    have hb := hk.below
    clear k0 k1 k2 E1 HA hk e1 F
    go_wp2
    refine bodyPost_ret (v := hpV M D N) (by simp [results, Tryd.results40, go_sem, k7, k8, k9]) rfl ⟨rfl, ?_⟩
    refine Below.setCell (Below.setCell (Below.setCell (bel_step hB.out hb) ?_ _) ?_ _) ?_ _ <;> simp <;> omega

end Go.Proofs.YthboenlfcolinaaDoor
