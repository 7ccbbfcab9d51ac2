/-
  Bytes stored in a memory, and memories told anew: impl's side.
-/
import Derived.Test.YthboenlfcolinaaDoorMSpan
import Derived.Test.YthboenlfcolinaaDoorMCopy
import Derived.Test.YthboenlfcolinaaDoorClone
namespace Go.Proofs.YthboenlfcolinaaDoor
open Go.ChangeShapes Go.WideShapes Go.ChangeAt Go.RowKit

theorem asItWas_no (M : Int) (D : ByteArray) (h : D.size ≤ 1048576) (hg : good M D = false) (w : World) :
    Calls Tryd.prog 45 #[.agg #[.int .i64 M, .string D]] w fun e w' => e = .returned (.agg #[.int .i64 0, .string ⟨#[]⟩]) ∧ Below w.heap.size w w' := by
  have HG := mGoodI M D h
  rw [hg] at HG
  obtain ⟨g, hgs⟩ : ∃ g, w.heap.size = g := ⟨_, rfl⟩
  go_enter Tryd.func45, Tryd.ntmps45
  go_wp2_with fail
  refine (HG _).mono ?_
  rintro e w1 ⟨rfl, B1⟩
  have hs := B1.size
  have q0 : w1.cell? ⟨g + 1, 0, none⟩ = some (.int .i64 0) := by rw [B1.cell (p := ⟨g + 1, 0, none⟩) (by simp; omega), ← hgs]; simp
  have q1 : w1.cell? ⟨g + 1, 1, none⟩ = some (.string ⟨#[]⟩) := by rw [B1.cell (p := ⟨g + 1, 1, none⟩) (by simp; omega), ← hgs]; simp
  have z : ∀ j, w1.frozen? ⟨g + 1, j, none⟩ = false := fun j => by rw [B1.frozen (p := ⟨g + 1, j, none⟩) (by simp; omega), ← hgs]; simp
  have z0 := z 0
  have z1 := z 1
  have hB : Hid (Below w.heap.size w w1) := by unfold Hid; ((repeat (first | refine bel_alloc ?_ _ | refine bel_dN ?_ _ | refine Below.drew ?_ | refine Below.setCell ?_ (by first | (simp; done) | (simp; omega)) _)); refine bel_step ?_ B1; (repeat (first | refine bel_alloc ?_ _ | refine bel_dN ?_ _ | refine Below.drew ?_ | refine Below.setCell ?_ (by first | (simp; done) | (simp; omega)) _)); exact Below.refl _ _)
  clear B1 HG z hs
  go_wp2
  refine bodyPost_ret (v := .agg #[.int .i64 0, .string ⟨#[]⟩]) (by simp [results, Tryd.results45, go_sem, q0, q1]) rfl ⟨rfl, ?_⟩
  refine Below.setCell (Below.setCell hB.out ?_ _) ?_ _ <;> simp <;> omega

theorem asItWas_yes (M : Int) (D : ByteArray) (h : D.size ≤ 1048576) (hg : good M D = true) (w : World) :
    Calls Tryd.prog 45 #[.agg #[.int .i64 M, .string D]] w fun e w' => e = .returned (.agg #[.int .i64 M, .string D]) ∧ Below w.heap.size w w' := by
  have HG := mGoodI M D h
  rw [hg] at HG
  have HC : Hid (∀ w, Calls Tryd.prog 39 #[.string D] w fun e w' => e = .returned (.string D) ∧ Below w.heap.size w w') := fun w => stringsClone D w (by omega)
  obtain ⟨g, hgs⟩ : ∃ g, w.heap.size = g := ⟨_, rfl⟩
  go_enter Tryd.func45, Tryd.ntmps45
  go_wp2_with fail
  refine (HG _).mono ?_
  rintro e w1 ⟨rfl, B1⟩
  have hs := B1.size
  simp at hs
  have hB : Hid (Below w.heap.size w w1) := by unfold Hid; ((repeat (first | refine bel_alloc ?_ _ | refine bel_dN ?_ _ | refine Below.drew ?_ | refine Below.setCell ?_ (by first | (simp; done) | (simp; omega)) _)); refine bel_step ?_ B1; (repeat (first | refine bel_alloc ?_ _ | refine bel_dN ?_ _ | refine Below.drew ?_ | refine Below.setCell ?_ (by first | (simp; done) | (simp; omega)) _)); exact Below.refl _ _)
  have k0 : ∀ w, Keeps w1 w → w.cell? ⟨g, 0, none⟩ = some (.int .i64 M) := fun wx h => h.cell (by omega) (by rw [B1.cell (p := ⟨g, 0, none⟩) (by simp; omega), ← hgs]; simp)
  have k1 : ∀ w, Keeps w1 w → w.cell? ⟨g, 1, none⟩ = some (.string D) := fun wx h => h.cell (by omega) (by rw [B1.cell (p := ⟨g, 1, none⟩) (by simp; omega), ← hgs]; simp)
  have k2 : ∀ w, Keeps w1 w → w.cell? ⟨g + 1, 0, none⟩ = some (.int .i64 0) := fun wx h => h.cell (by omega) (by rw [B1.cell (p := ⟨g + 1, 0, none⟩) (by simp; omega), ← hgs]; simp)
  have k3 : ∀ w, Keeps w1 w → w.cell? ⟨g + 1, 1, none⟩ = some (.string ⟨#[]⟩) := fun wx h => h.cell (by omega) (by rw [B1.cell (p := ⟨g + 1, 1, none⟩) (by simp; omega), ← hgs]; simp)
  have z : ∀ w, Keeps w1 w → ∀ j, w.frozen? ⟨g + 1, j, none⟩ = false := fun wx h j => h.frozen (by omega) (by rw [B1.frozen (p := ⟨g + 1, j, none⟩) (by simp; omega), ← hgs]; simp)
  clear B1 HG h hg
  go_wp2_with fail
  refine region_qtail (C := Keeps w1) 6 (by kernel_rfl) (by kernel_rfl) (Keeps.drew w1) ?_
  (iterate 6
    (apply wpQuiet_go _ (by rfl)
     · intro wq hq
       go_simp
       first
         | (go_at_call 39; exact qcall hq (HC.out _))
         | exact rfl
     simp only [Act.put, List.setIfInBounds_toArray, List.set_cons_succ, List.set_cons_zero]))
  refine wpQuiet_nil ?_
  intro w2 hk
  have q2 := k2 _ hk
  have q3 := k3 _ hk
  have z0 := z _ hk 0
  have z1 := z _ hk 1
  have hb := hk.below
  have hs2 := hb.size
  clear k0 k1 k2 k3 z HC hk
  go_wp2
  refine bodyPost_ret (v := .agg #[.int .i64 M, .string D]) (by simp [results, Tryd.results45, go_sem, q2, q3]) rfl ⟨rfl, ?_⟩
  refine Below.setCell (Below.setCell (bel_step hB.out hb) ?_ _) ?_ _ <;> simp <;> omega

end Go.Proofs.YthboenlfcolinaaDoor
