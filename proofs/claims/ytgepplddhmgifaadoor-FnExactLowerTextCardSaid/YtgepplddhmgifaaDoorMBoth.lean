/-
  Bytes loaded and stored: both sides.
-/
import Derived.Test.YtgepplddhmgifaaDoorMStoreB
namespace Go.Proofs.YtgepplddhmgifaaDoor
open Go.ChangeShapes Go.WideShapes Go.ChangeAt Go.RowKit

theorem code1_bad (N a n : Int) : codeOf false N [(a, n)] = 1 := rfl
theorem code1_none (N a n : Int) (h : a < 0 ∨ n < 0) : codeOf true N [(a, n)] = 1 := by
  have : spNone (a, n) = true := by simp [spNone]; omega
  simp [codeOf, this]
theorem code1_out (N a n : Int) (h0 : 0 ≤ a) (h1 : 0 ≤ n) (h : N - a < n) : codeOf true N [(a, n)] = 2 := by
  have e1 : spNone (a, n) = false := by simp [spNone]; omega
  have e2 : spIn N (a, n) = false := by simp [spIn]; omega
  simp [codeOf, e1, e2]
theorem code1_in (N a n : Int) (h0 : 0 ≤ a) (h1 : 0 ≤ n) (h : n ≤ N - a) : codeOf true N [(a, n)] = 0 := by
  have e1 : spNone (a, n) = false := by simp [spNone]; omega
  have e2 : spIn N (a, n) = true := by simp [spIn]; omega
  simp [codeOf, e1, e2]

/-- spec's look whether bytes lie within. -/
theorem l5Inside (M : Int) (D : ByteArray) (N : Int) (hN : (D.size : Int) = N) (hD : N ≤ 1048576) (a n : Int) (h0 : 0 ≤ a) (h1 : a ≤ 9223372036854775807) (h2 : 0 ≤ n) (w : World) :
    Calls Tryd.prog 57 #[.agg #[.int .i64 M, .string D], .int .i64 a, .int .i64 n] w fun e w' => e = .returned (.bool (decide (n ≤ N - a))) ∧ Below w.heap.size w w' := by
  by_cases h : a ≤ N
  · have v : wrap64 (N - a) = N - a := by unfold wrap64; omega
    clear hD h0 h1 h2
    go_enter Tryd.func57, Tryd.ntmps57
    go_wp2
    go_ret
    refine ⟨rfl, ?_⟩
    (repeat (first | refine Below.alloc ?_ (by first | (simp; done) | (simp; omega)) _ | refine Below.setCell ?_ (by first | (simp; done) | (simp; omega)) _ | refine bel_dN ?_ _ | refine Below.drew ?_ | exact Below.refl _ _))
  · rw [show decide (n ≤ N - a) = false by simp; omega]
    clear hD h0 h1 h2
    go_enter Tryd.func57, Tryd.ntmps57
    go_wp2
    go_ret
    refine ⟨rfl, ?_⟩
    (repeat (first | refine Below.alloc ?_ (by first | (simp; done) | (simp; omega)) _ | refine Below.setCell ?_ (by first | (simp; done) | (simp; omega)) _ | refine bel_dN ?_ _ | refine Below.drew ?_ | exact Below.refl _ _))

theorem l5Store (M : Int) (D : ByteArray) (hD : D.size ≤ 1048576) (a : Nat) (s : ByteArray) (h : a + s.size ≤ D.size) (w : World) :
    Calls Tryd.prog 73 #[.agg #[.int .i64 M, .string D], .int .i64 (a : Int), .string s] w fun e w' => e = .returned (.agg #[.int .i64 M, .string (laidOver D a s)]) ∧ Below w.heap.size w w' := by
  obtain ⟨k, hk⟩ : ∃ k, a + s.size = k := ⟨_, rfl⟩
  have v : IntKind.i64.wrap ((a : Int) + (s.size : Int)) = (k : Int) := by rw [IntKind.wrap_i64]; omega
  have v2 : wrap64 ((a : Int) + (s.size : Int)) = (k : Int) := by unfold wrap64; omega
  have s1 : ∀ wx : World, (Instr.slice 9 (.string D) none (some (.int .i64 (a : Int))) none).run Tryd.prog wx = .ok (.string (D.extract 0 a)) wx := fun wx => by
    simpa using run_slice_string_h (P := Tryd.prog) wx 9 D Tryd.underlying9 .i64 (a : Int) (by omega) (by omega)
  have s2 : ∀ wx : World, (Instr.slice 9 (.string D) (some (.int .i64 (k : Int))) none none).run Tryd.prog wx = .ok (.string (D.extract k D.size)) wx := fun wx => by
    simpa using run_slice_string_l (P := Tryd.prog) wx 9 D Tryd.underlying9 .i64 (k : Int) (by omega) (by omega)
  obtain ⟨X, hX⟩ : ∃ X, laidOver D a s = X := ⟨_, rfl⟩
  have hX' : D.extract 0 a ++ s ++ D.extract k D.size = X := by rw [← hX, ← hk]; rfl
  rw [hX]
  have hA0 : (D.extract 0 a).size = a := by rw [ByteArray.size_extract]; omega
  have hB0 : (D.extract k D.size).size = D.size - k := by rw [ByteArray.size_extract]; omega
  obtain ⟨A, hA⟩ : ∃ A, D.extract 0 a = A := ⟨_, rfl⟩
  obtain ⟨B, hB⟩ : ∃ B, D.extract k D.size = B := ⟨_, rfl⟩
  rw [hA] at s1 hX' hA0
  rw [hB] at s2 hX' hB0
  have l1 : ¬ 9223372036854775807 < A.size + s.size := by omega
  have l2 : ¬ 9223372036854775807 < A.size + s.size + B.size := by omega
  clear hA hB hA0 hB0
  obtain ⟨W, hW⟩ : ∃ W, (w.alloc (.cells #[.int .i64 M, .string D] 27)).alloc (.cells #[.int .i64 0, .string ⟨#[]⟩] 27) = W := ⟨_, rfl⟩
  have H : Hid (Below w.heap.size w W) := by unfold Hid; rw [← hW]; (repeat (first | refine Below.alloc ?_ (by first | (simp; done) | (simp; omega)) _ | refine Below.setCell ?_ (by first | (simp; done) | (simp; omega)) _ | refine bel_dN ?_ _ | refine Below.drew ?_ | exact Below.refl _ _))
  obtain ⟨g, hg⟩ : ∃ g, w.heap.size = g := ⟨_, rfl⟩
  have hs : W.heap.size = g + 2 := by rw [← hW, ← hg]; simp
  have k0 : ∀ w, Keeps W w → w.cell? ⟨g, 0, none⟩ = some (.int .i64 M) := fun w h => h.cell (by omega) (by rw [← hW, ← hg]; simp)
  have k1 : ∀ w, Keeps W w → w.cell? ⟨g, 1, none⟩ = some (.string D) := fun w h => h.cell (by omega) (by rw [← hW, ← hg]; simp)
  have k2 : ∀ w, Keeps W w → w.cell? ⟨g + 1, 0, none⟩ = some (.int .i64 0) := fun w h => h.cell (by omega) (by rw [← hW, ← hg]; simp)
  have k3 : ∀ w, Keeps W w → w.cell? ⟨g + 1, 1, none⟩ = some (.string ⟨#[]⟩) := fun w h => h.cell (by omega) (by rw [← hW, ← hg]; simp)
  have z : ∀ w, Keeps W w → ∀ j, w.frozen? ⟨g + 1, j, none⟩ = false := fun w h j => h.frozen (by omega) (by rw [← hW, ← hg]; simp)
  have y : ∀ w, Keeps W w → ∀ j, w.frozen? ⟨g, j, none⟩ = false := fun w h j => h.frozen (by omega) (by rw [← hW, ← hg]; simp)
  clear h hk hD hX
  go_enter Tryd.func73, Tryd.ntmps73
  go_wp2_with fail
  refine region_qtail (C := Keeps W) 15 (by kernel_rfl) (by kernel_rfl) (Keeps.drew W) ?_
  (iterate 15
    (apply wpQuiet_go _ (by rfl)
     · intro wq hq
       go_simp
       first
         | exact rfl
     simp only [Act.put, List.setIfInBounds_toArray, List.set_cons_succ, List.set_cons_zero]))
  refine wpQuiet_nil ?_
  intro w2 hk
  have q0 := k0 _ hk
  have q1 := k1 _ hk
  have q2 := k2 _ hk
  have q3 := k3 _ hk
  have z0 := z _ hk 0
  have z1 := z _ hk 1
  have y1 := y _ hk 1
  have hb := hk.below
  have hs2 := hb.size
  clear k0 k1 k2 k3 z y hk s1 s2 v v2
  go_wp2
  refine bodyPost_ret (v := .agg #[.int .i64 M, .string X]) (by simp [results, Tryd.results73, go_sem, q2, q3]) rfl ⟨rfl, ?_⟩
  refine Below.setCell (Below.setCell (Below.setCell (bel_step H.out hb) ?_ _) ?_ _) ?_ _ <;> simp <;> omega

end Go.Proofs.YtgepplddhmgifaaDoor
