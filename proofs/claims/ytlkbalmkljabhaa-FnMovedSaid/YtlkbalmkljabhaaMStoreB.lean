/-
  Bytes stored in a memory: impl's side.
-/
import Derived.Test.YtlkbalmkljabhaaMStore
namespace Go.Proofs.Ytlkbalmkljabhaa
open Go.ChangeShapes Go.WideShapes Go.ChangeAt Go.RowKit

/-- Where a cut of n bytes at a lies. -/
def cutAddr (g a n : Nat) : Addr := if n = 0 then ⟨g, 0, none⟩ else ⟨g, a, none⟩
set_option maxRecDepth 100000 in
theorem sliced_cut (g a n cap len : Nat) (h : a + n ≤ cap) (wx : World) :
    (Instr.slice 22 (.slice (some ⟨g, 0, none⟩) len cap) (some (.int .i64 (a : Int))) (some (.int .i64 ((a : Int) + (n : Int)))) (some (.int .i64 ((a : Int) + (n : Int))))).run Try.prog wx = .ok (.slice (some (cutAddr g a n)) n n) wx := by
  rw [run_slice_lhm wx 22 (some ⟨g, 0, none⟩) len cap Try.underlying22 .i64 .i64 .i64 (a : Int) ((a : Int) + n) ((a : Int) + n) (by omega) (by omega) (by omega) (by omega)]
  have e : ((a : Int) + (n : Int)).toNat = a + n := by omega
  simp only [e, Int.toNat_natCast]
  simp [go_sem, sliced, cutAddr]
  split <;> rfl

theorem infoU8 : (Try.prog.info? 5).map (·.size) = some 1 := by kernel_rfl

theorem cutOf (a n g cap len : Nat) (h : a + n ≤ cap) (hc : a + n ≤ 1048576) (w : World) :
    Calls Try.prog 92 #[.agg #[.int .i64 (a : Int), .int .i64 (n : Int)], .slice (some ⟨g, 0, none⟩) len cap] w fun e w' => e = .returned (.slice (some (cutAddr g a n)) n n) ∧ Below w.heap.size w w' := by
  have hsl := sliced_cut g a n cap len h
  have hw : wrap64 ((a : Int) + (n : Int)) = (a : Int) + n := by unfold wrap64; omega
  generalize cutAddr g a n = A at *
  clear h hc
  go_enter Try.func92, Try.ntmps92
  go_wp2
  go_ret
  refine ⟨rfl, ?_⟩
  (repeat (first | refine Below.alloc ?_ (by first | (simp; done) | (simp; omega)) _ | refine Below.setCell ?_ (by first | (simp; done) | (simp; omega)) _ | refine bel_dN ?_ _ | refine Below.drew ?_ | exact Below.refl _ _))

set_option maxHeartbeats 1000000 in
theorem stored (M : Int) (D : ByteArray) (hD : D.size ≤ 1048576) (a : Nat) (s : ByteArray) (h : a + s.size ≤ D.size) (w : World) :
    Calls Try.prog 57 #[.agg #[.int .i64 M, .string D], .int .i64 (a : Int), .string s] w fun e w' => e = .returned (.agg #[.int .i64 M, .string (laidOver D a s)]) ∧ Below w.heap.size w w' := by
  obtain ⟨g, hg⟩ : ∃ g, w.heap.size = g := ⟨_, rfl⟩
  have hcv := run_bytes_of_string (P := Try.prog) ((w.alloc (.cells #[.int .i64 M, .string D] 40)).alloc (.cells #[.int .i64 0, .string ⟨#[]⟩] 40)) 9 22 5 D Try.underlying9 Try.underlying22 Try.underlying5
  obtain ⟨c, hc⟩ : ∃ c, grownCap ((w.alloc (.cells #[.int .i64 M, .string D] 40)).alloc (.cells #[.int .i64 0, .string ⟨#[]⟩] 40)) D.size 0 5 = c := ⟨_, rfl⟩
  have hcD : D.size ≤ c := by rw [← hc]; exact grownCap_ge _ _ _ _
  rw [hc] at hcv
  have hRs : (bytesRow D c).size = c := by rw [← Array.length_toList, bytesRow_list]; simp [Lib.byteCells_length]; omega
  have hrow := row_laidOver D c a s h
  obtain ⟨R, hR⟩ : ∃ R, bytesRow D c = R := ⟨_, rfl⟩
  rw [hR] at hcv hRs hrow
  rw [hRs] at hcv
  obtain ⟨W, hW⟩ : ∃ W, ((w.alloc (.cells #[.int .i64 M, .string D] 40)).alloc (.cells #[.int .i64 0, .string ⟨#[]⟩] 40)).drew.alloc (.cells R 5 (c, c + 1)) = W := ⟨_, rfl⟩
  rw [hW] at hcv
  obtain ⟨W0, hW0⟩ : ∃ W0, (w.alloc (.cells #[.int .i64 M, .string D] 40)).alloc (.cells #[.int .i64 0, .string ⟨#[]⟩] 40) = W0 := ⟨_, rfl⟩
  have hB0 : Hid (Below w.heap.size w W0) := by unfold Hid; rw [← hW0]; (repeat (first | refine Below.alloc ?_ (by first | (simp; done) | (simp; omega)) _ | refine Below.setCell ?_ (by first | (simp; done) | (simp; omega)) _ | refine bel_dN ?_ _ | refine Below.drew ?_ | exact Below.refl _ _))
  have hs0 : W0.heap.size = g + 2 := by rw [← hW0, ← hg]; simp
  have c0 : W0.cell? ⟨g, 0, none⟩ = some (.int .i64 M) := by rw [← hW0, ← hg]; simp
  have d0 : W0.cell? ⟨g + 1, 0, none⟩ = some (.int .i64 0) := by rw [← hW0, ← hg]; simp
  have d1 : W0.cell? ⟨g + 1, 1, none⟩ = some (.string ⟨#[]⟩) := by rw [← hW0, ← hg]; simp
  have z : ∀ j, W0.frozen? ⟨g + 1, j, none⟩ = false := fun j => by rw [← hW0, ← hg]; simp
  rw [hW0] at hW
  have hBd : Below W0.heap.size W0 W := by rw [← hW]; exact (Below.refl _ _).drew.alloc (Nat.le_refl _) _
  have hWs : W.heap.size = g + 3 := by
    have h9 : W.heap.size = W0.heap.size + 1 := by rw [← hW]; exact Array.size_push ..
    omega
  have hBW : Hid (Below w.heap.size w W) := bel_step hB0.out hBd
  have hWr : W.heap[g + 2]? = some (.cells R 5 (c, c + 1)) := by rw [← hW, ← hs0]; exact heap_alloc_new W0.drew _
  replace c0 := (hBd.cell (p := ⟨g, 0, none⟩) (by show g < _; omega)).trans c0
  replace d0 := (hBd.cell (p := ⟨g + 1, 0, none⟩) (by show g + 1 < _; omega)).trans d0
  replace d1 := (hBd.cell (p := ⟨g + 1, 1, none⟩) (by show g + 1 < _; omega)).trans d1
  replace z : ∀ j, W.frozen? ⟨g + 1, j, none⟩ = false := fun j => (hBd.frozen (p := ⟨g + 1, j, none⟩) (by show g + 1 < _; omega)).trans (z j)
  clear hBd hB0 hs0
  have hhs : ((w.alloc (.cells #[.int .i64 M, .string D] 40)).alloc (.cells #[.int .i64 0, .string ⟨#[]⟩] 40)).heap.size = g + 2 := by simp; omega
  rw [hhs] at hcv
  have HC := cutOf a s.size (g + 2) c D.size (by omega) (by omega)
  obtain ⟨X, hX⟩ : ∃ X, laidOver D a s = X := ⟨_, rfl⟩
  have hXs : X.size = D.size := by rw [← hX]; exact size_laidOver D a s h
  rw [hX] at hrow ⊢
  clear hW hR hc hX hW0
  clear W0
  go_enter Try.func57, Try.ntmps57
  go_wp2_with fail
  refine (HC _).mono ?_
  rintro e w2 ⟨rfl, B2⟩
  clear HC hcv hhs
  have hs2 := B2.size
  have e2 : ∀ b o, b < g + 3 → w2.cell? ⟨b, o, none⟩ = W.cell? ⟨b, o, none⟩ := fun b o hb => B2.cell (p := ⟨b, o, none⟩) (by show b < _; omega)
  have f2 : ∀ b o, b < g + 3 → w2.frozen? ⟨b, o, none⟩ = W.frozen? ⟨b, o, none⟩ := fun b o hb => B2.frozen (p := ⟨b, o, none⟩) (by show b < _; omega)
  have hr2 : w2.heap[g + 2]? = some (.cells R 5 (c, c + 1)) := (B2.block (g + 2) (by omega)).trans hWr
  have hB2 : Hid (Below w.heap.size w w2) := bel_step hBW.out B2
  have hinfo := infoU8
  obtain ⟨W3, hcp, hB3, hs3, hcell, e3, f3⟩ : ∃ W3, (Builtin.copy_ #[22, 9] 3 #[.slice (some (cutAddr (g + 2) a s.size)) s.size s.size, .string s]).run Try.prog w2 = .ok (goInt s.size) W3 ∧ Hid (Below w.heap.size w W3) ∧ W3.heap.size = w2.heap.size ∧
      (∀ j (hj : j < X.data.toList.length), W3.cell? ⟨g + 2, j, none⟩ = some (.int .u8 (X.data.toList[j].toNat : Int))) ∧ (∀ b o, b < g + 2 → W3.cell? ⟨b, o, none⟩ = w2.cell? ⟨b, o, none⟩) ∧ (∀ b o, b < g + 2 → W3.frozen? ⟨b, o, none⟩ = w2.frozen? ⟨b, o, none⟩) := by
    by_cases h0 : s.size = 0
    · refine ⟨w2, ?_, hB2, rfl, ?_, fun _ _ _ => rfl, fun _ _ _ => rfl⟩
      · rw [h0]; exact Lib.run_copy_empty_string w2 _ _ _ 5 _ _ _ s Try.underlying22 (by rw [hinfo]; rfl) h0
      · intro j hj
        have hd : s.data.toList = [] := by rw [← List.length_eq_zero_iff, ← Lib.size_eq]; exact h0
        rw [← hrow j hj, hd, h0]
        simp [World.cell?, hr2, Lib.byteCells]
    · have hA : cutAddr (g + 2) a s.size = ⟨g + 2, a, none⟩ := by simp [cutAddr, h0]
      have hcp := copied_mark (P := Try.prog) w2 22 9 3 5 (g + 2) a s.size s.size s R 5 c (c + 1) Try.underlying22 hinfo hr2 (Nat.le_refl _) (by omega) (by omega)
      refine ⟨_, by rw [hA]; exact hcp, ?_, by simp, ?_, ?_, ?_⟩
      · exact below_setRow hB2.out (by omega) _
      · intro j hj
        rw [cell_setRow_same w2 (g + 2) j R _ 5 (c, c + 1) hr2]
        exact hrow j hj
      · intro b o hb
        exact cell_setRow_other w2 (g + 2) _ ⟨b, o, none⟩ (by show b ≠ _; omega)
      · intro b o hb
        unfold World.frozen?
        simp only [setRow_other w2 (g + 2) b _ (by omega)]
  have hcb := run_convert_bytes_back (P := Try.prog) W3 22 9 5 ⟨g + 2, 0, none⟩ c X.data.toList Try.underlying22 Try.underlying5 Try.underlying9 (fun j hj => by rw [Addr.add_lit, Nat.zero_add]; exact hcell j hj)
  rw [← Lib.size_eq, Lib.mk_data, hXs] at hcb
  have p0 : W3.cell? ⟨g, 0, none⟩ = some (.int .i64 M) := by rw [e3 _ _ (by omega), e2 _ _ (by omega)]; exact c0
  have r0 : W3.cell? ⟨g + 1, 0, none⟩ = some (.int .i64 0) := by rw [e3 _ _ (by omega), e2 _ _ (by omega)]; exact d0
  have r1 : W3.cell? ⟨g + 1, 1, none⟩ = some (.string ⟨#[]⟩) := by rw [e3 _ _ (by omega), e2 _ _ (by omega)]; exact d1
  have y0 : W3.frozen? ⟨g + 1, 0, none⟩ = false := by rw [f3 _ _ (by omega), f2 _ _ (by omega)]; exact z 0
  have y1 : W3.frozen? ⟨g + 1, 1, none⟩ = false := by rw [f3 _ _ (by omega), f2 _ _ (by omega)]; exact z 1
  clear e2 f2 e3 f3 hcell hrow z d0 d1 c0 hBW hB2 hr2 hWr B2 hinfo hXs h
  go_wp2
  refine bodyPost_ret (v := .agg #[.int .i64 M, .string X]) (by simp [results, Try.results57, go_sem, r0, r1]) rfl ⟨rfl, ?_⟩
  refine Below.setCell (Below.setCell hB3.out ?_ _) ?_ _ <;> simp <;> omega

end Go.Proofs.Ytlkbalmkljabhaa
