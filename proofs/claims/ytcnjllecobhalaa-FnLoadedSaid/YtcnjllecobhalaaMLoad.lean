/-
  LoadBytes and StoreBytes: both sides.
-/
import Derived.Test.YtcnjllecobhalaaMBoth
namespace Go.Proofs.Ytcnjllecobhalaa
open Go.ChangeShapes Go.WideShapes Go.ChangeAt Go.RowKit

theorem slice_mem {P : Program} (T : TypeId) (hu : P.underlying T = some .string) (s : ByteArray) (t n : Nat) (h : t + n ≤ s.size) (wx : World) :
    (Instr.slice T (.string s) (some (.int .i64 (t : Int))) (some (.int .i64 ((t : Int) + (n : Int)))) none).run P wx = .ok (.string (s.extract t (t + n))) wx := by
  have H := run_slice_string (P := P) wx T s .i64 .i64 (t : Int) ((t : Int) + (n : Int)) hu (by omega) (by omega) (by omega)
  have e : ((t : Int) + (n : Int)).toNat = t + n := by omega
  rw [e] at H
  exact H

theorem loadI_no (M : Int) (D : ByteArray) (h : D.size ≤ 1048576) (a n : Int) (ha : a ≤ 9223372036854775807) (c : Int) (hc : codeOf (good M D) D.size [(a, n)] = c) (h0 : c ≠ 0) (w : World) :
    Calls Try.prog 33 #[.agg #[.int .i64 M, .string D], .int .i64 a, .int .i64 n] w fun e w' => e = .returned (.tuple #[.string ⟨#[]⟩, .int .i64 c]) ∧ Below w.heap.size w w' := by
  have SP := fun b w h1 h2 h3 => spans1 M D h b a n w h1 h2 h3 ha
  rw [hc] at SP
  have k : (c == 0) = false := by simp [h0]
  clear hc h0
  go_enter Try.func33, Try.ntmps33
  go_wp2_with fail
  refine (SP (w.heap.size + 1) _ (by simp) (by simp) (by simp)).mono ?_
  rintro e w1 ⟨rfl, B1⟩
  go_wp2
  go_ret2
  refine ⟨rfl, ?_⟩
  ((repeat (first | refine bel_alloc ?_ _ | refine bel_dN ?_ _ | refine Below.drew ?_ | refine Below.setCell ?_ (by first | (simp; done) | (simp; omega)) _)); refine bel_step ?_ B1; (repeat (first | refine bel_alloc ?_ _ | refine bel_dN ?_ _ | refine Below.drew ?_ | refine Below.setCell ?_ (by first | (simp; done) | (simp; omega)) _)); exact Below.refl _ _)

theorem loadI_yes (M : Int) (D : ByteArray) (h : D.size ≤ 1048576) (a n : Nat) (hg : good M D = true) (hf : a + n ≤ D.size) (w : World) :
    Calls Try.prog 33 #[.agg #[.int .i64 M, .string D], .int .i64 (a : Int), .int .i64 (n : Int)] w fun e w' => e = .returned (.tuple #[.string (D.extract a (a + n)), .int .i64 0]) ∧ Below w.heap.size w w' := by
  have SP := fun b w h1 h2 h3 => spans1 M D h b (a : Int) (n : Int) w h1 h2 h3 (by omega)
  rw [hg, code1_in _ _ _ (by omega) (by omega) (by omega)] at SP
  have hsl := slice_mem (P := Try.prog) 9 Try.underlying9 D a n hf
  have hex : (D.extract a (a + n)).size ≤ 281474976710656 := by simp only [ByteArray.size_extract]; omega
  have HC : Hid (∀ w : World, Calls Try.prog 79 #[.string (D.extract a (a + n))] w fun e w' => e = .returned (.string (D.extract a (a + n))) ∧ Below w.heap.size w w') := fun w => stringsClone _ w hex
  have v : wrap64 ((a : Int) + (n : Int)) = (a : Int) + n := by unfold wrap64; omega
  generalize D.extract a (a + n) = X at *
  obtain ⟨g, hgs⟩ : ∃ g, w.heap.size = g := ⟨_, rfl⟩
  clear hex hf hg h
  go_enter Try.func33, Try.ntmps33
  go_wp2_with fail
  refine (SP (g + 1) _ (by simp; omega) (by rw [← hgs]; simp) (by rw [← hgs]; simp)).mono ?_
  rintro e w1 ⟨rfl, B1⟩
  have hs := B1.size
  simp at hs
  have q1 : w1.cell? ⟨g, 1, none⟩ = some (.string D) := by rw [B1.cell (p := ⟨g, 1, none⟩) (by simp; omega), ← hgs]; simp
  have hB : Hid (Below w.heap.size w w1) := by unfold Hid; ((repeat (first | refine bel_alloc ?_ _ | refine bel_dN ?_ _ | refine Below.drew ?_ | refine Below.setCell ?_ (by first | (simp; done) | (simp; omega)) _)); refine bel_step ?_ B1; (repeat (first | refine bel_alloc ?_ _ | refine bel_dN ?_ _ | refine Below.drew ?_ | refine Below.setCell ?_ (by first | (simp; done) | (simp; omega)) _)); exact Below.refl _ _)
  clear B1 SP
  go_wp2_with fail
  refine (HC.out _).mono ?_
  rintro e w2 ⟨rfl, B2⟩
  go_wp2
  go_ret2
  exact ⟨rfl, bel_step hB.out B2⟩

end Go.Proofs.Ytcnjllecobhalaa
