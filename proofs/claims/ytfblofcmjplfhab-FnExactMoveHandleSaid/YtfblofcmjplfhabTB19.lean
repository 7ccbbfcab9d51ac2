/-
  A handle is given back: both sides, and the law. (Made by a generator.)
-/
import Derived.Test.YtfblofcmjplfhabTB18
namespace Go.Proofs.Ytfblofcmjplfhab
open Go.ChangeShapes Go.WideShapes Go.ChangeAt Go.RowKit Go.Maps

theorem used_ok {S : List Hd} {x : Int} {H : Hd} (h : UsedIs S x H 0) : ∃ k, ∃ h : k < S.length, x = (k : Int) ∧ S[k] = H ∧ H.u = true := by
  rcases h with ⟨_, _, h⟩ | ⟨k, f, hk, hx, hf, ⟨_, _, h⟩ | ⟨h1, rfl, _⟩⟩
  · cases h
  · cases h
  · exact ⟨k, hk, hx, hf, h1⟩
theorem used_no2 {S : List Hd} {x : Int} {H : Hd} {C : Int} (h : UsedIs S x H C) (hc : C ≠ 0) : C = 2 ∧ (¬ (0 ≤ x ∧ x ≤ (S.length : Int) - 1) ∨ ∃ k f, ∃ h : k < S.length, x = (k : Int) ∧ S[k] = f ∧ f.u = false) := by
  rcases h with ⟨h0, _, h⟩ | ⟨k, f, hk, hx, hf, ⟨h1, _, h⟩ | ⟨h1, rfl, h⟩⟩
  · exact ⟨h, .inl h0⟩
  · exact ⟨h, .inr ⟨k, f, hk, hx, hf, h1⟩⟩
  · exact absurd h hc
/-- What ReturnHandle tells. -/
def RetR (S : List Hd) (F : List Int) (x : Int) (S1 : List Hd) (F1 : List Int) (C1 : Int) : Prop :=
  (¬ GoodT S F ∧ S1 = [] ∧ F1 = [] ∧ C1 = 1) ∨ (GoodT S F ∧ F = F1 ∧ ∃ H0 C0, UsedIs S x H0 C0 ∧ ((C0 ≠ 0 ∧ S = S1 ∧ C1 = C0) ∨ (C0 = 0 ∧ H0.l = 0 ∧ S = S1 ∧ C1 = 4) ∨ (C0 = 0 ∧ H0.l ≠ 0 ∧ C1 = 0 ∧ ∃ k, ∃ h : k < S.length, x = (k : Int) ∧ S[k] = H0 ∧ H0.u = true ∧ S1 = S.set k (lendH H0 (H0.l - 1)))))
theorem ret_r (S : List Hd) (F : List Int) (x : Int) : ∃ S1 F1 C1, RetR S F x S1 F1 C1 := by
  rcases Classical.em (GoodT S F) with hG | hG
  · obtain ⟨H0, C0, hf⟩ := used_is S x
    by_cases h0 : C0 = 0
    · subst h0
      obtain ⟨k, hk, hx, hs, hu⟩ := used_ok hf
      by_cases h1 : H0.l = 0
      · exact ⟨S, F, 4, .inr ⟨hG, rfl, H0, 0, hf, .inr (.inl ⟨rfl, h1, rfl, rfl⟩)⟩⟩
      · exact ⟨_, F, 0, .inr ⟨hG, rfl, H0, 0, hf, .inr (.inr ⟨rfl, h1, rfl, k, hk, hx, hs, hu, rfl⟩)⟩⟩
    · exact ⟨S, F, C0, .inr ⟨hG, rfl, H0, C0, hf, .inl ⟨h0, rfl, rfl⟩⟩⟩
  · exact ⟨[], [], 1, .inl ⟨hG, rfl, rfl, rfl⟩⟩
theorem ret_len {S : List Hd} {F : List Int} {x : Int} {S1 : List Hd} {F1 : List Int} {C1 : Int} (h : RetR S F x S1 F1 C1) (lS : S.length ≤ 1048576) (lF : F.length ≤ 1048576) : S1.length ≤ 1048576 ∧ F1.length ≤ 1048576 := by
  rcases h with ⟨_, rfl, rfl, _⟩ | ⟨_, rfl, H0, C0, _, ⟨_, rfl, _⟩ | ⟨_, _, rfl, _⟩ | ⟨_, _, _, k, _, _, _, _, rfl⟩⟩
  · simp
  · exact ⟨lS, lF⟩
  · exact ⟨lS, lF⟩
  · rw [List.length_set]; exact ⟨lS, lF⟩

end Go.Proofs.Ytfblofcmjplfhab
