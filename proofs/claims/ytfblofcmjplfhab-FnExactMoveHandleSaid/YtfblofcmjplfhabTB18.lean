/-
  A handle is lent: both sides, and the law. (Made by a generator.)
-/
import Derived.Test.YtfblofcmjplfhabTB17
namespace Go.Proofs.Ytfblofcmjplfhab
open Go.ChangeShapes Go.WideShapes Go.ChangeAt Go.RowKit Go.Maps

/-- What LendHandle tells. -/
def LendR (S : List Hd) (F : List Int) (x res : Int) (S1 : List Hd) (F1 : List Int) (H1 : Hd) (C1 : Int) : Prop :=
  (¬ GoodT S F ∧ S1 = [] ∧ F1 = [] ∧ H1 = zH ∧ C1 = 1) ∨ (GoodT S F ∧ F = F1 ∧ ∃ H0 C0, FindIs S x res H0 C0 ∧ ((C0 ≠ 0 ∧ S = S1 ∧ H1 = zH ∧ C1 = C0) ∨ (C0 = 0 ∧ H0.l = 1000 ∧ S = S1 ∧ H1 = zH ∧ C1 = 4) ∨ (C0 = 0 ∧ H0.l ≠ 1000 ∧ H1 = H0 ∧ C1 = 0 ∧ ∃ k, ∃ h : k < S.length, x = (k : Int) ∧ S[k] = H0 ∧ S1 = S.set k (lendH H0 (H0.l + 1)))))
theorem good_lends {S : List Hd} {F : List Int} (h : GoodT S F) (k : Nat) (hk : k < S.length) : 0 ≤ S[k].l ∧ S[k].l ≤ 1000 := by
  have h2 := h.2.2.2 k hk
  rcases Decidable.em ((k : Int) ∈ F) with hm | hm
  · have e := isZ_eq (h2.1 hm)
    rw [e]
    exact ⟨by decide, by decide⟩
  · exact (okH_parts (h2.2 hm)).2.2.1
theorem lend_r (S : List Hd) (F : List Int) (x res : Int) : ∃ S1 F1 H1 C1, LendR S F x res S1 F1 H1 C1 := by
  rcases Classical.em (GoodT S F) with hG | hG
  · obtain ⟨H0, C0, hf⟩ := find_is S x res
    by_cases h0 : C0 = 0
    · subst h0
      obtain ⟨k, hk, hx, hs, _⟩ := find_ok hf
      by_cases h1 : H0.l = 1000
      · exact ⟨S, F, zH, 4, .inr ⟨hG, rfl, H0, 0, hf, .inr (.inl ⟨rfl, h1, rfl, rfl, rfl⟩)⟩⟩
      · exact ⟨_, F, H0, 0, .inr ⟨hG, rfl, H0, 0, hf, .inr (.inr ⟨rfl, h1, rfl, rfl, k, hk, hx, hs, rfl⟩)⟩⟩
    · exact ⟨S, F, zH, C0, .inr ⟨hG, rfl, H0, C0, hf, .inl ⟨h0, rfl, rfl, rfl⟩⟩⟩
  · exact ⟨[], [], zH, 1, .inl ⟨hG, rfl, rfl, rfl, rfl⟩⟩
theorem lend_len {S : List Hd} {F : List Int} {x res : Int} {S1 : List Hd} {F1 : List Int} {H1 : Hd} {C1 : Int} (h : LendR S F x res S1 F1 H1 C1) (lS : S.length ≤ 1048576) (lF : F.length ≤ 1048576) : S1.length ≤ 1048576 ∧ F1.length ≤ 1048576 := by
  rcases h with ⟨_, rfl, rfl, _⟩ | ⟨_, rfl, H0, C0, _, ⟨_, rfl, _⟩ | ⟨_, _, rfl, _⟩ | ⟨_, _, _, _, k, _, _, _, rfl⟩⟩
  · simp
  · exact ⟨lS, lF⟩
  · exact ⟨lS, lF⟩
  · rw [List.length_set]; exact ⟨lS, lF⟩

end Go.Proofs.Ytfblofcmjplfhab
