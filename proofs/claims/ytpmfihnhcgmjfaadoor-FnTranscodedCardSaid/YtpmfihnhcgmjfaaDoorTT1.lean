/-
  Plain: a text that is told in another code and back is itself.
-/
import Derived.Test.YtpmfihnhcgmjfaaDoorTrans
import Derived.Test.YtpmfihnhcgmjfaaDoorCompactP
import Derived.Test.YtpmfihnhcgmjfaaDoorDBack
namespace Go.Proofs.YtpmfihnhcgmjfaaDoor
open Go.ChangeShapes Go.WideShapes Go.ChangeAt Go.RowKit Go.PlainAid

theorem bt_byte (t : ByteArray) (k : Nat) : bt t k ≤ 255 := by
  rw [bt_list]
  have := UInt8.toNat_lt (t.data.toList.getD k 0)
  omega
theorem fit_all (code : Int) (h : code = 1 ∨ code = 2) (L : List Int) : L.all (fitC code) = true := by
  rw [List.all_eq_true]
  intro x _
  rcases h with rfl | rfl
  · exact fit1 x
  · exact fit2 x
theorem dec_fit {code : Int} (h1 : code ≠ 1) (h2 : code ≠ 2) : ∀ (f : Nat) (t : ByteArray) (L : List Int), dec code f t = some L → L.all (fitC code) = true
  | 0, _, _, h => by
    obtain rfl := Option.some.inj h
    rfl
  | f + 1, t, L, h => by
    simp only [dec] at h
    by_cases h0 : t.size = 0
    · rw [if_pos h0] at h
      obtain rfl := Option.some.inj h
      rfl
    · rw [if_neg h0, step3 code t h1 h2, if_neg (by simp)] at h
      rcases hd : dec code f (t.extract 1 t.size) with _ | M
      · rw [hd] at h; cases h
      · rw [hd] at h
        obtain rfl := Option.some.inj h
        rw [List.all_cons, dec_fit h1 h2 f _ M hd, Bool.and_true]
        exact fit_yes code _ (bt_byte t 0)
theorem gd_parts {code : Int} {s : ByteArray} {L : List Int} (h : gd code s = some L) : okL L = true ∧ L.all (fitC code) = true := by
  rcases hd : dec code s.size s with _ | M
  · rw [gd_no hd] at h; cases h
  · rw [gd_is hd] at h
    split at h
    · rename_i hk
      obtain rfl := Option.some.inj h
      refine ⟨hk, ?_⟩
      by_cases h1 : code = 1
      · exact fit_all code (.inl h1) M
      · by_cases h2 : code = 2
        · exact fit_all code (.inr h2) M
        · exact dec_fit h1 h2 _ _ _ hd
    · cases h
theorem gdF_parts {code : Int} {s : ByteArray} {L : List Int} (h : gdF code s = some L) : (1 ≤ code ∧ code ≤ 3) ∧ gd code s = some L := by
  by_cases hc : 1 ≤ code ∧ code ≤ 3
  · rw [gdF_in hc] at h; exact ⟨hc, h⟩
  · rw [gdF_out hc] at h; cases h
/-- What is told in another code is told back. -/
theorem trans_back {fr tc : Int} {s t : ByteArray} (h : trF fr tc s = .tuple #[.string t, .bool true]) :
    ∃ L, gdF fr s = some L ∧ trF tc fr t = .tuple #[.string s, .bool true] ∧ t.size ≤ 1300 ∧ (fr = 1 → ctF s = .tuple #[.int .i64 L.length, .bool true]) := by
  rcases hg : gdF fr s with _ | L
  · rw [trF_none hg] at h
    simp at h
  · rw [trF_some hg] at h
    obtain ⟨hc, hgd⟩ := gdF_parts hg
    obtain ⟨hk, hfit⟩ := gd_parts hgd
    by_cases hs : sureC tc L = true
    · rw [encF_yes hs] at h
      have htc : 1 ≤ tc ∧ tc ≤ 3 := by
        unfold sureC at hs
        rw [Bool.and_eq_true] at hs
        exact of_decide_eq_true hs.2
      by_cases hf : L.all (fitC tc) = true
      · rw [encR_yes hf] at h
        simp only [Value.tuple.injEq] at h
        have ht : (⟨(encL tc L).toArray⟩ : ByteArray) = t := by simpa using h
        have hlen : L.length ≤ 300 := by
          have := pts_len (code := fr) (s := s)
          rw [hg] at this
          exact this
        have hback : gdF tc t = some L := by rw [gdF_in htc, ← ht]; exact gd_enc hk hf
        refine ⟨L, rfl, ?_, ?_, fun h1 => ?_⟩
        · rw [trF_some hback, encF_yes (by unfold sureC; rw [hk, decide_eq_true hc]; rfl), encR_yes hfit, enc_gd hgd]
        · rw [← ht]
          have := encL_len tc L
          show (encL tc L).toArray.size ≤ 1300
          simp; omega
        · subst h1
          exact ct_some hgd
      · rw [encR_no (by simpa using hf)] at h
        simp at h
    · rw [encF_no (by simpa using hs)] at h
      simp at h
theorem trans_not {fr tc : Int} {s t : ByteArray} (h : trF fr tc s = .tuple #[.string t, .bool false]) : t = ⟨#[]⟩ := by
  rcases hg : gdF fr s with _ | L
  · rw [trF_none hg] at h
    simp at h
    exact h.symm
  · rw [trF_some hg] at h
    by_cases hs : sureC tc L = true
    · rw [encF_yes hs] at h
      by_cases hf : L.all (fitC tc) = true
      · rw [encR_yes hf] at h
        simp at h
      · rw [encR_no (by simpa using hf)] at h
        simp at h
        exact h.symm
    · rw [encF_no (by simpa using hs)] at h
      simp at h
      exact h.symm

end Go.Proofs.YtpmfihnhcgmjfaaDoor
