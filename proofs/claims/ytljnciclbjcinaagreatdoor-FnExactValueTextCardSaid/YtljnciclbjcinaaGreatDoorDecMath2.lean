/-
  Plain facts on points in a text: right UTF-8 has points; long texts and odd ones have no good points.
-/
import Derived.Test.YtljnciclbjcinaaGreatDoorDecMath
namespace Go.Proofs.YtljnciclbjcinaaGreatDoor
open Go.PlainAid Go.Lib

theorem drop_list (t : ByteArray) (n : Nat) : (t.extract n t.size).data.toList = t.data.toList.drop n := by
  simp only [ByteArray.data_extract, Array.toList_extract]
  rw [List.extract_eq_take_drop]
  apply List.take_of_length_le
  simp
theorem size_list (t : ByteArray) : t.data.toList.length = t.size := by simp
theorem decodeL_at (t : ByteArray) : decodeL t.data.toList = decodeN t.size (t.data.toList.getD 0 0).toNat (t.data.toList.getD 1 0).toNat (t.data.toList.getD 2 0).toNat (t.data.toList.getD 3 0).toNat := by
  rw [decodeL_N, size_list]
theorem ne_list {t : ByteArray} (h : 0 < t.size) : t.data.toList ≠ [] := fun e => by rw [← size_list, e] at h; simp at h
/-- Of right UTF-8 the point at the front is what the language reads, and the rest is right. -/
theorem valid_one {t : ByteArray} (h0 : 0 < t.size) (hv : validD t.data.toList = true) :
    one8 t = (((decodeL t.data.toList).1 : Int), (decodeL t.data.toList).2) ∧ (decodeL t.data.toList).2 ≠ 0 ∧ validD (t.data.toList.drop (decodeL t.data.toList).2) = true := by
  rw [validD_step _ (ne_list h0)] at hv
  by_cases c : (decodeL t.data.toList).1 = 65533 ∧ (decodeL t.data.toList).2 = 1
  · rw [if_pos c] at hv; cases hv
  · rw [if_neg c] at hv
    have hw := decodeL_width t.data.toList
    refine ⟨?_, by omega, hv⟩
    rw [decodeL_at] at c ⊢
    rw [one8_at t h0, one_of_dec _ _ _ _ _ c]
theorem one_valid {t : ByteArray} (h0 : 0 < t.size) (hn : (one8 t).2 ≠ 0) (hg : okP (one8 t).1 = true) : validD t.data.toList = validD (t.data.toList.drop (one8 t).2) := by
  have hp := okP_iff.1 hg
  rw [one8_at t h0] at hn hp ⊢
  simp only at hn hp ⊢
  obtain ⟨h1, h2⟩ := dec_of_one _ _ _ _ _ (UInt8.toNat_lt _) hn (by omega)
  rw [validD_step _ (ne_list h0), decodeL_at, if_neg h2, h1]
theorem dec_cases {code : Int} {f : Nat} {t : ByteArray} {L : List Int} (h : dec code f t = some L) (h0 : 0 < t.size) (hf : t.size ≤ f) :
    (step code t).2 ≠ 0 ∧ ∃ M, L = (step code t).1 :: M ∧ dec code (f - 1) (t.extract (step code t).2 t.size) = some M := by
  by_cases hn : (step code t).2 = 0
  · rw [dec_none code f t h0 hf hn] at h; cases h
  · rw [dec_some code f t h0 hf hn] at h
    obtain ⟨M, hM, rfl⟩ := Option.map_eq_some_iff.1 h
    exact ⟨hn, M, rfl, hM⟩
theorem valid_of_dec : ∀ (f : Nat) (t : ByteArray) (L : List Int), t.size ≤ f → dec 1 f t = some L → L.all okP = true → validD t.data.toList = true := by
  intro f
  induction f with
  | zero =>
    intro t L hf _ _
    have : t.data.toList = [] := List.length_eq_zero_iff.1 (by rw [size_list]; omega)
    rw [this]; exact validD_nil
  | succ f ih =>
    intro t L hf hd hall
    by_cases h0 : 0 < t.size
    · obtain ⟨hn, M, rfl, hM⟩ := dec_cases hd h0 hf
      rw [step1] at hn hM hall
      rw [List.all_cons, Bool.and_eq_true] at hall
      rw [one_valid h0 hn hall.1, ← drop_list]
      exact ih _ _ (by rw [ext_len]; omega) hM hall.2
    · have : t.data.toList = [] := List.length_eq_zero_iff.1 (by rw [size_list]; omega)
      rw [this]; exact validD_nil
theorem gd_some {code : Int} {s : ByteArray} {L : List Int} (h : gd code s = some L) : dec code s.size s = some L ∧ okL L = true := by
  unfold gd at h
  split at h
  · rename_i M hM
    split at h
    · cases h; exact ⟨hM, by assumption⟩
    · cases h
  · cases h
/-- What is not right UTF-8 has no good points. -/
theorem gd_invalid {s : ByteArray} (h : validD s.data.toList = false) : gd 1 s = none := by
  rcases hg : gd 1 s with _ | L
  · rfl
  · obtain ⟨hd, hok⟩ := gd_some hg
    unfold okL at hok
    rw [Bool.and_eq_true] at hok
    rw [valid_of_dec s.size s L (Nat.le_refl _) hd hok.2] at h
    cases h
theorem step_four (code : Int) (t : ByteArray) : (step code t).2 ≤ 4 := by
  by_cases h1 : code = 1
  · subst h1; rw [step1]; unfold one8
    split
    · simp
    · split
      · unfold ldN; repeat' split
        all_goals simp
      · simp
  · by_cases h2 : code = 2
    · subst h2; rw [step2]; unfold one16
      repeat' split
      all_goals simp
    · rw [step3 _ _ h1 h2]; simp
theorem dec_size (code : Int) : ∀ (f : Nat) (t : ByteArray) (L : List Int), t.size ≤ f → dec code f t = some L → t.size ≤ 4 * L.length := by
  intro f
  induction f with
  | zero => intro t L hf _; omega
  | succ f ih =>
    intro t L hf hd
    by_cases h0 : 0 < t.size
    · obtain ⟨_, M, rfl, hM⟩ := dec_cases hd h0 hf
      have := ih _ _ (by rw [ext_len]; have := (dec_cases hd h0 hf).1; omega) hM
      rw [ext_len] at this
      have := step_four code t
      simp
      omega
    · omega
/-- A text of too many bytes has no good points. -/
theorem gd_great {code : Int} {s : ByteArray} (h : 1200 < s.size) : gd code s = none := by
  rcases hg : gd code s with _ | L
  · rfl
  · obtain ⟨hd, hok⟩ := gd_some hg
    have h1 := dec_size code s.size s L (Nat.le_refl _) hd
    have h2 := (okL_iff.1 hok).1
    omega
theorem dec_odd : ∀ (f : Nat) (t : ByteArray), t.size ≤ f → t.size % 2 = 1 → dec 2 f t = none := by
  intro f
  induction f with
  | zero => intro t hf ho; omega
  | succ f ih =>
    intro t hf ho
    by_cases hn : (step 2 t).2 = 0
    · exact dec_none 2 _ t (by omega) hf hn
    · rw [dec_some 2 _ t (by omega) hf hn]
      have hle := step_le 2 t (by omega)
      have hev : (step 2 t).2 % 2 = 0 := by
        rw [step2]; unfold one16
        repeat' split
        all_goals simp
      have := ih (t.extract (step 2 t).2 t.size) (by rw [ext_len]; omega) (by rw [ext_len]; omega)
      show (dec 2 f _).map _ = none
      rw [this]; rfl
/-- An odd number of bytes is no text of pairs. -/
theorem gd_odd {s : ByteArray} (h : s.size % 2 = 1) : gd 2 s = none := gd_no (dec_odd s.size s (Nat.le_refl _) h)

end Go.Proofs.YtljnciclbjcinaaGreatDoor
