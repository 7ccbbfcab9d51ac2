/-
  Points come back from each of their codes, and texts from their points.
-/
import Derived.Test.YtpmfihnhcgmjfaaDoorDecMath2
namespace Go.Proofs.YtpmfihnhcgmjfaaDoor
open Go.ChangeShapes Go.WideShapes Go.ChangeAt Go.RowKit Go.PlainAid

/-- The bytes at the front are the point's. -/
theorem step_back (code : Int) (t : ByteArray) (h0 : 0 < t.size) (hn : (step code t).2 ≠ 0) (hp : okP (step code t).1 = true) : encP code (step code t).1.toNat = t.data.toList.take (step code t).2 := by
  have hb := bt_list t
  have hx := extract_list t
  have hl : t.data.toList.length = t.size := by simp
  by_cases c1 : code = 1
  · subst c1
    rw [step1] at hn hp ⊢
    rw [encP1]
    unfold one8 at hn hp ⊢
    split at hn
    · exact absurd rfl hn
    · rename_i hs
      rw [if_neg hs]
      split at hn
      · rename_i hm
        rw [if_pos hm]
        unfold same8 at hm
        rw [beq_iff_eq, hx] at hm
        exact hm
      · exact absurd rfl hn
  · by_cases c2 : code = 2
    · subst c2
      rw [step2] at hn hp ⊢
      rw [encP2]
      have e0 := hb 0; have e1 := hb 1; have e2 := hb 2; have e3 := hb 3
      unfold one16 at hn hp ⊢
      split at hn
      · exact absurd rfl hn
      · rename_i hs
        rw [if_neg hs] at hp ⊢
        split at hn
        · rename_i hw
          rw [if_pos hw] at hp ⊢
          unfold twoH at hw
          have hw := of_decide_eq_true hw
          have f0 : lo16 t 0 = bt t 0 + bt t 1 * 256 := rfl
          have f2 : lo16 t 2 = bt t 2 + bt t 3 * 256 := rfl
          generalize t.data.toList = l at *
          rcases l with _ | ⟨y0, _ | ⟨y1, _ | ⟨y2, _ | ⟨y3, r⟩⟩⟩⟩
          · simp at hl; omega
          · simp at hl; omega
          · simp at hl; omega
          · simp at hl; omega
          · simp only [List.getD_cons_zero, List.getD_cons_succ, List.take_succ_cons, List.take_zero] at *
            have b0 := y0.toNat_lt; have b1 := y1.toNat_lt; have b2 := y2.toNat_lt; have b3 := y3.toNat_lt
            unfold u16b
            rw [if_neg (by omega)]
            simp only [List.cons.injEq, byte_is, and_true]
            omega
        · rename_i hw
          rw [if_neg hw] at hp ⊢
          have hp := okP_iff.1 hp
          have f0 : lo16 t 0 = bt t 0 + bt t 1 * 256 := rfl
          generalize t.data.toList = l at *
          rcases l with _ | ⟨y0, _ | ⟨y1, r⟩⟩
          · simp at hl; omega
          · simp at hl; omega
          · simp only [List.getD_cons_zero, List.getD_cons_succ, List.take_succ_cons, List.take_zero] at *
            have b0 := y0.toNat_lt; have b1 := y1.toNat_lt
            unfold u16b
            rw [if_pos (by omega)]
            simp only [List.cons.injEq, byte_is, and_true]
            omega
    · rw [step3 code t c1 c2] at hp ⊢
      rw [encP3 code _ c1 c2]
      have e0 := hb 0
      generalize t.data.toList = l at *
      rcases l with _ | ⟨y0, r⟩
      · simp at hl; omega
      · simp only [List.getD_cons_zero, List.take_succ_cons, List.take_zero] at *
        have b0 := y0.toNat_lt
        simp only [List.cons.injEq, byte_is, and_true]
        omega

/-- A text is what its points are told as. -/
theorem enc_dec (code : Int) : ∀ (f : Nat) (t : ByteArray) (L : List Int), t.size ≤ f → dec code f t = some L → L.all okP = true → encL code L = t.data.toList := by
  intro f
  induction f with
  | zero =>
    intro t L hf hd _
    have e : t.data.toList = [] := List.length_eq_zero_iff.1 (by rw [size_list]; omega)
    rw [dec_end code 0 t (by omega)] at hd
    obtain rfl := Option.some.inj hd
    rw [e]; rfl
  | succ f ih =>
    intro t L hf hd hall
    by_cases h0 : 0 < t.size
    · obtain ⟨hn, M, rfl, hM⟩ := dec_cases hd h0 hf
      rw [List.all_cons, Bool.and_eq_true] at hall
      have e1 := step_back code t h0 hn hall.1
      have e2 := ih _ _ (by rw [ext_len]; omega) hM hall.2
      unfold encL at e2 ⊢
      rw [List.flatMap_cons, e2, e1, drop_list, List.take_append_drop]
    · have e : t.data.toList = [] := List.length_eq_zero_iff.1 (by rw [size_list]; omega)
      rw [dec_end code (f + 1) t (by omega)] at hd
      obtain rfl := Option.some.inj hd
      rw [e]; rfl

/-- A point's bytes at the front are read as the point. -/
theorem step_enc (code p : Int) (t : ByteArray) (r : List UInt8) (hp : okP p = true) (hf : fitC code p = true) (ht : t.data.toList = encP code p.toNat ++ r) : step code t = (p, (encP code p.toNat).length) ∧ 0 < t.size := by
  have hb := bt_list t
  have hl : t.data.toList.length = t.size := by simp
  have hp := okP_iff.1 hp
  obtain ⟨q, rfl⟩ : ∃ q : Nat, p = q := ⟨p.toNat, by omega⟩
  rw [Int.toNat_natCast] at ht ⊢
  by_cases c1 : code = 1
  · subst c1
    rw [encP1] at ht ⊢
    have hs : 0 < t.size := by
      rw [← hl, ht]
      unfold u8b
      repeat' split
      all_goals simp
    refine ⟨?_, hs⟩
    rw [step1, one8_at t hs, ← hl, ht]
    clear hb hl ht hs hf
    unfold u8b
    by_cases g1 : q < 128
    · rw [if_pos g1]
      simp only [List.cons_append, List.nil_append, List.getD_cons_zero, List.length_cons, List.length_nil, UInt8.toNat_ofNat']
      unfold one8N
      rw [if_neg (by omega), if_neg (by omega), if_neg (by omega), if_pos (by omega)]
      simp; omega
    · rw [if_neg g1]
      by_cases g2 : q < 2048
      · rw [if_pos g2]
        simp only [List.cons_append, List.nil_append, List.getD_cons_zero, List.getD_cons_succ, List.length_cons, List.length_nil, UInt8.toNat_ofNat']
        unfold one8N
        rw [if_neg (by omega), if_neg (by omega), if_pos (by omega), if_pos (by omega)]
        simp; omega
      · rw [if_neg g2]
        by_cases g3 : q < 65536
        · rw [if_pos g3]
          simp only [List.cons_append, List.nil_append, List.getD_cons_zero, List.getD_cons_succ, List.length_cons, List.length_nil, UInt8.toNat_ofNat']
          unfold one8N
          rw [if_neg (by omega), if_pos (by omega), if_pos (by omega)]
          simp; omega
        · rw [if_neg g3]
          simp only [List.cons_append, List.nil_append, List.getD_cons_zero, List.getD_cons_succ, List.length_cons, List.length_nil, UInt8.toNat_ofNat']
          unfold one8N
          rw [if_pos (by omega), if_pos (by omega)]
          simp; omega
  · by_cases c2 : code = 2
    · subst c2
      rw [encP2] at ht ⊢
      have e0 := hb 0; have e1 := hb 1; have e2 := hb 2; have e3 := hb 3
      have f0 : lo16 t 0 = bt t 0 + bt t 1 * 256 := rfl
      have f2 : lo16 t 2 = bt t 2 + bt t 3 * 256 := rfl
      rw [ht] at hl e0 e1 e2 e3
      rw [step2]
      unfold one16 twoH
      unfold u16b at hl e0 e1 e2 e3 ⊢
      by_cases g : q < 65536
      · rw [if_pos g] at hl e0 e1 e2 e3 ⊢
        simp only [List.cons_append, List.nil_append, List.getD_cons_zero, List.getD_cons_succ, List.length_cons, List.length_nil, UInt8.toNat_ofNat'] at *
        rw [if_neg (by omega), if_neg (by simp; omega)]
        exact ⟨by simp; omega, by omega⟩
      · rw [if_neg g] at hl e0 e1 e2 e3 ⊢
        simp only [List.cons_append, List.nil_append, List.getD_cons_zero, List.getD_cons_succ, List.length_cons, List.length_nil, UInt8.toNat_ofNat'] at *
        rw [if_neg (by omega), if_pos (by simp; omega)]
        exact ⟨by simp; omega, by omega⟩
    · rw [encP3 code _ c1 c2] at ht ⊢
      have e0 := hb 0
      rw [ht] at e0 hl
      have hq : q < 256 := by
        have := of_decide_eq_true hf
        omega
      rw [step3 code t c1 c2]
      simp only [List.cons_append, List.nil_append, List.getD_cons_zero, List.length_cons, List.length_nil, UInt8.toNat_ofNat'] at *
      exact ⟨by simp; omega, by omega⟩

/-- Points come back from what they are told as. -/
theorem dec_enc (code : Int) : ∀ (L : List Int), L.all okP = true → L.all (fitC code) = true → ∀ (f : Nat) (t : ByteArray), t.size ≤ f → t.data.toList = encL code L → dec code f t = some L
  | [], _, _, f, t, _, ht => dec_end code f t (by
      have := size_list t
      rw [ht] at this
      simpa [encL] using this.symm)
  | p :: L, h1, h2, f, t, hf, ht => by
    rw [List.all_cons, Bool.and_eq_true] at h1 h2
    have ht2 : t.data.toList = encP code p.toNat ++ encL code L := by rw [ht]; unfold encL; rw [List.flatMap_cons]
    obtain ⟨hs, h0⟩ := step_enc code p t _ h1.1 h2.1 ht2
    have hne : (encP code p.toNat).length ≠ 0 := by
      unfold encP u8b u16b
      repeat' split
      all_goals simp
    rw [dec_some code f t h0 hf (by rw [hs]; exact hne), hs]
    have ih := dec_enc code L h1.2 h2.2 (f - 1) (t.extract (encP code p.toNat).length t.size) (by rw [ext_len]; omega) (by rw [drop_list, ht2, List.drop_left])
    simp only
    rw [ih]; rfl

/-- What is told of good points is good, and read back. -/
theorem gd_enc {code : Int} {L : List Int} (h : okL L = true) (hf : L.all (fitC code) = true) : gd code ⟨(encL code L).toArray⟩ = some L := by
  have hall : L.all okP = true := by unfold okL at h; rw [Bool.and_eq_true] at h; exact h.2
  rw [gd_is (dec_enc code L hall hf _ _ (Nat.le_refl _) rfl), if_pos h]

theorem enc_gd {code : Int} {s : ByteArray} {L : List Int} (h : gd code s = some L) : (⟨(encL code L).toArray⟩ : ByteArray) = s := by
  obtain ⟨h1, h2⟩ := gd_some h
  have hall : L.all okP = true := by unfold okL at h2; rw [Bool.and_eq_true] at h2; exact h2.2
  have e := enc_dec code _ s L (Nat.le_refl _) h1 hall
  rw [e]

end Go.Proofs.YtpmfihnhcgmjfaaDoor
