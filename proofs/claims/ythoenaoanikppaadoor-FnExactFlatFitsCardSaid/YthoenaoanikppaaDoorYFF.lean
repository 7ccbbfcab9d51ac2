/-
  Types of few enough words: both functions, and the law.
-/
import Derived.Test.YthoenaoanikppaaDoorYFlL
namespace Go.Proofs.YthoenaoanikppaaDoor
open Go.ChangeShapes Go.WideShapes Go.ChangeAt Go.RowKit Go.Deep

/-- A good type of sixteen words at most. -/
def ff (L : List Nd) : Bool := goodT L && decide ((flat L L.length 0).length ≤ 16)

theorem ff_fb (L : List Nd) : ff L = (fb L && decide (((fo L).length : Int) ≤ 16)) := by
  unfold ff
  cases h : fb L with
  | false =>
    unfold fb at h
    cases hg : goodT L with
    | false => rfl
    | true =>
      rw [hg] at h
      simp at h
      simp
      omega
  | true =>
    have hf : fo L = flat L L.length 0 := by unfold fo; rw [h]; rfl
    rw [hf]
    unfold fb at h
    simp at h
    rw [h.1]
    by_cases h2 : (flat L L.length 0).length ≤ 16
    · have : ((flat L L.length 0).length : Int) ≤ 16 := by omega
      simp [h2, this]
    · have : ¬ ((flat L L.length 0).length : Int) ≤ 16 := by omega
      simp [h2, this]

set_option maxRecDepth 100000 in
set_option maxHeartbeats 1600000 in
theorem implFlatFits (a : Option Addr) (b off cap : Nat) (L : List Nd) (w : World) (ha : Hid (L ≠ [] → a = some ⟨b, off, none⟩ ∧ b < w.heap.size)) (hL : ndAt w b off L) (hlen : L.length ≤ 1048576) (hT : Tabs w) :
    Calls Tryd.prog 7 #[.slice a L.length cap] w fun e w' => e = .returned (.tuple #[.bool (ff L), .bool (goodT L)]) ∧ Below w.heap.size w w' := by
  have HF := implFlatOf a b off cap L w ha hL hlen hT
  rw [ff_fb]
  obtain ⟨n, hn⟩ : ∃ n, (fo L).length = n := ⟨_, rfl⟩
  obtain ⟨Y, hY⟩ : ∃ Y, iv (fo L) = Y := ⟨_, rfl⟩
  obtain ⟨R, hR⟩ : ∃ R, fb L = R := ⟨_, rfl⟩
  rw [hn, hY, hR] at HF
  rw [hn, hR]
  clear hn hY hR
  obtain ⟨d, hd⟩ : ∃ d, decide ((n : Int) ≤ 16) = d := ⟨_, rfl⟩
  rw [hd]
  have HL : Hid (ndAt w b off L) := hL
  have HT : Hid (Tabs w) := hT
  clear hL hT
  obtain ⟨G, hG⟩ : ∃ G, Hid (goodT L = G) := ⟨_, rfl⟩
  rw [hG.out]
  cases R
  · clear hd
    go_enter Tryd.func7, Tryd.ntmps7
    go_wp2_with fail
    refine HF.mono ?_
    rintro e w1 ⟨v, rfl, hown, hb1⟩
    clear HF
    obtain ⟨va, vc, rfl⟩ := ownsRow_shape hown
    clear hown
    have HG := implGood a b off cap L w1 (fun h => ⟨(ha.out h).1, Nat.lt_of_lt_of_le (ha.out h).2 hb1.size⟩) (ndAt_nil hb1 (fun h => (ha.out h).2) HL.out) hlen (HT.out.below hb1 (Nat.le_refl _))
    rw [hG.out] at HG
    go_wp2_with fail
    refine HG.mono ?_
    rintro e w2 ⟨rfl, hb2⟩
    clear HG
    go_wp2
    go_ret2
    exact ⟨rfl, below2 hb1 hb2⟩
  · go_enter Tryd.func7, Tryd.ntmps7
    go_wp2_with fail
    refine HF.mono ?_
    rintro e w1 ⟨v, rfl, hown, hb1⟩
    clear HF
    obtain ⟨va, vc, rfl⟩ := ownsRow_shape hown
    clear hown
    have HG := implGood a b off cap L w1 (fun h => ⟨(ha.out h).1, Nat.lt_of_lt_of_le (ha.out h).2 hb1.size⟩) (ndAt_nil hb1 (fun h => (ha.out h).2) HL.out) hlen (HT.out.below hb1 (Nat.le_refl _))
    rw [hG.out] at HG
    go_wp2_with fail
    refine HG.mono ?_
    rintro e w2 ⟨rfl, hb2⟩
    clear HG
    go_wp2
    go_ret2
    exact ⟨rfl, below2 hb1 hb2⟩

set_option maxRecDepth 100000 in
set_option maxHeartbeats 1600000 in
theorem specFits14 (L : List Nd) (f k : Nat) (HF : CoreTold L f k) (w : World) (lo hi : Nat) (sl : Value) (htr : TrRep L lo hi f w k sl) (hhi : hi ≤ w.heap.size) :
    Calls Tryd.prog 10 #[.agg #[.int .i64 (kdAt L k), .int .i64 (nAt L k), sl]] w fun e w' => e = .returned (.bool (decide (((flat L f k).length : Int) ≤ 16))) ∧ Below w.heap.size w w' := by
  have hB : Below w.heap.size w (w.alloc (.cells #[.int .i64 (kdAt L k), .int .i64 (nAt L k), sl] 34)) := (Below.refl _ _).alloc (Nat.le_refl _) _
  have HC := HF (w.alloc (.cells #[.int .i64 (kdAt L k), .int .i64 (nAt L k), sl] 34)) lo hi sl (htr.below hB hhi) (by simp; omega)
  obtain ⟨a, n, c, rfl⟩ : ∃ a n c, sl = .slice a n c := by
    cases f with
    | zero => exact htr.elim
    | succ f => obtain ⟨a, c, rfl, _⟩ := htr; exact ⟨_, _, _, rfl⟩
  clear htr HF hhi
  generalize flat L f k = D at HC ⊢
  generalize kdAt L k = x at HC hB ⊢
  generalize nAt L k = y at HC hB ⊢
  obtain ⟨d, hd⟩ : ∃ d, decide ((D.length : Int) ≤ 16) = d := ⟨_, rfl⟩
  rw [hd]
  go_enter Tryd.func10, Tryd.ntmps10
  go_wp2_with fail
  refine HC.mono ?_
  rintro e w1 ⟨v, rfl, hown, hb1⟩
  clear HC
  obtain ⟨va, vc, rfl⟩ := ownsRow_shape hown
  clear hown
  go_wp2
  go_ret
  exact ⟨by first | rfl | simp [hd], bel_step hB hb1⟩

set_option maxRecDepth 100000 in
set_option maxHeartbeats 1600000 in
theorem specFlatFits (a : Option Addr) (b off cap : Nat) (L : List Nd) (w : World) (ha : Hid (L ≠ [] → a = some ⟨b, off, none⟩ ∧ b < w.heap.size)) (hL : ndAt w b off L) (hlen : L.length ≤ 1048576) :
    Calls Tryd.prog 5 #[.slice a L.length cap] w fun e w' => e = .returned (.tuple #[.bool (ff L), .bool (goodT L)]) ∧ Below w.heap.size w w' := by
  have HG := specGood a b off cap L w ha hL hlen
  obtain ⟨G, hG⟩ : ∃ G, Hid (goodT L = G) := ⟨_, rfl⟩
  rw [hG.out] at HG
  cases G with
  | false =>
    have hf : ff L = false := by unfold ff; rw [hG.out]; rfl
    rw [hf, hG.out]
    clear hf
    go_enter Tryd.func5, Tryd.ntmps5
    go_wp2_with (go_at_call 9; refine HG.mono ?_; rintro e w1 ⟨rfl, hb1⟩; clear HG)
    go_ret2
    exact ⟨rfl, hb1⟩
  | true =>
    have hU := ups_good hG.out
    have h40 : 1 ≤ L.length ∧ L.length ≤ 40 := ⟨hU.1, hU.2.1⟩
    obtain ⟨rfl, hb⟩ := ha.out (fun h => by simp [h] at h40)
    have HF := specCore L hG.out L.length 0 (by omega) (by omega)
    have hff : ff L = decide ((flat L L.length 0).length ≤ 16) := by unfold ff; rw [hG.out]; rfl
    obtain ⟨D, hD⟩ : ∃ D, flat L L.length 0 = D := ⟨_, rfl⟩
    rw [hD] at hff
    obtain ⟨d, hd⟩ : ∃ d, decide ((D.length : Int) ≤ 16) = d := ⟨_, rfl⟩
    have hff2 : ff L = d := by
      rw [hff, ← hd]
      by_cases h2 : D.length ≤ 16
      · have : (D.length : Int) ≤ 16 := by omega
        simp [h2, this]
      · have : ¬ (D.length : Int) ≤ 16 := by omega
        simp [h2, this]
    rw [hff2, hG.out]
    clear hff hff2 hU
    go_enter Tryd.func5, Tryd.ntmps5
    go_wp2_with fail
    refine HG.mono ?_
    rintro e w1 ⟨rfl, hb1⟩
    clear HG
    have HT := specTree L h40.2 b off cap L.length 0 (by omega) (by omega) w1 (Nat.lt_of_lt_of_le hb hb1.size) (hL.below hb1 hb)
    go_wp2_with fail
    refine HT.mono ?_
    rintro e w2 ⟨sl, rfl, htr, hb2⟩
    clear HT
    have hb12 := below2 hb1 hb2
    have HC := specFits14 L L.length 0 HF w2 _ _ sl htr (Nat.le_refl _)
    rw [hD, hd] at HC
    go_wp2_with fail
    refine HC.mono ?_
    rintro e w3 ⟨rfl, hb3⟩
    clear HC
    go_wp2
    go_ret2
    exact ⟨rfl, below2 hb12 hb3⟩

set_option maxRecDepth 100000 in
set_option maxHeartbeats 1600000 in
theorem flatFits_walk (a : Option Addr) (cap : Nat) (L : List Nd) (w : World) (h : IsNds w a L) (hT : Tabs w) :
    Calls Tryd.prog 3 #[.slice a L.length cap] w fun e w' => e = .returned (.bool true) ∧ Below w.heap.size w w' := by
  obtain ⟨b, off, ha, hL, hlen, hfit⟩ := h
  have HSZ := szNds a cap L.length w hlen
  have HT : Hid (Tabs w) := hT
  have HA : Hid (L ≠ [] → a = some ⟨b, off, none⟩ ∧ b < w.heap.size) := ha
  have HL : Hid (ndAt w b off L) := hL
  clear ha hL hT
  go_enter Tryd.func3, Tryd.ntmps3
  go_wp2_with fail
  refine HSZ.mono ?_
  rintro e w0 ⟨r, rfl, hr, rfl⟩
  clear HSZ
  by_cases hneg : r < 0
  · go_wp2
    go_ret
    exact ⟨rfl, Below.refl _ _⟩
  · have hlen2 : L.length ≤ 1048576 := hr (by omega)
    have h1 := toNds a b off cap L w0 HA HL.out hlen2
    go_wp2_with fail
    refine h1.mono ?_
    rintro e w1 ⟨rfl, hl1, hn1, _, hb1⟩
    clear h1
    have h2 := specFlatFits (some ⟨w0.heap.size, 0, none⟩) w0.heap.size 0 L.length L w1 (fun _ => ⟨rfl, hl1⟩) hn1 hlen2
    go_wp2_with fail
    refine h2.mono ?_
    rintro e w2 ⟨rfl, hb2⟩
    clear h2 hn1
    have hb02 := below2 hb1 hb2
    have HA2 : Hid (L ≠ [] → a = some ⟨b, off, none⟩ ∧ b < w2.heap.size) := fun h => ⟨(HA.out h).1, Nat.lt_of_lt_of_le (HA.out h).2 hb02.size⟩
    have HL2 : Hid (ndAt w2 b off L) := by
      intro i hi
      have hne : L ≠ [] := fun e => by simp [e] at hi
      exact (HL.out.below hb02 (HA.out hne).2) i hi
    have h3 := toNds a b off cap L w2 HA2 HL2.out hlen2
    clear hl1 hb1 hb2
    go_wp2_with fail
    refine h3.mono ?_
    rintro e w3 ⟨rfl, hl3, hn3, _, hb3⟩
    clear h3
    have hb03 := below2 hb02 hb3
    have h4 := implFlatFits (some ⟨w2.heap.size, 0, none⟩) w2.heap.size 0 L.length L w3 (fun _ => ⟨rfl, hl3⟩) hn3 hlen2 (HT.out.below hb03 (Nat.le_refl _))
    go_wp2_with fail
    refine h4.mono ?_
    rintro e w4 ⟨rfl, hb4⟩
    clear h4
    have hb04 := below2 hb03 hb4
    have hn4 : ndAt w4 w2.heap.size 0 L := hn3.below hb4 hl3
    have hl4 : w2.heap.size < w4.heap.size := Nat.lt_of_lt_of_le hl3 hb4.size
    have HA4 : Hid (L ≠ [] → a = some ⟨b, off, none⟩ ∧ b < w4.heap.size) := fun h => ⟨(HA.out h).1, Nat.lt_of_lt_of_le (HA.out h).2 hb04.size⟩
    have HL4 : Hid (ndAt w4 b off L) := by
      intro i hi
      have hne : L ≠ [] := fun e => by simp [e] at hi
      exact (HL.out.below hb04 (HA.out hne).2) i hi
    have h5 := toNds a b off cap L w4 HA4 HL4.out hlen2
    clear hb02 hb3 hb4 hn3 hl3 hb03
    obtain ⟨G, hG⟩ : ∃ G, goodT L = G := ⟨_, rfl⟩
    rw [hG]
    clear hG
    obtain ⟨Q, hQ⟩ : ∃ Q, ff L = Q := ⟨_, rfl⟩
    rw [hQ]
    clear hQ
    go_wp2_with fail
    refine h5.mono ?_
    rintro e w5 ⟨rfl, hl5, hn5, _, hb5⟩
    clear h5
    have hb05 := below2 hb04 hb5
    have h6 := eqNds (some ⟨w2.heap.size, 0, none⟩) (some ⟨w4.heap.size, 0, none⟩) w2.heap.size 0 L.length w4.heap.size 0 L.length L w5 (fun _ => ⟨rfl, Nat.lt_of_lt_of_le hl4 hb5.size⟩) (fun _ => ⟨rfl, hl5⟩) (hn4.below hb5 hl4) hn5 hlen
    go_wp2_with fail
    refine h6.mono ?_
    rintro e w6 ⟨rfl, hb6⟩
    clear h6
    go_wp2
    go_ret
    exact ⟨rfl, below2 hb05 hb6⟩

end Go.Proofs.YthoenaoanikppaaDoor
