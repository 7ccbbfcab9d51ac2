/-
  Texts of types: both functions, and the law.
-/
import Derived.Test.YtendmemcgbmmlaaDoorYTx5
namespace Go.Proofs.YtendmemcgbmmlaaDoor
open Go.ChangeShapes Go.WideShapes Go.ChangeAt Go.RowKit

/-- The text that is told. -/
def tt (L : List Nd) : ByteArray := if goodT L = true then bsY (txt L L.length 0) else ⟨#[]⟩

set_option maxRecDepth 100000 in
set_option maxHeartbeats 1600000 in
theorem implTT (a : Option Addr) (b off cap : Nat) (L : List Nd) (w : World) (ha : Hid (L ≠ [] → a = some ⟨b, off, none⟩ ∧ b < w.heap.size)) (hL : Hid (ndAt w b off L)) (hlen : L.length ≤ 1048576) (hT : Hid (Tabs w)) (hP : Hid (Pows w)) :
    Calls Tryd.prog 9 #[.slice a L.length cap] w fun e w' => e = .returned (.tuple #[.string (tt L), .bool (goodT L)]) ∧ Below w.heap.size w w' := by
  have HG := implGood a b off cap L w ha hL hlen hT
  obtain ⟨G, hG⟩ : ∃ G, Hid (goodT L = G) := ⟨_, rfl⟩
  have hh : tt L = if G = true then bsY (txt L L.length 0) else ⟨#[]⟩ := by unfold tt; rw [hG.out]
  rw [hG.out] at HG ⊢
  rw [hh]
  clear hh
  cases G with
  | false =>
    rw [if_neg (by simp)]
    go_enter Tryd.func9, Tryd.ntmps9
    go_wp2_with (go_at_call 17; refine HG.mono ?_; rintro e w1 ⟨rfl, hb1⟩; clear HG)
    go_ret2
    exact ⟨rfl, hb1⟩
  | true =>
    rw [if_pos rfl]
    have hU := ups_good hG.out
    have h40 : 1 ≤ L.length ∧ L.length ≤ 40 := ⟨hU.1, hU.2.1⟩
    obtain ⟨rfl, hb⟩ := ha.out (fun h => by simp [h] at h40)
    have HF := implText L hG.out L.length 0 L.length (by omega) (isEnd_whole hU)
    rw [TextI, segL_whole hU] at HF
    obtain ⟨X, hX⟩ : ∃ X, bsY (txt L L.length 0) = X := ⟨_, rfl⟩
    rw [hX] at HF ⊢
    clear hX hU
    go_enter Tryd.func9, Tryd.ntmps9
    go_wp2_with fail
    refine HG.mono ?_
    rintro e w1 ⟨rfl, hb1⟩
    clear HG
    have HC := HF w1 b off cap (Nat.lt_of_lt_of_le hb hb1.size) (hL.out.below hb1 hb) (hT.out.below hb1 (Nat.le_refl _)) (hP.out.below hb1 (Nat.le_refl _))
    clear HF
    go_wp2_with fail
    refine HC.mono ?_
    rintro e w2 ⟨rfl, hb2⟩
    clear HC
    go_wp2
    go_ret2
    exact ⟨rfl, below2 hb1 hb2⟩

set_option maxRecDepth 100000 in
set_option maxHeartbeats 1600000 in
theorem specTT (a : Option Addr) (b off cap : Nat) (L : List Nd) (w : World) (ha : Hid (L ≠ [] → a = some ⟨b, off, none⟩ ∧ b < w.heap.size)) (hL : Hid (ndAt w b off L)) (hlen : L.length ≤ 1048576) :
    Calls Tryd.prog 10 #[.slice a L.length cap] w fun e w' => e = .returned (.tuple #[.string (tt L), .bool (goodT L)]) ∧ Below w.heap.size w w' := by
  have HG := specGood a b off cap L w ha hL hlen
  obtain ⟨G, hG⟩ : ∃ G, Hid (goodT L = G) := ⟨_, rfl⟩
  have hh : tt L = if G = true then bsY (txt L L.length 0) else ⟨#[]⟩ := by unfold tt; rw [hG.out]
  rw [hG.out] at HG ⊢
  rw [hh]
  clear hh
  cases G with
  | false =>
    rw [if_neg (by simp)]
    go_enter Tryd.func10, Tryd.ntmps10
    go_wp2_with (go_at_call 15; refine HG.mono ?_; rintro e w1 ⟨rfl, hb1⟩; clear HG)
    go_ret2
    exact ⟨rfl, hb1⟩
  | true =>
    rw [if_pos rfl]
    have hU := ups_good hG.out
    have h40 : 1 ≤ L.length ∧ L.length ≤ 40 := ⟨hU.1, hU.2.1⟩
    obtain ⟨rfl, hb⟩ := ha.out (fun h => by simp [h] at h40)
    have HF := specText L hG.out L.length 0 (by omega) (by omega)
    rw [TextS] at HF
    obtain ⟨X, hX⟩ : ∃ X, bsY (txt L L.length 0) = X := ⟨_, rfl⟩
    rw [hX] at HF ⊢
    clear hX hU
    go_enter Tryd.func10, Tryd.ntmps10
    go_wp2_with fail
    refine HG.mono ?_
    rintro e w1 ⟨rfl, hb1⟩
    clear HG
    have HT := specTree L h40.2 b off cap L.length 0 (by omega) (by omega) w1 (Nat.lt_of_lt_of_le hb hb1.size) (hL.out.below hb1 hb)
    go_wp2_with fail
    refine HT.mono ?_
    rintro e w2 ⟨sl, rfl, htr, hb2⟩
    clear HT
    have HC := HF w2 _ _ sl htr (Nat.le_refl _)
    clear HF
    go_wp2_with fail
    refine HC.mono ?_
    rintro e w3 ⟨rfl, hb3⟩
    clear HC
    go_wp2
    go_ret2
    exact ⟨rfl, below2 (below2 hb1 hb2) hb3⟩

set_option maxRecDepth 100000 in
set_option maxHeartbeats 1600000 in
theorem typeText_walk (a : Option Addr) (cap : Nat) (L : List Nd) (w : World) (h : IsNds w a L) (hTP : Tabs w ∧ Pows w) :
    Calls Tryd.prog 5 #[.slice a L.length cap] w fun e w' => e = .returned (.bool true) ∧ Below w.heap.size w w' := by
  obtain ⟨b, off, ha, hL, hlen, hfit⟩ := h
  have HSZ := szNds a cap L.length w hlen
  have HT : Hid (Tabs w) := hTP.1
  have HP : Hid (Pows w) := hTP.2
  have HA : Hid (L ≠ [] → a = some ⟨b, off, none⟩ ∧ b < w.heap.size) := ha
  have HL : Hid (ndAt w b off L) := hL
  clear ha hL hTP
  go_enter Tryd.func5, Tryd.ntmps5
  go_wp2_with fail
  refine HSZ.mono ?_
  rintro e w0 ⟨r, rfl, hr, rfl⟩
  clear HSZ
  by_cases hneg : r < 0
  · go_wp2
    go_ret
    exact ⟨rfl, Below.refl _ _⟩
  · have hlen2 : L.length ≤ 1048576 := hr (by omega)
    have h1 := toNds a b off cap L w0 HA HL.out hlen2
    go_wp2_with fail
    refine h1.mono ?_
    rintro e w1 ⟨rfl, hl1, hn1, _, hb1⟩
    clear h1
    have h2 := specTT (some ⟨w0.heap.size, 0, none⟩) w0.heap.size 0 L.length L w1 (fun _ => ⟨rfl, hl1⟩) hn1 hlen2
    go_wp2_with fail
    refine h2.mono ?_
    rintro e w2 ⟨rfl, hb2⟩
    clear h2 hn1
    have hb02 := below2 hb1 hb2
    have HA2 : Hid (L ≠ [] → a = some ⟨b, off, none⟩ ∧ b < w2.heap.size) := fun h => ⟨(HA.out h).1, Nat.lt_of_lt_of_le (HA.out h).2 hb02.size⟩
    have HL2 : Hid (ndAt w2 b off L) := by
      intro i hi
      have hne : L ≠ [] := fun e => by simp [e] at hi
      exact (HL.out.below hb02 (HA.out hne).2) i hi
    have h3 := toNds a b off cap L w2 HA2 HL2.out hlen2
    clear hl1 hb1 hb2
    go_wp2_with fail
    refine h3.mono ?_
    rintro e w3 ⟨rfl, hl3, hn3, _, hb3⟩
    clear h3
    have hb03 := below2 hb02 hb3
    have h4 := implTT (some ⟨w2.heap.size, 0, none⟩) w2.heap.size 0 L.length L w3 (fun _ => ⟨rfl, hl3⟩) hn3 hlen2 (HT.out.below hb03 (Nat.le_refl _)) (HP.out.below hb03 (Nat.le_refl _))
    go_wp2_with fail
    refine h4.mono ?_
    rintro e w4 ⟨rfl, hb4⟩
    clear h4
    have hb04 := below2 hb03 hb4
    have hn4 : ndAt w4 w2.heap.size 0 L := hn3.below hb4 hl3
    have hl4 : w2.heap.size < w4.heap.size := Nat.lt_of_lt_of_le hl3 hb4.size
    have HA4 : Hid (L ≠ [] → a = some ⟨b, off, none⟩ ∧ b < w4.heap.size) := fun h => ⟨(HA.out h).1, Nat.lt_of_lt_of_le (HA.out h).2 hb04.size⟩
    have HL4 : Hid (ndAt w4 b off L) := by
      intro i hi
      have hne : L ≠ [] := fun e => by simp [e] at hi
      exact (HL.out.below hb04 (HA.out hne).2) i hi
    have h5 := toNds a b off cap L w4 HA4 HL4.out hlen2
    clear hb02 hb3 hb4 hn3 hl3 hb03
    obtain ⟨G, hG⟩ : ∃ G, goodT L = G := ⟨_, rfl⟩
    obtain ⟨G2, hG2⟩ : ∃ G, tt L = G := ⟨_, rfl⟩
    rw [hG, hG2]
    clear hG hG2
    go_wp2_with fail
    refine h5.mono ?_
    rintro e w5 ⟨rfl, hl5, hn5, _, hb5⟩
    clear h5
    have hb05 := below2 hb04 hb5
    have h6 := eqNds (some ⟨w2.heap.size, 0, none⟩) (some ⟨w4.heap.size, 0, none⟩) w2.heap.size 0 L.length w4.heap.size 0 L.length L w5 (fun _ => ⟨rfl, Nat.lt_of_lt_of_le hl4 hb5.size⟩) (fun _ => ⟨rfl, hl5⟩) (hn4.below hb5 hl4) hn5 hlen
    go_wp2_with fail
    refine h6.mono ?_
    rintro e w6 ⟨rfl, hb6⟩
    clear h6
    go_wp2
    go_ret
    exact ⟨rfl, below2 hb05 hb6⟩

end Go.Proofs.YtendmemcgbmmlaaDoor
