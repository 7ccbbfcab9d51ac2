/-
  Texts of types: both functions, and the law.
-/
import Derived.Test.YtebendaiokchdaaDoorYTx5
namespace Go.Proofs.YtebendaiokchdaaDoor
open Go.ChangeShapes Go.WideShapes Go.ChangeAt Go.RowKit

/-- The text that is told. -/
def tt (L : List Nd) : ByteArray := if goodT L = true then bsY (txt L L.length 0) else ⟨#[]⟩

set_option maxRecDepth 100000 in
set_option maxHeartbeats 1600000 in
theorem implTT (a : Option Addr) (b off cap : Nat) (L : List Nd) (w : World) (ha : Hid (L ≠ [] → a = some ⟨b, off, none⟩ ∧ b < w.heap.size)) (hL : Hid (ndAt w b off L)) (hlen : L.length ≤ 1048576) (hT : Hid (Tabs w)) (hP : Hid (Pows w)) :
    Calls Tryd.prog 5 #[.slice a L.length cap] w fun e w' => e = .returned (.tuple #[.string (tt L), .bool (goodT L)]) ∧ Below w.heap.size w w' := by
  have HG := implGood a b off cap L w ha hL hlen hT
  obtain ⟨G, hG⟩ : ∃ G, Hid (goodT L = G) := ⟨_, rfl⟩
  have hh : tt L = if G = true then bsY (txt L L.length 0) else ⟨#[]⟩ := by unfold tt; rw [hG.out]
  rw [hG.out] at HG ⊢
  rw [hh]
  clear hh
  cases G with
  | false =>
    rw [if_neg (by simp)]
    go_enter Tryd.func5, Tryd.ntmps5
    go_wp2_with (go_at_call 11; refine HG.mono ?_; rintro e w1 ⟨rfl, hb1⟩; clear HG)
    go_ret2
    exact ⟨rfl, hb1⟩
  | true =>
    rw [if_pos rfl]
    have hU := ups_good hG.out
    have h40 : 1 ≤ L.length ∧ L.length ≤ 40 := ⟨hU.1, hU.2.1⟩
    obtain ⟨rfl, hb⟩ := ha.out (fun h => by simp [h] at h40)
    have HF := implText L hG.out L.length 0 L.length (by omega) (isEnd_whole hU)
    rw [TextI, segL_whole hU] at HF
    obtain ⟨X, hX⟩ : ∃ X, bsY (txt L L.length 0) = X := ⟨_, rfl⟩
    rw [hX] at HF ⊢
    clear hX hU
    go_enter Tryd.func5, Tryd.ntmps5
    go_wp2_with fail
    refine HG.mono ?_
    rintro e w1 ⟨rfl, hb1⟩
    clear HG
    have HC := HF w1 b off cap (Nat.lt_of_lt_of_le hb hb1.size) (hL.out.below hb1 hb) (hT.out.below hb1 (Nat.le_refl _)) (hP.out.below hb1 (Nat.le_refl _))
    clear HF
    go_wp2_with fail
    refine HC.mono ?_
    rintro e w2 ⟨rfl, hb2⟩
    clear HC
    go_wp2
    go_ret2
    exact ⟨rfl, below2 hb1 hb2⟩

set_option maxRecDepth 100000 in
set_option maxHeartbeats 1600000 in
theorem specTT (a : Option Addr) (b off cap : Nat) (L : List Nd) (w : World) (ha : Hid (L ≠ [] → a = some ⟨b, off, none⟩ ∧ b < w.heap.size)) (hL : Hid (ndAt w b off L)) (hlen : L.length ≤ 1048576) :
    Calls Tryd.prog 6 #[.slice a L.length cap] w fun e w' => e = .returned (.tuple #[.string (tt L), .bool (goodT L)]) ∧ Below w.heap.size w w' := by
  have HG := specGood a b off cap L w ha hL hlen
  obtain ⟨G, hG⟩ : ∃ G, Hid (goodT L = G) := ⟨_, rfl⟩
  have hh : tt L = if G = true then bsY (txt L L.length 0) else ⟨#[]⟩ := by unfold tt; rw [hG.out]
  rw [hG.out] at HG ⊢
  rw [hh]
  clear hh
  cases G with
  | false =>
    rw [if_neg (by simp)]
    go_enter Tryd.func6, Tryd.ntmps6
    go_wp2_with (go_at_call 13; refine HG.mono ?_; rintro e w1 ⟨rfl, hb1⟩; clear HG)
    go_ret2
    exact ⟨rfl, hb1⟩
  | true =>
    rw [if_pos rfl]
    have hU := ups_good hG.out
    have h40 : 1 ≤ L.length ∧ L.length ≤ 40 := ⟨hU.1, hU.2.1⟩
    obtain ⟨rfl, hb⟩ := ha.out (fun h => by simp [h] at h40)
    have HF := specText L hG.out L.length 0 (by omega) (by omega)
    rw [TextS] at HF
    obtain ⟨X, hX⟩ : ∃ X, bsY (txt L L.length 0) = X := ⟨_, rfl⟩
    rw [hX] at HF ⊢
    clear hX hU
    go_enter Tryd.func6, Tryd.ntmps6
    go_wp2_with fail
    refine HG.mono ?_
    rintro e w1 ⟨rfl, hb1⟩
    clear HG
    have HT := specTree L h40.2 b off cap L.length 0 (by omega) (by omega) w1 (Nat.lt_of_lt_of_le hb hb1.size) (hL.out.below hb1 hb)
    go_wp2_with fail
    refine HT.mono ?_
    rintro e w2 ⟨sl, rfl, htr, hb2⟩
    clear HT
    have HC := HF w2 _ _ sl htr (Nat.le_refl _)
    clear HF
    go_wp2_with fail
    refine HC.mono ?_
    rintro e w3 ⟨rfl, hb3⟩
    clear HC
    go_wp2
    go_ret2
    exact ⟨rfl, below2 (below2 hb1 hb2) hb3⟩

end Go.Proofs.YtebendaiokchdaaDoor
