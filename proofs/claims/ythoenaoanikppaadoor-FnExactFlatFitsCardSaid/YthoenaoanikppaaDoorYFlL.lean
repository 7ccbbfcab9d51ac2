/-
  The core types of a type: both functions, and the law.
-/
import Derived.Test.YthoenaoanikppaaDoorYFl8
import Derived.Test.YthoenaoanikppaaDoorYFl5
import Derived.Test.YthoenaoanikppaaDoorCMarkI
import Derived.Test.YthoenaoanikppaaDoorCKeep
namespace Go.Proofs.YthoenaoanikppaaDoor
open Go.ChangeShapes Go.WideShapes Go.ChangeAt Go.RowKit Go.Deep

theorem iy_iv (l : List Int) : iy l = iv l := rfl
theorem ndAt_nil {w w' : World} {b off : Nat} {L : List Nd} (h : Below w.heap.size w w') (hb : L ≠ [] → b < w.heap.size) (hL : ndAt w b off L) : ndAt w' b off L := by
  by_cases e : L = []
  · subst e; intro i hi; simp at hi
  · exact hL.below h (hb e)
/-- Whether the core types are told. -/
def fb (L : List Nd) : Bool := goodT L && decide ((flat L L.length 0).length ≤ 40)
def fo (L : List Nd) : List Int := if fb L = true then flat L L.length 0 else []
theorem fo_len (L : List Nd) : (fo L).length ≤ 40 := by
  unfold fo
  split
  · rename_i h
    unfold fb at h
    simp at h
    exact h.2
  · simp

set_option maxRecDepth 100000 in
set_option maxHeartbeats 1600000 in
theorem implFlatOf (a : Option Addr) (b off cap : Nat) (L : List Nd) (w : World) (ha : Hid (L ≠ [] → a = some ⟨b, off, none⟩ ∧ b < w.heap.size)) (hL : ndAt w b off L) (hlen : L.length ≤ 1048576) (hT : Tabs w) :
    Calls Tryd.prog 13 #[.slice a L.length cap] w fun e w' => ∃ v, e = .returned (.tuple #[v, .bool (fb L)]) ∧ w'.ownsRow w.heap.size 3 1 v (fo L).length (iv (fo L)) ∧ Below w.heap.size w w' := by
  have HG := implGood a b off cap L w ha hL hlen hT
  obtain ⟨G, hG⟩ : ∃ G, Hid (goodT L = G) := ⟨_, rfl⟩
  rw [hG.out] at HG
  cases G with
  | false =>
    have hf : fb L = false := by unfold fb; rw [hG.out]; rfl
    have hfo : fo L = [] := by unfold fo; rw [hf]; rfl
    rw [hf, hfo]
    clear hf hfo
    go_enter Tryd.func13, Tryd.ntmps13
    go_wp2_with (go_at_call 14; refine HG.mono ?_; rintro e w1 ⟨rfl, hb1⟩; clear HG)
    go_ret2
    exact ⟨_, rfl, World.ownsRow_nil _ _ _ _, hb1⟩
  | true =>
    have hU := ups_good hG.out
    have h40 : 1 ≤ L.length ∧ L.length ≤ 40 := ⟨hU.1, hU.2.1⟩
    obtain ⟨rfl, hb⟩ := ha.out (fun h => by simp [h] at h40)
    have HF := implFlat L hG.out L.length 0 L.length (by omega) (isEnd_whole hU)
    rw [FlatTold, segL_whole hU] at HF
    have hFl := flat_len hU L.length 0 L.length (isEnd_whole hU)
    have hfb : fb L = decide ((flat L L.length 0).length ≤ 40) := by unfold fb; rw [hG.out]; rfl
    have hfo : fo L = if (flat L L.length 0).length ≤ 40 then flat L L.length 0 else [] := by unfold fo; rw [hfb]; simp
    obtain ⟨D, hD⟩ : ∃ D, flat L L.length 0 = D := ⟨_, rfl⟩
    rw [hD] at HF hFl hfb hfo
    rw [hfb, hfo]
    clear hD hfb hfo hU
    by_cases hl : D.length ≤ 40
    · rw [if_pos hl, decide_eq_true hl]
      have hl2 : ¬ (40 : Int) < D.length := by omega
      go_enter Tryd.func13, Tryd.ntmps13
      go_wp2_with fail
      refine HG.mono ?_
      rintro e w1 ⟨rfl, hb1⟩
      clear HG
      have HC := HF w1 b off cap (Nat.lt_of_lt_of_le hb hb1.size) (hL.below hb1 hb)
      clear HF
      go_wp2_with fail
      refine HC.mono ?_
      rintro e w2 ⟨v, rfl, hown, hb2⟩
      clear HC
      obtain ⟨va, vc, rfl⟩ := ownsRow_shape hown
      have hbb := below2 hb1 hb2
      go_wp2
      go_ret2
      exact ⟨_, rfl, own_base hown hb1.size, hbb⟩
    · rw [if_neg hl, decide_eq_false hl]
      have hl2 : (40 : Int) < D.length := by omega
      go_enter Tryd.func13, Tryd.ntmps13
      go_wp2_with fail
      refine HG.mono ?_
      rintro e w1 ⟨rfl, hb1⟩
      clear HG
      have HC := HF w1 b off cap (Nat.lt_of_lt_of_le hb hb1.size) (hL.below hb1 hb)
      clear HF
      go_wp2_with fail
      refine HC.mono ?_
      rintro e w2 ⟨v, rfl, hown, hb2⟩
      clear HC
      obtain ⟨va, vc, rfl⟩ := ownsRow_shape hown
      have hbb := below2 hb1 hb2
      go_wp2
      go_ret2
      exact ⟨_, rfl, World.ownsRow_nil _ _ _ _, hbb⟩

end Go.Proofs.YthoenaoanikppaaDoor
