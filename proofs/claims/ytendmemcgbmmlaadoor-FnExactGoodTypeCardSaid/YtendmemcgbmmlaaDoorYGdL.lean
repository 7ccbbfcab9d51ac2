/-
  Which rows of nodes are types: the law.
-/
import Derived.Test.YtendmemcgbmmlaaDoorYGd5
namespace Go.Proofs.YtendmemcgbmmlaaDoor
open Go.ChangeShapes Go.WideShapes Go.ChangeAt Go.RowKit

set_option maxRecDepth 100000 in
set_option maxHeartbeats 1600000 in
theorem goodType_walk (a : Option Addr) (cap : Nat) (L : List Nd) (w : World) (h : IsNds w a L) (hT : Tabs w) :
    Calls Tryd.prog 4 #[.slice a L.length cap] w fun e w' => e = .returned (.bool true) ∧ Below w.heap.size w w' := by
  obtain ⟨b, off, ha, hL, hlen, hfit⟩ := h
  have HSZ := szNds a cap L.length w hlen
  have HT : Hid (Tabs w) := hT
  have HA : Hid (L ≠ [] → a = some ⟨b, off, none⟩ ∧ b < w.heap.size) := ha
  have HL : Hid (ndAt w b off L) := hL
  clear ha hL hT
  go_enter Tryd.func4, Tryd.ntmps4
  go_wp2_with fail
  refine HSZ.mono ?_
  rintro e w0 ⟨r, rfl, hr, rfl⟩
  clear HSZ
  by_cases hneg : r < 0
  · go_wp2
    go_ret
    exact ⟨rfl, Below.refl _ _⟩
  · have hlen2 : L.length ≤ 1048576 := hr (by omega)
    have h1 := toNds a b off cap L w0 HA HL.out hlen2
    go_wp2_with fail
    refine h1.mono ?_
    rintro e w1 ⟨rfl, hl1, hn1, _, hb1⟩
    clear h1
    have h2 := specGood (some ⟨w0.heap.size, 0, none⟩) w0.heap.size 0 L.length L w1 (fun _ => ⟨rfl, hl1⟩) hn1 hlen2
    go_wp2_with fail
    refine h2.mono ?_
    rintro e w2 ⟨rfl, hb2⟩
    clear h2 hn1
    have hb02 := below2 hb1 hb2
    have HA2 : Hid (L ≠ [] → a = some ⟨b, off, none⟩ ∧ b < w2.heap.size) := fun h => ⟨(HA.out h).1, Nat.lt_of_lt_of_le (HA.out h).2 hb02.size⟩
    have HL2 : Hid (ndAt w2 b off L) := by
      intro i hi
      have hne : L ≠ [] := fun e => by simp [e] at hi
      exact (HL.out.below hb02 (HA.out hne).2) i hi
    have h3 := toNds a b off cap L w2 HA2 HL2.out hlen2
    clear hl1 hb1 hb2
    go_wp2_with fail
    refine h3.mono ?_
    rintro e w3 ⟨rfl, hl3, hn3, _, hb3⟩
    clear h3
    have hb03 := below2 hb02 hb3
    have h4 := implGood (some ⟨w2.heap.size, 0, none⟩) w2.heap.size 0 L.length L w3 (fun _ => ⟨rfl, hl3⟩) hn3 hlen2 (HT.out.below hb03 (Nat.le_refl _))
    go_wp2_with fail
    refine h4.mono ?_
    rintro e w4 ⟨rfl, hb4⟩
    clear h4
    have hb04 := below2 hb03 hb4
    have hn4 : ndAt w4 w2.heap.size 0 L := hn3.below hb4 hl3
    have hl4 : w2.heap.size < w4.heap.size := Nat.lt_of_lt_of_le hl3 hb4.size
    have HA4 : Hid (L ≠ [] → a = some ⟨b, off, none⟩ ∧ b < w4.heap.size) := fun h => ⟨(HA.out h).1, Nat.lt_of_lt_of_le (HA.out h).2 hb04.size⟩
    have HL4 : Hid (ndAt w4 b off L) := by
      intro i hi
      have hne : L ≠ [] := fun e => by simp [e] at hi
      exact (HL.out.below hb04 (HA.out hne).2) i hi
    have h5 := toNds a b off cap L w4 HA4 HL4.out hlen2
    clear hb02 hb3 hb4 hn3 hl3 hb03
    obtain ⟨G, hG⟩ : ∃ G, goodT L = G := ⟨_, rfl⟩
    rw [hG]
    clear hG
    go_wp2_with fail
    refine h5.mono ?_
    rintro e w5 ⟨rfl, hl5, hn5, _, hb5⟩
    clear h5
    have hb05 := below2 hb04 hb5
    have h6 := eqNds (some ⟨w2.heap.size, 0, none⟩) (some ⟨w4.heap.size, 0, none⟩) w2.heap.size 0 L.length w4.heap.size 0 L.length L w5 (fun _ => ⟨rfl, Nat.lt_of_lt_of_le hl4 hb5.size⟩) (fun _ => ⟨rfl, hl5⟩) (hn4.below hb5 hl4) hn5 hlen
    go_wp2_with fail
    refine h6.mono ?_
    rintro e w6 ⟨rfl, hb6⟩
    clear h6
    go_wp2
    go_ret
    exact ⟨rfl, below2 hb05 hb6⟩

end Go.Proofs.YtendmemcgbmmlaaDoor
