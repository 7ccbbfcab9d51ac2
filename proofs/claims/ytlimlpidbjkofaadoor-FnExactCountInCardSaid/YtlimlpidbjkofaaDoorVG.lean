/-
  How many nodes a value that fits has: both functions, and the law.
-/
import Derived.Test.YtlimlpidbjkofaaDoorVF
namespace Go.Proofs.YtlimlpidbjkofaaDoor
open Go.ChangeShapes Go.WideShapes Go.ChangeAt Go.RowKit

/-- The number that is told. -/
def cntR (L : List Nd) (V : List Vn) : Int := if fitR L V = true then (V.length : Int) else 0

set_option maxRecDepth 100000 in
set_option maxHeartbeats 1600000 in
theorem implCountIn (a a' : Option Addr) (b off cap b' off' cap' : Nat) (L : List Nd) (V : List Vn) (w : World) (ha : Hid (L ≠ [] → a = some ⟨b, off, none⟩ ∧ b < w.heap.size)) (hL : Hid (ndAt w b off L)) (hlen : L.length ≤ 1048576) (ha' : Hid (V ≠ [] → a' = some ⟨b', off', none⟩ ∧ b' < w.heap.size)) (hV : Hid (vlAt w b' off' V)) (hlen' : V.length ≤ 1048576) (hVs : Hid (∀ x ∈ V, x.2.1.size ≤ 1048576)) (hT : Hid (Tabs w)) (hB : Hid (BTabs w)) (hU : Hid (UTabs w)) :
    Calls Tryd.prog 21 #[.slice a L.length cap, .slice a' V.length cap'] w fun e w' => e = .returned (.tuple #[.int .i64 (cntR L V), .bool (fitR L V)]) ∧ Below w.heap.size w w' := by
  have H := implFitsType a a' b off cap b' off' cap' L V w ha hL hlen ha' hV hlen' hVs hT hB hU
  obtain ⟨F, hF⟩ : ∃ F, fitR L V = F := ⟨_, rfl⟩
  have hC : cntR L V = if F = true then (V.length : Int) else 0 := by unfold cntR; rw [hF]
  rw [hF] at H ⊢
  rw [hC]
  clear hF hC
  cases F with
  | false =>
    rw [if_neg (by simp)]
    go_enter Tryd.func21, Tryd.ntmps21
    go_wp2_with (go_at_call 12; refine H.mono ?_; rintro e w1 ⟨rfl, hb1⟩; clear H)
    go_ret2
    exact ⟨rfl, hb1⟩
  | true =>
    rw [if_pos rfl]
    go_enter Tryd.func21, Tryd.ntmps21
    go_wp2_with (go_at_call 12; refine H.mono ?_; rintro e w1 ⟨rfl, hb1⟩; clear H)
    go_ret2
    exact ⟨rfl, hb1⟩

set_option maxRecDepth 100000 in
set_option maxHeartbeats 1600000 in
theorem specCountIn (a a' : Option Addr) (b off cap b' off' cap' : Nat) (L : List Nd) (V : List Vn) (w : World) (ha : Hid (L ≠ [] → a = some ⟨b, off, none⟩ ∧ b < w.heap.size)) (hL : Hid (ndAt w b off L)) (hlen : L.length ≤ 1048576) (ha' : Hid (V ≠ [] → a' = some ⟨b', off', none⟩ ∧ b' < w.heap.size)) (hV : Hid (vlAt w b' off' V)) (hlen' : V.length ≤ 1048576) (hVs : Hid (∀ x ∈ V, x.2.1.size ≤ 1048576)) :
    Calls Tryd.prog 20 #[.slice a L.length cap, .slice a' V.length cap'] w fun e w' => e = .returned (.tuple #[.int .i64 (cntR L V), .bool (fitR L V)]) ∧ Below w.heap.size w w' := by
  have H := specFitsType a a' b off cap b' off' cap' L V w ha hL hlen ha' hV hlen' hVs
  obtain ⟨F, hF⟩ : ∃ F, fitR L V = F := ⟨_, rfl⟩
  have hC : cntR L V = if F = true then (V.length : Int) else 0 := by unfold cntR; rw [hF]
  rw [hF] at H ⊢
  rw [hC]
  clear hF hC
  cases F with
  | false =>
    rw [if_neg (by simp)]
    go_enter Tryd.func20, Tryd.ntmps20
    go_wp2_with (go_at_call 9; refine H.mono ?_; rintro e w1 ⟨rfl, hb1⟩; clear H)
    go_ret2
    exact ⟨rfl, hb1⟩
  | true =>
    rw [if_pos rfl]
    go_enter Tryd.func20, Tryd.ntmps20
    go_wp2_with (go_at_call 9; refine H.mono ?_; rintro e w1 ⟨rfl, hb1⟩; clear H)
    go_ret2
    exact ⟨rfl, hb1⟩

set_option maxRecDepth 100000 in
set_option maxHeartbeats 1600000 in
theorem countIn_walk (a a' : Option Addr) (cap cap' : Nat) (L : List Nd) (V : List Vn) (w : World) (h : IsNds w a L) (h' : IsVals w a' V) (hTT : Tabs w ∧ BTabs w ∧ UTabs w) :
    Calls Tryd.prog 5 #[.slice a L.length cap, .slice a' V.length cap'] w fun e w' => e = .returned (.bool true) ∧ Below w.heap.size w w' := by
  obtain ⟨b, off, ha, hL, hlen, hfit⟩ := h
  obtain ⟨b', off', ha', hV, hlen', hfit'⟩ := h'
  have HSZ := szNdsR a cap L.length w hlen
  have HT : Hid (Tabs w) := hTT.1
  have HB : Hid (BTabs w) := hTT.2.1
  have HU : Hid (UTabs w) := hTT.2.2
  have HA : Hid (L ≠ [] → a = some ⟨b, off, none⟩ ∧ b < w.heap.size) := ha
  have HL : Hid (ndAt w b off L) := hL
  have HA' : Hid (V ≠ [] → a' = some ⟨b', off', none⟩ ∧ b' < w.heap.size) := ha'
  have HV : Hid (vlAt w b' off' V) := hV
  have HFS : Hid (∀ x ∈ V, x.2.1.size ≤ 9223372036854775807) := fun x hx => (hfit' x hx).2.1
  have KA : Hid (∀ W, Below w.heap.size w W → (L ≠ [] → a = some ⟨b, off, none⟩ ∧ b < W.heap.size) ∧ ndAt W b off L ∧ (V ≠ [] → a' = some ⟨b', off', none⟩ ∧ b' < W.heap.size) ∧ vlAt W b' off' V) := fun W hW => ⟨fun h => ⟨(ha h).1, Nat.lt_of_lt_of_le (ha h).2 hW.size⟩, nds_keep hL ha hW, fun h => ⟨(ha' h).1, Nat.lt_of_lt_of_le (ha' h).2 hW.size⟩, vals_keep hV ha' hW⟩
  clear ha hL hTT ha' hV hfit hfit'
  go_enter Tryd.func5, Tryd.ntmps5
  go_wp2_with fail
  refine HSZ.mono ?_
  rintro e w0 ⟨r, rfl, hr9, hr, rfl⟩
  clear HSZ
  by_cases hneg : r < 0
  · go_wp2
    go_ret
    exact ⟨rfl, Below.refl _ _⟩
  · have hlen2 : L.length ≤ 1048576 := hr (by omega)
    have HS2 := szVals a' b' off' cap' V r w0 HA' HV.out hlen' HFS ⟨by omega, hr9.2⟩
    clear hr hr9
    go_wp2_with fail
    refine HS2.mono ?_
    rintro e w1 ⟨r2, rfl, _, hr2, hb1⟩
    clear HS2 hneg
    by_cases hneg : r2 < 0
    · go_wp2
      go_ret
      exact ⟨rfl, hb1⟩
    · obtain ⟨hlenV, hVs⟩ := hr2 (by omega)
      have HVs : Hid (∀ x ∈ V, x.2.1.size ≤ 1048576) := hVs
      clear hVs hr2
      obtain ⟨x1, x2, x3, x4⟩ := KA.out w1 hb1
      have h1 := toNds a b off cap L w1 x1 x2 hlen2
      clear x1 x2 x3 x4
      go_wp2_with fail
      refine h1.mono ?_
      rintro e w2 ⟨rfl, hl2, hn2, _, hb2'⟩
      have hb2 := below2 hb1 hb2'
      clear h1 hb2'
      obtain ⟨x1, x2, x3, x4⟩ := KA.out w2 hb2
      have h2 := toVals a' b' off' cap' V w2 x3 x4 hlenV
      clear x1 x2 x3 x4
      go_wp2_with fail
      refine h2.mono ?_
      rintro e w3 ⟨rfl, hl3, hn3, _, hb3'⟩
      have hb3 := below2 hb2 hb3'
      have h3 := specCountIn (some ⟨w1.heap.size, 0, none⟩) (some ⟨w2.heap.size, 0, none⟩) w1.heap.size 0 L.length w2.heap.size 0 V.length L V w3 (fun _ => ⟨rfl, Nat.lt_of_lt_of_le hl2 hb3'.size⟩) (hn2.below hb3' hl2) hlen2 (fun _ => ⟨rfl, hl3⟩) hn3 hlenV HVs
      clear h2 hb3' hn2 hn3 hl2 hl3
      go_wp2_with fail
      refine h3.mono ?_
      rintro e w4 ⟨rfl, hb4'⟩
      have hb4 := below2 hb3 hb4'
      clear h3 hb4' hb1 hb2 hb3
      obtain ⟨x1, x2, x3, x4⟩ := KA.out w4 hb4
      have h4 := toNds a b off cap L w4 x1 x2 hlen2
      clear x1 x2 x3 x4
      go_wp2_with fail
      refine h4.mono ?_
      rintro e w5 ⟨rfl, hl5, hn5, _, hb5'⟩
      have hb5 := below2 hb4 hb5'
      clear h4 hb5'
      obtain ⟨x1, x2, x3, x4⟩ := KA.out w5 hb5
      have h5 := toVals a' b' off' cap' V w5 x3 x4 hlenV
      clear x1 x2 x3 x4
      go_wp2_with fail
      refine h5.mono ?_
      rintro e w6 ⟨rfl, hl6, hn6, _, hb6'⟩
      have hb6 := below2 hb5 hb6'
      have hn56 := hn5.below hb6' hl5
      have hl56 := Nat.lt_of_lt_of_le hl5 hb6'.size
      have h6 := implCountIn (some ⟨w4.heap.size, 0, none⟩) (some ⟨w5.heap.size, 0, none⟩) w4.heap.size 0 L.length w5.heap.size 0 V.length L V w6 (fun _ => ⟨rfl, hl56⟩) hn56 hlen2 (fun _ => ⟨rfl, hl6⟩) hn6 hlenV HVs (HT.out.below hb6 (Nat.le_refl _)) (HB.out.below hb6 (Nat.le_refl _)) (Utf8Tabs_below HU.out hb6)
      clear h5 hb6' hn5 hl5 hb4 hb5
      obtain ⟨F, hF⟩ : ∃ F, fitR L V = F := ⟨_, rfl⟩
      obtain ⟨C, hC⟩ : ∃ C, cntR L V = C := ⟨_, rfl⟩
      rw [hF, hC] at h6 ⊢
      clear hF hC
      go_wp2_with fail
      refine h6.mono ?_
      rintro e w7 ⟨rfl, hb7'⟩
      have hb7 := below2 hb6 hb7'
      have hn7 := hn56.below hb7' hl56
      have hl7 := Nat.lt_of_lt_of_le hl56 hb7'.size
      have hn7v := hn6.below hb7' hl6
      have hl7v := Nat.lt_of_lt_of_le hl6 hb7'.size
      clear h6 hb7' hn56 hl56 hn6 hl6 hb6
      obtain ⟨x1, x2, x3, x4⟩ := KA.out w7 hb7
      have h7 := toNds a b off cap L w7 x1 x2 hlen2
      clear x1 x2 x3 x4
      go_wp2_with fail
      refine h7.mono ?_
      rintro e w8 ⟨rfl, hl8, hn8, _, hb8'⟩
      have hb8 := below2 hb7 hb8'
      have h8 := eqNds (some ⟨w4.heap.size, 0, none⟩) (some ⟨w7.heap.size, 0, none⟩) w4.heap.size 0 L.length w7.heap.size 0 L.length L w8 (fun _ => ⟨rfl, Nat.lt_of_lt_of_le hl7 hb8'.size⟩) (fun _ => ⟨rfl, hl8⟩) (hn7.below hb8' hl7) hn8 hlen
      have hn8v := hn7v.below hb8' hl7v
      have hl8v := Nat.lt_of_lt_of_le hl7v hb8'.size
      clear h7 hb8' hn7 hl7 hn8 hl8 hn7v hl7v hb7
      go_wp2_with fail
      refine h8.mono ?_
      rintro e w9 ⟨rfl, hb9'⟩
      have hb9 := below2 hb8 hb9'
      have hn9v := hn8v.below hb9' hl8v
      have hl9v := Nat.lt_of_lt_of_le hl8v hb9'.size
      clear h8 hb9' hn8v hl8v hb8
      obtain ⟨x1, x2, x3, x4⟩ := KA.out w9 hb9
      have h9 := toVals a' b' off' cap' V w9 x3 x4 hlenV
      clear x1 x2 x3 x4
      go_wp2_with fail
      refine h9.mono ?_
      rintro e w10 ⟨rfl, hl10, hn10, _, hb10'⟩
      have hb10 := below2 hb9 hb10'
      have h10 := eqVals (some ⟨w5.heap.size, 0, none⟩) (some ⟨w9.heap.size, 0, none⟩) w5.heap.size 0 V.length w9.heap.size 0 V.length V w10 (fun _ => ⟨rfl, Nat.lt_of_lt_of_le hl9v hb10'.size⟩) (fun _ => ⟨rfl, hl10⟩) (hn9v.below hb10' hl9v) hn10 hlen'
      clear h9 hb10' hn9v hl9v hn10 hl10 hb9
      go_wp2_with fail
      refine h10.mono ?_
      rintro e w11 ⟨rfl, hb11⟩
      clear h10
      go_wp2
      go_ret
      exact ⟨rfl, below2 hb10 hb11⟩


end Go.Proofs.YtlimlpidbjkofaaDoor
