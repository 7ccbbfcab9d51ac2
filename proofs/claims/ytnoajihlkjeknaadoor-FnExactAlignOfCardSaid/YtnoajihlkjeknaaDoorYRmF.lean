/-
  Sizes and aligns of types: both functions, and the laws.
-/
import Derived.Test.YtnoajihlkjeknaaDoorYRmE
namespace Go.Proofs.YtnoajihlkjeknaaDoor
open Go.ChangeShapes Go.WideShapes Go.ChangeAt Go.RowKit
open Go.Maps (Keyed IsMap)

theorem fldR0 (x0 x1 : Value) (w : World) : (Instr.field 57 (.agg #[x0, x1]) 0).run Tryd.prog w = .ok x0 w := by kernel_rfl
theorem fldR1 (x0 x1 : Value) (w : World) : (Instr.field 57 (.agg #[x0, x1]) 1).run Tryd.prog w = .ok x1 w := by kernel_rfl

/-- The number that is told. -/
def rnS (L : List Nd) : Int := if goodT L = true then ((rm L L.length 0).1 : Int) else 0

set_option maxRecDepth 100000 in
set_option maxHeartbeats 1600000 in
theorem implSizeOf (a : Option Addr) (b off cap : Nat) (L : List Nd) (w : World) (ha : Hid (L ≠ [] → a = some ⟨b, off, none⟩ ∧ b < w.heap.size)) (hL : Hid (ndAt w b off L)) (hlen : L.length ≤ 1048576) (hT : Hid (Tabs w)) :
    Calls Tryd.prog 12 #[.slice a L.length cap] w fun e w' => e = .returned (.tuple #[.int .i64 (rnS L), .bool (goodT L)]) ∧ Below w.heap.size w w' := by
  have HG := implGood a b off cap L w ha hL hlen hT
  obtain ⟨G, hG⟩ : ∃ G, Hid (goodT L = G) := ⟨_, rfl⟩
  have hh : rnS L = if G = true then ((rm L L.length 0).1 : Int) else 0 := by unfold rnS; rw [hG.out]
  rw [hG.out] at HG ⊢
  rw [hh]
  clear hh
  cases G with
  | false =>
    rw [if_neg (by simp)]
    go_enter Tryd.func12, Tryd.ntmps12
    go_wp2_with (go_at_call 34; refine HG.mono ?_; rintro e w1 ⟨rfl, hb1⟩; clear HG)
    go_ret2
    exact ⟨rfl, hb1⟩
  | true =>
    rw [if_pos rfl]
    have hU := ups_good hG.out
    have h40 : 1 ≤ L.length ∧ L.length ≤ 40 := ⟨hU.1, hU.2.1⟩
    obtain ⟨rfl, hb⟩ := ha.out (fun h => by simp [h] at h40)
    have HF := implRooms L hG.out L.length 0 L.length (by omega) (isEnd_whole hU)
    rw [OfI, segL_whole hU] at HF
    obtain ⟨⟨s, a⟩, hX⟩ : ∃ X, rm L L.length 0 = X := ⟨_, rfl⟩
    rw [hX] at HF ⊢
    have HF' : Hid (∀ (w : World) (b off cap B n : Nat), b < w.heap.size → b ≠ B → Hid (ndAt w b off L) → Hid (Tabs w) → B ≠ 0 → Hid (Known L w B n) → n + (L.length - 0) ≤ 1000 →
      Calls Tryd.prog 35 #[.map (some B), .slice (some ⟨b, off, none⟩) L.length cap] w fun r w' => r = .returned (.agg #[.int .i64 (s : Int), .int .i64 (a : Int)]) ∧ Known L w' B (n + (L.length - 0)) ∧ w.grownBy w' (some B)) := HF
    clear hX hU HF
    have HTL := hT.out.1
    have hmm := @run_makeMap Tryd.prog
    have hfl := fldR0
    go_enter Tryd.func12, Tryd.ntmps12
    go_wp2_with fail
    refine HG.mono ?_
    rintro e w1 ⟨rfl, hb1⟩
    clear HG
    have hm1 : Below w.heap.size w (w1.alloc (.map #[] 0)) := hb1.alloc hb1.size _
    have HC := HF'.out (w1.alloc (.map #[] 0)) b off cap w1.heap.size 0 (Nat.lt_of_lt_of_le hb hm1.size) (by have := hb1.size; omega) (hL.out.below hm1 hb) (hT.out.below hm1 (Nat.le_refl _)) (by have := hb1.size; omega) (Known.made L w1) (by omega)
    have hsz1 := hb1.size
    clear HF'
    go_wp2_with fail
    refine HC.mono ?_
    rintro e w2 ⟨rfl, _, hg2⟩
    clear HC
    have hb2 : Below w.heap.size w w2 := hm1.trans ⟨hg2.os, hg2.tape, hg2.output, hg2.size, fun k hk => hg2.block k (Nat.lt_of_lt_of_le hk hm1.size) (by simp; omega)⟩
    clear hg2
    go_wp2
    go_ret2
    exact ⟨rfl, hb2⟩

set_option maxRecDepth 100000 in
set_option maxHeartbeats 1600000 in
theorem specSizeOf (a : Option Addr) (b off cap : Nat) (L : List Nd) (w : World) (ha : Hid (L ≠ [] → a = some ⟨b, off, none⟩ ∧ b < w.heap.size)) (hL : Hid (ndAt w b off L)) (hlen : L.length ≤ 1048576) :
    Calls Tryd.prog 10 #[.slice a L.length cap] w fun e w' => e = .returned (.tuple #[.int .i64 (rnS L), .bool (goodT L)]) ∧ Below w.heap.size w w' := by
  have HG := specGood a b off cap L w ha hL hlen
  obtain ⟨G, hG⟩ : ∃ G, Hid (goodT L = G) := ⟨_, rfl⟩
  have hh : rnS L = if G = true then ((rm L L.length 0).1 : Int) else 0 := by unfold rnS; rw [hG.out]
  rw [hG.out] at HG ⊢
  rw [hh]
  clear hh
  cases G with
  | false =>
    rw [if_neg (by simp)]
    go_enter Tryd.func10, Tryd.ntmps10
    go_wp2_with (go_at_call 30; refine HG.mono ?_; rintro e w1 ⟨rfl, hb1⟩; clear HG)
    go_ret2
    exact ⟨rfl, hb1⟩
  | true =>
    rw [if_pos rfl]
    have hU := ups_good hG.out
    have h40 : 1 ≤ L.length ∧ L.length ≤ 40 := ⟨hU.1, hU.2.1⟩
    obtain ⟨rfl, hb⟩ := ha.out (fun h => by simp [h] at h40)
    have HF := specRoom L hG.out L.length 0 (by omega) (by omega)
    rw [RoomTold] at HF
    obtain ⟨⟨s, a⟩, hX⟩ : ∃ X, rm L L.length 0 = X := ⟨_, rfl⟩
    rw [hX] at HF ⊢
    clear hX hU
    go_enter Tryd.func10, Tryd.ntmps10
    go_wp2_with fail
    refine HG.mono ?_
    rintro e w1 ⟨rfl, hb1⟩
    clear HG
    have HT := specTree L h40.2 b off cap L.length 0 (by omega) (by omega) w1 (Nat.lt_of_lt_of_le hb hb1.size) (hL.out.below hb1 hb)
    go_wp2_with fail
    refine HT.mono ?_
    rintro e w2 ⟨sl, rfl, htr, hb2⟩
    clear HT
    have HC := HF w2 _ _ sl htr (Nat.le_refl _)
    clear HF
    go_wp2_with fail
    refine HC.mono ?_
    rintro e w3 ⟨rfl, hb3⟩
    clear HC
    go_wp2
    go_ret2
    exact ⟨rfl, below2 (below2 hb1 hb2) hb3⟩

set_option maxRecDepth 100000 in
set_option maxHeartbeats 1600000 in
theorem sizeOf_walk (a : Option Addr) (cap : Nat) (L : List Nd) (w : World) (h : IsNds w a L) (hT : Tabs w) :
    Calls Tryd.prog 3 #[.slice a L.length cap] w fun e w' => e = .returned (.bool true) ∧ Below w.heap.size w w' := by
  obtain ⟨b, off, ha, hL, hlen, hfit⟩ := h
  have HSZ := szNds a cap L.length w hlen
  have HT : Hid (Tabs w) := hT
  have HA : Hid (L ≠ [] → a = some ⟨b, off, none⟩ ∧ b < w.heap.size) := ha
  have HL : Hid (ndAt w b off L) := hL
  clear ha hL hT
  go_enter Tryd.func3, Tryd.ntmps3
  go_wp2_with fail
  refine HSZ.mono ?_
  rintro e w0 ⟨r, rfl, hr, rfl⟩
  clear HSZ
  by_cases hneg : r < 0
  · go_wp2
    go_ret
    exact ⟨rfl, Below.refl _ _⟩
  · have hlen2 : L.length ≤ 1048576 := hr (by omega)
    have h1 := toNds a b off cap L w0 HA HL.out hlen2
    go_wp2_with fail
    refine h1.mono ?_
    rintro e w1 ⟨rfl, hl1, hn1, _, hb1⟩
    clear h1
    have h2 := specSizeOf (some ⟨w0.heap.size, 0, none⟩) w0.heap.size 0 L.length L w1 (fun _ => ⟨rfl, hl1⟩) hn1 hlen2
    go_wp2_with fail
    refine h2.mono ?_
    rintro e w2 ⟨rfl, hb2⟩
    clear h2 hn1
    have hb02 := below2 hb1 hb2
    have HA2 : Hid (L ≠ [] → a = some ⟨b, off, none⟩ ∧ b < w2.heap.size) := fun h => ⟨(HA.out h).1, Nat.lt_of_lt_of_le (HA.out h).2 hb02.size⟩
    have HL2 : Hid (ndAt w2 b off L) := by
      intro i hi
      have hne : L ≠ [] := fun e => by simp [e] at hi
      exact (HL.out.below hb02 (HA.out hne).2) i hi
    have h3 := toNds a b off cap L w2 HA2 HL2.out hlen2
    clear hl1 hb1 hb2
    go_wp2_with fail
    refine h3.mono ?_
    rintro e w3 ⟨rfl, hl3, hn3, _, hb3⟩
    clear h3
    have hb03 := below2 hb02 hb3
    have h4 := implSizeOf (some ⟨w2.heap.size, 0, none⟩) w2.heap.size 0 L.length L w3 (fun _ => ⟨rfl, hl3⟩) hn3 hlen2 (HT.out.below hb03 (Nat.le_refl _))
    go_wp2_with fail
    refine h4.mono ?_
    rintro e w4 ⟨rfl, hb4⟩
    clear h4
    have hb04 := below2 hb03 hb4
    have hn4 : ndAt w4 w2.heap.size 0 L := hn3.below hb4 hl3
    have hl4 : w2.heap.size < w4.heap.size := Nat.lt_of_lt_of_le hl3 hb4.size
    have HA4 : Hid (L ≠ [] → a = some ⟨b, off, none⟩ ∧ b < w4.heap.size) := fun h => ⟨(HA.out h).1, Nat.lt_of_lt_of_le (HA.out h).2 hb04.size⟩
    have HL4 : Hid (ndAt w4 b off L) := by
      intro i hi
      have hne : L ≠ [] := fun e => by simp [e] at hi
      exact (HL.out.below hb04 (HA.out hne).2) i hi
    have h5 := toNds a b off cap L w4 HA4 HL4.out hlen2
    clear hb02 hb3 hb4 hn3 hl3 hb03
    obtain ⟨G, hG⟩ : ∃ G, goodT L = G := ⟨_, rfl⟩
    obtain ⟨G2, hG2⟩ : ∃ G, rnS L = G := ⟨_, rfl⟩
    rw [hG, hG2]
    clear hG hG2
    go_wp2_with fail
    refine h5.mono ?_
    rintro e w5 ⟨rfl, hl5, hn5, _, hb5⟩
    clear h5
    have hb05 := below2 hb04 hb5
    have h6 := eqNds (some ⟨w2.heap.size, 0, none⟩) (some ⟨w4.heap.size, 0, none⟩) w2.heap.size 0 L.length w4.heap.size 0 L.length L w5 (fun _ => ⟨rfl, Nat.lt_of_lt_of_le hl4 hb5.size⟩) (fun _ => ⟨rfl, hl5⟩) (hn4.below hb5 hl4) hn5 hlen
    go_wp2_with fail
    refine h6.mono ?_
    rintro e w6 ⟨rfl, hb6⟩
    clear h6
    go_wp2
    go_ret
    exact ⟨rfl, below2 hb05 hb6⟩

/-- The number that is told. -/
def rnA (L : List Nd) : Int := if goodT L = true then ((rm L L.length 0).2 : Int) else 0

set_option maxRecDepth 100000 in
set_option maxHeartbeats 1600000 in
theorem implAlignOf (a : Option Addr) (b off cap : Nat) (L : List Nd) (w : World) (ha : Hid (L ≠ [] → a = some ⟨b, off, none⟩ ∧ b < w.heap.size)) (hL : Hid (ndAt w b off L)) (hlen : L.length ≤ 1048576) (hT : Hid (Tabs w)) :
    Calls Tryd.prog 15 #[.slice a L.length cap] w fun e w' => e = .returned (.tuple #[.int .i64 (rnA L), .bool (goodT L)]) ∧ Below w.heap.size w w' := by
  have HG := implGood a b off cap L w ha hL hlen hT
  obtain ⟨G, hG⟩ : ∃ G, Hid (goodT L = G) := ⟨_, rfl⟩
  have hh : rnA L = if G = true then ((rm L L.length 0).2 : Int) else 0 := by unfold rnA; rw [hG.out]
  rw [hG.out] at HG ⊢
  rw [hh]
  clear hh
  cases G with
  | false =>
    rw [if_neg (by simp)]
    go_enter Tryd.func15, Tryd.ntmps15
    go_wp2_with (go_at_call 34; refine HG.mono ?_; rintro e w1 ⟨rfl, hb1⟩; clear HG)
    go_ret2
    exact ⟨rfl, hb1⟩
  | true =>
    rw [if_pos rfl]
    have hU := ups_good hG.out
    have h40 : 1 ≤ L.length ∧ L.length ≤ 40 := ⟨hU.1, hU.2.1⟩
    obtain ⟨rfl, hb⟩ := ha.out (fun h => by simp [h] at h40)
    have HF := implRooms L hG.out L.length 0 L.length (by omega) (isEnd_whole hU)
    rw [OfI, segL_whole hU] at HF
    obtain ⟨⟨s, a⟩, hX⟩ : ∃ X, rm L L.length 0 = X := ⟨_, rfl⟩
    rw [hX] at HF ⊢
    have HF' : Hid (∀ (w : World) (b off cap B n : Nat), b < w.heap.size → b ≠ B → Hid (ndAt w b off L) → Hid (Tabs w) → B ≠ 0 → Hid (Known L w B n) → n + (L.length - 0) ≤ 1000 →
      Calls Tryd.prog 35 #[.map (some B), .slice (some ⟨b, off, none⟩) L.length cap] w fun r w' => r = .returned (.agg #[.int .i64 (s : Int), .int .i64 (a : Int)]) ∧ Known L w' B (n + (L.length - 0)) ∧ w.grownBy w' (some B)) := HF
    clear hX hU HF
    have HTL := hT.out.1
    have hmm := @run_makeMap Tryd.prog
    have hfl := fldR1
    go_enter Tryd.func15, Tryd.ntmps15
    go_wp2_with fail
    refine HG.mono ?_
    rintro e w1 ⟨rfl, hb1⟩
    clear HG
    have hm1 : Below w.heap.size w (w1.alloc (.map #[] 0)) := hb1.alloc hb1.size _
    have HC := HF'.out (w1.alloc (.map #[] 0)) b off cap w1.heap.size 0 (Nat.lt_of_lt_of_le hb hm1.size) (by have := hb1.size; omega) (hL.out.below hm1 hb) (hT.out.below hm1 (Nat.le_refl _)) (by have := hb1.size; omega) (Known.made L w1) (by omega)
    have hsz1 := hb1.size
    clear HF'
    go_wp2_with fail
    refine HC.mono ?_
    rintro e w2 ⟨rfl, _, hg2⟩
    clear HC
    have hb2 : Below w.heap.size w w2 := hm1.trans ⟨hg2.os, hg2.tape, hg2.output, hg2.size, fun k hk => hg2.block k (Nat.lt_of_lt_of_le hk hm1.size) (by simp; omega)⟩
    clear hg2
    go_wp2
    go_ret2
    exact ⟨rfl, hb2⟩

set_option maxRecDepth 100000 in
set_option maxHeartbeats 1600000 in
theorem specAlignOf (a : Option Addr) (b off cap : Nat) (L : List Nd) (w : World) (ha : Hid (L ≠ [] → a = some ⟨b, off, none⟩ ∧ b < w.heap.size)) (hL : Hid (ndAt w b off L)) (hlen : L.length ≤ 1048576) :
    Calls Tryd.prog 14 #[.slice a L.length cap] w fun e w' => e = .returned (.tuple #[.int .i64 (rnA L), .bool (goodT L)]) ∧ Below w.heap.size w w' := by
  have HG := specGood a b off cap L w ha hL hlen
  obtain ⟨G, hG⟩ : ∃ G, Hid (goodT L = G) := ⟨_, rfl⟩
  have hh : rnA L = if G = true then ((rm L L.length 0).2 : Int) else 0 := by unfold rnA; rw [hG.out]
  rw [hG.out] at HG ⊢
  rw [hh]
  clear hh
  cases G with
  | false =>
    rw [if_neg (by simp)]
    go_enter Tryd.func14, Tryd.ntmps14
    go_wp2_with (go_at_call 30; refine HG.mono ?_; rintro e w1 ⟨rfl, hb1⟩; clear HG)
    go_ret2
    exact ⟨rfl, hb1⟩
  | true =>
    rw [if_pos rfl]
    have hU := ups_good hG.out
    have h40 : 1 ≤ L.length ∧ L.length ≤ 40 := ⟨hU.1, hU.2.1⟩
    obtain ⟨rfl, hb⟩ := ha.out (fun h => by simp [h] at h40)
    have HF := specRoom L hG.out L.length 0 (by omega) (by omega)
    rw [RoomTold] at HF
    obtain ⟨⟨s, a⟩, hX⟩ : ∃ X, rm L L.length 0 = X := ⟨_, rfl⟩
    rw [hX] at HF ⊢
    clear hX hU
    go_enter Tryd.func14, Tryd.ntmps14
    go_wp2_with fail
    refine HG.mono ?_
    rintro e w1 ⟨rfl, hb1⟩
    clear HG
    have HT := specTree L h40.2 b off cap L.length 0 (by omega) (by omega) w1 (Nat.lt_of_lt_of_le hb hb1.size) (hL.out.below hb1 hb)
    go_wp2_with fail
    refine HT.mono ?_
    rintro e w2 ⟨sl, rfl, htr, hb2⟩
    clear HT
    have HC := HF w2 _ _ sl htr (Nat.le_refl _)
    clear HF
    go_wp2_with fail
    refine HC.mono ?_
    rintro e w3 ⟨rfl, hb3⟩
    clear HC
    go_wp2
    go_ret2
    exact ⟨rfl, below2 (below2 hb1 hb2) hb3⟩

set_option maxRecDepth 100000 in
set_option maxHeartbeats 1600000 in
theorem alignOf_walk (a : Option Addr) (cap : Nat) (L : List Nd) (w : World) (h : IsNds w a L) (hT : Tabs w) :
    Calls Tryd.prog 4 #[.slice a L.length cap] w fun e w' => e = .returned (.bool true) ∧ Below w.heap.size w w' := by
  obtain ⟨b, off, ha, hL, hlen, hfit⟩ := h
  have HSZ := szNds a cap L.length w hlen
  have HT : Hid (Tabs w) := hT
  have HA : Hid (L ≠ [] → a = some ⟨b, off, none⟩ ∧ b < w.heap.size) := ha
  have HL : Hid (ndAt w b off L) := hL
  clear ha hL hT
  go_enter Tryd.func4, Tryd.ntmps4
  go_wp2_with fail
  refine HSZ.mono ?_
  rintro e w0 ⟨r, rfl, hr, rfl⟩
  clear HSZ
  by_cases hneg : r < 0
  · go_wp2
    go_ret
    exact ⟨rfl, Below.refl _ _⟩
  · have hlen2 : L.length ≤ 1048576 := hr (by omega)
    have h1 := toNds a b off cap L w0 HA HL.out hlen2
    go_wp2_with fail
    refine h1.mono ?_
    rintro e w1 ⟨rfl, hl1, hn1, _, hb1⟩
    clear h1
    have h2 := specAlignOf (some ⟨w0.heap.size, 0, none⟩) w0.heap.size 0 L.length L w1 (fun _ => ⟨rfl, hl1⟩) hn1 hlen2
    go_wp2_with fail
    refine h2.mono ?_
    rintro e w2 ⟨rfl, hb2⟩
    clear h2 hn1
    have hb02 := below2 hb1 hb2
    have HA2 : Hid (L ≠ [] → a = some ⟨b, off, none⟩ ∧ b < w2.heap.size) := fun h => ⟨(HA.out h).1, Nat.lt_of_lt_of_le (HA.out h).2 hb02.size⟩
    have HL2 : Hid (ndAt w2 b off L) := by
      intro i hi
      have hne : L ≠ [] := fun e => by simp [e] at hi
      exact (HL.out.below hb02 (HA.out hne).2) i hi
    have h3 := toNds a b off cap L w2 HA2 HL2.out hlen2
    clear hl1 hb1 hb2
    go_wp2_with fail
    refine h3.mono ?_
    rintro e w3 ⟨rfl, hl3, hn3, _, hb3⟩
    clear h3
    have hb03 := below2 hb02 hb3
    have h4 := implAlignOf (some ⟨w2.heap.size, 0, none⟩) w2.heap.size 0 L.length L w3 (fun _ => ⟨rfl, hl3⟩) hn3 hlen2 (HT.out.below hb03 (Nat.le_refl _))
    go_wp2_with fail
    refine h4.mono ?_
    rintro e w4 ⟨rfl, hb4⟩
    clear h4
    have hb04 := below2 hb03 hb4
    have hn4 : ndAt w4 w2.heap.size 0 L := hn3.below hb4 hl3
    have hl4 : w2.heap.size < w4.heap.size := Nat.lt_of_lt_of_le hl3 hb4.size
    have HA4 : Hid (L ≠ [] → a = some ⟨b, off, none⟩ ∧ b < w4.heap.size) := fun h => ⟨(HA.out h).1, Nat.lt_of_lt_of_le (HA.out h).2 hb04.size⟩
    have HL4 : Hid (ndAt w4 b off L) := by
      intro i hi
      have hne : L ≠ [] := fun e => by simp [e] at hi
      exact (HL.out.below hb04 (HA.out hne).2) i hi
    have h5 := toNds a b off cap L w4 HA4 HL4.out hlen2
    clear hb02 hb3 hb4 hn3 hl3 hb03
    obtain ⟨G, hG⟩ : ∃ G, goodT L = G := ⟨_, rfl⟩
    obtain ⟨G2, hG2⟩ : ∃ G, rnA L = G := ⟨_, rfl⟩
    rw [hG, hG2]
    clear hG hG2
    go_wp2_with fail
    refine h5.mono ?_
    rintro e w5 ⟨rfl, hl5, hn5, _, hb5⟩
    clear h5
    have hb05 := below2 hb04 hb5
    have h6 := eqNds (some ⟨w2.heap.size, 0, none⟩) (some ⟨w4.heap.size, 0, none⟩) w2.heap.size 0 L.length w4.heap.size 0 L.length L w5 (fun _ => ⟨rfl, Nat.lt_of_lt_of_le hl4 hb5.size⟩) (fun _ => ⟨rfl, hl5⟩) (hn4.below hb5 hl4) hn5 hlen
    go_wp2_with fail
    refine h6.mono ?_
    rintro e w6 ⟨rfl, hb6⟩
    clear h6
    go_wp2
    go_ret
    exact ⟨rfl, below2 hb05 hb6⟩


end Go.Proofs.YtnoajihlkjeknaaDoor
