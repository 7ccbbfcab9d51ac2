/-
  Whether a type has handles: the program's side, and the law.
-/
import Derived.Test.YtendmemcgbmmlabDoorYHh
namespace Go.Proofs.YtendmemcgbmmlabDoor
open Go.ChangeShapes Go.WideShapes Go.ChangeAt Go.RowKit

set_option maxRecDepth 100000 in
set_option maxHeartbeats 1600000 in
theorem implIsH (x y z : Int) (w : World) :
    Calls Tryd.prog 36 #[.agg #[.int .i64 x, .int .i64 y, .int .i64 z]] w fun e w' => e = .returned (.bool (isH x)) ∧ Below w.heap.size w w' := by
  obtain ⟨q1, hq1⟩ : ∃ q, (x == 20) = q := ⟨_, rfl⟩
  obtain ⟨q2, hq2⟩ : ∃ q, (x == 21) = q := ⟨_, rfl⟩
  have hr : Hid (isH x = (q1 || q2)) := by unfold Hid isH; rw [hq1, hq2]
  rw [hr.out]
  clear hr
  cases q1 <;> cases q2
  all_goals
    go_enter Tryd.func36, Tryd.ntmps36
    go_wp2
    go_ret
    refine ⟨rfl, ?_⟩
    (repeat (first | refine Below.alloc ?_ (by first | (simp; done) | (simp; omega)) _ | refine Below.setCell ?_ (by first | (simp; done) | (simp; omega)) _ | refine bel_dN ?_ _ | refine Below.drew ?_ | exact Below.refl _ _))

set_option maxRecDepth 100000 in
set_option maxHeartbeats 1600000 in
theorem implIdx (b off cap : Nat) (L : List Nd) (w : World) (hb : b < w.heap.size) (hL : Hid (ndAt w b off L)) (hlen : L.length ≤ 40) :
    Calls Tryd.prog 52 #[.slice (some ⟨b, off, none⟩) L.length cap, .func (.func 36) #[] #[]] w fun e w' => ∃ r : Int, e = .returned (.int .i64 r) ∧ (0 ≤ r ↔ L.any (fun x => isH x.1) = true) ∧ Below w.heap.size w w' := by
  go_enter Tryd.func52, Tryd.ntmps52
  go_wp2
  go_loopw [8] (fun i wr => ∃ m : Nat, m ≤ L.length ∧ i = .int .i64 (m : Int) ∧ Hid ((L.take m).any (fun x => isH x.1) = false) ∧ Below w.heap.size w wr) (fun i _ => L.length - (intOf i).toNat)
  case atStart => exact ⟨0, by omega, rfl, by simp [Hid], Below.refl _ _⟩
  case round =>
    obtain ⟨m, hm, rfl, hA, hnx⟩ := hrel
    by_cases hlt : m < L.length
    · have hc := hL.out m hlt
      obtain ⟨x, hx⟩ : ∃ x, x = L[m] := ⟨_, rfl⟩
      rw [← hx] at hc
      have HS : Hid ((L.take (m + 1)).any (fun x => isH x.1) = isH x.1) := by
        unfold Hid
        rw [List.take_succ_eq_append_getElem hlt, List.any_append, hA.out, ← hx]
        simp
      have HM : Hid (isH x.1 = true → L.any (fun x => isH x.1) = true) := fun h => List.any_eq_true.2 ⟨L[m], List.getElem_mem hlt, by rw [← hx]; exact h⟩
      clear hx
      obtain ⟨x, y, z⟩ := x
      simp only at hc HS HM
      have hc0 : wr.cell? ⟨b, off + m * 3, none⟩ = some (.int .i64 x) := (hnx.cell (by exact hb)).trans hc.1
      have hc1 : wr.cell? ⟨b, off + m * 3 + 1, none⟩ = some (.int .i64 y) := (hnx.cell (by exact hb)).trans hc.2.1
      have hc2 : wr.cell? ⟨b, off + m * 3 + 2, none⟩ = some (.int .i64 z) := (hnx.cell (by exact hb)).trans hc.2.2
      clear hc
      have H := implIsH x y z
      obtain ⟨r, hr⟩ : ∃ r, isH x = r := ⟨_, rfl⟩
      rw [hr] at H HS HM
      clear hr
      cases r with
      | true =>
        go_wp2_with (go_at_call 36; refine (H _).mono ?_; rintro e w1 ⟨rfl, hb2⟩)
        go_ret
        exact ⟨_, rfl, ⟨fun _ => HM.out (by trivial), fun _ => by omega⟩, below2 hnx hb2⟩
      | false =>
        go_wp2_with (go_at_call 36; refine (H _).mono ?_; rintro e w1 ⟨rfl, hb2⟩)
        go_roundw
        case rel => exact ⟨m + 1, by omega, by go_num, HS, below2 hnx hb2⟩
        case measure => simp [intOf]; omega
    · obtain rfl : m = L.length := by omega
      have HF : Hid (L.any (fun x => isH x.1) = false) := by have := hA.out; rwa [List.take_length] at this
      go_wp2
      go_ret
      exact ⟨_, rfl, ⟨fun h => absurd h (by omega), fun h => by rw [HF.out] at h; cases h⟩, hnx⟩

set_option maxRecDepth 100000 in
set_option maxHeartbeats 1600000 in
theorem implCont (b off cap : Nat) (L : List Nd) (w : World) (hb : b < w.heap.size) (hL : Hid (ndAt w b off L)) (hlen : L.length ≤ 40) :
    Calls Tryd.prog 35 #[.slice (some ⟨b, off, none⟩) L.length cap, .func (.func 36) #[] #[]] w fun e w' => e = .returned (.bool (L.any (fun x => isH x.1))) ∧ Below w.heap.size w w' := by
  have H := implIdx b off cap L w hb hL hlen
  obtain ⟨R, hR⟩ : ∃ R, L.any (fun x => isH x.1) = R := ⟨_, rfl⟩
  rw [hR] at H ⊢
  go_enter Tryd.func35, Tryd.ntmps35
  go_wp2_with fail
  refine H.mono ?_
  rintro e w1 ⟨r, rfl, hr, hb1⟩
  have hd : Hid (decide (0 ≤ r) = R) := by
    unfold Hid
    cases R with
    | true => exact decide_eq_true (hr.2 rfl)
    | false => exact decide_eq_false (fun h => by have := hr.1 h; cases this)
  clear H hr
  go_wp2
  go_ret
  exact ⟨by rw [← hd.out]; rfl, hb1⟩

/-- What both sides tell: whether it has handles, where it is good. -/
def hasH (L : List Nd) : Bool := goodT L && L.any (fun x => isH x.1)

set_option maxRecDepth 100000 in
set_option maxHeartbeats 1600000 in
theorem implHas (a : Option Addr) (b off cap : Nat) (L : List Nd) (w : World) (ha : Hid (L ≠ [] → a = some ⟨b, off, none⟩ ∧ b < w.heap.size)) (hL : Hid (ndAt w b off L)) (hlen : L.length ≤ 1048576) (hT : Hid (Tabs w)) :
    Calls Tryd.prog 21 #[.slice a L.length cap] w fun e w' => e = .returned (.tuple #[.bool (hasH L), .bool (goodT L)]) ∧ Below w.heap.size w w' := by
  have HG := implGood a b off cap L w ha hL hlen hT
  obtain ⟨G, hG⟩ : ∃ G, Hid (goodT L = G) := ⟨_, rfl⟩
  have hh : hasH L = (G && L.any (fun x => isH x.1)) := by unfold hasH; rw [hG.out]
  rw [hG.out] at HG ⊢
  rw [hh]
  clear hh
  cases G with
  | false =>
    go_enter Tryd.func21, Tryd.ntmps21
    go_wp2_with (go_at_call 26; refine HG.mono ?_; rintro e w1 ⟨rfl, hb1⟩; clear HG)
    go_ret2
    exact ⟨rfl, hb1⟩
  | true =>
    have h40 : 1 ≤ L.length ∧ L.length ≤ 40 := by
      have := hG.out; unfold goodT at this; simp at this; omega
    obtain ⟨rfl, hb⟩ := ha.out (fun h => by simp [h] at h40)
    go_enter Tryd.func21, Tryd.ntmps21
    go_wp2_with fail
    refine HG.mono ?_
    rintro e w1 ⟨rfl, hb1⟩
    clear HG
    have HC := implCont b off cap L w1 (Nat.lt_of_lt_of_le hb hb1.size) (hL.out.below hb1 hb) h40.2
    go_wp2_with fail
    refine HC.mono ?_
    rintro e w2 ⟨rfl, hb2⟩
    clear HC
    go_wp2
    go_ret2
    exact ⟨rfl, below2 hb1 hb2⟩

set_option maxRecDepth 100000 in
set_option maxHeartbeats 1600000 in
theorem specHas (a : Option Addr) (b off cap : Nat) (L : List Nd) (w : World) (ha : Hid (L ≠ [] → a = some ⟨b, off, none⟩ ∧ b < w.heap.size)) (hL : Hid (ndAt w b off L)) (hlen : L.length ≤ 1048576) :
    Calls Tryd.prog 20 #[.slice a L.length cap] w fun e w' => e = .returned (.tuple #[.bool (hasH L), .bool (goodT L)]) ∧ Below w.heap.size w w' := by
  have HG := specGood a b off cap L w ha hL hlen
  obtain ⟨G, hG⟩ : ∃ G, Hid (goodT L = G) := ⟨_, rfl⟩
  have hh : hasH L = (G && L.any (fun x => isH x.1)) := by unfold hasH; rw [hG.out]
  rw [hG.out] at HG ⊢
  rw [hh]
  clear hh
  cases G with
  | false =>
    go_enter Tryd.func20, Tryd.ntmps20
    go_wp2_with (go_at_call 22; refine HG.mono ?_; rintro e w1 ⟨rfl, hb1⟩; clear HG)
    go_ret2
    exact ⟨rfl, hb1⟩
  | true =>
    have h40 : 1 ≤ L.length ∧ L.length ≤ 40 := by
      have := hG.out; unfold goodT at this; simp at this; omega
    have hall := hnd_all hG.out
    obtain ⟨rfl, hb⟩ := ha.out (fun h => by simp [h] at h40)
    rw [← hall]
    clear hall
    go_enter Tryd.func20, Tryd.ntmps20
    go_wp2_with fail
    refine HG.mono ?_
    rintro e w1 ⟨rfl, hb1⟩
    clear HG
    have HC := specTree L h40.2 b off cap L.length 0 (by omega) (by omega) w1 (Nat.lt_of_lt_of_le hb hb1.size) (hL.out.below hb1 hb)
    go_wp2_with fail
    refine HC.mono ?_
    rintro e w2 ⟨sl, rfl, htr, hb2⟩
    clear HC
    have HD := specHandles L h40.2 L.length 0 w2 _ _ sl htr (Nat.le_refl _)
    go_wp2_with fail
    refine HD.mono ?_
    rintro e w3 ⟨rfl, hb3⟩
    clear HD
    go_wp2
    go_ret2
    exact ⟨rfl, below2 (below2 hb1 hb2) hb3⟩

set_option maxRecDepth 100000 in
set_option maxHeartbeats 1600000 in
theorem hasHandles_walk (a : Option Addr) (cap : Nat) (L : List Nd) (w : World) (h : IsNds w a L) (hT : Tabs w) :
    Calls Tryd.prog 6 #[.slice a L.length cap] w fun e w' => e = .returned (.bool true) ∧ Below w.heap.size w w' := by
  obtain ⟨b, off, ha, hL, hlen, hfit⟩ := h
  have HSZ := szNds a cap L.length w hlen
  have HT : Hid (Tabs w) := hT
  have HA : Hid (L ≠ [] → a = some ⟨b, off, none⟩ ∧ b < w.heap.size) := ha
  have HL : Hid (ndAt w b off L) := hL
  clear ha hL hT
  go_enter Tryd.func6, Tryd.ntmps6
  go_wp2_with fail
  refine HSZ.mono ?_
  rintro e w0 ⟨r, rfl, hr, rfl⟩
  clear HSZ
  by_cases hneg : r < 0
  · go_wp2
    go_ret
    exact ⟨rfl, Below.refl _ _⟩
  · have hlen2 : L.length ≤ 1048576 := hr (by omega)
    have h1 := toNds a b off cap L w0 HA HL.out hlen2
    go_wp2_with fail
    refine h1.mono ?_
    rintro e w1 ⟨rfl, hl1, hn1, _, hb1⟩
    clear h1
    have h2 := specHas (some ⟨w0.heap.size, 0, none⟩) w0.heap.size 0 L.length L w1 (fun _ => ⟨rfl, hl1⟩) hn1 hlen2
    go_wp2_with fail
    refine h2.mono ?_
    rintro e w2 ⟨rfl, hb2⟩
    clear h2 hn1
    have hb02 := below2 hb1 hb2
    have HA2 : Hid (L ≠ [] → a = some ⟨b, off, none⟩ ∧ b < w2.heap.size) := fun h => ⟨(HA.out h).1, Nat.lt_of_lt_of_le (HA.out h).2 hb02.size⟩
    have HL2 : Hid (ndAt w2 b off L) := by
      intro i hi
      have hne : L ≠ [] := fun e => by simp [e] at hi
      exact (HL.out.below hb02 (HA.out hne).2) i hi
    have h3 := toNds a b off cap L w2 HA2 HL2.out hlen2
    clear hl1 hb1 hb2
    go_wp2_with fail
    refine h3.mono ?_
    rintro e w3 ⟨rfl, hl3, hn3, _, hb3⟩
    clear h3
    have hb03 := below2 hb02 hb3
    have h4 := implHas (some ⟨w2.heap.size, 0, none⟩) w2.heap.size 0 L.length L w3 (fun _ => ⟨rfl, hl3⟩) hn3 hlen2 (HT.out.below hb03 (Nat.le_refl _))
    go_wp2_with fail
    refine h4.mono ?_
    rintro e w4 ⟨rfl, hb4⟩
    clear h4
    have hb04 := below2 hb03 hb4
    have hn4 : ndAt w4 w2.heap.size 0 L := hn3.below hb4 hl3
    have hl4 : w2.heap.size < w4.heap.size := Nat.lt_of_lt_of_le hl3 hb4.size
    have HA4 : Hid (L ≠ [] → a = some ⟨b, off, none⟩ ∧ b < w4.heap.size) := fun h => ⟨(HA.out h).1, Nat.lt_of_lt_of_le (HA.out h).2 hb04.size⟩
    have HL4 : Hid (ndAt w4 b off L) := by
      intro i hi
      have hne : L ≠ [] := fun e => by simp [e] at hi
      exact (HL.out.below hb04 (HA.out hne).2) i hi
    have h5 := toNds a b off cap L w4 HA4 HL4.out hlen2
    clear hb02 hb3 hb4 hn3 hl3 hb03
    obtain ⟨G, hG⟩ : ∃ G, goodT L = G := ⟨_, rfl⟩
    obtain ⟨G2, hG2⟩ : ∃ G, hasH L = G := ⟨_, rfl⟩
    rw [hG, hG2]
    clear hG hG2
    go_wp2_with fail
    refine h5.mono ?_
    rintro e w5 ⟨rfl, hl5, hn5, _, hb5⟩
    clear h5
    have hb05 := below2 hb04 hb5
    have h6 := eqNds (some ⟨w2.heap.size, 0, none⟩) (some ⟨w4.heap.size, 0, none⟩) w2.heap.size 0 L.length w4.heap.size 0 L.length L w5 (fun _ => ⟨rfl, Nat.lt_of_lt_of_le hl4 hb5.size⟩) (fun _ => ⟨rfl, hl5⟩) (hn4.below hb5 hl4) hn5 hlen
    go_wp2_with fail
    refine h6.mono ?_
    rintro e w6 ⟨rfl, hb6⟩
    clear h6
    go_wp2
    go_ret
    exact ⟨rfl, below2 hb05 hb6⟩

end Go.Proofs.YtendmemcgbmmlabDoor
