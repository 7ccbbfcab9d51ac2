/-
  Whether a type has handles: the program's side, and the law.
-/
import Derived.Test.YtebendaiokchdaaDoorYHh
namespace Go.Proofs.YtebendaiokchdaaDoor
open Go.ChangeShapes Go.WideShapes Go.ChangeAt Go.RowKit

set_option maxRecDepth 100000 in
set_option maxHeartbeats 1600000 in
theorem implIsH (x y z : Int) (w : World) :
    Calls Tryd.prog 18 #[.agg #[.int .i64 x, .int .i64 y, .int .i64 z]] w fun e w' => e = .returned (.bool (isH x)) ∧ Below w.heap.size w w' := by
  obtain ⟨q1, hq1⟩ : ∃ q, (x == 20) = q := ⟨_, rfl⟩
  obtain ⟨q2, hq2⟩ : ∃ q, (x == 21) = q := ⟨_, rfl⟩
  have hr : Hid (isH x = (q1 || q2)) := by unfold Hid isH; rw [hq1, hq2]
  rw [hr.out]
  clear hr
  cases q1 <;> cases q2
  all_goals
    go_enter Tryd.func18, Tryd.ntmps18
    go_wp2
    go_ret
    refine ⟨rfl, ?_⟩
    (repeat (first | refine Below.alloc ?_ (by first | (simp; done) | (simp; omega)) _ | refine Below.setCell ?_ (by first | (simp; done) | (simp; omega)) _ | refine bel_dN ?_ _ | refine Below.drew ?_ | exact Below.refl _ _))

set_option maxRecDepth 100000 in
set_option maxHeartbeats 1600000 in
theorem implIdx (b off cap : Nat) (L : List Nd) (w : World) (hb : b < w.heap.size) (hL : Hid (ndAt w b off L)) (hlen : L.length ≤ 40) :
    Calls Tryd.prog 33 #[.slice (some ⟨b, off, none⟩) L.length cap, .func (.func 18) #[] #[]] w fun e w' => ∃ r : Int, e = .returned (.int .i64 r) ∧ (0 ≤ r ↔ L.any (fun x => isH x.1) = true) ∧ Below w.heap.size w w' := by
  go_enter Tryd.func33, Tryd.ntmps33
  go_wp2
  go_loopw [8] (fun i wr => ∃ m : Nat, m ≤ L.length ∧ i = .int .i64 (m : Int) ∧ Hid ((L.take m).any (fun x => isH x.1) = false) ∧ Below w.heap.size w wr) (fun i _ => L.length - (intOf i).toNat)
  case atStart => exact ⟨0, by omega, rfl, by simp [Hid], Below.refl _ _⟩
  case round =>
    obtain ⟨m, hm, rfl, hA, hnx⟩ := hrel
    by_cases hlt : m < L.length
    · have hc := hL.out m hlt
      obtain ⟨x, hx⟩ : ∃ x, x = L[m] := ⟨_, rfl⟩
      rw [← hx] at hc
      have HS : Hid ((L.take (m + 1)).any (fun x => isH x.1) = isH x.1) := by
        unfold Hid
        rw [List.take_succ_eq_append_getElem hlt, List.any_append, hA.out, ← hx]
        simp
      have HM : Hid (isH x.1 = true → L.any (fun x => isH x.1) = true) := fun h => List.any_eq_true.2 ⟨L[m], List.getElem_mem hlt, by rw [← hx]; exact h⟩
      clear hx
      obtain ⟨x, y, z⟩ := x
      simp only at hc HS HM
      have hc0 : wr.cell? ⟨b, off + m * 3, none⟩ = some (.int .i64 x) := (hnx.cell (by exact hb)).trans hc.1
      have hc1 : wr.cell? ⟨b, off + m * 3 + 1, none⟩ = some (.int .i64 y) := (hnx.cell (by exact hb)).trans hc.2.1
      have hc2 : wr.cell? ⟨b, off + m * 3 + 2, none⟩ = some (.int .i64 z) := (hnx.cell (by exact hb)).trans hc.2.2
      clear hc
      have H := implIsH x y z
      obtain ⟨r, hr⟩ : ∃ r, isH x = r := ⟨_, rfl⟩
      rw [hr] at H HS HM
      clear hr
      cases r with
      | true =>
        go_wp2_with (go_at_call 18; refine (H _).mono ?_; rintro e w1 ⟨rfl, hb2⟩)
        go_ret
        exact ⟨_, rfl, ⟨fun _ => HM.out (by trivial), fun _ => by omega⟩, below2 hnx hb2⟩
      | false =>
        go_wp2_with (go_at_call 18; refine (H _).mono ?_; rintro e w1 ⟨rfl, hb2⟩)
        go_roundw
        case rel => exact ⟨m + 1, by omega, by go_num, HS, below2 hnx hb2⟩
        case measure => simp [intOf]; omega
    · obtain rfl : m = L.length := by omega
      have HF : Hid (L.any (fun x => isH x.1) = false) := by have := hA.out; rwa [List.take_length] at this
      go_wp2
      go_ret
      exact ⟨_, rfl, ⟨fun h => absurd h (by omega), fun h => by rw [HF.out] at h; cases h⟩, hnx⟩

set_option maxRecDepth 100000 in
set_option maxHeartbeats 1600000 in
theorem implCont (b off cap : Nat) (L : List Nd) (w : World) (hb : b < w.heap.size) (hL : Hid (ndAt w b off L)) (hlen : L.length ≤ 40) :
    Calls Tryd.prog 17 #[.slice (some ⟨b, off, none⟩) L.length cap, .func (.func 18) #[] #[]] w fun e w' => e = .returned (.bool (L.any (fun x => isH x.1))) ∧ Below w.heap.size w w' := by
  have H := implIdx b off cap L w hb hL hlen
  obtain ⟨R, hR⟩ : ∃ R, L.any (fun x => isH x.1) = R := ⟨_, rfl⟩
  rw [hR] at H ⊢
  go_enter Tryd.func17, Tryd.ntmps17
  go_wp2_with fail
  refine H.mono ?_
  rintro e w1 ⟨r, rfl, hr, hb1⟩
  have hd : Hid (decide (0 ≤ r) = R) := by
    unfold Hid
    cases R with
    | true => exact decide_eq_true (hr.2 rfl)
    | false => exact decide_eq_false (fun h => by have := hr.1 h; cases this)
  clear H hr
  go_wp2
  go_ret
  exact ⟨by rw [← hd.out]; rfl, hb1⟩

/-- What both sides tell: whether it has handles, where it is good. -/
def hasH (L : List Nd) : Bool := goodT L && L.any (fun x => isH x.1)

set_option maxRecDepth 100000 in
set_option maxHeartbeats 1600000 in
theorem implHas (a : Option Addr) (b off cap : Nat) (L : List Nd) (w : World) (ha : Hid (L ≠ [] → a = some ⟨b, off, none⟩ ∧ b < w.heap.size)) (hL : Hid (ndAt w b off L)) (hlen : L.length ≤ 1048576) (hT : Hid (Tabs w)) :
    Calls Tryd.prog 8 #[.slice a L.length cap] w fun e w' => e = .returned (.tuple #[.bool (hasH L), .bool (goodT L)]) ∧ Below w.heap.size w w' := by
  have HG := implGood a b off cap L w ha hL hlen hT
  obtain ⟨G, hG⟩ : ∃ G, Hid (goodT L = G) := ⟨_, rfl⟩
  have hh : hasH L = (G && L.any (fun x => isH x.1)) := by unfold hasH; rw [hG.out]
  rw [hG.out] at HG ⊢
  rw [hh]
  clear hh
  cases G with
  | false =>
    go_enter Tryd.func8, Tryd.ntmps8
    go_wp2_with (go_at_call 11; refine HG.mono ?_; rintro e w1 ⟨rfl, hb1⟩; clear HG)
    go_ret2
    exact ⟨rfl, hb1⟩
  | true =>
    have h40 : 1 ≤ L.length ∧ L.length ≤ 40 := by
      have := hG.out; unfold goodT at this; simp at this; omega
    obtain ⟨rfl, hb⟩ := ha.out (fun h => by simp [h] at h40)
    go_enter Tryd.func8, Tryd.ntmps8
    go_wp2_with fail
    refine HG.mono ?_
    rintro e w1 ⟨rfl, hb1⟩
    clear HG
    have HC := implCont b off cap L w1 (Nat.lt_of_lt_of_le hb hb1.size) (hL.out.below hb1 hb) h40.2
    go_wp2_with fail
    refine HC.mono ?_
    rintro e w2 ⟨rfl, hb2⟩
    clear HC
    go_wp2
    go_ret2
    exact ⟨rfl, below2 hb1 hb2⟩

end Go.Proofs.YtebendaiokchdaaDoor
