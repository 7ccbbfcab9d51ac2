/-
  Whether all instructions of a list are good: both sides.
-/
import Derived.Test.YtcgnefgdfgikdaaGreatC1
import Derived.Test.YtcgnefgdfgikdaaGreatU4
namespace Go.Proofs.YtcgnefgdfgikdaaGreat
open Go.ChangeShapes Go.WideShapes Go.ChangeAt Go.RowKit

/-- Every number of the list is an int. -/
def fits (L : List (Int × Int)) : Prop := ∀ i (h : i < L.length), -9223372036854775808 ≤ L[i].2 ∧ L[i].2 ≤ 9223372036854775807

set_option maxRecDepth 100000 in
set_option maxHeartbeats 1600000 in
theorem implAll (a : Option Addr) (b off cap : Nat) (L : List (Int × Int)) (w : World) (ha : Hid (L ≠ [] → a = some ⟨b, off, none⟩ ∧ b < w.heap.size)) (hL : insAt w b off L) (hf : fits L) (hlen : L.length ≤ 1048576) :
    Calls Tryz.prog 63 #[.slice a L.length cap] w fun e w' => e = .returned (.bool (allG L && decide (L.length ≤ 200))) ∧ Below w.heap.size w w' := by
  by_cases h2 : L.length ≤ 200
  · rw [decide_eq_true h2, Bool.and_true]
    go_enter Tryz.func63, Tryz.ntmps63
    go_wp2
    go_loopw [10] (fun i wr => ∃ k : Nat, k ≤ L.length ∧ i = .int .i64 k ∧ Hid (allG (L.take k) = true) ∧ Below w.heap.size w wr) (fun i _ => L.length - (intOf i).toNat)
    case atStart => exact ⟨0, by omega, rfl, by simp [Hid, allG], Below.refl _ _⟩
    case round =>
      obtain ⟨k, hk, rfl, hg, hnx⟩ := hrel
      by_cases hlt : k < L.length
      · obtain ⟨rfl, hb⟩ := ha.out (fun h => by simp [h] at hlt)
        have hc := hL k hlt
        have hfk := hf k hlt
        have ht := allG_take L k hlt
        have hn := allG_no L k hlt
        obtain ⟨x, hx⟩ : ∃ x, x = L[k] := ⟨_, rfl⟩
        rw [← hx] at hc hfk ht hn
        obtain ⟨op, y⟩ := x
        clear hx
        simp only at hc hfk ht hn
        have hc0 : wr.cell? ⟨b, off + k * 2, none⟩ = some (.int .i64 op) := (hnx.cell (by exact hb)).trans hc.1
        have hc1 : wr.cell? ⟨b, off + k * 2 + 1, none⟩ = some (.int .i64 y) := (hnx.cell (by exact hb)).trans hc.2
        have I := implGoodIns op y hfk.1 hfk.2
        have HT : Hid (allG (L.take (k + 1)) = (allG (L.take k) && gi op y)) := ht
        have HN : Hid (gi op y = false → allG L = false) := hn
        have HX : Hid (Below w.heap.size w wr) := hnx
        clear hc hfk ht hn
        generalize gi op y = r at I HT HN
        cases r
        · go_wp2_with (go_at_call 82; refine (I _).mono ?_; rintro e w1 ⟨rfl, hb1⟩; clear I)
          go_ret
          refine ⟨by rw [HN.out (by trivial)]; rfl, ?_⟩
          exact below2 (bel_alloc HX.out _) hb1
        · go_wp2_with (go_at_call 82; refine (I _).mono ?_; rintro e w1 ⟨rfl, hb1⟩; clear I)
          go_roundw
          case rel => exact ⟨k + 1, by omega, by go_num, by unfold Hid; rw [HT.out, hg.out]; rfl, below2 (bel_alloc HX.out _) hb1⟩
          case measure => simp [intOf]; omega
      · have e : L.take k = L := List.take_of_length_le (by omega)
        have hg' : Hid (allG L = true) := by have h := hg.out; rw [e] at h; exact h
        clear hg e
        go_wp2
        go_ret
        exact ⟨by rw [hg'.out]; rfl, hnx⟩
  · have h3 : (200 : Int) < L.length := by omega
    rw [decide_eq_false h2, Bool.and_false]
    clear h2
    go_enter Tryz.func63, Tryz.ntmps63
    go_wp2
    go_ret
    exact ⟨rfl, Below.refl _ _⟩

set_option maxRecDepth 100000 in
set_option maxHeartbeats 1600000 in
theorem specAll (a : Option Addr) (b off cap : Nat) (L : List (Int × Int)) (w : World) (ha : Hid (L ≠ [] → a = some ⟨b, off, none⟩ ∧ b < w.heap.size)) (hL : insAt w b off L) (hlen : L.length ≤ 1048576) :
    Calls Tryz.prog 62 #[.slice a L.length cap] w fun e w' => e = .returned (.bool (allG L && decide (L.length ≤ 200))) ∧ Below w.heap.size w w' := by
  go_enter Tryz.func62, Tryz.ntmps62
  go_wp2
  go_loopw [7] (fun i wr => ∃ k : Nat, k ≤ L.length ∧ i = .int .i64 k ∧ Hid (allG (L.take k) = true) ∧ Below w.heap.size w wr) (fun i _ => L.length - (intOf i).toNat)
  case atStart => exact ⟨0, by omega, rfl, by simp [Hid, allG], Below.refl _ _⟩
  case round =>
    obtain ⟨k, hk, rfl, hg, hnx⟩ := hrel
    by_cases hlt : k < L.length
    · obtain ⟨rfl, hb⟩ := ha.out (fun h => by simp [h] at hlt)
      have hc := hL k hlt
      have ht := allG_take L k hlt
      have hn := allG_no L k hlt
      obtain ⟨x, hx⟩ : ∃ x, x = L[k] := ⟨_, rfl⟩
      rw [← hx] at hc ht hn
      obtain ⟨op, y⟩ := x
      clear hx
      simp only at hc ht hn
      have hc0 : wr.cell? ⟨b, off + k * 2, none⟩ = some (.int .i64 op) := (hnx.cell (by exact hb)).trans hc.1
      have hc1 : wr.cell? ⟨b, off + k * 2 + 1, none⟩ = some (.int .i64 y) := (hnx.cell (by exact hb)).trans hc.2
      have I := specGoodIns op y
      have HT : Hid (allG (L.take (k + 1)) = (allG (L.take k) && gi op y)) := ht
      have HN : Hid (gi op y = false → allG L = false) := hn
      have HX : Hid (Below w.heap.size w wr) := hnx
      clear hc ht hn
      generalize gi op y = r at I HT HN
      cases r
      · go_wp2_with (go_at_call 81; refine (I _).mono ?_; rintro e w1 ⟨rfl, hb1⟩; clear I)
        go_ret
        refine ⟨by rw [HN.out (by trivial)]; rfl, ?_⟩
        exact below2 (bel_alloc HX.out _) hb1
      · go_wp2_with (go_at_call 81; refine (I _).mono ?_; rintro e w1 ⟨rfl, hb1⟩; clear I)
        go_roundw
        case rel => exact ⟨k + 1, by omega, by go_num, by unfold Hid; rw [HT.out, hg.out]; rfl, below2 (bel_alloc HX.out _) hb1⟩
        case measure => simp [intOf]; omega
    · have e : L.take k = L := List.take_of_length_le (by omega)
      have hg' : Hid (allG L = true) := by have h := hg.out; rw [e] at h; exact h
      obtain ⟨y, hy⟩ : ∃ y, decide ((L.length : Int) ≤ 200) = y := ⟨_, rfl⟩
      have hx : Hid (decide (L.length ≤ 200) = y) := by unfold Hid; rw [← hy]; simp; omega
      clear hg e
      go_wp2
      go_ret
      exact ⟨by rw [hg'.out, hx.out]; rfl, hnx⟩

end Go.Proofs.YtcgnefgdfgikdaaGreat

namespace Go.Proofs.YtcgnefgdfgikdaaGreat
open Go.ChangeShapes Go.WideShapes Go.ChangeAt Go.RowKit

theorem owns_below {w w' : World} {B : Nat} {e : TypeId} {size n : Nat} {v : Value} {xs : List Value} (h : w.ownsRow B e size v n xs) (hb : Below w.heap.size w w') : w'.ownsRow B e size v n xs := by
  refine ⟨h.1, ?_⟩
  rcases h.2 with h0 | ⟨g, cap, cur, h1, h2, h3, h4⟩
  · exact Or.inl h0
  · exact Or.inr ⟨g, cap, cur, h1, h2, (hb.block g (lt_of_block h3)).trans h3, h4⟩
theorem kinds_of {op y : Int} (h : gi op y = true) : shp op = 0 ∨ shp op = 1 ∨ shp op = 2 ∨ shp op = 3 ∨ shp op = 4 ∨ shp op = 5 ∨ shp op = 6 := by
  rcases shp_one op with k | k | k | k | k | k | k | k
  all_goals first | omega | skip
  unfold gi at h; rw [k] at h; simp [mayK] at h

end Go.Proofs.YtcgnefgdfgikdaaGreat
