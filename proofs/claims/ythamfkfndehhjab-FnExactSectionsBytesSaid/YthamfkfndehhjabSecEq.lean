/-
  The walk of the comparison of two slices of sections that hold the same.
-/
import Derived.Test.YthamfkfndehhjabSecBase
import Derived.Deep.RegionWith
namespace Go.Proofs.Ythamfkfndehhjab
open Go.ChangeShapes Go.WideShapes Go.ChangeAt Go.RowKit

set_option maxRecDepth 100000 in
set_option maxHeartbeats 800000 in
theorem eqSec (id : Int) (s : ByteArray) (w : World) :
    Calls Try.prog 15 #[.agg #[.int .i64 id, .string s], .agg #[.int .i64 id, .string s]] w fun e w' => e = .returned (.bool true) ∧ Below w.heap.size w w' := by
  go_enter Try.func15, Try.ntmps15
  go_wp2
  go_ret
  exact ⟨rfl, ((Below.refl _ _).alloc (Nat.le_refl _) _).alloc (by simp) _⟩

set_option maxRecDepth 100000 in
set_option maxHeartbeats 1600000 in
theorem eqSecs (a a' : Option Addr) (b off cap b' off' cap' : Nat) (L : List (Int × ByteArray)) (w : World) (ha : Hid (L ≠ [] → a = some ⟨b, off, none⟩ ∧ b < w.heap.size)) (ha' : Hid (L ≠ [] → a' = some ⟨b', off', none⟩ ∧ b' < w.heap.size))
    (hL : secAt w b off L) (hL' : secAt w b' off' L) (hlen : L.length ≤ 9223372036854775807) :
    Calls Try.prog 8 #[.slice a L.length cap, .slice a' L.length cap'] w fun e w' => e = .returned (.bool true) ∧ Below w.heap.size w w' := by
  go_enter Try.func8, Try.ntmps8
  go_wp2
  go_loopw [5] (fun i wr => ∃ (k : Nat), k ≤ L.length ∧ i = .int .i64 k ∧ Below w.heap.size w wr) (fun i _ => L.length - (intOf i).toNat)
  case atStart => exact ⟨0, by omega, rfl, Below.refl _ _⟩
  case round =>
    obtain ⟨k, hk, rfl, hnx⟩ := hrel
    by_cases hlt : k < L.length
    · obtain ⟨rfl, hb⟩ := ha.out (fun h => by simp [h] at hlt)
      obtain ⟨rfl, hb'⟩ := ha'.out (fun h => by simp [h] at hlt)
      have hc := hL k hlt
      have hd := hL' k hlt
      obtain ⟨x, hx⟩ : ∃ x, x = L[k] := ⟨_, rfl⟩
      rw [← hx] at hc hd
      obtain ⟨id, s⟩ := x
      clear hx
      simp only at hc hd
      have hc0 : wr.cell? ⟨b, off + k * 2, none⟩ = some (.int .i64 id) := (hnx.cell (by exact hb)).trans hc.1
      have hc1 : wr.cell? ⟨b, off + k * 2 + 1, none⟩ = some (.string s) := (hnx.cell (by exact hb)).trans hc.2
      have hd0 : wr.cell? ⟨b', off' + k * 2, none⟩ = some (.int .i64 id) := (hnx.cell (by exact hb')).trans hd.1
      have hd1 : wr.cell? ⟨b', off' + k * 2 + 1, none⟩ = some (.string s) := (hnx.cell (by exact hb')).trans hd.2
      clear hc hd
      have H := eqSec id s
      go_wp2
      go_region_with (go_at_call 15; refine (H _).mono ?_; rintro e w1 ⟨rfl, hb2⟩)
      all_goals
        go_wp2
        go_roundw
        case rel => exact ⟨k + 1, by omega, by go_num, by first | exact below2 hnx (by assumption) | exact below2 hnx.drew (by assumption) | exact below2 hnx.drew.drew (by assumption) | exact below2 hnx.drew.drew.drew (by assumption)⟩
        case measure => simp [intOf]; omega
    · go_wp2
      go_ret
      exact ⟨rfl, hnx⟩

end Go.Proofs.Ythamfkfndehhjab
