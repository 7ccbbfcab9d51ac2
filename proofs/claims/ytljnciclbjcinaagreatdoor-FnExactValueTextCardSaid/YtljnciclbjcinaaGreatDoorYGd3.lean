/-
  Which rows of nodes are types: the program's side.
-/
import Derived.Test.YtljnciclbjcinaaGreatDoorYGd2
import Derived.Deep.QuietTactic
import Derived.BigQuiet
namespace Go.Proofs.YtljnciclbjcinaaGreatDoor
open Go.ChangeShapes Go.WideShapes Go.ChangeAt Go.RowKit

theorem goodT_nil : goodT [] = false := rfl
theorem goodT_long {L : List Nd} (h : 40 < L.length) : goodT L = false := by
  have : ¬ L.length ≤ 40 := by omega
  unfold goodT; simp [this]

set_option maxRecDepth 100000 in
set_option maxHeartbeats 3200000 in
theorem implGood (a : Option Addr) (b off cap : Nat) (L : List Nd) (w : World) (ha : Hid (L ≠ [] → a = some ⟨b, off, none⟩ ∧ b < w.heap.size)) (hL : Hid (ndAt w b off L)) (hlen : L.length ≤ 1048576) (hT : Hid (Tabs w)) :
    Calls Tryz.prog 55 #[.slice a L.length cap] w fun e w' => e = .returned (.bool (goodT L)) ∧ Below w.heap.size w w' := by
  obtain ⟨R, hR⟩ : ∃ R, Hid (goodT L = R) := ⟨_, rfl⟩
  rw [hR.out]
  by_cases h0 : L.length = 0
  · obtain rfl : R = false := by rw [← hR.out, List.length_eq_zero_iff.1 h0]; rfl
    have e0 : ((L.length : Int) == 0) = true := by simp [h0]
    clear h0
    go_enter Tryz.func55, Tryz.ntmps55
    go_wp2
    go_ret
    exact ⟨rfl, Below.refl _ _⟩
  · have e0 : ((L.length : Int) == 0) = false := by simp; exact fun h => h0 (by simp [h])
    by_cases h40 : 40 < L.length
    · obtain rfl : R = false := by rw [← hR.out, goodT_long h40]
      have e1 : (40 : Int) < L.length := by omega
      go_enter Tryz.func55, Tryz.ntmps55
      go_wp2
      go_ret
      exact ⟨rfl, Below.refl _ _⟩
    · obtain ⟨rfl, hb⟩ := ha.out (fun h => h0 (by simp [h]))
      have e1 : ¬ (40 : Int) < L.length := by omega
      have HC := implCount b off cap L w hb hL (by omega) (by omega)
      go_enter Tryz.func55, Tryz.ntmps55
      go_wp2_with fail
      refine HC.mono ?_
      rintro e w1 ⟨hc, hb1⟩
      clear HC
      rcases hc with ⟨s, hs, rfl, hpt⟩ | ⟨hs, rfl⟩
      · have HS : Hid (stk (upAt L) (L.length - 1) = some s) := hs
        clear hs
        go_wp2
        go_loopw [24] (fun i wr => ∃ k : Nat, k ≤ L.length ∧ i = .int .i64 (k : Int) ∧ Hid (nodesOk L k = true) ∧ wr.heap[w.heap.size]? = some (.cells (outRow (cntTo L L.length) L.length) 3 (0, 0)) ∧ Below w.heap.size w wr) (fun i _ => L.length - (intOf i).toNat)
        case atStart => exact ⟨0, by omega, rfl, rfl, hpt, hb1⟩
        case round =>
          clear hpt hb1
          obtain ⟨k, hk, rfl, hN, hpt, hnx⟩ := hrel
          have hgl := lt_of_block hpt
          by_cases hlt : k < L.length
          · have hc := hL.out k hlt
            obtain ⟨x, hx⟩ : ∃ x, x = L[k] := ⟨_, rfl⟩
            rw [← hx] at hc
            have HG : Hid (L.getD k (0, 0, -1) = x) := by unfold Hid; rw [List.getD_eq_getElem?_getD, List.getElem?_eq_getElem hlt]; exact hx.symm
            clear hx
            obtain ⟨x, y, z⟩ := x
            simp only at hc
            have hc0 : wr.cell? ⟨b, off + k * 3, none⟩ = some (.int .i64 x) := (hnx.cell (by exact hb)).trans hc.1
            have hc1 : wr.cell? ⟨b, off + k * 3 + 1, none⟩ = some (.int .i64 y) := (hnx.cell (by exact hb)).trans hc.2.1
            have hc2 : wr.cell? ⟨b, off + k * 3 + 2, none⟩ = some (.int .i64 z) := (hnx.cell (by exact hb)).trans hc.2.2
            clear hc
            obtain ⟨n, hn⟩ : ∃ n, n = cntTo L L.length k := ⟨_, rfl⟩
            have d0 : wr.cell? ⟨w.heap.size, k, none⟩ = some (.int .i64 (n : Int)) := by rw [cell_of_block hpt, outRow_get _ _ _ hlt, hn]
            have HN : Hid (nodesOk L (k + 1) = nodeOk (x, y, z) (n : Int)) := by
              unfold Hid; rw [nodesOk_succ, hN.out, HG.out, hn, cntTo_kids HS.out]; rfl
            have HB : Hid (nodeOk (x, y, z) (n : Int) = false → goodT L = false) := fun h => goodT_bad hlt (Or.inr (by rw [HG.out, ← cntTo_kids HS.out, ← hn]; exact h))
            clear hn hN HG
            obtain ⟨r, hr⟩ : ∃ r, r = nodeOk (x, y, z) (n : Int) := ⟨_, rfl⟩
            rw [← hr] at HN HB
            have H : ∀ W : World, Below w.heap.size w W → W.heap[w.heap.size]? = some (.cells (outRow (cntTo L L.length) L.length) 3 (0, 0)) → Calls Tryz.prog 76 #[.agg #[.int .i64 x, .int .i64 y, .int .i64 z], .int .i64 (n : Int)] W fun e w' => e = .returned (.bool r) ∧ w'.heap[w.heap.size]? = some (.cells (outRow (cntTo L L.length) L.length) 3 (0, 0)) ∧ Below w.heap.size w w' := fun W hW hp => by
              rw [hr]
              refine (implNode x y z n W (hT.out.below hW (Nat.le_refl _))).mono ?_
              rintro e w' ⟨rfl, hb'⟩
              exact ⟨rfl, (hb'.block _ (lt_of_block hp)).trans hp, below2 hW hb'⟩
            clear hr
            have ha1 := fun o => hnx.alloc hnx.size o
            have ha2 : ∀ o : Obj, (wr.alloc o).heap[w.heap.size]? = some (.cells (outRow (cntTo L L.length) L.length) 3 (0, 0)) := fun o => (Below.heap_alloc _ _ _ hgl).trans hpt
            cases r with
            | true =>
              go_wp2
              go_region_with (go_at_call 76; refine (H _ (by first | exact ha1 _ | exact (ha1 _).drew | exact (ha1 _).drew.drew | exact bel_dN (ha1 _) _) (by exact ha2 _)).mono ?_; rintro e w2 ⟨rfl, hp2, hb2⟩)
              all_goals
                go_wp2
                go_roundw
                case rel => exact ⟨k + 1, by omega, by go_num, HN, by assumption, by assumption⟩
                case measure => simp [intOf]; omega
            | false =>
              obtain rfl : R = false := by rw [← hR.out]; exact HB.out rfl
              go_wp2
              go_region_with (go_at_call 76; refine (H _ (by first | exact ha1 _ | exact (ha1 _).drew | exact (ha1 _).drew.drew | exact bel_dN (ha1 _) _) (by exact ha2 _)).mono ?_; rintro e w2 ⟨rfl, hp2, hb2⟩)
              all_goals
                go_wp2
                go_ret
                exact ⟨rfl, by assumption⟩
          · obtain rfl : k = L.length := by omega
            obtain rfl : R = true := by rw [← hR.out]; exact goodT_yes (by omega) (by omega) HS.out hN.out
            go_wp2
            go_ret
            exact ⟨rfl, hnx⟩
      · have HB : Hid (goodT L = false) := goodT_bad (k := L.length - 1) (by omega) (Or.inl hs)
        obtain rfl : R = false := by rw [← hR.out, HB.out]
        go_wp2
        go_ret
        exact ⟨rfl, hb1⟩

end Go.Proofs.YtljnciclbjcinaaGreatDoor
