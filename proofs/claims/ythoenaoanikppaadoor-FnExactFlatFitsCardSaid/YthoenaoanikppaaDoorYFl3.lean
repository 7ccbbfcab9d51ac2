/-
  The library's two rows of numbers in one.
-/
import Derived.Test.YthoenaoanikppaaDoorYFl2
import Derived.Lib.AppendZeros
namespace Go.Proofs.YthoenaoanikppaaDoor
open Go.ChangeShapes Go.WideShapes Go.ChangeAt Go.RowKit

set_option maxRecDepth 100000 in
set_option maxHeartbeats 1600000 in
theorem growI (n : Nat) (h0 : 0 < n) (hn : n ≤ 2000) (w : World) :
    Calls Tryd.prog 29 #[.slice none 0 0, .int .i64 (n : Int)] w fun e w' => ∃ v, e = .returned v ∧ w'.ownsRow w.heap.size 3 1 v 0 [] ∧ Below w.heap.size w w' := by
  obtain ⟨i0, i0i, i00, i01, i02⟩ := info_parts Tryd.infoY
  have hpos : (0 : Int) < (n : Int) := by omega
  have hnn : ¬ (n : Int) < 0 := by omega
  have hbyte : ¬ (281474976710656 : Int) < (n : Int) * (Tryd.t3.bytes : Int) := by rw [show Tryd.t3.bytes = 8 by kernel_rfl]; omega
  have hbyte2 : ¬ 281474976710656 < Builtin.nextslicecap n 0 * Tryd.t3.bytes := by rw [show Tryd.t3.bytes = 8 by kernel_rfl, nextslicecap_zero (by omega)]; omega
  have hcap := grownCap_ge w n 0 3
  have hcap2 := grownCap_le_maxLen w n 0 3 (by unfold maxLen; omega)
  have HG : Hid (n ≤ grownCap w n 0 3 ∧ grownCap w n 0 3 ≤ maxLen) := ⟨hcap, hcap2⟩
  clear hcap hcap2
  go_enter Tryd.func29, Tryd.ntmps29
  go_wp2
  go_ret
  refine ⟨_, rfl, ⟨rfl, .inr ⟨w.heap.size, grownCap w n 0 3, _, rfl, Nat.le_refl _, heap_alloc_new _ _, Nat.zero_le _, HG.out.2, ?_, by simp⟩⟩, ?_⟩
  · have := HG.out.1
    simp only [Array.size_append, size_zeroCells]
    have e : (#[Value.int .i64 0] : Array Value).size = 1 := rfl
    rw [e]
    show n * 1 + (grownCap w n 0 3 - n) * 1 = _
    omega
  · first
      | exact ((Below.refl _ _).alloc (Nat.le_refl _) _).drew
      | exact ((Below.refl _ _).drew.alloc (Nat.le_refl _) _)

set_option maxRecDepth 100000 in
set_option maxHeartbeats 3200000 in
theorem concatI (z g0 g1 c0 c1 n : Nat) (A : List Int) (w : World) (hn : n = A.length) (h1 : 0 < n) (h2 : n ≤ 1000) (k0 : w.cell? ⟨z, 0, none⟩ = some (.slice (some ⟨g0, 0, none⟩) 1 c0)) (k1 : w.cell? ⟨z, 1, none⟩ = some (.slice (some ⟨g1, 0, none⟩) n c1)) (hz : z < w.heap.size) (hg0 : g0 < w.heap.size) (hg1 : g1 < w.heap.size)
    (m0 : w.cell? ⟨g0, 0, none⟩ = some (.int .i64 127)) (m1 : Hid (∀ j (h : j < A.length), w.cell? ⟨g1, j, none⟩ = some (.int .i64 A[j]))) :
    Calls Tryd.prog 27 #[.slice (some ⟨z, 0, none⟩) 2 2] w fun e w' => ∃ v, e = .returned v ∧ w'.ownsRow w.heap.size 3 1 v (n + 1) (iy (127 :: A)) ∧ Below w.heap.size w w' := by
  obtain ⟨i0, i0i, i00, i01, i02⟩ := info_parts Tryd.infoY
  have HN : Hid (n = A.length) := hn
  clear hn
  go_enter Tryd.func27, Tryd.ntmps27
  go_wp2
  go_loopw [3, 11] (fun vs vi wr => wr = w ∧ ((vi = .int .i64 0 ∧ vs = .int .i64 0) ∨ (vi = .int .i64 1 ∧ vs = .int .i64 1) ∨ (vi = .int .i64 2 ∧ vs = .int .i64 ((n + 1 : Nat) : Int)))) (fun _ vi _ => 2 - (intOf vi).toNat)
  case atStart => exact ⟨rfl, .inl ⟨rfl, rfl⟩⟩
  case round =>
    obtain ⟨hw, hrel⟩ := hrel
    obtain rfl := hw.symm
    obtain ⟨rfl, rfl⟩ | ⟨rfl, rfl⟩ | ⟨rfl, rfl⟩ := hrel
    · go_wp2
      go_roundw
      case rel => exact ⟨by trivial, .inr (.inl ⟨rfl, by simp⟩)⟩
      case measure => simp [intOf]
    · go_wp2
      go_roundw
      case rel => exact ⟨by trivial, .inr (.inr ⟨rfl, by simp; omega⟩)⟩
      case measure => simp [intOf]
    · have G := growI (n + 1) (by omega) (by omega) w
      go_wp2_with fail
      refine G.mono ?_
      rintro e w1 ⟨v, rfl, hown, hb1⟩
      clear G
      have HK0 : Hid (w.cell? ⟨z, 0, none⟩ = some (.slice (some ⟨g0, 0, none⟩) 1 c0)) := k0
      have HK1 : Hid (w.cell? ⟨z, 1, none⟩ = some (.slice (some ⟨g1, 0, none⟩) n c1)) := k1
      have HM0 : Hid (w.cell? ⟨g0, 0, none⟩ = some (.int .i64 127)) := m0
      clear k0 k1 m0
      go_wp2
      go_loopw [6, 27] (fun vr vi wr => ∃ (k : Nat) (D : List Int), k ≤ 2 ∧ vi = .int .i64 k ∧ Hid (D = (if k = 0 then [] else if k = 1 then [127] else 127 :: A)) ∧ wr.ownsRow w.heap.size 3 1 vr D.length (iy D) ∧ Below w.heap.size w wr) (fun _ vi _ => 2 - (intOf vi).toNat)
      case atStart => exact ⟨0, [], by omega, rfl, rfl, hown, hb1⟩
      case round =>
        clear hown hb1
        obtain ⟨k, D, hk, rfl, hD, hR, hnx⟩ := hrel
        have hsz := hnx.size
        have k0 := keepCell hnx hz HK0.out
        have k1 := keepCell hnx hz HK1.out
        have m0 := keepCell hnx hg0 HM0.out
        have hk3 : k = 0 ∨ k = 1 ∨ k = 2 := by omega
        rcases hk3 with rfl | rfl | rfl
        · obtain rfl : D = [] := hD.out
          have hn0 : ∀ j u, (iy [127])[j]? = some u → wr.cell? ((⟨g0, 0, none⟩ : Addr).add j) = some u := fun j u hu => by
            rw [Addr.add_lit, Nat.zero_add]
            match j, hu with
            | 0, hu => simp [iy] at hu; rw [← hu]; exact m0
          go_wp2_with (at_builtin; refine wpList_append_own _ rfl _ _ 40 rfl w.heap.size 3 i0 (.int .i64 0) 1 8 Tryd.underlying40 i0i i00 i01 i02 rfl (by decide) _ _ _ rfl hR ⟨g0, 0, none⟩ 1 _ (iy [127]) rfl rfl hn0 (iy_one _) (by unfold maxLen; simp) (by simp) (by omega) ?_)
          intro v' w2 hown' hgrow' _
          have hb2 : Below w.heap.size w w2 := hnx.grown hgrow' (by omega) (ownsRow_block hR)
          clear hgrow' hR
          go_wp2
          go_roundw
          case rel => exact ⟨1, [127], by omega, by go_num, rfl, by simpa [iy] using hown', hb2⟩
          case measure => simp [intOf]
        · obtain rfl : D = [127] := hD.out
          have hn1 : ∀ j u, (iy A)[j]? = some u → wr.cell? ((⟨g1, 0, none⟩ : Addr).add j) = some u := fun j u hu => by
            rw [Addr.add_lit, Nat.zero_add]
            have hj : j < A.length := by
              rcases Nat.lt_or_ge j (iy A).length with h | h
              · rw [iy_len] at h; exact h
              · rw [List.getElem?_eq_none h] at hu; simp at hu
            have := keepCell hnx hg1 (m1.out j hj)
            simp [iy, hj] at hu
            rw [← hu]
            exact this
          go_wp2_with (at_builtin; refine wpList_append_own _ rfl _ _ 40 rfl w.heap.size 3 i0 (.int .i64 0) 1 8 Tryd.underlying40 i0i i00 i01 i02 rfl (by decide) _ _ _ rfl hR ⟨g1, 0, none⟩ n _ (iy A) rfl (by rw [iy_len, HN.out]; omega) hn1 (iy_one _) (by unfold maxLen; simp; omega) (by simp; omega) (by omega) ?_)
          intro v' w2 hown' hgrow' _
          have hb2 : Below w.heap.size w w2 := hnx.grown hgrow' (by omega) (ownsRow_block hR)
          clear hgrow' hR
          go_wp2
          go_roundw
          case rel => exact ⟨2, 127 :: A, by omega, by go_num, rfl, by rw [iy_app] at hown'; rw [List.length_cons, ← HN.out, Nat.add_comm]; exact hown', hb2⟩
          case measure => simp [intOf]
        · obtain rfl : D = 127 :: A := hD.out
          obtain ⟨va, vc, rfl⟩ := ownsRow_shape hR
          go_wp2
          go_ret
          exact ⟨_, rfl, by rw [List.length_cons, ← HN.out] at hR ⊢; exact hR, hnx⟩

end Go.Proofs.YthoenaoanikppaaDoor
