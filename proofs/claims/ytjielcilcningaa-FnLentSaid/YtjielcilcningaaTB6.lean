/-
  The library's row of handles in one: a copy of its own.
-/
import Derived.Test.YtjielcilcningaaTB2
import Derived.Lib.AppendZeros
namespace Go.Proofs.Ytjielcilcningaa
open Go.ChangeShapes Go.WideShapes Go.ChangeAt Go.RowKit

theorem ownT_shape {w : World} {B : Nat} {e : TypeId} {s n : Nat} {v : Value} {xs : List Value} (h : w.ownsRow B e s v n xs) : ∃ a cap, v = .slice a n cap ∧ n ≤ cap := by
  rcases h.2 with ⟨rfl, h0⟩ | ⟨g, cap, cur, rfl, _, _, hc, _⟩
  · subst h0; exact ⟨none, 0, rfl, by omega⟩
  · exact ⟨_, cap, rfl, hc⟩
theorem ownT_either {w : World} {B : Nat} {e : TypeId} {s n : Nat} {a : Option Addr} {cs : Nat} {xs : List Value} (h : w.ownsRow B e s (.slice a n cs) n xs) : (a = none ∧ n = 0 ∧ cs = 0) ∨ ∃ gs, a = some ⟨gs, 0, none⟩ := by
  rcases h.2 with ⟨h0, h1⟩ | ⟨g, cap, cur, h0, _⟩
  · simp only [Value.slice.injEq] at h0; exact .inl ⟨h0.1, h1, h0.2.2⟩
  · simp only [Value.slice.injEq] at h0; exact .inr ⟨g, h0.1⟩
theorem hds_news {w : World} {b off : Nat} {L : List Hd} (hc : ∀ k (hk : k < L.length), HdAt w b (off + k * 6) L[k]) : ∀ j u, (hv L)[j]? = some u → w.cell? ((⟨b, off, none⟩ : Addr).add j) = some u := fun j u hu => by
  have hj : j < L.length * 6 := by
    rcases Nat.lt_or_ge j (hv L).length with h | h
    · rw [hv_len] at h; exact h
    · rw [List.getElem?_eq_none h] at hu; simp at hu
  obtain ⟨d0, d1, d2, d3, d4, d5⟩ := hc (j / 6) (by omega)
  have hm : j % 6 = 0 ∨ j % 6 = 1 ∨ j % 6 = 2 ∨ j % 6 = 3 ∨ j % 6 = 4 ∨ j % 6 = 5 := by omega
  have e : j / 6 * 6 + j % 6 = j := by omega
  have h0 := hv_at L (j / 6) (by omega) (j % 6) (by omega)
  rw [e, hu] at h0
  rw [Addr.add_lit]
  rcases hm with hm | hm | hm | hm | hm | hm <;> rw [hm] at h0 e <;> simp [hdC] at h0 <;> subst h0
  · rw [show off + j = off + j / 6 * 6 by omega]; exact d0
  · rw [show off + j = off + j / 6 * 6 + 1 by omega]; exact d1
  · rw [show off + j = off + j / 6 * 6 + 2 by omega]; exact d2
  · rw [show off + j = off + j / 6 * 6 + 3 by omega]; exact d3
  · rw [show off + j = off + j / 6 * 6 + 4 by omega]; exact d4
  · rw [show off + j = off + j / 6 * 6 + 5 by omega]; exact d5

set_option maxRecDepth 100000 in
set_option maxHeartbeats 1600000 in
theorem growH (n : Nat) (hn : n ≤ 100) (w : World) :
    Calls Try.prog 47 #[.slice none 0 0, .int .i64 (n : Int)] w fun e w' => ∃ v, e = .returned v ∧ w'.ownsRow w.heap.size 28 6 v 0 [] ∧ Below w.heap.size w w' := by
  obtain ⟨i0, i0i, i00, i01, i02⟩ := info_parts Try.infoHd
  by_cases h0 : n = 0
  · subst h0
    go_enter Try.func47, Try.ntmps47
    go_wp2
    go_ret
    exact ⟨_, rfl, World.ownsRow_nil _ _ _ _, Below.refl _ _⟩
  · have hpos : (0 : Int) < (n : Int) := by omega
    have hnn : ¬ (n : Int) < 0 := by omega
    have hbyte : ¬ (281474976710656 : Int) < (n : Int) * (Try.t28.bytes : Int) := by rw [show Try.t28.bytes = 48 by kernel_rfl]; omega
    have hbyte2 : ¬ 281474976710656 < Builtin.nextslicecap n 0 * Try.t28.bytes := by rw [show Try.t28.bytes = 48 by kernel_rfl, nextslicecap_zero (by omega)]; omega
    have hcap := grownCap_ge w n 0 28
    have hcap2 := grownCap_le_maxLen w n 0 28 (by unfold maxLen; omega)
    have HG : Hid (n ≤ grownCap w n 0 28 ∧ grownCap w n 0 28 ≤ maxLen) := ⟨hcap, hcap2⟩
    clear hcap hcap2
    go_enter Try.func47, Try.ntmps47
    go_wp2
    go_ret
    refine ⟨_, rfl, ⟨rfl, .inr ⟨w.heap.size, grownCap w n 0 28, _, rfl, Nat.le_refl _, heap_alloc_new _ _, Nat.zero_le _, HG.out.2, ?_, by simp⟩⟩, ?_⟩
    · have := HG.out.1
      simp only [Array.size_append, size_zeroCells]
      have e : (#[Value.bool false, Value.int .i64 0, Value.int .i64 0, Value.bool false, Value.int .i64 0, Value.int .i64 0] : Array Value).size = 6 := rfl
      rw [e]
      show n * 6 + (grownCap w n 0 28 - n) * 6 = _
      omega
    · first
        | exact ((Below.refl _ _).alloc (Nat.le_refl _) _).drew
        | exact ((Below.refl _ _).drew.alloc (Nat.le_refl _) _)

set_option maxRecDepth 100000 in
set_option maxHeartbeats 1600000 in
theorem concatH (pa : Option Addr) (pc : Nat) (ps : List Hd) (z : Nat) (w : World) (c0 : w.cell? ⟨z, 0, none⟩ = some (.slice pa ps.length pc)) (hz : z < w.heap.size) (hp : Hid (Hds w pa ps)) (h1 : ps.length ≤ 40) :
    Calls Try.prog 46 #[.slice (some ⟨z, 0, none⟩) 1 1] w fun e w' => ∃ v, e = .returned v ∧ Hid (w'.ownsRow w.heap.size 28 6 v ps.length (hv ps)) ∧ Below w.heap.size w w' := by
  obtain ⟨i0, i0i, i00, i01, i02⟩ := info_parts Try.infoHd
  obtain ⟨n, hn⟩ : ∃ n, ps.length = n := ⟨_, rfl⟩
  rw [hn] at c0 h1
  have HN : Hid (ps.length = n ∧ n ≤ 40) := ⟨hn, h1⟩
  clear hn
  go_enter Try.func46, Try.ntmps46
  go_wp2
  go_loopw [3, 11] (fun vs vi wr => wr = w ∧ ((vi = .int .i64 0 ∧ vs = .int .i64 0) ∨ (vi = .int .i64 1 ∧ vs = .int .i64 (n : Int)))) (fun _ vi _ => 1 - (intOf vi).toNat)
  case atStart => exact ⟨rfl, .inl ⟨rfl, rfl⟩⟩
  case round =>
    obtain ⟨hw, hrel⟩ := hrel
    obtain rfl := hw.symm
    obtain ⟨rfl, rfl⟩ | ⟨rfl, rfl⟩ := hrel
    · go_wp2
      go_roundw
      case rel => exact ⟨by trivial, .inr ⟨rfl, by simp⟩⟩
      case measure => simp [intOf]
    · have G := growH n (by omega) w
      go_wp2_with fail
      refine G.mono ?_
      rintro e w1 ⟨v, rfl, hown, hb1⟩
      have HB1 : Hid (Below w.heap.size w w1) := hb1
      have HO : Hid (w1.ownsRow w.heap.size 28 6 v 0 []) := hown
      have d0 := (hb1.cell (p := ⟨z, 0, none⟩) hz).trans c0
      have C0 : Hid (w.cell? ⟨z, 0, none⟩ = some (.slice pa n pc)) := c0
      clear G hb1 hown c0
      have c0 := C0
      clear C0
      go_wp2_with fail
      go_loopw [6, 27] (fun vr vi wr => ∃ (k : Nat) (L : List Hd), k ≤ 1 ∧ vi = .int .i64 k ∧ Hid (L = (if k = 0 then [] else ps)) ∧ Hid (wr.ownsRow w.heap.size 28 6 vr L.length (hv L)) ∧ Hid (Below w.heap.size w wr)) (fun _ vi _ => 1 - (intOf vi).toNat)
      case atStart => exact ⟨0, [], by omega, rfl, rfl, HO, HB1⟩
      case round =>
        clear HO HB1
        obtain ⟨k, L, hk, rfl, hL, hR, hB⟩ := hrel
        have e0 := (hB.out.cell (p := ⟨z, 0, none⟩) hz).trans c0.out
        have hk3 : k = 0 ∨ k = 1 := by omega
        rcases hk3 with rfl | rfl
        · obtain ⟨av, cv, hvr, hcv⟩ := ownT_shape hR.out
          subst hvr
          have HL : Hid (L = []) := hL
          have HLL : Hid (L.length ≤ 40) := by unfold Hid; rw [HL.out]; simp
          have HX : Hid (Hds wr pa ps) := hp.out.below hB.out
          have hei := ownT_either hR.out
          have HCV : Hid (L.length ≤ cv) := hcv
          clear hL hcv
          cases pa with
          | none =>
            have hX : ps = [] := by
              rcases hn : ps with _ | ⟨x, r⟩
              · rfl
              · obtain ⟨b, off, h, _⟩ := HX.out (by rw [hn]; simp)
                simp at h
            have h0 : n = 0 := by have h1 := HN.out; rw [hX] at h1; simp at h1; omega
            subst h0
            have HXX : Hid (ps = []) := hX
            clear hX
            obtain ⟨nl, hnl⟩ : ∃ q, L.length = q := ⟨_, rfl⟩
            rw [hnl] at hR hei ⊢
            have HNL : Hid (L.length = nl) := hnl
            have hncv : nl ≤ cv := by have := HCV.out; omega
            have hncv2 : (nl : Int) ≤ (cv : Int) := by omega
            clear hnl
            have HE : Hid (ps = L) := by unfold Hid; rw [HXX.out, HL.out]
            have HO2 : Hid (wr.ownsRow w.heap.size 28 6 (.slice av nl cv) (ps).length (hv (ps))) := by
              unfold Hid; rw [HE.out, HNL.out]; exact hR.out
            rcases hei with ⟨rfl, h0, rfl⟩ | ⟨gs, rfl⟩
            · subst h0
              go_wp2
              go_roundw
              case rel => exact ⟨1, ps, by omega, rfl, by unfold Hid; simp, by first | exact HO2 | exact HO2.out, hB⟩
              case measure => simp [intOf]
            · go_wp2
              go_roundw
              case rel => exact ⟨1, ps, by omega, rfl, by unfold Hid; simp, by first | exact HO2 | exact HO2.out, hB⟩
              case measure => simp [intOf]
          | some ad =>
            have HC : Hid (∀ j u, (hv ps)[j]? = some u → wr.cell? (ad.add j) = some u) := by
              unfold Hid
              by_cases he : ps = []
              · rw [he]; intro j u hu; simp [hv] at hu
              · obtain ⟨b, off, h, hb, hc⟩ := HX.out he
                simp at h
                subst h
                exact hds_news hc
            clear hei
            go_wp2_with (at_builtin; refine wpList_append_own _ rfl _ _ 23 rfl w.heap.size 28 i0 (.agg #[.bool false, .int .i64 0, .int .i64 0, .bool false, .int .i64 0, .int .i64 0]) 6 48 Try.underlying23 i0i i00 i01 i02 rfl (by decide) _ _ _ rfl hR.out ad n _ (hv ps) rfl ?qc1 ?qc2 ?qc3 ?qc4 ?qc5 ?qc6 ?_)
            case qc1 => have h := HN.out; rw [hv_len]; omega
            case qc2 => exact HC.out
            case qc3 => exact hv_one ps
            case qc4 => have h := HN.out; have := HLL.out; unfold maxLen; omega
            case qc5 => have h := HN.out; have := HLL.out; omega
            case qc6 => exact hB.out.size
            intro v' w2 hown hgrow _
            have HB2 : Hid (Below w.heap.size w w2) := hB.out.grown hgrow hB.out.size (ownsRow_block hR.out)
            have HO2 : Hid (w2.ownsRow w.heap.size 28 6 v' (ps).length (hv (ps))) := by
              have e : hv L ++ hv ps = hv (ps) := by rw [HL.out]; simp [hv]
              have e2 : L.length + n = (ps).length := by have h := HN.out; rw [HL.out]; simp; omega
              rw [e, e2] at hown
              exact hown
            clear hown hgrow
            go_wp2
            go_roundw
            case rel => exact ⟨1, ps, by omega, rfl, by unfold Hid; simp, HO2, HB2⟩
            case measure => simp [intOf]
        · obtain ⟨av, cv, hvr, hcv⟩ := ownT_shape hR.out
          subst hvr
          have HL : Hid (L = ps) := hL
          clear hL
          go_wp2
          go_ret
          refine ⟨_, rfl, ?_, hB.out⟩
          rw [← HL.out]
          exact hR

end Go.Proofs.Ytjielcilcningaa
