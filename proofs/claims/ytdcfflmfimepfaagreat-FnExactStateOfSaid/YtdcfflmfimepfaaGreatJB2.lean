/-
  The library's row of words in one: a copy of its own.
-/
import Derived.Test.YtdcfflmfimepfaaGreatSB4
import Derived.Test.YtdcfflmfimepfaaGreatKA3
import Derived.Test.YtdcfflmfimepfaaGreatKA1
import Derived.Lib.AppendZeros
import Derived.Test.YtdcfflmfimepfaaGreatKA2
import Derived.Test.YtdcfflmfimepfaaGreatSB1
import Derived.Test.YtdcfflmfimepfaaGreatJA14
import Derived.Test.YtdcfflmfimepfaaGreatJA13
namespace Go.Proofs.YtdcfflmfimepfaaGreat
open Go.ChangeShapes Go.WideShapes Go.ChangeAt Go.RowKit

theorem wds_news {w : World} {b off : Nat} {L : List Wd8} (hc : ∀ k (hk : k < L.length), WdAt w b (off + k * 2) L[k]) : ∀ j u, (wv L)[j]? = some u → w.cell? ((⟨b, off, none⟩ : Addr).add j) = some u := fun j u hu => by
  have hj : j < L.length * 2 := by
    rcases Nat.lt_or_ge j (wv L).length with h | h
    · rw [wv_len] at h; exact h
    · rw [List.getElem?_eq_none h] at hu; simp at hu
  obtain ⟨h0, h1⟩ := wv_at L (j / 2) (by omega)
  obtain ⟨d0, d1⟩ := hc (j / 2) (by omega)
  rw [Addr.add_lit]
  rcases Nat.mod_two_eq_zero_or_one j with hm | hm
  · have e : j / 2 * 2 = j := by omega
    rw [e] at h0
    rw [h0] at hu
    have e2 : off + j / 2 * 2 = off + j := by omega
    rw [e2] at d0
    simp at hu
    rw [← hu]
    exact d0
  · have e : j / 2 * 2 + 1 = j := by omega
    rw [e] at h1
    rw [h1] at hu
    have e2 : off + j / 2 * 2 + 1 = off + j := by omega
    rw [e2] at d1
    simp at hu
    rw [← hu]
    exact d1

set_option maxRecDepth 100000 in
set_option maxHeartbeats 1600000 in
theorem growW (n : Nat) (hn : n ≤ 100) (w : World) :
    Calls Tryz.prog 71 #[.slice none 0 0, .int .i64 (n : Int)] w fun e w' => ∃ v, e = .returned v ∧ w'.ownsRow w.heap.size 80 2 v 0 [] ∧ Below w.heap.size w w' := by
  obtain ⟨i0, i0i, i00, i01, i02⟩ := info_parts Tryz.infoWd
  by_cases h0 : n = 0
  · subst h0
    go_enter Tryz.func71, Tryz.ntmps71
    go_wp2
    go_ret
    exact ⟨_, rfl, World.ownsRow_nil _ _ _ _, Below.refl _ _⟩
  · have hpos : (0 : Int) < (n : Int) := by omega
    have hnn : ¬ (n : Int) < 0 := by omega
    have hbyte : ¬ (281474976710656 : Int) < (n : Int) * (Tryz.t80.bytes : Int) := by rw [show Tryz.t80.bytes = 16 by kernel_rfl]; omega
    have hbyte2 : ¬ 281474976710656 < Builtin.nextslicecap n 0 * Tryz.t80.bytes := by rw [show Tryz.t80.bytes = 16 by kernel_rfl, nextslicecap_zero (by omega)]; omega
    have hcap := grownCap_ge w n 0 80
    have hcap2 := grownCap_le_maxLen w n 0 80 (by unfold maxLen; omega)
    have HG : Hid (n ≤ grownCap w n 0 80 ∧ grownCap w n 0 80 ≤ maxLen) := ⟨hcap, hcap2⟩
    clear hcap hcap2
    go_enter Tryz.func71, Tryz.ntmps71
    go_wp2
    go_ret
    refine ⟨_, rfl, ⟨rfl, .inr ⟨w.heap.size, grownCap w n 0 80, _, rfl, Nat.le_refl _, heap_alloc_new _ _, Nat.zero_le _, HG.out.2, ?_, by simp⟩⟩, ?_⟩
    · have := HG.out.1
      simp only [Array.size_append, size_zeroCells]
      have e : (#[Value.int .i64 0, Value.int .u64 0] : Array Value).size = 2 := rfl
      rw [e]
      show n * 2 + (grownCap w n 0 80 - n) * 2 = _
      omega
    · first
        | exact ((Below.refl _ _).alloc (Nat.le_refl _) _).drew
        | exact ((Below.refl _ _).drew.alloc (Nat.le_refl _) _)

set_option maxRecDepth 100000 in
set_option maxHeartbeats 1600000 in
theorem concatW (pa : Option Addr) (pc : Nat) (ps : List Wd8) (z : Nat) (w : World) (c0 : w.cell? ⟨z, 0, none⟩ = some (.slice pa ps.length pc)) (hz : z < w.heap.size) (hp : Hid (Wds w pa ps)) (h1 : ps.length ≤ 20) :
    Calls Tryz.prog 49 #[.slice (some ⟨z, 0, none⟩) 1 1] w fun e w' => ∃ a cap, e = .returned (.slice a ps.length cap) ∧ Hid (WdsB w.heap.size w' a ps) ∧ Below w.heap.size w w' := by
  obtain ⟨i0, i0i, i00, i01, i02⟩ := info_parts Tryz.infoWd
  obtain ⟨n, hn⟩ : ∃ n, ps.length = n := ⟨_, rfl⟩
  rw [hn] at c0 h1
  have HN : Hid (ps.length = n ∧ n ≤ 20) := ⟨hn, h1⟩
  clear hn
  go_enter Tryz.func49, Tryz.ntmps49
  go_wp2
  go_loopw [3, 11] (fun vs vi wr => wr = w ∧ ((vi = .int .i64 0 ∧ vs = .int .i64 0) ∨ (vi = .int .i64 1 ∧ vs = .int .i64 (n : Int)))) (fun _ vi _ => 1 - (intOf vi).toNat)
  case atStart => exact ⟨rfl, .inl ⟨rfl, rfl⟩⟩
  case round =>
    obtain ⟨hw, hrel⟩ := hrel
    obtain rfl := hw.symm
    obtain ⟨rfl, rfl⟩ | ⟨rfl, rfl⟩ := hrel
    · go_wp2
      go_roundw
      case rel => exact ⟨by trivial, .inr ⟨rfl, by simp⟩⟩
      case measure => simp [intOf]
    · have G := growW n (by omega) w
      go_wp2_with fail
      refine G.mono ?_
      rintro e w1 ⟨v, rfl, hown, hb1⟩
      have HB1 : Hid (Below w.heap.size w w1) := hb1
      have HO : Hid (w1.ownsRow w.heap.size 80 2 v 0 []) := hown
      have d0 := (hb1.cell (p := ⟨z, 0, none⟩) hz).trans c0
      have C0 : Hid (w.cell? ⟨z, 0, none⟩ = some (.slice pa n pc)) := c0
      clear G hb1 hown c0
      have c0 := C0
      clear C0
      go_wp2_with fail
      go_loopw [6, 27] (fun vr vi wr => ∃ (k : Nat) (L : List Wd8), k ≤ 1 ∧ vi = .int .i64 k ∧ Hid (L = (if k = 0 then [] else ps)) ∧ Hid (wr.ownsRow w.heap.size 80 2 vr L.length (wv L)) ∧ Hid (Below w.heap.size w wr)) (fun _ vi _ => 1 - (intOf vi).toNat)
      case atStart => exact ⟨0, [], by omega, rfl, rfl, HO, HB1⟩
      case round =>
        clear HO HB1
        obtain ⟨k, L, hk, rfl, hL, hR, hB⟩ := hrel
        have e0 := (hB.out.cell (p := ⟨z, 0, none⟩) hz).trans c0.out
        have hk3 : k = 0 ∨ k = 1 := by omega
        rcases hk3 with rfl | rfl
        · obtain ⟨av, cv, hvr, hcv⟩ := own_shape hR.out
          subst hvr
          have HL : Hid (L = []) := hL
          have HLL : Hid (L.length ≤ 20) := by unfold Hid; rw [HL.out]; simp
          have HX : Hid (Wds wr pa ps) := hp.out.below hB.out
          have hei := own_either hR.out
          have HCV : Hid (L.length ≤ cv) := hcv
          clear hL hcv
          cases pa with
          | none =>
            have hX : ps = [] := by
              rcases hn : ps with _ | ⟨x, r⟩
              · rfl
              · obtain ⟨b, off, h, _⟩ := HX.out (by rw [hn]; simp)
                simp at h
            have h0 : n = 0 := by have h1 := HN.out; rw [hX] at h1; simp at h1; omega
            subst h0
            have HXX : Hid (ps = []) := hX
            clear hX
            obtain ⟨nl, hnl⟩ : ∃ q, L.length = q := ⟨_, rfl⟩
            rw [hnl] at hR hei ⊢
            have HNL : Hid (L.length = nl) := hnl
            have hncv : nl ≤ cv := by have := HCV.out; omega
            have hncv2 : (nl : Int) ≤ (cv : Int) := by omega
            clear hnl
            have HE : Hid (ps = L) := by unfold Hid; rw [HXX.out, HL.out]
            have HO2 : Hid (wr.ownsRow w.heap.size 80 2 (.slice av nl cv) (ps).length (wv (ps))) := by
              unfold Hid; rw [HE.out, HNL.out]; exact hR.out
            rcases hei with ⟨rfl, h0, rfl⟩ | ⟨gs, rfl⟩
            · subst h0
              go_wp2
              go_roundw
              case rel => exact ⟨1, ps, by omega, rfl, by unfold Hid; simp, by first | exact HO2 | exact HO2.out, hB⟩
              case measure => simp [intOf]
            · go_wp2
              go_roundw
              case rel => exact ⟨1, ps, by omega, rfl, by unfold Hid; simp, by first | exact HO2 | exact HO2.out, hB⟩
              case measure => simp [intOf]
          | some ad =>
            have HC : Hid (∀ j u, (wv ps)[j]? = some u → wr.cell? (ad.add j) = some u) := by
              unfold Hid
              by_cases he : ps = []
              · rw [he]; intro j u hu; simp [wv] at hu
              · obtain ⟨b, off, h, hb, hc⟩ := HX.out he
                simp at h
                subst h
                exact wds_news hc
            clear hei
            go_wp2_with (at_builtin; refine wpList_append_own _ rfl _ _ 40 rfl w.heap.size 80 i0 (.agg #[.int .i64 0, .int .u64 0]) 2 16 Tryz.underlying40 i0i i00 i01 i02 rfl (by decide) _ _ _ rfl hR.out ad n _ (wv ps) rfl ?qc1 ?qc2 ?qc3 ?qc4 ?qc5 ?qc6 ?_)
            case qc1 => have h := HN.out; rw [wv_len]; omega
            case qc2 => exact HC.out
            case qc3 => intro u hu; obtain ⟨x, _, hx⟩ := List.mem_flatMap.1 hu; simp at hx; rcases hx with rfl | rfl <;> rfl
            case qc4 => have h := HN.out; have := HLL.out; unfold maxLen; omega
            case qc5 => have h := HN.out; have := HLL.out; omega
            case qc6 => exact hB.out.size
            intro v' w2 hown hgrow _
            have HB2 : Hid (Below w.heap.size w w2) := hB.out.grown hgrow hB.out.size (ownsRow_block hR.out)
            have HO2 : Hid (w2.ownsRow w.heap.size 80 2 v' (ps).length (wv (ps))) := by
              have e : wv L ++ wv ps = wv (ps) := by rw [HL.out]; simp [wv]
              have e2 : L.length + n = (ps).length := by have h := HN.out; rw [HL.out]; simp; omega
              rw [e, e2] at hown
              exact hown
            clear hown hgrow
            go_wp2
            go_roundw
            case rel => exact ⟨1, ps, by omega, rfl, by unfold Hid; simp, HO2, HB2⟩
            case measure => simp [intOf]
        · obtain ⟨av, cv, hvr, hcv⟩ := own_shape hR.out
          subst hvr
          have HL : Hid (L = ps) := hL
          clear hL
          go_wp2
          go_ret
          refine ⟨av, cv, by rw [← HL.out]; rfl, ?_, hB.out⟩
          rw [← HL.out]
          exact own_wds hR.out

end Go.Proofs.YtdcfflmfimepfaaGreat

namespace Go.Proofs.YtdcfflmfimepfaaGreat
open Go.RowKit

structure WO (P : Program) (ops : Array Oper) (Q : Exit → Act → World → Prop) (S : World → Prop) (f : Nat) (L : Array Bool) (k : Nat) (a : Act) (w : World) : Prop where
  out : wpOp P ops Q k (fun a' w' => S w' ∧ WH P ops Q S f (L.setIfInBounds k true) a' w') a w
section
variable {P : Program} {ops : Array Oper} {Q : Exit → Act → World → Prop} {S : World → Prop} {f : Nat} {L : Array Bool} {a : Act} {w : World}
theorem wh_two (i j : Nat) (h1 : Region.ready .any ops L = [i, j]) (hi : WO P ops Q S f L i a w) (hj : WO P ops Q S f L j a w) : WH P ops Q S (f + 1) L a w := by
  refine ⟨wpAnyH_all h1 (by simp) fun k hk => ?_⟩
  have hk' : k = i ∨ k = j := by simpa using hk
  rcases hk' with rfl | rfl
  · exact wpOp_mono (fun _ _ h => ⟨h.1, h.2.out⟩) hi.out
  · exact wpOp_mono (fun _ _ h => ⟨h.1, h.2.out⟩) hj.out
theorem wo_val {j : Nat} (d : Option Tmp) {o : Oper} (v : Value) (w' : World) (ho : ops[j]? = some o) (hd : o.dst = d) (hw : Region.wanted o (yielded ops a.tmps) = true)
    (hrun : (execOp a.eval o).run P w = .ok (.value v) w') (hS : S w') (h : WH P ops Q S f (L.setIfInBounds j true) (a.put d v) w') : WO P ops Q S f L j a w := by
  subst hd
  exact ⟨wpOp_wp ho hw (wp_val hrun ⟨hS, h⟩)⟩
theorem wo_call {j : Nat} (d : Option Tmp) {o : Oper} (F : FuncId) (args : Array Value) (ho : ops[j]? = some o) (hd : o.dst = d) (hw : Region.wanted o (yielded ops a.tmps) = true)
    (hrun : (execOp a.eval o).run P w = .ok (.enter F args) w) (h : Calls P F args w fun e w' => ∃ v, e = .returned v ∧ S w' ∧ WH P ops Q S f (L.setIfInBounds j true) (a.put d v) w') : WO P ops Q S f L j a w := by
  subst hd
  exact ⟨wpOp_call ho hw hrun h⟩
end

end Go.Proofs.YtdcfflmfimepfaaGreat

namespace Go.Proofs.YtdcfflmfimepfaaGreat
open Go.ChangeShapes Go.WideShapes Go.ChangeAt Go.RowKit

set_option maxRecDepth 100000 in
set_option maxHeartbeats 3200000 in
theorem copiedI (mx : Int) (D : ByteArray) (a : Option Addr) (c : Nat) (L : List Wd8) (w : World) (hg : good mx D = true) (hD : D.size ≤ 1048576) (hL : Hid (Wds w a L)) (hlen : L.length ≤ 20) :
    Calls Tryz.prog 24 #[.agg #[.int .i64 mx, .string D, .slice a L.length c]] w fun e w' => ∃ a' c', e = .returned (.agg #[.int .i64 mx, .string D, .slice a' L.length c']) ∧ Hid (WdsB w.heap.size w' a' L) ∧ Below w.heap.size w w' := by
  have A : Hid (∀ w', Calls Tryz.prog 48 #[.agg #[.int .i64 mx, .string D]] w' fun e w'' => e = .returned (.agg #[.int .i64 mx, .string D]) ∧ Below w'.heap.size w' w'') := fun w' => by
    have h := asItWas mx D hD w'
    simp only [kept, hg, if_true] at h
    exact h
  have CC : Hid (∀ w' y, w'.cell? ⟨y, 0, none⟩ = some (.slice a L.length c) → y < w'.heap.size → Below w.heap.size w w' → Calls Tryz.prog 49 #[.slice (some ⟨y, 0, none⟩) 1 1] w' fun e w'' => ∃ a' cap, e = .returned (.slice a' L.length cap) ∧ Hid (WdsB w'.heap.size w'' a' L) ∧ Below w'.heap.size w' w'') := fun w' y h0 h1 h2 => concatW a c L y w' h0 h1 (hL.out.below h2) hlen
  obtain ⟨n, hn⟩ : ∃ n, L.length = n := ⟨_, rfl⟩
  rw [hn] at CC ⊢
  clear hn hL hlen hg hD
  obtain ⟨z, hz⟩ : ∃ z, w.heap.size = z := ⟨_, rfl⟩
  obtain ⟨V, hV⟩ : ∃ V, (w.alloc (.cells #[.int .i64 mx, .string D, .slice a n c] 42)).alloc (.cells #[.int .i64 0, .string ⟨#[]⟩, .slice none 0 0] 42) = V := ⟨_, rfl⟩
  have hb0 : Below w.heap.size w V := by rw [← hV]; exact bel_alloc (bel_alloc (Below.refl _ _) _) _
  have hx0 : V.heap[z]? = some (.cells #[.int .i64 mx, .string D, .slice a n c] 42 (0, 0)) := by rw [← hV, ← hz]; exact (Below.heap_alloc _ _ _ (by simp)).trans (heap_alloc_new _ _)
  have hr0 : V.heap[z + 1]? = some (.cells #[.int .i64 0, .string ⟨#[]⟩, .slice none 0 0] 42 (0, 0)) := by
    rw [← hV, ← hz]
    have h := heap_alloc_new (w.alloc (.cells #[.int .i64 mx, .string D, .slice a n c] 42)) (.cells #[.int .i64 0, .string ⟨#[]⟩, .slice none 0 0] 42)
    simpa using h
  have HV : Hid ((w.alloc (.cells #[.int .i64 mx, .string D, .slice a n c] 42)).alloc (.cells #[.int .i64 0, .string ⟨#[]⟩, .slice none 0 0] 42) = V ∧ w.heap.size = z) := ⟨hV, hz⟩
  have HZ : Hid (w.heap.size = z) := hz
  have HZV : Hid (z + 1 < V.heap.size) := lt_of_block hr0
  have HB0 : Hid (Below w.heap.size w V) := hb0
  have kx0 : ∀ w', Below (z + 1) V w' → w'.cell? ⟨z, 0, none⟩ = some (.int .i64 mx) := fun w' h => (h.cell (p := ⟨z, 0, none⟩) (by simp)).trans ((cell_of_block hx0 0).trans rfl)
  have kx1 : ∀ w', Below (z + 1) V w' → w'.cell? ⟨z, 1, none⟩ = some (.string D) := fun w' h => (h.cell (p := ⟨z, 1, none⟩) (by simp)).trans ((cell_of_block hx0 1).trans rfl)
  have kx2 : ∀ w', Below (z + 1) V w' → w'.cell? ⟨z, 2, none⟩ = some (.slice a n c) := fun w' h => (h.cell (p := ⟨z, 2, none⟩) (by simp)).trans ((cell_of_block hx0 2).trans rfl)
  have HR0 : Hid (V.heap[z + 1]? = some (.cells #[.int .i64 0, .string ⟨#[]⟩, .slice none 0 0] 42 (0, 0))) := hr0
  clear hV hz hb0 hx0 hr0
  go_enter Tryz.func24, Tryz.ntmps24
  go_wp2_with fail
  rw [HV.out.2, HV.out.1]
  refine wh_begin (Below (z + 1) V) (by kernel_rfl) ?_
  have hS0 : Below (z + 1) V V.drew := (Below.refl _ _).drew
  refine wh_take 0 (some 3) (.pointer (some ⟨z, 0, none⟩)) rfl rfl (by kernel_rfl) (by kernel_rfl) (by kernel_rfl) (fun _ _ _ h => h) hS0 (by rfl) (fun _ _ => by kernel_rfl) ?_
  simp only [Act.put, List.setIfInBounds_toArray, List.set_cons_zero, List.set_cons_succ]
  refine wh_take 1 (some 4) (.agg #[.int .i64 mx, .string D]) rfl rfl (by kernel_rfl) (by kernel_rfl) (by kernel_rfl) (fun _ _ _ h => h) hS0 (by rfl) (fun w' hS => by have q0 := kx0 _ hS; have q1 := kx1 _ hS; go_simp) ?_
  simp only [Act.put, List.setIfInBounds_toArray, List.set_cons_zero, List.set_cons_succ]
  refine wh_take 3 (some 6) (.pointer (some ⟨z, 2, none⟩)) rfl rfl (by kernel_rfl) (by kernel_rfl) (by kernel_rfl) (fun _ _ _ h => h) hS0 (by rfl) (fun _ _ => by kernel_rfl) ?_
  simp only [Act.put, List.setIfInBounds_toArray, List.set_cons_zero, List.set_cons_succ]
  refine wh_take 4 (some 7) (.slice a n c) rfl rfl (by kernel_rfl) (by kernel_rfl) (by kernel_rfl) (fun _ _ _ h => h) hS0 (by rfl) (fun w' hS => by have q0 := kx2 _ hS; go_simp) ?_
  simp only [Act.put, List.setIfInBounds_toArray, List.set_cons_zero, List.set_cons_succ]
  have hr1 : V.drew.heap[z + 1]? = some (.cells #[.int .i64 0, .string ⟨#[]⟩, .slice none 0 0] 42 (0, 0)) := HR0.out
  have hsz0 : z + 1 < V.drew.heap.size := lt_of_block hr1
  obtain ⟨W, hW⟩ : ∃ W, V.drew = W := ⟨_, rfl⟩
  rw [hW] at hS0 hr1 hsz0 ⊢
  clear hW kx0 kx1 kx2
  refine wh_two 2 5 (by kernel_rfl) ?_ ?_
  · refine wo_call (some 5) 48 #[.agg #[.int .i64 mx, .string D]] rfl rfl (by rfl) (by kernel_rfl) ?_
    refine (A.out W).mono ?_
    rintro e w1 ⟨rfl, hb1⟩
    have hS1 : Below (z + 1) V w1 := hS0.trans (hb1.mono (by omega))
    refine ⟨_, rfl, hS1, ?_⟩
    simp only [Act.put, List.setIfInBounds_toArray, List.set_cons_zero, List.set_cons_succ]
    have hSx : Below (z + 1) V (w1.alloc (.cells #[.slice a n c] 40)) := hS1.alloc (by have := hb1.size; omega) _
    refine wh_val 5 (some 8) (.slice (some ⟨w1.heap.size, 0, none⟩) 1 1) (w1.alloc (.cells #[.slice a n c] 40)) (by kernel_rfl) rfl rfl (by rfl) (by go_simp) hSx ?_
    simp only [Act.put, List.setIfInBounds_toArray, List.set_cons_zero, List.set_cons_succ]
    have dy : (w1.alloc (.cells #[.slice a n c] 40)).cell? ⟨w1.heap.size, 0, none⟩ = some (.slice a n c) := newCell rfl rfl
    have hy1 : w1.heap.size < (w1.alloc (.cells #[.slice a n c] 40)).heap.size := by simp
    have hrx : (w1.alloc (.cells #[.slice a n c] 40)).heap[z + 1]? = some (.cells #[.int .i64 0, .string ⟨#[]⟩, .slice none 0 0] 42 (0, 0)) := (Below.heap_alloc _ _ _ (by have := hb1.size; omega)).trans ((hb1.block (z + 1) hsz0).trans hr1)
    have hbx : Below w.heap.size w (w1.alloc (.cells #[.slice a n c] 40)) := HB0.out.trans (hSx.mono (by have := HZ.out; omega))
    refine wh_call 6 (some 9) 49 #[.slice (some ⟨w1.heap.size, 0, none⟩) 1 1] (by kernel_rfl) rfl rfl (by rfl) (by kernel_rfl) ?_
    refine (CC.out (w1.alloc (.cells #[.slice a n c] 40)) w1.heap.size dy hy1 hbx).mono ?_
    rintro e w6 ⟨a6, c6, rfl, hw6, hb6⟩
    have hS6 : Below (z + 1) V w6 := hSx.trans (hb6.mono (by have := hSx.size; have := HZV.out; omega))
    refine ⟨_, rfl, hS6, ?_⟩
    simp only [Act.put, List.setIfInBounds_toArray, List.set_cons_zero, List.set_cons_succ]
    refine wh_val 7 (some 10) (.agg #[.int .i64 mx, .string D, .slice a6 n c6]) w6 (by kernel_rfl) rfl rfl (by rfl) (by first | rfl | (go_simp; rfl) | go_simp) hS6 ?_
    simp only [Act.put, List.setIfInBounds_toArray, List.set_cons_zero, List.set_cons_succ]
    have hr6 : w6.heap[z + 1]? = some (.cells #[.int .i64 0, .string ⟨#[]⟩, .slice none 0 0] 42 (0, 0)) := (hb6.block (z + 1) (lt_of_block hrx)).trans hrx
    have q0 : w6.cell? ⟨z + 1, 0, none⟩ = some (.int .i64 0) := (cell_of_block hr6 0).trans rfl
    have q1 : w6.cell? ⟨z + 1, 1, none⟩ = some (.string ⟨#[]⟩) := (cell_of_block hr6 1).trans rfl
    have q2 : w6.cell? ⟨z + 1, 2, none⟩ = some (.slice none 0 0) := (cell_of_block hr6 2).trans rfl
    have k0 := free_of_block hr6 0
    have k1 := free_of_block hr6 1
    have k2 := free_of_block hr6 2
    have hS7 : Below (z + 1) V (((w6.setCell ⟨z + 1, 0, none⟩ (.int .i64 mx)).setCell ⟨z + 1, 1, none⟩ (.string D)).setCell ⟨z + 1, 2, none⟩ (.slice a6 n c6)) := ((hS6.setCell (Nat.le_refl _) _).setCell (Nat.le_refl _) _).setCell (Nat.le_refl _) _
    have hr7 : (((w6.setCell ⟨z + 1, 0, none⟩ (.int .i64 mx)).setCell ⟨z + 1, 1, none⟩ (.string D)).setCell ⟨z + 1, 2, none⟩ (.slice a6 n c6)).heap[z + 1]? = some (.cells #[.int .i64 mx, .string D, .slice a6 n c6] 42 (0, 0)) := heap_setCell_same _ _ _ _ _ _ (heap_setCell_same _ _ _ _ _ _ (heap_setCell_same _ _ _ _ _ _ hr6))
    refine wh_skip 8 none (((w6.setCell ⟨z + 1, 0, none⟩ (.int .i64 mx)).setCell ⟨z + 1, 1, none⟩ (.string D)).setCell ⟨z + 1, 2, none⟩ (.slice a6 n c6)) (by kernel_rfl) rfl rfl (by rfl) (by go_simp) hS7 ?_
    simp only [Act.put]
    refine wh_done (by kernel_rfl) ?_
    have HW7 : Hid (WdsB w.heap.size (((w6.setCell ⟨z + 1, 0, none⟩ (.int .i64 mx)).setCell ⟨z + 1, 1, none⟩ (.string D)).setCell ⟨z + 1, 2, none⟩ (.slice a6 n c6)) a6 L) := by
      have hm : z + 1 < (w1.alloc (.cells #[.slice a n c] 40)).heap.size := lt_of_block hrx
      exact (((hw6.out.set hm _ _).set hm _ _).set hm _ _).low hbx.size
    have HB7 : Hid (Below w.heap.size w (((w6.setCell ⟨z + 1, 0, none⟩ (.int .i64 mx)).setCell ⟨z + 1, 1, none⟩ (.string D)).setCell ⟨z + 1, 2, none⟩ (.slice a6 n c6))) := HB0.out.trans (hS7.mono (by have := HZ.out; omega))
    generalize (((w6.setCell ⟨z + 1, 0, none⟩ (.int .i64 mx)).setCell ⟨z + 1, 1, none⟩ (.string D)).setCell ⟨z + 1, 2, none⟩ (.slice a6 n c6)) = G at hr7 HW7 HB7 ⊢
    have g0 : G.cell? ⟨z + 1, 0, none⟩ = some (.int .i64 mx) := (cell_of_block hr7 0).trans rfl
    have g1 : G.cell? ⟨z + 1, 1, none⟩ = some (.string D) := (cell_of_block hr7 1).trans rfl
    have g2 : G.cell? ⟨z + 1, 2, none⟩ = some (.slice a6 n c6) := (cell_of_block hr7 2).trans rfl
    clear hr7 hr6 q0 q1 q2 k0 k1 k2 hS7 hS6 hw6 hb6 hbx hSx hrx
    go_wp2
    exact bodyPost_ret (v := .agg #[.int .i64 mx, .string D, .slice a6 n c6]) (by simp [results, Tryz.results24, go_sem, g0, g1, g2]) rfl ⟨a6, c6, rfl, HW7, HB7.out⟩
  · have hS1 : Below (z + 1) V (W.alloc (.cells #[.slice a n c] 40)) := hS0.alloc (by omega) _
    refine wo_val (some 8) (.slice (some ⟨W.heap.size, 0, none⟩) 1 1) (W.alloc (.cells #[.slice a n c] 40)) rfl rfl (by rfl) (by go_simp) hS1 ?_
    simp only [Act.put, List.setIfInBounds_toArray, List.set_cons_zero, List.set_cons_succ]
    have dy0 : (W.alloc (.cells #[.slice a n c] 40)).cell? ⟨W.heap.size, 0, none⟩ = some (.slice a n c) := newCell rfl rfl
    have hy0 : W.heap.size < (W.alloc (.cells #[.slice a n c] 40)).heap.size := by simp
    have hrx0 : (W.alloc (.cells #[.slice a n c] 40)).heap[z + 1]? = some (.cells #[.int .i64 0, .string ⟨#[]⟩, .slice none 0 0] 42 (0, 0)) := (Below.heap_alloc _ _ _ hsz0).trans hr1
    refine wh_call 2 (some 5) 48 #[.agg #[.int .i64 mx, .string D]] (by kernel_rfl) rfl rfl (by rfl) (by kernel_rfl) ?_
    refine (A.out _).mono ?_
    rintro e w1 ⟨rfl, hb1⟩
    have hSx : Below (z + 1) V w1 := hS1.trans (hb1.mono (by simp; omega))
    refine ⟨_, rfl, hSx, ?_⟩
    simp only [Act.put, List.setIfInBounds_toArray, List.set_cons_zero, List.set_cons_succ]
    have dy : w1.cell? ⟨W.heap.size, 0, none⟩ = some (.slice a n c) := (hb1.cell (p := ⟨W.heap.size, 0, none⟩) hy0).trans dy0
    have hy1 : W.heap.size < w1.heap.size := Nat.lt_of_lt_of_le hy0 hb1.size
    have hrx : w1.heap[z + 1]? = some (.cells #[.int .i64 0, .string ⟨#[]⟩, .slice none 0 0] 42 (0, 0)) := (hb1.block (z + 1) (lt_of_block hrx0)).trans hrx0
    have hbx : Below w.heap.size w w1 := HB0.out.trans (hSx.mono (by have := HZ.out; omega))
    refine wh_call 6 (some 9) 49 #[.slice (some ⟨W.heap.size, 0, none⟩) 1 1] (by kernel_rfl) rfl rfl (by rfl) (by kernel_rfl) ?_
    refine (CC.out w1 W.heap.size dy hy1 hbx).mono ?_
    rintro e w6 ⟨a6, c6, rfl, hw6, hb6⟩
    have hS6 : Below (z + 1) V w6 := hSx.trans (hb6.mono (by have := hSx.size; have := HZV.out; omega))
    refine ⟨_, rfl, hS6, ?_⟩
    simp only [Act.put, List.setIfInBounds_toArray, List.set_cons_zero, List.set_cons_succ]
    refine wh_val 7 (some 10) (.agg #[.int .i64 mx, .string D, .slice a6 n c6]) w6 (by kernel_rfl) rfl rfl (by rfl) (by first | rfl | (go_simp; rfl) | go_simp) hS6 ?_
    simp only [Act.put, List.setIfInBounds_toArray, List.set_cons_zero, List.set_cons_succ]
    have hr6 : w6.heap[z + 1]? = some (.cells #[.int .i64 0, .string ⟨#[]⟩, .slice none 0 0] 42 (0, 0)) := (hb6.block (z + 1) (lt_of_block hrx)).trans hrx
    have q0 : w6.cell? ⟨z + 1, 0, none⟩ = some (.int .i64 0) := (cell_of_block hr6 0).trans rfl
    have q1 : w6.cell? ⟨z + 1, 1, none⟩ = some (.string ⟨#[]⟩) := (cell_of_block hr6 1).trans rfl
    have q2 : w6.cell? ⟨z + 1, 2, none⟩ = some (.slice none 0 0) := (cell_of_block hr6 2).trans rfl
    have k0 := free_of_block hr6 0
    have k1 := free_of_block hr6 1
    have k2 := free_of_block hr6 2
    have hS7 : Below (z + 1) V (((w6.setCell ⟨z + 1, 0, none⟩ (.int .i64 mx)).setCell ⟨z + 1, 1, none⟩ (.string D)).setCell ⟨z + 1, 2, none⟩ (.slice a6 n c6)) := ((hS6.setCell (Nat.le_refl _) _).setCell (Nat.le_refl _) _).setCell (Nat.le_refl _) _
    have hr7 : (((w6.setCell ⟨z + 1, 0, none⟩ (.int .i64 mx)).setCell ⟨z + 1, 1, none⟩ (.string D)).setCell ⟨z + 1, 2, none⟩ (.slice a6 n c6)).heap[z + 1]? = some (.cells #[.int .i64 mx, .string D, .slice a6 n c6] 42 (0, 0)) := heap_setCell_same _ _ _ _ _ _ (heap_setCell_same _ _ _ _ _ _ (heap_setCell_same _ _ _ _ _ _ hr6))
    refine wh_skip 8 none (((w6.setCell ⟨z + 1, 0, none⟩ (.int .i64 mx)).setCell ⟨z + 1, 1, none⟩ (.string D)).setCell ⟨z + 1, 2, none⟩ (.slice a6 n c6)) (by kernel_rfl) rfl rfl (by rfl) (by go_simp) hS7 ?_
    simp only [Act.put]
    refine wh_done (by kernel_rfl) ?_
    have HW7 : Hid (WdsB w.heap.size (((w6.setCell ⟨z + 1, 0, none⟩ (.int .i64 mx)).setCell ⟨z + 1, 1, none⟩ (.string D)).setCell ⟨z + 1, 2, none⟩ (.slice a6 n c6)) a6 L) := by
      have hm : z + 1 < w1.heap.size := lt_of_block hrx
      exact (((hw6.out.set hm _ _).set hm _ _).set hm _ _).low hbx.size
    have HB7 : Hid (Below w.heap.size w (((w6.setCell ⟨z + 1, 0, none⟩ (.int .i64 mx)).setCell ⟨z + 1, 1, none⟩ (.string D)).setCell ⟨z + 1, 2, none⟩ (.slice a6 n c6))) := HB0.out.trans (hS7.mono (by have := HZ.out; omega))
    generalize (((w6.setCell ⟨z + 1, 0, none⟩ (.int .i64 mx)).setCell ⟨z + 1, 1, none⟩ (.string D)).setCell ⟨z + 1, 2, none⟩ (.slice a6 n c6)) = G at hr7 HW7 HB7 ⊢
    have g0 : G.cell? ⟨z + 1, 0, none⟩ = some (.int .i64 mx) := (cell_of_block hr7 0).trans rfl
    have g1 : G.cell? ⟨z + 1, 1, none⟩ = some (.string D) := (cell_of_block hr7 1).trans rfl
    have g2 : G.cell? ⟨z + 1, 2, none⟩ = some (.slice a6 n c6) := (cell_of_block hr7 2).trans rfl
    clear hr7 hr6 q0 q1 q2 k0 k1 k2 hS7 hS6 hw6 hb6 hbx hSx hrx
    go_wp2
    exact bodyPost_ret (v := .agg #[.int .i64 mx, .string D, .slice a6 n c6]) (by simp [results, Tryz.results24, go_sem, g0, g1, g2]) rfl ⟨a6, c6, rfl, HW7, HB7.out⟩

end Go.Proofs.YtdcfflmfimepfaaGreat

namespace Go.Proofs.YtdcfflmfimepfaaGreat
open Go.ChangeShapes Go.WideShapes Go.ChangeAt Go.RowKit

def oMx (g : Bool) (mx : Int) : Int := if g then mx else 0
def oD (g : Bool) (D : ByteArray) : ByteArray := if g then D else ⟨#[]⟩
def oL (g : Bool) (L : List Wd8) : List Wd8 := if g then L else []
theorem goodI_parts {M : Mod7} {mx : Int} {D : ByteArray} {L : List Wd8} {sp : Int} (h : goodI M mx D L sp = true) : good mx D = true ∧ L.length ≤ 6 := by
  unfold goodI goodSt fitAll at h
  simp only [Bool.and_eq_true, decide_eq_true_eq] at h
  obtain ⟨_, ⟨hsh, hgd, _, hl, _⟩, _⟩ := h
  have := (shape_pages hsh).1
  exact ⟨hgd, by omega⟩

set_option maxRecDepth 100000 in
set_option maxHeartbeats 3200000 in
theorem implStateOf (l : Loc7) (M : Mod7) (mx : Int) (D : ByteArray) (a : Option Addr) (c : Nat) (L : List Wd8) (po : Bool) (sp : Int) (w : World) (hM : Hid (ModAt w l M)) (hs : Hid (smM M)) (hD : D.size ≤ 1048576) (hL : Hid (Wds w a L)) (hok : Hid (∀ x ∈ L, okW x)) (hlen : L.length ≤ 1048576) (hsp : -9223372036854775808 ≤ sp ∧ sp ≤ 9223372036854775807) (g : Bool) (hg : goodI M mx D L sp = g) :
    Calls Tryz.prog 11 #[instV l M mx D a L.length c po sp] w fun e w' => ∃ a' c', e = .returned (.tuple #[.agg #[.int .i64 (oMx g mx), .string (oD g D), .slice a' (oL g L).length c'], .bool g]) ∧ Hid (WdsB w.heap.size w' a' (oL g L)) ∧ Below w.heap.size w w' := by
  have GI : Hid (∀ w', Below w.heap.size w w' → Calls Tryz.prog 8 #[instV l M mx D a L.length c po sp] w' fun e w'' => e = .returned (.bool g) ∧ Below w'.heap.size w' w'') := fun w' hb => by rw [← hg]; exact implGoodI l M mx D a c L po sp w' (hM.out.below hb) hs hD (hL.out.below hb) hok hlen hsp
  have HG : Hid (g = true → good mx D = true ∧ L.length ≤ 6) := fun h => goodI_parts (hg.trans h)
  have HD : Hid (D.size ≤ 1048576) := hD
  obtain ⟨fa, fc, ga, gc⟩ := l
  obtain ⟨nf, hnf⟩ : ∃ n, M.fs.length = n := ⟨_, rfl⟩
  obtain ⟨ng, hng⟩ : ∃ n, M.gs.length = n := ⟨_, rfl⟩
  obtain ⟨n, hn⟩ : ∃ n, L.length = n := ⟨_, rfl⟩
  have HN : Hid (L.length = n) := hn
  unfold instV at GI ⊢
  simp only at GI ⊢
  rw [hnf, hng, hn] at GI ⊢
  clear hnf hng hn hM hs hD hok hlen hsp hg
  obtain ⟨z, hz⟩ : ∃ z, w.heap.size = z := ⟨_, rfl⟩
  obtain ⟨V, hV⟩ : ∃ V, (w.alloc (.cells #[.slice fa nf fc, .slice ga ng gc, .bool M.mem, .int .i64 M.pages, .int .i64 M.most, .int .i64 M.start, .int .i64 mx, .string D, .slice a n c, .bool po, .int .i64 sp] 44)).alloc (.cells #[.int .i64 0, .string ⟨#[]⟩, .slice none 0 0] 42) = V := ⟨_, rfl⟩
  have hb0 : Below w.heap.size w V := by rw [← hV]; exact bel_alloc (bel_alloc (Below.refl _ _) _) _
  have hx0 : V.heap[z]? = some (.cells #[.slice fa nf fc, .slice ga ng gc, .bool M.mem, .int .i64 M.pages, .int .i64 M.most, .int .i64 M.start, .int .i64 mx, .string D, .slice a n c, .bool po, .int .i64 sp] 44 (0, 0)) := by rw [← hV, ← hz]; exact (Below.heap_alloc _ _ _ (by simp)).trans (heap_alloc_new _ _)
  have hr0 : V.heap[z + 1]? = some (.cells #[.int .i64 0, .string ⟨#[]⟩, .slice none 0 0] 42 (0, 0)) := by
    rw [← hV, ← hz]
    have h := heap_alloc_new (w.alloc (.cells #[.slice fa nf fc, .slice ga ng gc, .bool M.mem, .int .i64 M.pages, .int .i64 M.most, .int .i64 M.start, .int .i64 mx, .string D, .slice a n c, .bool po, .int .i64 sp] 44)) (.cells #[.int .i64 0, .string ⟨#[]⟩, .slice none 0 0] 42)
    simpa using h
  have HV : Hid ((w.alloc (.cells #[.slice fa nf fc, .slice ga ng gc, .bool M.mem, .int .i64 M.pages, .int .i64 M.most, .int .i64 M.start, .int .i64 mx, .string D, .slice a n c, .bool po, .int .i64 sp] 44)).alloc (.cells #[.int .i64 0, .string ⟨#[]⟩, .slice none 0 0] 42) = V ∧ w.heap.size = z) := ⟨hV, hz⟩
  have HLE : Hid (w.heap.size ≤ z + 1) := by unfold Hid; omega
  have HB0 : Hid (Below w.heap.size w V) := hb0
  clear hV hz hb0
  go_enter Tryz.func11, Tryz.ntmps11
  go_wp2_with fail
  rw [HV.out.2, HV.out.1]
  refine (GI.out V HB0.out).mono ?_
  rintro e w1 ⟨rfl, hb1⟩
  have HB1 : Hid (Below w.heap.size w w1) := bel_step HB0.out hb1
  have hx1 := (hb1.block z (lt_of_block hx0)).trans hx0
  have hr1 := (hb1.block (z + 1) (lt_of_block hr0)).trans hr0
  clear hb1 GI hx0 hr0
  cases g
  · have q0 : w1.cell? ⟨z + 1, 0, none⟩ = some (.int .i64 0) := (cell_of_block hr1 0).trans rfl
    have q1 : w1.cell? ⟨z + 1, 1, none⟩ = some (.string ⟨#[]⟩) := (cell_of_block hr1 1).trans rfl
    have q2 : w1.cell? ⟨z + 1, 2, none⟩ = some (.slice none 0 0) := (cell_of_block hr1 2).trans rfl
    have k0 := free_of_block hr1 0
    have k1 := free_of_block hr1 1
    have k2 := free_of_block hr1 2
    clear hx1 hr1
    go_wp2
    refine bodyPost_ret (v := .tuple #[.agg #[.int .i64 0, .string ⟨#[]⟩, .slice none 0 0], .bool false]) (by simp [results, Tryz.results11, go_sem, q0, q1, q2]) rfl ⟨none, 0, rfl, wdsB_nil _ _ _, ((HB1.out.setCell HLE.out _).setCell HLE.out _).setCell HLE.out _⟩
  · have x6 : w1.cell? ⟨z, 6, none⟩ = some (.int .i64 mx) := (cell_of_block hx1 6).trans rfl
    have x7 : w1.cell? ⟨z, 7, none⟩ = some (.string D) := (cell_of_block hx1 7).trans rfl
    have x8 : w1.cell? ⟨z, 8, none⟩ = some (.slice a n c) := (cell_of_block hx1 8).trans rfl
    obtain ⟨hgd, hn6⟩ := HG.out rfl
    have CP := copiedI mx D a c L w1 hgd HD.out (hL.out.below HB1.out) (by omega)
    rw [HN.out] at CP
    clear hx1 hgd hn6
    go_wp2_with fail
    refine CP.mono ?_
    rintro e w2 ⟨a2, c2, rfl, hw2, hb2⟩
    have HB2 : Hid (Below w.heap.size w w2) := bel_step HB1.out hb2
    have hlt : z + 1 < w1.heap.size := lt_of_block hr1
    have hr2 := (hb2.block (z + 1) hlt).trans hr1
    have q0 : w2.cell? ⟨z + 1, 0, none⟩ = some (.int .i64 0) := (cell_of_block hr2 0).trans rfl
    have q1 : w2.cell? ⟨z + 1, 1, none⟩ = some (.string ⟨#[]⟩) := (cell_of_block hr2 1).trans rfl
    have q2 : w2.cell? ⟨z + 1, 2, none⟩ = some (.slice none 0 0) := (cell_of_block hr2 2).trans rfl
    have k0 := free_of_block hr2 0
    have k1 := free_of_block hr2 1
    have k2 := free_of_block hr2 2
    have HW2 : Hid (WdsB w1.heap.size w2 a2 L ∧ z + 1 < w1.heap.size ∧ w.heap.size ≤ w1.heap.size) := ⟨hw2.out, hlt, HB1.out.size⟩
    clear CP hb2 hr1 hr2 x6 x7 x8 hw2 hlt
    go_wp2
    refine bodyPost_ret (v := .tuple #[.agg #[.int .i64 mx, .string D, .slice a2 n c2], .bool true]) (by simp [results, Tryz.results11, go_sem, q0, q1, q2]) rfl ⟨a2, c2, ?_, ?_, ((HB2.out.setCell HLE.out _).setCell HLE.out _).setCell HLE.out _⟩
    · simp only [oMx, oD, oL, if_true, HN.out]
    · exact (((HW2.out.1.set HW2.out.2.1 _ _).set HW2.out.2.1 _ _).set HW2.out.2.1 _ _).low HW2.out.2.2

set_option maxRecDepth 100000 in
set_option maxHeartbeats 3200000 in
theorem specStateOf (l : Loc7) (M : Mod7) (mx : Int) (D : ByteArray) (a : Option Addr) (c : Nat) (L : List Wd8) (po : Bool) (sp : Int) (w : World) (hM : Hid (ModAt w l M)) (hs : Hid (smM M)) (hD : D.size ≤ 1048576) (hL : Hid (Wds w a L)) (hok : Hid (∀ x ∈ L, okW x)) (hlen : L.length ≤ 1048576) (hsp : -9223372036854775808 ≤ sp ∧ sp ≤ 9223372036854775807) (g : Bool) (hg : goodI M mx D L sp = g) :
    Calls Tryz.prog 10 #[instV l M mx D a L.length c po sp] w fun e w' => ∃ a' c', e = .returned (.tuple #[.agg #[.int .i64 (oMx g mx), .string (oD g D), .slice a' (oL g L).length c'], .bool g]) ∧ Hid (WdsB w.heap.size w' a' (oL g L)) ∧ Below w.heap.size w w' := by
  have GI : Hid (∀ w', Below w.heap.size w w' → Calls Tryz.prog 18 #[instV l M mx D a L.length c po sp] w' fun e w'' => e = .returned (.bool g) ∧ Below w'.heap.size w' w'') := fun w' hb => by rw [← hg]; exact specGoodI l M mx D a c L po sp w' (hM.out.below hb) hs hD (hL.out.below hb) hok hlen hsp
  have HG : Hid (g = true → good mx D = true ∧ L.length ≤ 6) := fun h => goodI_parts (hg.trans h)
  have HD : Hid (D.size ≤ 1048576) := hD
  obtain ⟨fa, fc, ga, gc⟩ := l
  obtain ⟨nf, hnf⟩ : ∃ n, M.fs.length = n := ⟨_, rfl⟩
  obtain ⟨ng, hng⟩ : ∃ n, M.gs.length = n := ⟨_, rfl⟩
  obtain ⟨n, hn⟩ : ∃ n, L.length = n := ⟨_, rfl⟩
  have HN : Hid (L.length = n) := hn
  unfold instV at GI ⊢
  simp only at GI ⊢
  rw [hnf, hng, hn] at GI ⊢
  clear hnf hng hn hM hs hD hok hlen hsp hg
  obtain ⟨z, hz⟩ : ∃ z, w.heap.size = z := ⟨_, rfl⟩
  obtain ⟨V, hV⟩ : ∃ V, (w.alloc (.cells #[.slice fa nf fc, .slice ga ng gc, .bool M.mem, .int .i64 M.pages, .int .i64 M.most, .int .i64 M.start, .int .i64 mx, .string D, .slice a n c, .bool po, .int .i64 sp] 44)).alloc (.cells #[.int .i64 0, .string ⟨#[]⟩, .slice none 0 0] 42) = V := ⟨_, rfl⟩
  have hb0 : Below w.heap.size w V := by rw [← hV]; exact bel_alloc (bel_alloc (Below.refl _ _) _) _
  have hx0 : V.heap[z]? = some (.cells #[.slice fa nf fc, .slice ga ng gc, .bool M.mem, .int .i64 M.pages, .int .i64 M.most, .int .i64 M.start, .int .i64 mx, .string D, .slice a n c, .bool po, .int .i64 sp] 44 (0, 0)) := by rw [← hV, ← hz]; exact (Below.heap_alloc _ _ _ (by simp)).trans (heap_alloc_new _ _)
  have hr0 : V.heap[z + 1]? = some (.cells #[.int .i64 0, .string ⟨#[]⟩, .slice none 0 0] 42 (0, 0)) := by
    rw [← hV, ← hz]
    have h := heap_alloc_new (w.alloc (.cells #[.slice fa nf fc, .slice ga ng gc, .bool M.mem, .int .i64 M.pages, .int .i64 M.most, .int .i64 M.start, .int .i64 mx, .string D, .slice a n c, .bool po, .int .i64 sp] 44)) (.cells #[.int .i64 0, .string ⟨#[]⟩, .slice none 0 0] 42)
    simpa using h
  have HV : Hid ((w.alloc (.cells #[.slice fa nf fc, .slice ga ng gc, .bool M.mem, .int .i64 M.pages, .int .i64 M.most, .int .i64 M.start, .int .i64 mx, .string D, .slice a n c, .bool po, .int .i64 sp] 44)).alloc (.cells #[.int .i64 0, .string ⟨#[]⟩, .slice none 0 0] 42) = V ∧ w.heap.size = z) := ⟨hV, hz⟩
  have HLE : Hid (w.heap.size ≤ z + 1) := by unfold Hid; omega
  have HB0 : Hid (Below w.heap.size w V) := hb0
  clear hV hz hb0
  go_enter Tryz.func10, Tryz.ntmps10
  go_wp2_with fail
  rw [HV.out.2, HV.out.1]
  refine (GI.out V HB0.out).mono ?_
  rintro e w1 ⟨rfl, hb1⟩
  have HB1 : Hid (Below w.heap.size w w1) := bel_step HB0.out hb1
  have hx1 := (hb1.block z (lt_of_block hx0)).trans hx0
  have hr1 := (hb1.block (z + 1) (lt_of_block hr0)).trans hr0
  clear hb1 GI hx0 hr0
  cases g
  · have q0 : w1.cell? ⟨z + 1, 0, none⟩ = some (.int .i64 0) := (cell_of_block hr1 0).trans rfl
    have q1 : w1.cell? ⟨z + 1, 1, none⟩ = some (.string ⟨#[]⟩) := (cell_of_block hr1 1).trans rfl
    have q2 : w1.cell? ⟨z + 1, 2, none⟩ = some (.slice none 0 0) := (cell_of_block hr1 2).trans rfl
    have k0 := free_of_block hr1 0
    have k1 := free_of_block hr1 1
    have k2 := free_of_block hr1 2
    clear hx1 hr1
    go_wp2
    refine bodyPost_ret (v := .tuple #[.agg #[.int .i64 0, .string ⟨#[]⟩, .slice none 0 0], .bool false]) (by simp [results, Tryz.results10, go_sem, q0, q1, q2]) rfl ⟨none, 0, rfl, wdsB_nil _ _ _, ((HB1.out.setCell HLE.out _).setCell HLE.out _).setCell HLE.out _⟩
  · have x6 : w1.cell? ⟨z, 6, none⟩ = some (.int .i64 mx) := (cell_of_block hx1 6).trans rfl
    have x7 : w1.cell? ⟨z, 7, none⟩ = some (.string D) := (cell_of_block hx1 7).trans rfl
    have x8 : w1.cell? ⟨z, 8, none⟩ = some (.slice a n c) := (cell_of_block hx1 8).trans rfl
    obtain ⟨hgd, hn6⟩ := HG.out rfl
    obtain ⟨i0, i0i, i00, i01, i02⟩ := info_parts Tryz.infoWd
    have hlt : z + 1 < w1.heap.size := lt_of_block hr1
    obtain ⟨s4, hs4⟩ : ∃ s, w1.heap.size = s := ⟨_, rfl⟩
    obtain ⟨Wp, hWp⟩ : ∃ W, (w1.alloc (.cells #[.int .i64 mx, .string D, .slice a n c] 42)).alloc (.cells #[] 80) = W := ⟨_, rfl⟩
    have hbp : Below w1.heap.size w1 Wp := by rw [← hWp]; exact bel_alloc (bel_alloc (Below.refl _ _) _) _
    have hsp4 : Wp.heap[s4]? = some (.cells #[.int .i64 mx, .string D, .slice a n c] 42 (0, 0)) := by rw [← hWp, ← hs4]; exact (Below.heap_alloc _ _ _ (by simp)).trans (heap_alloc_new _ _)
    have hrow : Wp.heap[s4 + 1]? = some (.cells #[] 80 (0, 0)) := by
      rw [← hWp, ← hs4]
      have h := heap_alloc_new (w1.alloc (.cells #[.int .i64 mx, .string D, .slice a n c] 42)) (.cells #[] 80)
      simpa using h
    have HOWN : Hid (Wp.ownsRow (s4 + 1) 80 2 (.slice (some ⟨s4 + 1, 0, none⟩) 0 0) 0 []) := ⟨rfl, .inr ⟨s4 + 1, 0, _, rfl, Nat.le_refl _, hrow, Nat.le_refl _, by unfold maxLen; omega, by simp, by simp⟩⟩
    have hrp := (hbp.block (z + 1) hlt).trans hr1
    have HWp : Hid ((w1.alloc (.cells #[.int .i64 mx, .string D, .slice a n c] 42)).alloc (.cells #[] 80) = Wp ∧ w1.heap.size = s4 ∧ z + 1 < s4 ∧ s4 + 1 < Wp.heap.size) := ⟨hWp, hs4, by omega, lt_of_block hrow⟩
    have HBp : Hid (Below w.heap.size w Wp) := bel_step HB1.out hbp
    have HX : Hid (Wds Wp a L) := hL.out.below HBp.out
    have HSP : Hid (Wp.heap[s4]? = some (.cells #[.int .i64 mx, .string D, .slice a n c] 42 (0, 0)) ∧ Wp.heap[z + 1]? = some (.cells #[.int .i64 0, .string ⟨#[]⟩, .slice none 0 0] 42 (0, 0))) := ⟨hsp4, hrp⟩
    have HN6 : Hid (n ≤ 6) := by have := HN.out; unfold Hid; omega
    have HR1 : Hid (w1.heap[z + 1]? = some (.cells #[.int .i64 0, .string ⟨#[]⟩, .slice none 0 0] 42 (0, 0))) := hr1
    clear hx1 hgd hn6 hs4 hWp hbp hsp4 hrow hrp hr1 hlt HG
    have FIN : Hid (∀ av cv w2, w2.ownsRow (s4 + 1) 80 2 (.slice av n cv) n (wv L) → Below (s4 + 1) Wp w2 → (w2.heap[s4]? = some (.cells #[.int .i64 mx, .string D, .slice a n c] 42 (0, 0)) ∧ w2.heap[z + 1]? = some (.cells #[.int .i64 0, .string ⟨#[]⟩, .slice none 0 0] 42 (0, 0))) ∧ Below w.heap.size w w2 ∧ WdsB (s4 + 1) w2 av L) := fun av cv w2 ho hb => by
      have h1 := HWp.out.2
      refine ⟨⟨(hb.block s4 (by omega)).trans HSP.out.1, (hb.block (z + 1) (by omega)).trans HSP.out.2⟩, HBp.out.trans (hb.mono (by have := HB1.out.size; omega)), ?_⟩
      have h2 : w2.ownsRow (s4 + 1) 80 2 (.slice av L.length cv) L.length (wv L) := by rw [HN.out]; exact ho
      exact own_wds h2
    cases a with
    | none =>
      have hX : L = [] := by
        rcases hn : L with _ | ⟨x, r⟩
        · rfl
        · obtain ⟨b, off, h, _⟩ := HX.out (by rw [hn]; simp)
          simp at h
      have h0 : n = 0 := by have h1 := HN.out; rw [hX] at h1; simp at h1; omega
      subst h0
      have HXX : Hid (L = []) := hX
      have hbq : Below w1.heap.size w1 ((w1.alloc (.cells #[.int .i64 mx, .string D, .slice (some ⟨w1.heap.size + 1, 0, none⟩) 0 0] 42)).alloc (.cells #[] 80)) := bel_alloc (bel_alloc (Below.refl _ _) _) _
      have hR2 := (hbq.block (z + 1) (by have := HWp.out.2; omega)).trans HR1.out
      have HB2 : Hid (Below w.heap.size w ((w1.alloc (.cells #[.int .i64 mx, .string D, .slice (some ⟨w1.heap.size + 1, 0, none⟩) 0 0] 42)).alloc (.cells #[] 80))) := bel_step HB1.out hbq
      have q0 := (cell_of_block hR2 0).trans rfl
      have q1 := (cell_of_block hR2 1).trans rfl
      have q2 := (cell_of_block hR2 2).trans rfl
      have k0 := free_of_block hR2 0
      have k1 := free_of_block hR2 1
      have k2 := free_of_block hR2 2
      clear hX hbq hR2 HWp HOWN HBp HX HSP FIN
      go_wp2
      refine bodyPost_ret (v := .tuple #[.agg #[.int .i64 mx, .string D, .slice (some ⟨w1.heap.size + 1, 0, none⟩) 0 0], .bool true]) (by simp [results, Tryz.results10, go_sem, q0, q1, q2]) rfl ⟨some ⟨w1.heap.size + 1, 0, none⟩, 0, ?_, ?_, ?_⟩
      · simp only [oMx, oD, oL, if_true, HN.out]
      · rw [show oL true L = [] from HXX.out]
        exact wdsB_nil _ _ _
      · exact ((HB2.out.setCell HLE.out _).setCell HLE.out _).setCell HLE.out _
    | some ad =>
      have HC : Hid (∀ j u, (wv L)[j]? = some u → Wp.cell? (ad.add j) = some u) := by
        unfold Hid
        by_cases he : L = []
        · rw [he]; intro j u hu; simp [wv] at hu
        · obtain ⟨b, off, h, hb, hc⟩ := HX.out he
          simp at h
          subst h
          exact wds_news hc
      go_wp2_with (at_builtin; rw [HWp.out.1, HWp.out.2.1]; refine wpList_append_own _ rfl _ _ 40 rfl (s4 + 1) 80 i0 (.agg #[.int .i64 0, .int .u64 0]) 2 16 Tryz.underlying40 i0i i00 i01 i02 rfl (by decide) _ _ _ rfl HOWN.out ad n _ (wv L) rfl ?qc1 ?qc2 ?qc3 ?qc4 ?qc5 ?qc6 ?_)
      case qc1 => have h := HN.out; rw [wv_len]; omega
      case qc2 => exact HC.out
      case qc3 => intro u hu; obtain ⟨x, _, hx⟩ := List.mem_flatMap.1 hu; simp at hx; rcases hx with rfl | rfl <;> rfl
      case qc4 => have h := HN6.out; unfold maxLen; omega
      case qc5 => have h := HN6.out; omega
      case qc6 => have := HWp.out.2; omega
      intro v' w2 hown hgrow _
      have hb2 : Below (s4 + 1) Wp w2 := (Below.refl _ _).grown hgrow (by have := HWp.out.2; omega) (ownsRow_block HOWN.out)
      obtain ⟨av, cv, rfl, _⟩ := own_shape hown
      obtain ⟨⟨hS2, hR2⟩, hB2, hW2⟩ := FIN.out av cv w2 hown hb2
      have HB2 : Hid (Below w.heap.size w w2) := hB2
      have HW2 : Hid (WdsB (s4 + 1) w2 av L) := hW2
      have y0 : w2.cell? ⟨s4, 0, none⟩ = some (.int .i64 mx) := (cell_of_block hS2 0).trans rfl
      have y1 : w2.cell? ⟨s4, 1, none⟩ = some (.string D) := (cell_of_block hS2 1).trans rfl
      have y2 : w2.cell? ⟨s4, 2, none⟩ = some (.slice (some ad) n c) := (cell_of_block hS2 2).trans rfl
      have f2 := free_of_block hS2 2
      have q0 : w2.cell? ⟨z + 1, 0, none⟩ = some (.int .i64 0) := (cell_of_block hR2 0).trans rfl
      have q1 : w2.cell? ⟨z + 1, 1, none⟩ = some (.string ⟨#[]⟩) := (cell_of_block hR2 1).trans rfl
      have q2 : w2.cell? ⟨z + 1, 2, none⟩ = some (.slice none 0 0) := (cell_of_block hR2 2).trans rfl
      have k0 := free_of_block hR2 0
      have k1 := free_of_block hR2 1
      have k2 := free_of_block hR2 2
      have hne : z + 1 ≠ s4 := by have := HWp.out.2; omega
      have hne2 : s4 ≠ z + 1 := by omega
      clear hown hgrow hb2 hS2 hR2 hB2 hW2 x6 x7 x8
      go_wp2
      have hle4 : w.heap.size ≤ s4 := by have := HB1.out.size; have := HWp.out.2; omega
      refine bodyPost_ret (v := .tuple #[.agg #[.int .i64 mx, .string D, .slice av n cv], .bool true]) (by simp [results, Tryz.results10, go_sem, q0, q1, q2]) rfl ⟨av, cv, ?_, ?_, ?_⟩
      · simp only [oMx, oD, oL, if_true, HN.out]
      · have h1 := HWp.out.2
        exact ((((HW2.out.set (by omega) _ _).set (by omega) _ _).set (by omega) _ _).set (by omega) _ _).low (by omega)
      · exact (((HB2.out.setCell hle4 _).setCell HLE.out _).setCell HLE.out _).setCell HLE.out _

end Go.Proofs.YtdcfflmfimepfaaGreat

namespace Go.Proofs.YtdcfflmfimepfaaGreat
open Go.ChangeShapes Go.WideShapes Go.ChangeAt Go.RowKit

set_option maxRecDepth 100000 in
set_option maxHeartbeats 1600000 in
theorem markWdsB (a : Option Addr) (n c : Nat) (k : Int) (w : World) (hr : Hid (RowB w 80 2 a n)) (hn : n ≤ 1048576) (k0 : 0 ≤ k) (k1 : k ≤ 1000000000000000) :
    Calls Tryz.prog 28 #[.slice a n c, .int .i64 k] w fun e w' => e = .returned (.int .i64 (k + 2 * (n : Int))) ∧ Chg (fun x => 0 < n ∧ a = some ⟨x, 0, none⟩) w w' := by
  go_enter Tryz.func28, Tryz.ntmps28
  go_wp2
  go_loopw [1, 5] (fun m i wr => ∃ j : Nat, j ≤ n ∧ i = .int .i64 (j : Int) ∧ m = .int .i64 (k + 2 * (j : Int)) ∧ Hid (Chg (fun x => 0 < n ∧ a = some ⟨x, 0, none⟩) w wr)) (fun _ i _ => n - (intOf i).toNat)
  case atStart => exact ⟨0, by omega, rfl, by simp, Chg.refl _ _⟩
  case round =>
    obtain ⟨j, hj, rfl, rfl, hC⟩ := hrel
    by_cases hlt : j < n
    · obtain ⟨b, arr, e, h0, h1⟩ := (hC.out.row hr.out) (by omega)
      subst e
      obtain ⟨o0, ho0⟩ : ∃ o, arr[j * 2]? = some o := ⟨_, Array.getElem?_eq_getElem (by omega)⟩
      obtain ⟨o1, ho1⟩ : ∃ o, arr[j * 2 + 1]? = some o := ⟨_, Array.getElem?_eq_getElem (by omega)⟩
      obtain ⟨m, hm⟩ : ∃ m, k + 2 * (j : Int) = m := ⟨_, rfl⟩
      have hm0 : 0 ≤ m ∧ m ≤ 1000000010000000 := by omega
      rw [hm]
      have d0 := (cell_of_block h0 (j * 2)).trans ho0
      have f0 := free_of_block h0 (j * 2)
      have hc1 : (wr.setCell ⟨b, j * 2, none⟩ (.int .i64 m)).heap[b]? = some (.cells (arr.setIfInBounds (j * 2) (.int .i64 m)) 80 (0, 0)) := heap_setCell_same _ _ _ _ _ _ h0
      have d1 := (cell_of_block hc1 (j * 2 + 1)).trans ((Array.getElem?_setIfInBounds_ne (by omega)).trans ho1)
      have f1 := free_of_block hc1 (j * 2 + 1)
      have H0 : Hid (wr.heap[b]? = some (.cells arr 80 (0, 0))) := h0
      have HC1 : Hid ((wr.setCell ⟨b, j * 2, none⟩ (.int .i64 m)).heap[b]? = some (.cells (arr.setIfInBounds (j * 2) (.int .i64 m)) 80 (0, 0))) := hc1
      have HM : Hid (k + 2 * (j : Int) = m) := hm
      clear h0 h1 hc1 hm
      go_wp2
      go_roundw
      case rel => exact ⟨j + 1, by omega, by go_num, by have h := HM.out; rw [show m + 1 + 1 = k + 2 * ((j + 1 : Nat) : Int) by omega], (hC.out.set ⟨by omega, rfl⟩ H0.out _ _).set ⟨by omega, rfl⟩ HC1.out _ _⟩
      case measure => simp [intOf]; omega
    · obtain rfl : j = n := by omega
      go_wp2
      go_ret
      exact ⟨rfl, hC.out⟩

set_option maxRecDepth 100000 in
set_option maxHeartbeats 1600000 in
theorem markModB2 (B : Nat) (l : Loc7) (M : Mod7) (V w : World) (hM : Hid (ModB B V l M)) (hV : Hid (Below V.heap.size V w)) (hs : Hid (smM M)) :
    Calls Tryz.prog 27 #[.agg #[.slice l.fa M.fs.length l.fc, .slice l.ga M.gs.length l.gc, .bool M.mem, .int .i64 M.pages, .int .i64 M.most, .int .i64 M.start], .int .i64 1] w fun e w' => ∃ (k : Int) (w0 : World), e = .returned (.int .i64 k) ∧ (0 ≤ k ∧ k ≤ 200000000000000) ∧ Below w.heap.size w w0 ∧ Chg (fun x => B ≤ x ∧ x < V.heap.size) w0 w' := by
  obtain ⟨g, z, e1, e2, b1, b2, h1, h2⟩ := hM.out
  rw [e1, e2]
  obtain ⟨W, hW⟩ : ∃ W, w.alloc (.cells #[.slice (some ⟨g, 0, none⟩) M.fs.length l.fc, .slice (some ⟨z, 0, none⟩) M.gs.length l.gc, .bool M.mem, .int .i64 M.pages, .int .i64 M.most, .int .i64 M.start] 38) = W := ⟨_, rfl⟩
  have hb0 : Below w.heap.size w W := by rw [← hW]; exact (Below.refl _ _).alloc (Nat.le_refl _) _
  have hx0 : W.heap[w.heap.size]? = some (.cells #[.slice (some ⟨g, 0, none⟩) M.fs.length l.fc, .slice (some ⟨z, 0, none⟩) M.gs.length l.gc, .bool M.mem, .int .i64 M.pages, .int .i64 M.most, .int .i64 M.start] 38 (0, 0)) := by rw [← hW]; exact heap_alloc_new _ _
  have hVW : Below V.heap.size V W := bel_step hV.out hb0
  have T1 := markFunsB g l.fc M.fs V W h1 hVW hs.out.2.2.1 hs.out.1
  have HW : Hid (w.alloc (.cells #[.slice (some ⟨g, 0, none⟩) M.fs.length l.fc, .slice (some ⟨z, 0, none⟩) M.gs.length l.gc, .bool M.mem, .int .i64 M.pages, .int .i64 M.most, .int .i64 M.start] 38) = W) := hW
  have HB0 : Hid (Below w.heap.size w W) := hb0
  have HG : Hid (GlosB V z M.gs ∧ B ≤ g ∧ B ≤ z ∧ Below V.heap.size V W ∧ V.heap.size ≤ w.heap.size) := ⟨h2, b1, b2, hVW, hV.out.size⟩
  clear hW hb0 hVW h1 h2 b1 b2 e1 e2
  go_enter Tryz.func27, Tryz.ntmps27
  go_wp2_with fail
  rw [HW.out]
  refine T1.mono ?_
  rintro e w1 ⟨k, rfl, k0, k1, hc1⟩
  have hx1 := (hc1.same w.heap.size (fun h => by have := HG.out.2.2.2.2; omega)).trans hx0
  have x1 := (cell_of_block hx1 1).trans rfl
  have T2 := markGlosB (some ⟨z, 0, none⟩) M.gs.length l.gc k w1 (hc1.row (HG.out.1.2.below HG.out.2.2.2.1)) hs.out.2.1 k0 (by omega)
  have HC1 : Hid (Chg (fun x => B ≤ x ∧ x < V.heap.size) W w1) := hc1.mono (fun x hx => ⟨Nat.le_trans HG.out.2.1 hx.1, hx.2⟩)
  clear T1 hc1 hx0 hx1
  have hns : M.gs.length ≤ 1048576 := hs.out.2.1
  obtain ⟨ng, hng⟩ : ∃ n, M.gs.length = n := ⟨_, rfl⟩
  rw [hng] at T2 x1 hns
  have HNG : Hid (M.gs.length = ng) := hng
  clear hng
  go_wp2_with fail
  refine T2.mono ?_
  rintro e w2 ⟨rfl, hc2⟩
  have HC2 : Hid (Chg (fun x => B ≤ x ∧ x < V.heap.size) W w2) := HC1.out.trans (hc2.mono (fun x hx => by
    obtain ⟨hn, he⟩ := hx
    have hlt := rowb_lt HG.out.1.2 (by rw [HNG.out]; exact hn) he
    simp at he
    have := HG.out.2.2.1
    omega))
  clear T2 hc2 x1
  go_wp2
  go_ret
  exact ⟨k + 3 * (ng : Int), W, rfl, by omega, HB0.out, HC2.out⟩

set_option maxRecDepth 100000 in
set_option maxHeartbeats 1600000 in
theorem markStB (mx : Int) (D : ByteArray) (a : Option Addr) (n c : Nat) (k : Int) (w : World) (hr : Hid (RowB w 80 2 a n)) (hn : n ≤ 1048576) (k0 : 0 ≤ k) (k1 : k ≤ 1000000000000000) :
    Calls Tryz.prog 14 #[.agg #[.int .i64 mx, .string D, .slice a n c], .int .i64 k] w fun e w' => ∃ w0, e = .returned (.int .i64 (k + 2 * (n : Int))) ∧ Below w.heap.size w w0 ∧ Chg (fun x => 0 < n ∧ a = some ⟨x, 0, none⟩) w0 w' := by
  have hb0 : Below w.heap.size w (w.alloc (.cells #[.int .i64 mx, .string D, .slice a n c] 42)) := (Below.refl _ _).alloc (Nat.le_refl _) _
  have T := markWdsB a n c k _ (hr.out.below hb0) hn k0 k1
  have HB0 : Hid (Below w.heap.size w (w.alloc (.cells #[.int .i64 mx, .string D, .slice a n c] 42))) := hb0
  clear hb0
  go_enter Tryz.func14, Tryz.ntmps14
  go_wp2_with fail
  refine T.mono ?_
  rintro e w1 ⟨rfl, hc⟩
  have HC : Hid (Chg (fun x => 0 < n ∧ a = some ⟨x, 0, none⟩) (w.alloc (.cells #[.int .i64 mx, .string D, .slice a n c] 42)) w1) := hc
  clear hc T
  go_wp2
  go_ret
  exact ⟨_, rfl, HB0.out, HC.out⟩

set_option maxRecDepth 100000 in
set_option maxHeartbeats 1600000 in
theorem markInst (B : Nat) (l : Loc7) (M : Mod7) (mx : Int) (D : ByteArray) (a : Option Addr) (c : Nat) (L : List Wd8) (po : Bool) (sp : Int) (V w : World) (hM : Hid (ModB B V l M)) (hL : Hid (WdsB B V a L)) (hV : Hid (Below V.heap.size V w)) (hs : Hid (smM M)) (hlen : L.length ≤ 1048576) (hB : B ≤ V.heap.size) :
    Calls Tryz.prog 13 #[instV l M mx D a L.length c po sp, .int .i64 1] w fun e w' => ∃ k : Int, e = .returned (.int .i64 k) ∧ 0 ≤ k ∧ Below B w w' ∧ (∀ x, V.heap.size ≤ x → x < w.heap.size → w'.heap[x]? = w.heap[x]?) := by
  have MM : Hid (∀ w', Below V.heap.size V w' → Calls Tryz.prog 27 #[modV l M, .int .i64 1] w' fun e w'' => ∃ (k : Int) (w0 : World), e = .returned (.int .i64 k) ∧ (0 ≤ k ∧ k ≤ 200000000000000) ∧ Below w'.heap.size w' w0 ∧ Chg (fun x => B ≤ x ∧ x < V.heap.size) w0 w'') := fun w' hb => markModB2 B l M V w' hM hb hs
  have MS : Hid (∀ w' k, RowB w' 80 2 a L.length → 0 ≤ k → k ≤ 1000000000000000 → Calls Tryz.prog 14 #[.agg #[.int .i64 mx, .string D, .slice a L.length c], .int .i64 k] w' fun e w'' => ∃ w0, e = .returned (.int .i64 (k + 2 * (L.length : Int))) ∧ Below w'.heap.size w' w0 ∧ Chg (fun x => 0 < L.length ∧ a = some ⟨x, 0, none⟩) w0 w'') := fun w' k h h0 h1 => markStB mx D a L.length c k w' h hlen h0 h1
  obtain ⟨n, hn⟩ : ∃ n, L.length = n := ⟨_, rfl⟩
  have HROW : Hid (RowB V 80 2 a n ∧ ∀ x, 0 < n → a = some ⟨x, 0, none⟩ → B ≤ x ∧ x < V.heap.size) := by
    refine ⟨by rw [← hn]; exact hL.out.2.1, fun x h0 he => ⟨hL.out.2.2 x (by omega) he, rowb_lt hL.out.2.1 (by omega) he⟩⟩
  obtain ⟨fa, fc, ga, gc⟩ := l
  obtain ⟨nf, hnf⟩ : ∃ n, M.fs.length = n := ⟨_, rfl⟩
  obtain ⟨ng, hng⟩ : ∃ n, M.gs.length = n := ⟨_, rfl⟩
  unfold instV
  unfold modV at MM
  simp only at MM ⊢
  rw [hnf, hng] at MM ⊢
  rw [hn] at MS ⊢
  clear hnf hng hn hM hL hs hlen
  obtain ⟨W, hW⟩ : ∃ W, w.alloc (.cells #[.slice fa nf fc, .slice ga ng gc, .bool M.mem, .int .i64 M.pages, .int .i64 M.most, .int .i64 M.start, .int .i64 mx, .string D, .slice a n c, .bool po, .int .i64 sp] 44) = W := ⟨_, rfl⟩
  obtain ⟨z, hz⟩ : ∃ z, w.heap.size = z := ⟨_, rfl⟩
  have hb0 : Below w.heap.size w W := by rw [← hW]; exact (Below.refl _ _).alloc (Nat.le_refl _) _
  have hx0 : W.heap[z]? = some (.cells #[.slice fa nf fc, .slice ga ng gc, .bool M.mem, .int .i64 M.pages, .int .i64 M.most, .int .i64 M.start, .int .i64 mx, .string D, .slice a n c, .bool po, .int .i64 sp] 44 (0, 0)) := by rw [← hW, ← hz]; exact heap_alloc_new _ _
  have HW : Hid (w.alloc (.cells #[.slice fa nf fc, .slice ga ng gc, .bool M.mem, .int .i64 M.pages, .int .i64 M.most, .int .i64 M.start, .int .i64 mx, .string D, .slice a n c, .bool po, .int .i64 sp] 44) = W ∧ w.heap.size = z) := ⟨hW, hz⟩
  have HB0 : Hid (Below w.heap.size w W) := hb0
  have HVW : Hid (Below V.heap.size V W ∧ V.heap.size ≤ z) := ⟨bel_step hV.out hb0, by have := hV.out.size; omega⟩
  clear hW hz hb0
  go_enter Tryz.func13, Tryz.ntmps13
  go_wp2_with fail
  rw [HW.out.2, HW.out.1]
  refine (MM.out W HVW.out.1).mono ?_
  rintro e w1 ⟨k, wm, rfl, hk, hbm, hcm⟩
  have hx1 := (hcm.same z (fun h => by have := HVW.out.2; omega)).trans ((hbm.block z (lt_of_block hx0)).trans hx0)
  have hrow1 : RowB w1 80 2 a n := hcm.row ((HROW.out.1.below HVW.out.1).below hbm)
  have T2 := MS.out w1 k hrow1 hk.1 (by omega)
  have HK : Hid (0 ≤ k ∧ k ≤ 200000000000000) := hk
  have x6 : w1.cell? ⟨z, 6, none⟩ = some (.int .i64 mx) := (cell_of_block hx1 6).trans rfl
  have x7 : w1.cell? ⟨z, 7, none⟩ = some (.string D) := (cell_of_block hx1 7).trans rfl
  have x8 : w1.cell? ⟨z, 8, none⟩ = some (.slice a n c) := (cell_of_block hx1 8).trans rfl
  have H1 : Hid (Below W.heap.size W wm ∧ Chg (fun x => B ≤ x ∧ x < V.heap.size) wm w1) := ⟨hbm, hcm⟩
  clear hbm hcm hx0 hx1 hrow1 hk MM MS
  go_wp2_with fail
  refine T2.mono ?_
  rintro e w2 ⟨ws, rfl, hbs, hcs⟩
  have H2 : Hid (Below w1.heap.size w1 ws ∧ Chg (fun x => 0 < n ∧ a = some ⟨x, 0, none⟩) ws w2) := ⟨hbs, hcs⟩
  clear T2 hbs hcs x6 x7 x8
  go_wp2
  go_ret
  have hzw := HW.out.2
  have hvz := HVW.out.2
  have hsW := HB0.out.size
  have hsm := H1.out.1.size
  have hs1 := H1.out.2.size
  have hss := H2.out.1.size
  have hs2 := H2.out.2.size
  have hc1 : Below B wm w1 := H1.out.2.below (fun x hx => hx.1)
  have hc2 : Below B ws w2 := H2.out.2.below (fun x hx => (HROW.out.2 x hx.1 hx.2).1)
  refine ⟨_, rfl, by have := HK.out; omega, ?_, fun x h1 h2 => ?_⟩
  · exact (HB0.out.mono (by omega)).trans ((H1.out.1.mono (by omega)).trans (hc1.trans ((H2.out.1.mono (by omega)).trans hc2)))
  · refine (H2.out.2.same x (fun h => ?_)).trans ((H2.out.1.block x (by omega)).trans ((H1.out.2.same x (fun h => by omega)).trans ((H1.out.1.block x (by omega)).trans (HB0.out.block x (by omega)))))
    have := (HROW.out.2 x h.1 h.2).2
    omega

end Go.Proofs.YtdcfflmfimepfaaGreat
