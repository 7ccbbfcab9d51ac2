/-
  The program's check: the types of a func in one row.
-/
import Derived.Test.YtcgnefgdfgikdaaGreatKA3
import Derived.Lib.AppendZeros
import Derived.Test.YtcgnefgdfgikdaaGreatKA1
import Derived.Test.YtcgnefgdfgikdaaGreatKA5
import Derived.Test.YtcgnefgdfgikdaaGreatA5
import Derived.Maps.AppendAt
namespace Go.Proofs.YtcgnefgdfgikdaaGreat
open Go.ChangeShapes Go.WideShapes Go.ChangeAt Go.RowKit

set_option maxRecDepth 100000 in
set_option maxHeartbeats 1600000 in
theorem growI (n : Nat) (hn : n ≤ 100) (w : World) :
    Calls Tryz.prog 68 #[.slice none 0 0, .int .i64 (n : Int)] w fun e w' => ∃ v, e = .returned v ∧ w'.ownsRow w.heap.size 3 1 v 0 [] ∧ Below w.heap.size w w' := by
  obtain ⟨i0, i0i, i00, i01, i02⟩ := info_parts Tryz.infoI8
  by_cases h0 : n = 0
  · subst h0
    go_enter Tryz.func68, Tryz.ntmps68
    go_wp2
    go_ret
    exact ⟨_, rfl, World.ownsRow_nil _ _ _ _, Below.refl _ _⟩
  · have hpos : (0 : Int) < (n : Int) := by omega
    have hnn : ¬ (n : Int) < 0 := by omega
    have hbyte : ¬ (281474976710656 : Int) < (n : Int) * (Tryz.t3.bytes : Int) := by rw [show Tryz.t3.bytes = 8 by kernel_rfl]; omega
    have hbyte2 : ¬ 281474976710656 < Builtin.nextslicecap n 0 * Tryz.t3.bytes := by rw [show Tryz.t3.bytes = 8 by kernel_rfl, nextslicecap_zero (by omega)]; omega
    have hcap := grownCap_ge w n 0 3
    have hcap2 := grownCap_le_maxLen w n 0 3 (by unfold maxLen; omega)
    have HG : Hid (n ≤ grownCap w n 0 3 ∧ grownCap w n 0 3 ≤ maxLen) := ⟨hcap, hcap2⟩
    clear hcap hcap2
    go_enter Tryz.func68, Tryz.ntmps68
    go_wp2
    go_ret
    refine ⟨_, rfl, ⟨rfl, .inr ⟨w.heap.size, grownCap w n 0 3, _, rfl, Nat.le_refl _, heap_alloc_new _ _, Nat.zero_le _, HG.out.2, ?_, by simp⟩⟩, ?_⟩
    · have := HG.out.1
      simp only [Array.size_append, size_zeroCells]
      have e : (#[Value.int .i64 0] : Array Value).size = 1 := rfl
      rw [e]
      show n * 1 + (grownCap w n 0 3 - n) * 1 = _
      omega
    · first
        | exact ((Below.refl _ _).alloc (Nat.le_refl _) _).drew
        | exact ((Below.refl _ _).drew.alloc (Nat.le_refl _) _)

set_option maxRecDepth 100000 in
set_option maxHeartbeats 1600000 in
theorem concatI (pa la : Option Addr) (pc lc : Nat) (ps ls : List Int) (z : Nat) (w : World) (c0 : w.cell? ⟨z, 0, none⟩ = some (.slice pa ps.length pc)) (c1 : w.cell? ⟨z, 1, none⟩ = some (.slice la ls.length lc)) (hz : z < w.heap.size) (hp : Hid (Ints w pa ps)) (hq : Hid (Ints w la ls)) (h1 : ps.length ≤ 20) (h2 : ls.length ≤ 20) :
    Calls Tryz.prog 45 #[.slice (some ⟨z, 0, none⟩) 2 2] w fun e w' => ∃ a cap, e = .returned (.slice a (ps ++ ls).length cap) ∧ (Ints w' a (ps ++ ls) ∧ ∀ b off, a = some ⟨b, off, none⟩ → w.heap.size ≤ b) ∧ Below w.heap.size w w' := by
  obtain ⟨i0, i0i, i00, i01, i02⟩ := info_parts Tryz.infoI8
  obtain ⟨n, hn⟩ : ∃ n, ps.length = n := ⟨_, rfl⟩
  obtain ⟨m, hm⟩ : ∃ m, ls.length = m := ⟨_, rfl⟩
  rw [hn] at c0 h1
  rw [hm] at c1 h2
  have HN : Hid (ps.length = n ∧ ls.length = m ∧ n ≤ 20 ∧ m ≤ 20) := ⟨hn, hm, h1, h2⟩
  clear hn hm
  go_enter Tryz.func45, Tryz.ntmps45
  go_wp2
  go_loopw [3, 11] (fun vs vi wr => wr = w ∧ ((vi = .int .i64 0 ∧ vs = .int .i64 0) ∨ (vi = .int .i64 1 ∧ vs = .int .i64 (n : Int)) ∨ (vi = .int .i64 2 ∧ vs = .int .i64 ((n : Int) + (m : Int))))) (fun _ vi _ => 2 - (intOf vi).toNat)
  case atStart => exact ⟨rfl, .inl ⟨rfl, rfl⟩⟩
  case round =>
    obtain ⟨hw, hrel⟩ := hrel
    obtain rfl := hw.symm
    obtain ⟨rfl, rfl⟩ | ⟨rfl, rfl⟩ | ⟨rfl, rfl⟩ := hrel
    · go_wp2
      go_roundw
      case rel => exact ⟨by trivial, .inr (.inl ⟨rfl, by simp⟩)⟩
      case measure => simp [intOf]
    · go_wp2
      go_roundw
      case rel => exact ⟨by trivial, .inr (.inr ⟨rfl, by simp⟩)⟩
      case measure => simp [intOf]
    · have G := growI (n + m) (by omega) w
      rw [show ((n + m : Nat) : Int) = (n : Int) + (m : Int) by omega] at G
      go_wp2_with fail
      refine G.mono ?_
      rintro e w1 ⟨v, rfl, hown, hb1⟩
      have HB1 : Hid (Below w.heap.size w w1) := hb1
      have HO : Hid (w1.ownsRow w.heap.size 3 1 v 0 []) := hown
      have d0 := (hb1.cell (p := ⟨z, 0, none⟩) hz).trans c0
      have d1 := (hb1.cell (p := ⟨z, 1, none⟩) hz).trans c1
      have C0 : Hid (w.cell? ⟨z, 0, none⟩ = some (.slice pa n pc)) := c0
      have C1 : Hid (w.cell? ⟨z, 1, none⟩ = some (.slice la m lc)) := c1
      clear G hb1 hown c0 c1
      have c0 := C0
      have c1 := C1
      clear C0 C1
      go_wp2_with fail
      go_loopw [6, 27] (fun vr vi wr => ∃ (k : Nat) (L : List Int), k ≤ 2 ∧ vi = .int .i64 k ∧ Hid (L = (if k = 0 then [] else if k = 1 then ps else ps ++ ls)) ∧ Hid (wr.ownsRow w.heap.size 3 1 vr L.length (ivl L)) ∧ Hid (Below w.heap.size w wr)) (fun _ vi _ => 2 - (intOf vi).toNat)
      case atStart => exact ⟨0, [], by omega, rfl, rfl, HO, HB1⟩
      case round =>
        clear HO HB1
        obtain ⟨k, L, hk, rfl, hL, hR, hB⟩ := hrel
        have e0 := (hB.out.cell (p := ⟨z, 0, none⟩) hz).trans c0.out
        have e1 := (hB.out.cell (p := ⟨z, 1, none⟩) hz).trans c1.out
        have hk3 : k = 0 ∨ k = 1 ∨ k = 2 := by omega
        rcases hk3 with rfl | rfl | rfl
        · obtain ⟨av, cv, hvr, hcv⟩ := own_shape hR.out
          subst hvr
          have HL : Hid (L = []) := hL
          have HLL : Hid (L.length ≤ 20) := by unfold Hid; rw [HL.out]; have := HN.out; first | omega | (simp)
          have HX : Hid (Ints wr pa ps) := hp.out.below hB.out
          have hei := own_either hR.out
          have HCV : Hid (L.length ≤ cv) := hcv
          clear hL hcv
          cases pa with
          | none =>
            have hX : ps = [] := by
              rcases hn : ps with _ | ⟨x, r⟩
              · rfl
              · obtain ⟨b, off, h, _⟩ := HX.out (by rw [hn]; simp)
                simp at h
            have h0 : n = 0 := by have h1 := HN.out; rw [hX] at h1; simp at h1; omega
            subst h0
            have HXX : Hid (ps = []) := hX
            clear hX
            obtain ⟨nl, hnl⟩ : ∃ q, L.length = q := ⟨_, rfl⟩
            rw [hnl] at hR hei ⊢
            have HNL : Hid (L.length = nl) := hnl
            have hncv : nl ≤ cv := by have := HCV.out; omega
            have hncv2 : (nl : Int) ≤ (cv : Int) := by omega
            clear hnl
            have HE : Hid (ps = L) := by unfold Hid; rw [HXX.out, HL.out]
            have HO2 : Hid (wr.ownsRow w.heap.size 3 1 (.slice av nl cv) (ps).length (ivl (ps))) := by
              unfold Hid; rw [HE.out, HNL.out]; exact hR.out
            rcases hei with ⟨rfl, h0, rfl⟩ | ⟨gs, rfl⟩
            · subst h0
              go_wp2
              go_roundw
              case rel => exact ⟨1, ps, by omega, rfl, by unfold Hid; simp, by first | exact HO2 | exact HO2.out, hB⟩
              case measure => simp [intOf]
            · go_wp2
              go_roundw
              case rel => exact ⟨1, ps, by omega, rfl, by unfold Hid; simp, by first | exact HO2 | exact HO2.out, hB⟩
              case measure => simp [intOf]
          | some ad =>
            have HC : Hid (∀ j u, (ivl ps)[j]? = some u → wr.cell? (ad.add j) = some u) := by
              unfold Hid
              by_cases he : ps = []
              · rw [he]; intro j u hu; simp [ivl] at hu
              · obtain ⟨b, off, h, hb, hc⟩ := HX.out he
                simp at h
                subst h
                exact ints_news hc
            clear hei
            go_wp2_with (at_builtin; refine wpList_append_own _ rfl _ _ 36 rfl w.heap.size 3 i0 (.int .i64 0) 1 8 Tryz.underlying36 i0i i00 i01 i02 rfl (by decide) _ _ _ rfl hR.out ad n _ (ivl ps) rfl ?qc1 ?qc2 ?qc3 ?qc4 ?qc5 ?qc6 ?_)
            case qc1 => have h := HN.out; rw [ivl_len]; omega
            case qc2 => exact HC.out
            case qc3 => intro u hu; obtain ⟨x, _, rfl⟩ := List.mem_map.1 hu; rfl
            case qc4 => have h := HN.out; have := HLL.out; unfold maxLen; omega
            case qc5 => have h := HN.out; have := HLL.out; omega
            case qc6 => exact hB.out.size
            intro v' w2 hown hgrow _
            have HB2 : Hid (Below w.heap.size w w2) := hB.out.grown hgrow hB.out.size (ownsRow_block hR.out)
            have HO2 : Hid (w2.ownsRow w.heap.size 3 1 v' (ps).length (ivl (ps))) := by
              have e : ivl L ++ ivl ps = ivl (ps) := by rw [HL.out]; simp [ivl]
              have e2 : L.length + n = (ps).length := by have h := HN.out; rw [HL.out]; simp; omega
              rw [e, e2] at hown
              exact hown
            clear hown hgrow
            go_wp2
            go_roundw
            case rel => exact ⟨1, ps, by omega, rfl, by unfold Hid; simp, HO2, HB2⟩
            case measure => simp [intOf]
        · obtain ⟨av, cv, hvr, hcv⟩ := own_shape hR.out
          subst hvr
          have HL : Hid (L = ps) := hL
          have HLL : Hid (L.length ≤ 20) := by unfold Hid; rw [HL.out]; have := HN.out; first | omega | (simp)
          have HX : Hid (Ints wr la ls) := hq.out.below hB.out
          have hei := own_either hR.out
          have HCV : Hid (L.length ≤ cv) := hcv
          clear hL hcv
          cases la with
          | none =>
            have hX : ls = [] := by
              rcases hn : ls with _ | ⟨x, r⟩
              · rfl
              · obtain ⟨b, off, h, _⟩ := HX.out (by rw [hn]; simp)
                simp at h
            have h0 : m = 0 := by have h1 := HN.out; rw [hX] at h1; simp at h1; omega
            subst h0
            have HXX : Hid (ls = []) := hX
            clear hX
            obtain ⟨nl, hnl⟩ : ∃ q, L.length = q := ⟨_, rfl⟩
            rw [hnl] at hR hei ⊢
            have HNL : Hid (L.length = nl) := hnl
            have hncv : nl ≤ cv := by have := HCV.out; omega
            have hncv2 : (nl : Int) ≤ (cv : Int) := by omega
            clear hnl
            have HE : Hid (ps ++ ls = L) := by unfold Hid; rw [HXX.out, HL.out, List.append_nil]
            have HO2 : Hid (wr.ownsRow w.heap.size 3 1 (.slice av nl cv) (ps ++ ls).length (ivl (ps ++ ls))) := by
              unfold Hid; rw [HE.out, HNL.out]; exact hR.out
            rcases hei with ⟨rfl, h0, rfl⟩ | ⟨gs, rfl⟩
            · subst h0
              go_wp2
              go_roundw
              case rel => exact ⟨2, ps ++ ls, by omega, rfl, by unfold Hid; simp, by first | exact HO2 | exact HO2.out, hB⟩
              case measure => simp [intOf]
            · go_wp2
              go_roundw
              case rel => exact ⟨2, ps ++ ls, by omega, rfl, by unfold Hid; simp, by first | exact HO2 | exact HO2.out, hB⟩
              case measure => simp [intOf]
          | some ad =>
            have HC : Hid (∀ j u, (ivl ls)[j]? = some u → wr.cell? (ad.add j) = some u) := by
              unfold Hid
              by_cases he : ls = []
              · rw [he]; intro j u hu; simp [ivl] at hu
              · obtain ⟨b, off, h, hb, hc⟩ := HX.out he
                simp at h
                subst h
                exact ints_news hc
            clear hei
            go_wp2_with (at_builtin; refine wpList_append_own _ rfl _ _ 36 rfl w.heap.size 3 i0 (.int .i64 0) 1 8 Tryz.underlying36 i0i i00 i01 i02 rfl (by decide) _ _ _ rfl hR.out ad m _ (ivl ls) rfl ?qc1 ?qc2 ?qc3 ?qc4 ?qc5 ?qc6 ?_)
            case qc1 => have h := HN.out; rw [ivl_len]; omega
            case qc2 => exact HC.out
            case qc3 => intro u hu; obtain ⟨x, _, rfl⟩ := List.mem_map.1 hu; rfl
            case qc4 => have h := HN.out; have := HLL.out; unfold maxLen; omega
            case qc5 => have h := HN.out; have := HLL.out; omega
            case qc6 => exact hB.out.size
            intro v' w2 hown hgrow _
            have HB2 : Hid (Below w.heap.size w w2) := hB.out.grown hgrow hB.out.size (ownsRow_block hR.out)
            have HO2 : Hid (w2.ownsRow w.heap.size 3 1 v' (ps ++ ls).length (ivl (ps ++ ls))) := by
              have e : ivl L ++ ivl ls = ivl (ps ++ ls) := by rw [HL.out]; simp [ivl]
              have e2 : L.length + m = (ps ++ ls).length := by have h := HN.out; rw [HL.out]; simp; omega
              rw [e, e2] at hown
              exact hown
            clear hown hgrow
            go_wp2
            go_roundw
            case rel => exact ⟨2, ps ++ ls, by omega, rfl, by unfold Hid; simp, HO2, HB2⟩
            case measure => simp [intOf]
        · obtain ⟨av, cv, hvr, hcv⟩ := own_shape hR.out
          subst hvr
          have HL : Hid (L = ps ++ ls) := hL
          clear hL
          go_wp2
          go_ret
          refine ⟨av, cv, by rw [← HL.out]; rfl, ⟨?_, fun b off he => by have h := hR.out; rw [he] at h; obtain ⟨_, _, hB⟩ := own_at h (g := b) rfl; exact hB⟩, hB.out⟩
          rw [← HL.out]
          intro hn
          obtain ⟨g, c2, he, _⟩ := own_pos hR.out (List.length_pos_iff.2 hn)
          simp only [Value.slice.injEq, true_and] at he
          obtain ⟨rfl, rfl⟩ := he
          obtain ⟨cur, hc, _⟩ := own_at hR.out (g := g) rfl
          exact ⟨g, 0, rfl, lt_of_block hc, fun i hi => (own_cell hR.out (by rw [Nat.zero_add]; exact ivl_at _ i hi)).1⟩

end Go.Proofs.YtcgnefgdfgikdaaGreat

namespace Go.Proofs.YtcgnefgdfgikdaaGreat
open Go.ChangeShapes Go.WideShapes Go.ChangeAt Go.RowKit

/-- A check has begun: at block g, over the world V. -/
structure Begun (w w' V : World) (g : Nat) (E : EnvI) (own : List Int) (s : St) (vf : Value) : Prop where
  ci : CI w' g E 0 s vf
  env : EnvOk V g E own
  bv : Below V.heap.size V w'
  bw : Below w.heap.size w w'
  ge : w.heap.size ≤ g
  bV : Below w.heap.size w V
  ow : ∃ oa oc, E.own = .slice oa own.length oc ∧ Ints V oa own ∧ ∀ b off, oa = some ⟨b, off, none⟩ → w.heap.size ≤ b

set_option maxRecDepth 100000 in
set_option maxHeartbeats 3200000 in
theorem newI (l : Loc7) (M : Mod7) (f : Fun7) (pa la ba : Option Addr) (pc lc bc : Nat) (w : World) (hM : ModAt w l M) (hR : FunRows w pa la ba f) (hps : f.ps.length ≤ 20) (hls : f.ls.length ≤ 20) (hpa : ∀ f ∈ M.fs, f.ps.length ≤ 20) (hns : M.fs.length ≤ 20 ∧ M.gs.length ≤ 20) :
    Calls Tryz.prog 31 #[.agg #[.slice l.fa M.fs.length l.fc, .slice l.ga M.gs.length l.gc, .bool M.mem, .int .i64 M.pages, .int .i64 M.most, .int .i64 M.start], .agg #[.slice pa f.ps.length pc, .int .i64 f.res, .slice la f.ls.length lc, .slice ba f.body.length bc]] w fun e w' =>
      ∃ g own V vf, e = .returned (.pointer (some ⟨g, 0, none⟩)) ∧ Begun w w' V g ⟨l, M, own, f.res, none⟩ (f.ps ++ f.ls) (firstS f.res) vf := by
  obtain ⟨z, hz⟩ : ∃ z, w.heap.size = z := ⟨_, rfl⟩
  obtain ⟨W, hW⟩ : ∃ W, (w.alloc (.cells #[.slice l.fa M.fs.length l.fc, .slice l.ga M.gs.length l.gc, .bool M.mem, .int .i64 M.pages, .int .i64 M.most, .int .i64 M.start] 26)).alloc (.cells #[.slice pa f.ps.length pc, .int .i64 f.res, .slice la f.ls.length lc, .slice ba f.body.length bc] 39) = W := ⟨_, rfl⟩
  have hb0 : Below w.heap.size w W := by rw [← hW]; exact bel_new _ _ _
  have hx : W.heap[z]? = some (.cells #[.slice l.fa M.fs.length l.fc, .slice l.ga M.gs.length l.gc, .bool M.mem, .int .i64 M.pages, .int .i64 M.most, .int .i64 M.start] 26 (0, 0)) := by rw [← hW, ← hz]; exact (Below.heap_alloc _ _ _ (by simp)).trans (heap_alloc_new _ _)
  have hy : W.heap[z + 1]? = some (.cells #[.slice pa f.ps.length pc, .int .i64 f.res, .slice la f.ls.length lc, .slice ba f.body.length bc] 39 (0, 0)) := by
    rw [← hW, ← hz]
    have h := heap_alloc_new (w.alloc (.cells #[.slice l.fa M.fs.length l.fc, .slice l.ga M.gs.length l.gc, .bool M.mem, .int .i64 M.pages, .int .i64 M.most, .int .i64 M.start] 26)) (.cells #[.slice pa f.ps.length pc, .int .i64 f.res, .slice la f.ls.length lc, .slice ba f.body.length bc] 39)
    simpa using h
  have hltx := lt_of_block hx
  have hlty := lt_of_block hy
  have kx0 : ∀ w', Keeps W w' → w'.cell? ⟨z, 0, none⟩ = some (.slice l.fa M.fs.length l.fc) := fun w' h => h.cell hltx ((cell_of_block hx 0).trans rfl)
  have kx1 : ∀ w', Keeps W w' → w'.cell? ⟨z, 1, none⟩ = some (.slice l.ga M.gs.length l.gc) := fun w' h => h.cell hltx ((cell_of_block hx 1).trans rfl)
  have kx2 : ∀ w', Keeps W w' → w'.cell? ⟨z, 2, none⟩ = some (.bool M.mem) := fun w' h => h.cell hltx ((cell_of_block hx 2).trans rfl)
  have kx3 : ∀ w', Keeps W w' → w'.cell? ⟨z, 3, none⟩ = some (.int .i64 M.pages) := fun w' h => h.cell hltx ((cell_of_block hx 3).trans rfl)
  have kx4 : ∀ w', Keeps W w' → w'.cell? ⟨z, 4, none⟩ = some (.int .i64 M.most) := fun w' h => h.cell hltx ((cell_of_block hx 4).trans rfl)
  have kx5 : ∀ w', Keeps W w' → w'.cell? ⟨z, 5, none⟩ = some (.int .i64 M.start) := fun w' h => h.cell hltx ((cell_of_block hx 5).trans rfl)
  have ky0 : ∀ w', Keeps W w' → w'.cell? ⟨z + 1, 0, none⟩ = some (.slice pa f.ps.length pc) := fun w' h => h.cell hlty ((cell_of_block hy 0).trans rfl)
  have ky1 : ∀ w', Keeps W w' → w'.cell? ⟨z + 1, 1, none⟩ = some (.int .i64 f.res) := fun w' h => h.cell hlty ((cell_of_block hy 1).trans rfl)
  have ky2 : ∀ w', Keeps W w' → w'.cell? ⟨z + 1, 2, none⟩ = some (.slice la f.ls.length lc) := fun w' h => h.cell hlty ((cell_of_block hy 2).trans rfl)
  have HR : Hid (FunRows W pa la ba f) := hR.below hb0
  have HM : Hid (ModAt W l M) := hM.below hb0
  have HB0 : Hid (Below w.heap.size w W ∧ w.heap.size = z) := ⟨hb0, hz⟩
  have HW : Hid ((w.alloc (.cells #[.slice l.fa M.fs.length l.fc, .slice l.ga M.gs.length l.gc, .bool M.mem, .int .i64 M.pages, .int .i64 M.most, .int .i64 M.start] 26)).alloc (.cells #[.slice pa f.ps.length pc, .int .i64 f.res, .slice la f.ls.length lc, .slice ba f.body.length bc] 39) = W) := hW
  have HP : Hid (f.ps.length ≤ 20 ∧ f.ls.length ≤ 20 ∧ (∀ f ∈ M.fs, f.ps.length ≤ 20) ∧ M.fs.length ≤ 20 ∧ M.gs.length ≤ 20) := ⟨hps, hls, hpa, hns⟩
  clear hM hR hps hls hpa hns hb0 hW hz hx hy hltx hlty
  go_enter Tryz.func31, Tryz.ntmps31
  go_wp2_with fail
  rw [HB0.out.2, HW.out]
  refine wh_begin (Keeps W) (by kernel_rfl) ?_
  have hS0 : Keeps W W.drew := Keeps.drew W
  refine wh_take 0 (some 6) (.agg #[.slice l.fa M.fs.length l.fc, .slice l.ga M.gs.length l.gc, .bool M.mem, .int .i64 M.pages, .int .i64 M.most, .int .i64 M.start]) rfl rfl (by kernel_rfl) (by kernel_rfl) (by kernel_rfl) (fun _ _ _ h => h) hS0 (by rfl) (fun w' hS => by have q0 := kx0 _ hS; have q1 := kx1 _ hS; have q2 := kx2 _ hS; have q3 := kx3 _ hS; have q4 := kx4 _ hS; have q5 := kx5 _ hS; go_simp) ?_
  simp only [Act.put, List.setIfInBounds_toArray, List.set_cons_zero, List.set_cons_succ]
  refine wh_take 1 (some 7) (.pointer (some ⟨z + 1, 0, none⟩)) rfl rfl (by kernel_rfl) (by kernel_rfl) (by kernel_rfl) (fun _ _ _ h => h) hS0 (by rfl) (fun _ _ => by kernel_rfl) ?_
  simp only [Act.put, List.setIfInBounds_toArray, List.set_cons_zero, List.set_cons_succ]
  refine wh_take 2 (some 8) (.slice pa f.ps.length pc) rfl rfl (by kernel_rfl) (by kernel_rfl) (by kernel_rfl) (fun _ _ _ h => h) hS0 (by rfl) (fun w' hS => by have q0 := ky0 _ hS; go_simp) ?_
  simp only [Act.put, List.setIfInBounds_toArray, List.set_cons_zero, List.set_cons_succ]
  refine wh_take 3 (some 9) (.pointer (some ⟨z + 1, 2, none⟩)) rfl rfl (by kernel_rfl) (by kernel_rfl) (by kernel_rfl) (fun _ _ _ h => h) hS0 (by rfl) (fun _ _ => by kernel_rfl) ?_
  simp only [Act.put, List.setIfInBounds_toArray, List.set_cons_zero, List.set_cons_succ]
  refine wh_take 4 (some 10) (.slice la f.ls.length lc) rfl rfl (by kernel_rfl) (by kernel_rfl) (by kernel_rfl) (fun _ _ _ h => h) hS0 (by rfl) (fun w' hS => by have q0 := ky2 _ hS; go_simp) ?_
  simp only [Act.put, List.setIfInBounds_toArray, List.set_cons_zero, List.set_cons_succ]
  refine wh_take 7 (some 13) (.pointer (some ⟨z + 1, 1, none⟩)) rfl rfl (by kernel_rfl) (by kernel_rfl) (by kernel_rfl) (fun _ _ _ h => h) hS0 (by rfl) (fun _ _ => by kernel_rfl) ?_
  simp only [Act.put, List.setIfInBounds_toArray, List.set_cons_zero, List.set_cons_succ]
  refine wh_take 8 (some 14) (.int .i64 f.res) rfl rfl (by kernel_rfl) (by kernel_rfl) (by kernel_rfl) (fun _ _ _ h => h) hS0 (by rfl) (fun w' hS => by have q0 := ky1 _ hS; go_simp) ?_
  simp only [Act.put, List.setIfInBounds_toArray, List.set_cons_zero, List.set_cons_succ]
  obtain ⟨y, hy⟩ : ∃ y, W.drew.heap.size = y := ⟨_, rfl⟩
  have hS1 : Keeps W (W.drew.alloc (.cells #[.slice pa f.ps.length pc, .slice la f.ls.length lc] 36)) := hS0.step ((Below.refl _ _).alloc (Nat.le_refl _) _)
  refine wh_val 5 (some 11) (.slice (some ⟨W.drew.heap.size, 0, none⟩) 2 2) (W.drew.alloc (.cells #[.slice pa f.ps.length pc, .slice la f.ls.length lc] 36)) (by kernel_rfl) rfl rfl (by rfl) (by go_simp) hS1 ?_
  simp only [Act.put, List.setIfInBounds_toArray, List.set_cons_zero, List.set_cons_succ]
  have d0 : (W.drew.alloc (.cells #[.slice pa f.ps.length pc, .slice la f.ls.length lc] 36)).cell? ⟨W.drew.heap.size, 0, none⟩ = some (.slice pa f.ps.length pc) := newCell rfl rfl
  have d1 : (W.drew.alloc (.cells #[.slice pa f.ps.length pc, .slice la f.ls.length lc] 36)).cell? ⟨W.drew.heap.size, 1, none⟩ = some (.slice la f.ls.length lc) := newCell rfl rfl
  refine wh_call 6 (some 12) 45 #[.slice (some ⟨W.drew.heap.size, 0, none⟩) 2 2] (by kernel_rfl) rfl rfl (by rfl) (by kernel_rfl) ?_
  refine (concatI pa la pc lc f.ps f.ls W.drew.heap.size _ d0 d1 (by simp) (HR.out.1.below hS1.below) (HR.out.2.1.below hS1.below) HP.out.1 HP.out.2.1).mono ?_
  rintro e V ⟨oa, oc, rfl, ⟨hI, hIo⟩, hbV⟩
  have hSV : Keeps W V := hS1.step hbV
  refine ⟨_, rfl, hSV, ?_⟩
  simp only [Act.put, List.setIfInBounds_toArray, List.set_cons_zero, List.set_cons_succ]
  have hS0 := hSV
  refine wh_take 9 (some 15) (.agg (mkI ⟨l, M, .slice oa (f.ps ++ f.ls).length oc, f.res, none⟩ 0 0 (.slice none 0 0) (.slice none 0 0))) rfl rfl (by kernel_rfl) (by kernel_rfl) (by kernel_rfl) (fun _ _ _ h => h) hSV (by rfl) (fun _ _ => by first | rfl | (go_simp; rfl) | go_simp) ?_
  simp only [Act.put, List.setIfInBounds_toArray, List.set_cons_zero, List.set_cons_succ]
  have hSG : Keeps W (V.alloc (.cells (mkI ⟨l, M, .slice oa (f.ps ++ f.ls).length oc, f.res, none⟩ 0 0 (.slice none 0 0) (.slice none 0 0)) 72)) := hSV.step ((Below.refl _ _).alloc (Nat.le_refl _) _)
  refine wh_val 10 (some 16) (.pointer (some ⟨V.heap.size, 0, none⟩)) (V.alloc (.cells (mkI ⟨l, M, .slice oa (f.ps ++ f.ls).length oc, f.res, none⟩ 0 0 (.slice none 0 0) (.slice none 0 0)) 72)) (by kernel_rfl) rfl rfl (by rfl) (by first | rfl | (go_simp; rfl) | go_simp) hSG ?_
  simp only [Act.put, List.setIfInBounds_toArray, List.set_cons_zero, List.set_cons_succ]
  refine wh_val 11 (some 5) (.pointer (some ⟨V.heap.size, 0, none⟩)) (V.alloc (.cells (mkI ⟨l, M, .slice oa (f.ps ++ f.ls).length oc, f.res, none⟩ 0 0 (.slice none 0 0) (.slice none 0 0)) 72)) (by kernel_rfl) rfl rfl (by rfl) (by rfl) hSG ?_
  simp only [Act.put, List.setIfInBounds_toArray, List.set_cons_zero, List.set_cons_succ]
  refine wh_done (by kernel_rfl) ?_
  have HCI : Hid (CI (V.alloc (.cells (mkI ⟨l, M, .slice oa (f.ps ++ f.ls).length oc, f.res, none⟩ 0 0 (.slice none 0 0) (.slice none 0 0)) 72)) V.heap.size ⟨l, M, .slice oa (f.ps ++ f.ls).length oc, f.res, none⟩ 0 ⟨[], [], 0⟩ (.slice none 0 0)) := ⟨⟨.slice none 0 0, heap_alloc_new _ _, World.ownsRow_nil _ _ _ _, World.ownsRow_nil _ _ _ _⟩, fun _ _ h => by simp at h⟩
  have HEN : Hid (EnvOk V V.heap.size ⟨l, M, .slice oa (f.ps ++ f.ls).length oc, f.res, none⟩ (f.ps ++ f.ls)) := ⟨HM.out.below hSV.below, ⟨oa, oc, rfl, hI⟩, Nat.le_refl _, HP.out.2.2.1, HP.out.2.2.2.1, HP.out.2.2.2.2, by have h1 := HP.out.1; have h2 := HP.out.2.1; simp; omega⟩
  have HSG : Hid (Keeps W (V.alloc (.cells (mkI ⟨l, M, .slice oa (f.ps ++ f.ls).length oc, f.res, none⟩ 0 0 (.slice none 0 0) (.slice none 0 0)) 72))) := hSG
  have HOW : Hid (Ints V oa (f.ps ++ f.ls) ∧ ∀ b off, oa = some ⟨b, off, none⟩ → w.heap.size ≤ b) := ⟨hI, fun b off he => by
    have h1 := hIo b off he
    have h2 := hS1.below.size
    have h3 := HB0.out.1.size
    omega⟩
  have HbV : Hid (Below w.heap.size w V) := bel_step HB0.out.1 hSV.below
  have hyz := ky1 _ hSG
  obtain ⟨g, hg⟩ : ∃ g, V.heap.size = g := ⟨_, rfl⟩
  have HBV : Hid (Below V.heap.size V (V.alloc (.cells (mkI ⟨l, M, .slice oa (f.ps ++ f.ls).length oc, f.res, none⟩ 0 0 (.slice none 0 0) (.slice none 0 0)) 72)) ∧ W.heap.size ≤ V.heap.size) := ⟨(Below.refl _ _).alloc (Nat.le_refl _) _, hSV.below.size⟩
  generalize V.alloc (.cells (mkI ⟨l, M, .slice oa (f.ps ++ f.ls).length oc, f.res, none⟩ 0 0 (.slice none 0 0) (.slice none 0 0)) 72) = G at HCI HSG hyz HBV ⊢
  rw [hg] at HCI HEN ⊢
  have HG : Hid (V.heap.size = g) := hg
  have T := openI g _ 0 ⟨[], [], 0⟩ 2 f.res (.slice none 0 0) G HCI.out ⟨by simp, by simp⟩
  clear hg hSG hSV hS0 hS1 hI hIo hbV d0 d1 kx0 kx1 kx2 kx3 kx4 kx5 ky0 ky1 ky2 hy
  go_wp2_with fail
  refine T.mono ?_
  rintro e w5 ⟨rfl, ⟨vf, hci⟩, hb5⟩
  have HC5 : Hid (CI w5 g ⟨l, M, .slice oa (f.ps ++ f.ls).length oc, f.res, none⟩ 0 (firstS f.res) vf) := hci
  have HB5 : Hid (Below g G w5) := hb5
  clear T hci hb5
  go_wp2
  go_ret
  have hgs : Below V.heap.size V w5 := by
    have h := HBV.out.1.trans (HB5.out.mono (by have := HG.out; omega))
    exact h
  refine ⟨g, _, V, vf, rfl, HC5.out, HEN.out, hgs, ?_, ?_, HbV.out, ⟨oa, oc, rfl, HOW.out⟩⟩
  · have h1 := bel_step HB0.out.1 HSG.out.below
    exact h1.trans (HB5.out.mono (by have := HG.out; have := HBV.out.2; have := HB0.out.1.size; omega))
  · have := HG.out
    have := HBV.out.2
    have := HB0.out.1.size
    omega

end Go.Proofs.YtcgnefgdfgikdaaGreat

namespace Go.Proofs.YtcgnefgdfgikdaaGreat
open Go.ChangeShapes Go.WideShapes Go.ChangeAt Go.RowKit

theorem run_append_none (w : World) (base : Nat) (t ty e : TypeId) (i : TypeInfo) (size c : Nat) (ht : Tryz.prog.underlying t = some (.slice e)) (hi : Tryz.prog.info? e = some i) (v : Value) (n : Nat) (xs : List Value) (hown : w.ownsRow base e size v n xs) :
    (Builtin.append_ #[t, t] ty #[v, .slice none 0 c]).run Tryz.prog w = .ok v w := by
  rcases hown.2 with ⟨rfl, rfl⟩ | ⟨g, cap, cur, rfl, _, _, hnc, _⟩
  · simp [Builtin.append_, run_underlying ht, sizeOf, typeInfo, hi, Builtin.lenOf, Builtin.firstCells]
  · simp [Builtin.append_, run_underlying ht, sizeOf, typeInfo, hi, Builtin.lenOf, Builtin.firstCells, hnc, storeCells]

theorem ivl_app (L X : List Int) : ivl (L ++ X) = ivl L ++ ivl X := by simp [ivl]

theorem wp_append_ints {o : Oper} {a : Act} {w : World} {K : Act → World → Prop} {Q : Exit → Act → World → Prop} (s x : Operand) (ho : o.op = .call { callee := .builtin .append, args := #[s, x], argTypes := #[36, 36] }) (base : Nat) (v : Value) (L X : List Int) (xa : Option Addr) (c : Nat) (hs : a.eval s = v) (hown : w.ownsRow base 3 1 v L.length (ivl L)) (hx : a.eval x = .slice xa X.length c) (hX : Ints w xa X) (hl : L.length ≤ 100) (hl2 : X.length ≤ 100) (hb : base ≤ w.heap.size)
    (h : ∀ v' w', w'.ownsRow base 3 1 v' (L ++ X).length (ivl (L ++ X)) → Below base w w' → K (a.put o.dst v') w') : o.wp Tryz.prog a w K Q := by
  obtain ⟨i0, i0i, i00, i01, i02⟩ := info_parts Tryz.infoI8
  cases xa with
  | none =>
    have hX0 : X = [] := by
      rcases hn : X with _ | ⟨y, r⟩
      · rfl
      · obtain ⟨b, off, h, _⟩ := hX (by rw [hn]; simp)
        simp at h
    subst hX0
    have hr := run_append_none w base 36 o.type 3 i0 1 c Tryz.underlying36 i0i v _ _ hown
    unfold Oper.wp execOp
    simp only [ho, resolve, invoke, builtin, Sem.run_bind, Sem.run_pure, Result.andThen_ok, List.map_toArray, List.map_cons, List.map_nil, hs, hx, List.length_nil, hr]
    exact h v w (by rw [List.append_nil]; exact hown) (Below.refl _ _)
  | some ad =>
    have HC : ∀ j u, (ivl X)[j]? = some u → w.cell? (ad.add j) = some u := by
      by_cases he : X = []
      · rw [he]; intro j u hu; simp [ivl] at hu
      · obtain ⟨b, off, h, hb, hc⟩ := hX he
        simp at h
        subst h
        exact ints_news hc
    obtain ⟨v', w', hr, h2, h3, _, _⟩ := run_append_own_at (P := Tryz.prog) w base 36 o.type 3 i0 (.int .i64 0) 1 8 Tryz.underlying36 i0i i00 i01 i02 rfl (by decide) v L.length (ivl L) hown ad X.length c (ivl X) (by rw [ivl_len]; omega) HC (by intro u hu; obtain ⟨x, _, rfl⟩ := List.mem_map.1 hu; rfl) (by unfold maxLen; omega) (by omega) hb
    unfold Oper.wp execOp
    simp only [ho, resolve, invoke, builtin, Sem.run_bind, Sem.run_pure, Result.andThen_ok, List.map_toArray, List.map_cons, List.map_nil, hs, hx, hr]
    exact h v' w' (by rw [List.length_append, ivl_app]; exact h2) ((Below.refl base w).grown h3 hb (ownsRow_block hown))

theorem own_ints {w : World} {base : Nat} {v : Value} {L : List Int} (h : w.ownsRow base 3 1 v L.length (ivl L)) : ∃ a c, v = .slice a L.length c ∧ Ints w a L := by
  obtain ⟨a, c, rfl, _⟩ := own_shape h
  refine ⟨a, c, rfl, fun hn => ?_⟩
  obtain ⟨g, c2, he, _⟩ := own_pos h (List.length_pos_iff.2 hn)
  simp only [Value.slice.injEq, true_and] at he
  obtain ⟨rfl, rfl⟩ := he
  obtain ⟨cur, hc, _⟩ := own_at h (g := g) rfl
  exact ⟨g, 0, rfl, lt_of_block hc, fun i hi => (own_cell h (by rw [Nat.zero_add]; exact ivl_at _ i hi)).1⟩

end Go.Proofs.YtcgnefgdfgikdaaGreat
