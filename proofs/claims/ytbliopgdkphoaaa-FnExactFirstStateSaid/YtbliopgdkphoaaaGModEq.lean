/-
  Two modules are compared.
-/
import Derived.Test.YtbliopgdkphoaaaGMod
import Derived.Deep.RegionWith
namespace Go.Proofs.Ytbliopgdkphoaaa
open Go.ChangeShapes Go.WideShapes Go.ChangeAt Go.RowKit

set_option maxRecDepth 100000 in
set_option maxHeartbeats 800000 in
theorem eqGlo1 (ty : Int) (fixed : Bool) (bits : Int) (w : World) :
    Calls Try.prog 72 #[.agg #[.int .i64 ty, .bool fixed, .int .u64 bits], .agg #[.int .i64 ty, .bool fixed, .int .u64 bits]] w fun e w' => e = .returned (.bool true) ∧ Below w.heap.size w w' := by
  go_enter Try.func72, Try.ntmps72
  go_wp2
  go_ret
  exact ⟨rfl, ((Below.refl _ _).alloc (Nat.le_refl _) _).alloc (by simp) _⟩

set_option maxRecDepth 100000 in
set_option maxHeartbeats 1600000 in
theorem eqGlos (a a' : Option Addr) (cap cap' : Nat) (L : List Glo7) (w : World) (hL : Hid (Glos w a L)) (hL' : Hid (Glos w a' L)) (hlen : L.length ≤ 9223372036854775807) :
    Calls Try.prog 39 #[.slice a L.length cap, .slice a' L.length cap'] w fun e w' => e = .returned (.bool true) ∧ Below w.heap.size w w' := by
  go_enter Try.func39, Try.ntmps39
  go_wp2
  go_loopw [5] (fun i wr => ∃ (k : Nat), k ≤ L.length ∧ i = .int .i64 k ∧ Below w.heap.size w wr) (fun i _ => L.length - (intOf i).toNat)
  case atStart => exact ⟨0, by omega, rfl, Below.refl _ _⟩
  case round =>
    obtain ⟨k, hk, rfl, hnx⟩ := hrel
    by_cases hlt : k < L.length
    · obtain ⟨b, off, rfl, hb, hc⟩ := hL.out.at k hlt
      obtain ⟨b', off', rfl, hb', hd⟩ := hL'.out.at k hlt
      obtain ⟨x, hx⟩ : ∃ x, x = L[k] := ⟨_, rfl⟩
      rw [← hx] at hc hd
      obtain ⟨ty, fixed, bits⟩ := x
      clear hx
      obtain ⟨c0, c1, c2⟩ := hc
      obtain ⟨e0, e1, e2⟩ := hd
      simp only at c0 c1 c2 e0 e1 e2
      have hc0 : wr.cell? ⟨b, off + k * 3, none⟩ = some (.int .i64 ty) := (hnx.cell (by exact hb)).trans c0
      have hc1 : wr.cell? ⟨b, off + k * 3 + 1, none⟩ = some (.bool fixed) := (hnx.cell (by exact hb)).trans c1
      have hc2 : wr.cell? ⟨b, off + k * 3 + 2, none⟩ = some (.int .u64 bits) := (hnx.cell (by exact hb)).trans c2
      have hd0 : wr.cell? ⟨b', off' + k * 3, none⟩ = some (.int .i64 ty) := (hnx.cell (by exact hb')).trans e0
      have hd1 : wr.cell? ⟨b', off' + k * 3 + 1, none⟩ = some (.bool fixed) := (hnx.cell (by exact hb')).trans e1
      have hd2 : wr.cell? ⟨b', off' + k * 3 + 2, none⟩ = some (.int .u64 bits) := (hnx.cell (by exact hb')).trans e2
      clear c0 c1 c2 e0 e1 e2
      have H := eqGlo1 ty fixed bits
      go_wp2
      go_region_with (go_at_call 72; refine (H _).mono ?_; rintro e w1 ⟨rfl, hb2⟩)
      all_goals
        go_wp2
        go_roundw
        case rel => exact ⟨k + 1, by omega, by go_num, by first | exact below2 hnx (by assumption) | exact below2 hnx.drew (by assumption) | exact below2 hnx.drew.drew (by assumption) | exact below2 hnx.drew.drew.drew (by assumption)⟩
        case measure => simp [intOf]; omega
    · go_wp2
      go_ret
      exact ⟨rfl, hnx⟩

set_option maxRecDepth 100000 in
set_option maxHeartbeats 1600000 in
theorem eqFun1 (pa la ba pa' la' ba' : Option Addr) (pc lc bc pc' lc' bc' : Nat) (f : Fun7) (w : World) (hR : Hid (FunRows w pa la ba f)) (hR' : Hid (FunRows w pa' la' ba' f)) (hs : Hid (smF f)) :
    Calls Try.prog 71 #[.agg #[.slice pa f.ps.length pc, .int .i64 f.res, .slice la f.ls.length lc, .slice ba f.body.length bc], .agg #[.slice pa' f.ps.length pc', .int .i64 f.res, .slice la' f.ls.length lc', .slice ba' f.body.length bc']] w fun e w' => e = .returned (.bool true) ∧ Below w.heap.size w w' := by
  obtain ⟨ps, res, ls, body⟩ := f
  simp only
  go_enter Try.func71, Try.ntmps71
  go_wp2_with fail
  obtain ⟨n, hn⟩ : ∃ n, w.heap.size = n := ⟨_, rfl⟩
  obtain ⟨W0, hW0⟩ : ∃ W, ((w.alloc (.cells #[.slice pa ps.length pc, .int .i64 res, .slice la ls.length lc, .slice ba body.length bc] 75)).alloc (.cells #[.slice pa' ps.length pc', .int .i64 res, .slice la' ls.length lc', .slice ba' body.length bc'] 75)) = W := ⟨_, rfl⟩
  have hb0 : Below w.heap.size w W0 := by rw [← hW0]; exact bel_alloc (bel_alloc (Below.refl _ _) _) _
  have hz0 : W0.heap.size = n + 1 + 1 := by rw [← hW0, ← hn]; simp
  have hx0 : W0.heap[n]? = some (.cells #[.slice pa ps.length pc, .int .i64 res, .slice la ls.length lc, .slice ba body.length bc] 75 (0, 0)) := by
    rw [← hW0, ← hn]
    exact (Below.heap_alloc _ _ _ (by simp)).trans (heap_alloc_new _ _)
  have hy0 : W0.heap[n + 1]? = some (.cells #[.slice pa' ps.length pc', .int .i64 res, .slice la' ls.length lc', .slice ba' body.length bc'] 75 (0, 0)) := by
    rw [← hW0, ← hn]
    have h := heap_alloc_new (w.alloc (.cells #[.slice pa ps.length pc, .int .i64 res, .slice la ls.length lc, .slice ba body.length bc] 75)) (.cells #[.slice pa' ps.length pc', .int .i64 res, .slice la' ls.length lc', .slice ba' body.length bc'] 75)
    simpa using h
  have T1 := eqInts pa pa' pc pc' ps W0 (hR.out.1.below hb0) (hR'.out.1.below hb0) (by have := hs.out.1; simp only at this; omega)
  have HB0 : Hid (Below w.heap.size w W0) := hb0
  rw [hW0, hn]
  clear hb0 hW0 hn
  refine T1.mono ?_
  rintro e w1 ⟨rfl, hb1⟩
  have hx1 := (hb1.block n (by omega)).trans hx0
  have hy1 := (hb1.block (n + 1) (by omega)).trans hy0
  have hz1 : n + 1 < w1.heap.size := by have := hb1.size; omega
  have HB1 : Hid (Below w.heap.size w w1) := bel_step HB0.out hb1
  clear T1 hb1 hx0 hy0 hz0 HB0
  have c1 := (cell_of_block hx1 1).trans rfl
  have c2 := (cell_of_block hx1 2).trans rfl
  have d1 := (cell_of_block hy1 1).trans rfl
  have d2 := (cell_of_block hy1 2).trans rfl
  go_wp2_with fail
  refine (eqInts la la' lc lc' ls w1 (hR.out.2.1.below HB1.out) (hR'.out.2.1.below HB1.out) (by have := hs.out.2.1; simp only at this; omega)).mono ?_
  rintro e w2 ⟨rfl, hb2⟩
  have hx2 := (hb2.block n (by omega)).trans hx1
  have hy2 := (hb2.block (n + 1) (by omega)).trans hy1
  have HB2 : Hid (Below w.heap.size w w2) := bel_step HB1.out hb2
  clear hb2 hx1 hy1 hz1 HB1 c1 c2 d1 d2
  have c3 := (cell_of_block hx2 3).trans rfl
  have d3 := (cell_of_block hy2 3).trans rfl
  obtain ⟨b1, o1, k1, i1⟩ := (hR.out.2.2.below HB2.out).parts
  obtain ⟨b2, o2, k2, i2⟩ := (hR'.out.2.2.below HB2.out).parts
  have T3 := eqInsS ba ba' b1 o1 bc b2 o2 bc' body w2 k1 k2 i1 i2 (by have := hs.out.2.2.1; simp only at this; omega)
  clear k1 k2 i1 i2
  go_wp2_with fail
  refine T3.mono ?_
  rintro e w3 ⟨rfl, hb3⟩
  have HB3 : Hid (Below w.heap.size w w3) := bel_step HB2.out hb3
  clear T3 hb3
  go_wp2
  go_ret
  exact ⟨rfl, HB3.out⟩

set_option maxRecDepth 100000 in
set_option maxHeartbeats 1600000 in
theorem eqFuns (a a' : Option Addr) (cap cap' : Nat) (L : List Fun7) (w : World) (hL : Hid (Funs w a L)) (hL' : Hid (Funs w a' L)) (hs : Hid (∀ f ∈ L, smF f)) (hlen : L.length ≤ 9223372036854775807) :
    Calls Try.prog 38 #[.slice a L.length cap, .slice a' L.length cap'] w fun e w' => e = .returned (.bool true) ∧ Below w.heap.size w w' := by
  go_enter Try.func38, Try.ntmps38
  go_wp2
  go_loopw [5] (fun i wr => ∃ (k : Nat), k ≤ L.length ∧ i = .int .i64 k ∧ Below w.heap.size w wr) (fun i _ => L.length - (intOf i).toNat)
  case atStart => exact ⟨0, by omega, rfl, Below.refl _ _⟩
  case round =>
    obtain ⟨k, hk, rfl, hnx⟩ := hrel
    by_cases hlt : k < L.length
    · obtain ⟨b, off, rfl, hb, hc⟩ := hL.out.at k hlt
      obtain ⟨b', off', rfl, hb', hd⟩ := hL'.out.at k hlt
      have hsm := hs.out L[k] (List.getElem_mem _)
      obtain ⟨x, hx⟩ : ∃ x, x = L[k] := ⟨_, rfl⟩
      rw [← hx] at hc hd hsm
      clear hx
      obtain ⟨pa, pc, la, lc, ba, bc, c0, c1, c2, c3, hR⟩ := hc
      obtain ⟨pa', pc', la', lc', ba', bc', e0, e1, e2, e3, hR'⟩ := hd
      have hc0 : wr.cell? ⟨b, off + k * 4, none⟩ = some (.slice pa x.ps.length pc) := (hnx.cell (by exact hb)).trans c0
      have hc1 : wr.cell? ⟨b, off + k * 4 + 1, none⟩ = some (.int .i64 x.res) := (hnx.cell (by exact hb)).trans c1
      have hc2 : wr.cell? ⟨b, off + k * 4 + 2, none⟩ = some (.slice la x.ls.length lc) := (hnx.cell (by exact hb)).trans c2
      have hc3 : wr.cell? ⟨b, off + k * 4 + 3, none⟩ = some (.slice ba x.body.length bc) := (hnx.cell (by exact hb)).trans c3
      have hd0 : wr.cell? ⟨b', off' + k * 4, none⟩ = some (.slice pa' x.ps.length pc') := (hnx.cell (by exact hb')).trans e0
      have hd1 : wr.cell? ⟨b', off' + k * 4 + 1, none⟩ = some (.int .i64 x.res) := (hnx.cell (by exact hb')).trans e1
      have hd2 : wr.cell? ⟨b', off' + k * 4 + 2, none⟩ = some (.slice la' x.ls.length lc') := (hnx.cell (by exact hb')).trans e2
      have hd3 : wr.cell? ⟨b', off' + k * 4 + 3, none⟩ = some (.slice ba' x.body.length bc') := (hnx.cell (by exact hb')).trans e3
      have hR2 : FunRows wr pa la ba x := hR.out.below hnx
      have hR3 : FunRows wr pa' la' ba' x := hR'.out.below hnx
      have H : Hid (∀ w', Below wr.heap.size wr w' → Calls Try.prog 71 #[.agg #[.slice pa x.ps.length pc, .int .i64 x.res, .slice la x.ls.length lc, .slice ba x.body.length bc], .agg #[.slice pa' x.ps.length pc', .int .i64 x.res, .slice la' x.ls.length lc', .slice ba' x.body.length bc']] w' fun e w'' => e = .returned (.bool true) ∧ Below w'.heap.size w' w'') := fun w' hb => eqFun1 pa la ba pa' la' ba' pc lc bc pc' lc' bc' x w' (hR2.below hb) (hR3.below hb) hsm
      clear c0 c1 c2 c3 e0 e1 e2 e3 hR hR' hsm hR2 hR3
      go_wp2
      go_region_with (go_at_call 71; refine (H.out _ (by first | exact Below.refl _ _ | exact (Below.refl _ _).drew | exact (Below.refl _ _).drew.drew | exact (Below.refl _ _).drew.drew.drew)).mono ?_; rintro e w1 ⟨rfl, hb2⟩)
      all_goals
        go_wp2
        go_roundw
        case rel => exact ⟨k + 1, by omega, by go_num, by first | exact below2 hnx (by assumption) | exact below2 hnx.drew (by assumption) | exact below2 hnx.drew.drew (by assumption) | exact below2 hnx.drew.drew.drew (by assumption)⟩
        case measure => simp [intOf]; omega
    · go_wp2
      go_ret
      exact ⟨rfl, hnx⟩

set_option maxRecDepth 100000 in
set_option maxHeartbeats 1600000 in
theorem eqMod (l l' : Loc7) (M : Mod7) (w : World) (hM : Hid (ModAt w l M)) (hM' : Hid (ModAt w l' M)) (hs : Hid (smM M)) :
    Calls Try.prog 13 #[modV l M, modV l' M] w fun e w' => e = .returned (.bool true) ∧ Below w.heap.size w w' := by
  obtain ⟨fa, fc, ga, gc⟩ := l
  obtain ⟨fa', fc', ga', gc'⟩ := l'
  obtain ⟨fs, gs, mem, pages, most, start⟩ := M
  unfold modV
  simp only
  go_enter Try.func13, Try.ntmps13
  go_wp2_with fail
  obtain ⟨n, hn⟩ : ∃ n, w.heap.size = n := ⟨_, rfl⟩
  obtain ⟨W0, hW0⟩ : ∃ W, ((w.alloc (.cells #[.slice fa fs.length fc, .slice ga gs.length gc, .bool mem, .int .i64 pages, .int .i64 most, .int .i64 start] 32)).alloc (.cells #[.slice fa' fs.length fc', .slice ga' gs.length gc', .bool mem, .int .i64 pages, .int .i64 most, .int .i64 start] 32)) = W := ⟨_, rfl⟩
  have hb0 : Below w.heap.size w W0 := by rw [← hW0]; exact bel_alloc (bel_alloc (Below.refl _ _) _) _
  have hz0 : W0.heap.size = n + 1 + 1 := by rw [← hW0, ← hn]; simp
  have hx0 : W0.heap[n]? = some (.cells #[.slice fa fs.length fc, .slice ga gs.length gc, .bool mem, .int .i64 pages, .int .i64 most, .int .i64 start] 32 (0, 0)) := by
    rw [← hW0, ← hn]
    exact (Below.heap_alloc _ _ _ (by simp)).trans (heap_alloc_new _ _)
  have hy0 : W0.heap[n + 1]? = some (.cells #[.slice fa' fs.length fc', .slice ga' gs.length gc', .bool mem, .int .i64 pages, .int .i64 most, .int .i64 start] 32 (0, 0)) := by
    rw [← hW0, ← hn]
    have h := heap_alloc_new (w.alloc (.cells #[.slice fa fs.length fc, .slice ga gs.length gc, .bool mem, .int .i64 pages, .int .i64 most, .int .i64 start] 32)) (.cells #[.slice fa' fs.length fc', .slice ga' gs.length gc', .bool mem, .int .i64 pages, .int .i64 most, .int .i64 start] 32)
    simpa using h
  have T1 := eqFuns fa fa' fc fc' fs W0 (hM.out.1.below hb0) (hM'.out.1.below hb0) hs.out.2.2.1 (by have := hs.out.1; simp only at this; omega)
  have HB0 : Hid (Below w.heap.size w W0) := hb0
  rw [hW0, hn]
  clear hb0 hW0 hn
  refine T1.mono ?_
  rintro e w1 ⟨rfl, hb1⟩
  have hx1 := (hb1.block n (by omega)).trans hx0
  have hy1 := (hb1.block (n + 1) (by omega)).trans hy0
  have hz1 : n + 1 < w1.heap.size := by have := hb1.size; omega
  have HB1 : Hid (Below w.heap.size w w1) := bel_step HB0.out hb1
  clear T1 hb1 hx0 hy0 hz0 HB0
  have c1 := (cell_of_block hx1 1).trans rfl
  have d1 := (cell_of_block hy1 1).trans rfl
  go_wp2_with fail
  refine (eqGlos ga ga' gc gc' gs w1 (hM.out.2.below HB1.out) (hM'.out.2.below HB1.out) (by have := hs.out.2.1; simp only at this; omega)).mono ?_
  rintro e w2 ⟨rfl, hb2⟩
  have hx2 := (hb2.block n (by omega)).trans hx1
  have hy2 := (hb2.block (n + 1) (by omega)).trans hy1
  have HB2 : Hid (Below w.heap.size w w2) := bel_step HB1.out hb2
  clear hb2 hx1 hy1 hz1 HB1 c1 d1
  have c2 := (cell_of_block hx2 2).trans rfl
  have d2 := (cell_of_block hy2 2).trans rfl
  have c3 := (cell_of_block hx2 3).trans rfl
  have d3 := (cell_of_block hy2 3).trans rfl
  have c4 := (cell_of_block hx2 4).trans rfl
  have d4 := (cell_of_block hy2 4).trans rfl
  have c5 := (cell_of_block hx2 5).trans rfl
  have d5 := (cell_of_block hy2 5).trans rfl
  go_wp2
  go_ret
  exact ⟨rfl, HB2.out⟩

end Go.Proofs.Ytbliopgdkphoaaa
