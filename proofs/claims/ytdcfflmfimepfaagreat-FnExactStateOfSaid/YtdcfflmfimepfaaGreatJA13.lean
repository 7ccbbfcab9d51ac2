/-
  Instances as values: what is read of one that comes in; counted, copied, compared.
-/
import Derived.Test.YtdcfflmfimepfaaGreatSB2
import Derived.Test.YtdcfflmfimepfaaGreatSB4
namespace Go.Proofs.YtdcfflmfimepfaaGreat
open Go.ChangeShapes Go.WideShapes Go.ChangeAt Go.RowKit Go.Deep

/-- An instance as a value. -/
def instV (l : Loc7) (M : Mod7) (mx : Int) (D : ByteArray) (a : Option Addr) (n c : Nat) (po : Bool) (sp : Int) : Value := .agg #[.slice l.fa M.fs.length l.fc, .slice l.ga M.gs.length l.gc, .bool M.mem, .int .i64 M.pages, .int .i64 M.most, .int .i64 M.start, .int .i64 mx, .string D, .slice a n c, .bool po, .int .i64 sp]
def IsInst (W : World) (l : Loc7) (M : Mod7) (D : ByteArray) (a : Option Addr) (L : List Wd8) (sp : Int) : Prop := IsMod W l M ∧ IsSt W D a L ∧ (-9223372036854775808 ≤ sp ∧ sp ≤ 9223372036854775807)

theorem instCells : Tryz.prog.cellsOf 32 = 11 := by kernel_rfl
theorem instBool : Tryz.prog.cellsOf 4 = 1 := by kernel_rfl
theorem instInt : Tryz.prog.cellsOf 3 = 1 := by kernel_rfl
theorem list11 {α : Type} {cs : List α} (h : cs.length = 11) : ∃ c0 c1 c2 c3 c4 c5 c6 c7 c8 c9 c10, cs = [c0, c1, c2, c3, c4, c5, c6, c7, c8, c9, c10] := by
  match cs, h with
  | [c0, c1, c2, c3, c4, c5, c6, c7, c8, c9, c10], _ => exact ⟨c0, c1, c2, c3, c4, c5, c6, c7, c8, c9, c10, rfl⟩

set_option maxRecDepth 100000 in
/-- A module at six cells. -/
theorem open_modC {H : Type} {enc : TypeId × Value → H} {W : World} {fuel : Nat} {c0 c1 c2 c3 c4 c5 : Value} {x : DataW H × List MemPlace}
    (h : DataW.trod enc Tryz.prog W 0 (fun _ => true) true fuel 25 [c0, c1, c2, c3, c4, c5] = some x) : ∃ l M, [c0, c1, c2, c3, c4, c5] = [.slice l.fa M.fs.length l.fc, .slice l.ga M.gs.length l.gc, .bool M.mem, .int .i64 M.pages, .int .i64 M.most, .int .i64 M.start] ∧ IsMod W l M := by
  obtain ⟨_, hf⟩ := trod_field Tryz.underlying25 (by kernel_rfl) modCells h
  obtain ⟨v0, y0, n0, e0, h0⟩ := hf 0 _ rfl
  obtain ⟨v1, y1, n1, e1, h1⟩ := hf 1 _ rfl
  obtain ⟨v2, y2, n2, e2, h2⟩ := hf 2 _ rfl
  obtain ⟨v3, y3, n3, e3, h3⟩ := hf 3 _ rfl
  obtain ⟨v4, y4, n4, e4, h4⟩ := hf 4 _ rfl
  obtain ⟨v5, y5, n5, e5, h5⟩ := hf 5 _ rfl
  simp at e0 e1 e2 e3 e4 e5
  subst e0 e1 e2 e3 e4 e5
  obtain ⟨fa, fl, fc, rfl⟩ := trod_sliceV Tryz.underlying22 h0
  obtain ⟨ga, gl, gc, rfl⟩ := trod_sliceV Tryz.underlying23 h1
  obtain ⟨mem, r2, _⟩ := DataW.trod_bool Tryz.underlying4 h2
  obtain ⟨pages, r3, _, _⟩ := DataW.trod_int Tryz.underlying3 h3
  obtain ⟨most, r4, _, _⟩ := DataW.trod_int Tryz.underlying3 h4
  obtain ⟨start, r5, _, hw⟩ := DataW.trod_int Tryz.underlying3 h5
  simp at r2 r3 r4 r5
  subst r2 r3 r4 r5
  obtain ⟨fs, rfl, hF, hFl, hFo⟩ := open_funs h0
  obtain ⟨gs, rfl, hG, hGl, hGo⟩ := open_glos h1
  exact ⟨⟨fa, fc, ga, gc⟩, ⟨fs, gs, mem, pages, most, start⟩, rfl, ⟨hF, hG⟩, ⟨hFl, hGl, hFo, hGo⟩, bounds_i64 hw⟩

set_option maxRecDepth 100000 in
/-- A state at three cells. -/
theorem open_stC {H : Type} {enc : TypeId × Value → H} {W : World} {fuel : Nat} {c0 c1 c2 : Value} {x : DataW H × List MemPlace}
    (h : DataW.trod enc Tryz.prog W 0 (fun _ => true) true fuel 30 [c0, c1, c2] = some x) : ∃ mx D a c L, [c0, c1, c2] = [.int .i64 mx, .string D, .slice a (List.length L) c] ∧ IsSt W D a L := by
  obtain ⟨xs, n, _, _, _, hlen, hf⟩ := DataW.trod_struct Tryz.underlying30 h
  have h0 : DataW.trod enc Tryz.prog W 0 (fun _ => true) true n 27 (List.take (Tryz.prog.cellsOf 27) [c0, c1, c2]) = xs[0]? := hf 0 _ rfl
  have h1 : DataW.trod enc Tryz.prog W 0 (fun _ => true) true n 28 (List.take (Tryz.prog.cellsOf 28) [c2]) = xs[1]? := hf 1 _ rfl
  have l2 : xs.length = 2 := hlen
  rw [List.getElem?_eq_getElem (by omega)] at h0 h1
  rw [memCells] at h0
  rw [slCells] at h1
  simp only [List.take_succ_cons, List.take_zero] at h0 h1
  obtain ⟨_, hm⟩ := trod_field Tryz.underlying27 (by kernel_rfl) memCells h0
  obtain ⟨v0, y0, n0, e0, h00⟩ := hm 0 _ rfl
  obtain ⟨v1, y1, n1, e1, h01⟩ := hm 1 _ rfl
  simp at e0 e1
  subst e0 e1
  obtain ⟨mx, hr0, _, _⟩ := DataW.trod_int Tryz.underlying3 h00
  obtain ⟨D, hr1, _, hD⟩ := DataW.trod_string Tryz.underlying9 h01
  simp at hr0 hr1
  subst hr0 hr1
  obtain ⟨a, len, c, rfl⟩ := trod_sliceV Tryz.underlying28 h1
  obtain ⟨L, rfl, hL, hl, hok⟩ := open_wds h1
  exact ⟨mx, D, a, c, L, rfl, hL, hl, hok, hD⟩

set_option maxRecDepth 100000 in
theorem open_inst {H : Type} {enc : TypeId × Value → H} {W : World} {b0 : Nat} {v : Value} {d : DataW H} {p : List MemPlace} (hv : Value.okWide Tryz.prog W .any b0 32 v)
    (h : DataW.Trod enc Tryz.prog W 0 (fun _ => true) true 32 v d p) : ∃ l M mx D a c L po sp, v = instV l M mx D a (List.length L) c po sp ∧ IsInst W l M D a L sp := by
  obtain ⟨⟨cs⟩, rfl, hsz⟩ := okWide_struct Tryz.underlying32 hv
  rw [instCells] at hsz
  obtain ⟨c0, c1, c2, c3, c4, c5, c6, c7, c8, c9, c10, rfl⟩ := list11 (by simpa using hsz)
  obtain ⟨fuel, hf⟩ := h
  obtain ⟨xs, n, _, _, _, hlen, hf⟩ := DataW.trod_struct Tryz.underlying32 hf
  have h0 : DataW.trod enc Tryz.prog W 0 (fun _ => true) true n 25 (List.take (Tryz.prog.cellsOf 25) [c0, c1, c2, c3, c4, c5, c6, c7, c8, c9, c10]) = xs[0]? := hf 0 _ rfl
  have h1 : DataW.trod enc Tryz.prog W 0 (fun _ => true) true n 30 (List.take (Tryz.prog.cellsOf 30) [c6, c7, c8, c9, c10]) = xs[1]? := hf 1 _ rfl
  have h2 : DataW.trod enc Tryz.prog W 0 (fun _ => true) true n 4 (List.take (Tryz.prog.cellsOf 4) [c9, c10]) = xs[2]? := hf 2 _ rfl
  have h3 : DataW.trod enc Tryz.prog W 0 (fun _ => true) true n 3 (List.take (Tryz.prog.cellsOf 3) [c10]) = xs[3]? := hf 3 _ rfl
  have l4 : xs.length = 4 := hlen
  rw [List.getElem?_eq_getElem (by omega)] at h0 h1 h2 h3
  rw [modCells] at h0
  rw [stCells] at h1
  rw [instBool] at h2
  rw [instInt] at h3
  simp only [List.take_succ_cons, List.take_zero] at h0 h1 h2 h3
  obtain ⟨l, M, e0, hM⟩ := open_modC h0
  obtain ⟨mx, D, a, c, L, e1, hS⟩ := open_stC h1
  obtain ⟨po, r2, _⟩ := DataW.trod_bool Tryz.underlying4 h2
  obtain ⟨sp, r3, _, hw⟩ := DataW.trod_int Tryz.underlying3 h3
  simp at e0 e1 r2 r3
  obtain ⟨rfl, rfl, rfl, rfl, rfl, rfl⟩ := e0
  obtain ⟨rfl, rfl, rfl⟩ := e1
  subst r2 r3
  exact ⟨l, M, mx, D, a, c, L, po, sp, rfl, hM, hS, bounds_i64 hw⟩

set_option maxRecDepth 100000 in
set_option maxHeartbeats 1600000 in
theorem szInst (l : Loc7) (M : Mod7) (mx : Int) (D : ByteArray) (sa : Option Addr) (n sc : Nat) (po : Bool) (sp : Int) (w : World) (hM : Hid (ModAt w l M)) (hok : Hid (okM M)) (hn : n ≤ 9223372036854775807) (hD : D.size ≤ 9223372036854775807) :
    Calls Tryz.prog 5 #[instV l M mx D sa n sc po sp, .int .i64 1048576] w fun e w' => ∃ r : Int, e = .returned (.int .i64 r) ∧ (0 ≤ r → smM M ∧ n ≤ 1048576 ∧ D.size ≤ 1048576) ∧ Below w.heap.size w w' := by
  have Z : Hid (∀ w', Below w.heap.size w w' → Calls Tryz.prog 16 #[modV l M, .int .i64 1048576] w' fun e w'' => ∃ r : Int, e = .returned (.int .i64 r) ∧ (0 ≤ r → smM M ∧ r ≤ 1048576) ∧ Below w'.heap.size w' w'') := fun w' hb => szMod2 l M w' (hM.out.below hb) hok.out
  have ZS := fun r w h0 h1 => szSt mx D sa n sc r w hn hD h0 h1
  obtain ⟨fa, fc, ga, gc⟩ := l
  obtain ⟨nf, hnf⟩ : ∃ n, M.fs.length = n := ⟨_, rfl⟩
  obtain ⟨ng, hng⟩ : ∃ n, M.gs.length = n := ⟨_, rfl⟩
  unfold instV
  unfold modV at Z
  simp only at Z ⊢
  rw [hnf, hng] at Z ⊢
  clear hnf hng hn hD hM hok
  go_enter Tryz.func5, Tryz.ntmps5
  go_wp2_with fail
  refine (Z.out _ ((Below.refl _ _).alloc (Nat.le_refl _) _)).mono ?_
  rintro e w1 ⟨r, rfl, hr, hb1⟩
  have hx1 := (hb1.block w.heap.size (by simp)).trans (heap_alloc_new _ _)
  have HB1 : Hid (Below w.heap.size w w1) := bel_step ((Below.refl _ _).alloc (Nat.le_refl _) _) hb1
  clear hb1 Z
  by_cases hr0 : r < 0
  · clear hr hx1 ZS
    go_wp2
    go_ret
    exact ⟨-1, rfl, fun h => absurd h (by omega), HB1.out⟩
  · have hs : Hid (smM M) := (hr (by omega)).1
    have ZT := ZS r w1 (by omega) (hr (by omega)).2
    have x6 := (cell_of_block hx1 6).trans rfl
    have x7 := (cell_of_block hx1 7).trans rfl
    have x8 := (cell_of_block hx1 8).trans rfl
    clear hr ZS hx1
    go_wp2_with fail
    refine ZT.mono ?_
    rintro e w2 ⟨r2, rfl, hr2, hb2⟩
    have HB2 : Hid (Below w.heap.size w w2) := bel_step HB1.out hb2
    clear hb2 ZT x6 x7 x8 HB1
    by_cases hr3 : r2 < 0
    · clear hr2
      go_wp2
      go_ret
      exact ⟨-1, rfl, fun h => absurd h (by omega), HB2.out⟩
    · have h2 : Hid (n ≤ 1048576 ∧ D.size ≤ 1048576) := hr2 (by omega)
      clear hr2
      go_wp2
      go_ret
      exact ⟨r2, rfl, fun _ => ⟨hs.out, h2.out.1, h2.out.2⟩, HB2.out⟩

set_option maxRecDepth 100000 in
set_option maxHeartbeats 3200000 in
theorem eqInst (l l' : Loc7) (M : Mod7) (mx : Int) (D : ByteArray) (a a' : Option Addr) (c c' : Nat) (L : List Wd8) (po : Bool) (sp : Int) (w : World) (hM : Hid (ModAt w l M)) (hM' : Hid (ModAt w l' M)) (hs : Hid (smM M)) (hL : Hid (Wds w a L)) (hL' : Hid (Wds w a' L)) (hlen : L.length ≤ 1048576) :
    Calls Tryz.prog 9 #[instV l M mx D a L.length c po sp, instV l' M mx D a' L.length c' po sp] w fun e w' => e = .returned (.bool true) ∧ Below w.heap.size w w' := by
  have E : Hid (∀ w', Below w.heap.size w w' → Calls Tryz.prog 23 #[modV l M, modV l' M] w' fun e w'' => e = .returned (.bool true) ∧ Below w'.heap.size w' w'') := fun w' hb => eqMod l l' M w' (hM.out.below hb) (hM'.out.below hb) hs
  have E2 : Hid (∀ w', Below w.heap.size w w' → Calls Tryz.prog 12 #[.agg #[.int .i64 mx, .string D, .slice a L.length c], .agg #[.int .i64 mx, .string D, .slice a' L.length c']] w' fun e w'' => e = .returned (.bool true) ∧ Below w'.heap.size w' w'') := fun w' hb => eqSt mx D a a' c c' L w' (hL.out.below hb) (hL'.out.below hb) hlen
  obtain ⟨fa, fc, ga, gc⟩ := l
  obtain ⟨fax, fcx, gax, gcx⟩ := l'
  obtain ⟨n, hn⟩ : ∃ n, L.length = n := ⟨_, rfl⟩
  obtain ⟨nf, hnf⟩ : ∃ n, M.fs.length = n := ⟨_, rfl⟩
  obtain ⟨ng, hng⟩ : ∃ n, M.gs.length = n := ⟨_, rfl⟩
  unfold instV
  unfold modV at E
  simp only at E ⊢
  rw [hnf, hng] at E ⊢
  rw [hn] at E2 ⊢
  clear hnf hng hn hM hM' hs hL hL' hlen
  go_enter Tryz.func9, Tryz.ntmps9
  go_wp2_with fail
  have hb0 : Below w.heap.size w ((w.alloc (.cells #[.slice fa nf fc, .slice ga ng gc, .bool M.mem, .int .i64 M.pages, .int .i64 M.most, .int .i64 M.start, .int .i64 mx, .string D, .slice a n c, .bool po, .int .i64 sp] 44)).alloc (.cells #[.slice fax nf fcx, .slice gax ng gcx, .bool M.mem, .int .i64 M.pages, .int .i64 M.most, .int .i64 M.start, .int .i64 mx, .string D, .slice a' n c', .bool po, .int .i64 sp] 44)) := bel_alloc (bel_alloc (Below.refl _ _) _) _
  have hx0 : ((w.alloc (.cells #[.slice fa nf fc, .slice ga ng gc, .bool M.mem, .int .i64 M.pages, .int .i64 M.most, .int .i64 M.start, .int .i64 mx, .string D, .slice a n c, .bool po, .int .i64 sp] 44)).alloc (.cells #[.slice fax nf fcx, .slice gax ng gcx, .bool M.mem, .int .i64 M.pages, .int .i64 M.most, .int .i64 M.start, .int .i64 mx, .string D, .slice a' n c', .bool po, .int .i64 sp] 44)).heap[w.heap.size]? = some (.cells #[.slice fa nf fc, .slice ga ng gc, .bool M.mem, .int .i64 M.pages, .int .i64 M.most, .int .i64 M.start, .int .i64 mx, .string D, .slice a n c, .bool po, .int .i64 sp] 44 (0, 0)) := (Below.heap_alloc _ _ _ (by simp)).trans (heap_alloc_new _ _)
  have hy0 : ((w.alloc (.cells #[.slice fa nf fc, .slice ga ng gc, .bool M.mem, .int .i64 M.pages, .int .i64 M.most, .int .i64 M.start, .int .i64 mx, .string D, .slice a n c, .bool po, .int .i64 sp] 44)).alloc (.cells #[.slice fax nf fcx, .slice gax ng gcx, .bool M.mem, .int .i64 M.pages, .int .i64 M.most, .int .i64 M.start, .int .i64 mx, .string D, .slice a' n c', .bool po, .int .i64 sp] 44)).heap[w.heap.size + 1]? = some (.cells #[.slice fax nf fcx, .slice gax ng gcx, .bool M.mem, .int .i64 M.pages, .int .i64 M.most, .int .i64 M.start, .int .i64 mx, .string D, .slice a' n c', .bool po, .int .i64 sp] 44 (0, 0)) := by
    have h := heap_alloc_new (w.alloc (.cells #[.slice fa nf fc, .slice ga ng gc, .bool M.mem, .int .i64 M.pages, .int .i64 M.most, .int .i64 M.start, .int .i64 mx, .string D, .slice a n c, .bool po, .int .i64 sp] 44)) (.cells #[.slice fax nf fcx, .slice gax ng gcx, .bool M.mem, .int .i64 M.pages, .int .i64 M.most, .int .i64 M.start, .int .i64 mx, .string D, .slice a' n c', .bool po, .int .i64 sp] 44)
    simpa using h
  refine (E.out _ hb0).mono ?_
  rintro e w1 ⟨rfl, hb1⟩
  have hx1 := (hb1.block w.heap.size (lt_of_block hx0)).trans hx0
  have hy1 := (hb1.block (w.heap.size + 1) (lt_of_block hy0)).trans hy0
  have HB1 : Hid (Below w.heap.size w w1) := bel_step hb0 hb1
  clear hb1 hb0 hx0 hy0 E
  have x6 := (cell_of_block hx1 6).trans rfl
  have x7 := (cell_of_block hx1 7).trans rfl
  have x8 := (cell_of_block hx1 8).trans rfl
  have y6 := (cell_of_block hy1 6).trans rfl
  have y7 := (cell_of_block hy1 7).trans rfl
  have y8 := (cell_of_block hy1 8).trans rfl
  go_wp2_with fail
  refine (E2.out _ HB1.out).mono ?_
  rintro e w2 ⟨rfl, hb2⟩
  have hx2 := (hb2.block w.heap.size (lt_of_block hx1)).trans hx1
  have hy2 := (hb2.block (w.heap.size + 1) (lt_of_block hy1)).trans hy1
  have HB2 : Hid (Below w.heap.size w w2) := bel_step HB1.out hb2
  clear hb2 E2 x6 x7 x8 y6 y7 y8 hx1 hy1 HB1
  have x9 : w2.cell? ⟨w.heap.size, 9, none⟩ = some (.bool po) := (cell_of_block hx2 9).trans rfl
  have x10 : w2.cell? ⟨w.heap.size, 10, none⟩ = some (.int .i64 sp) := (cell_of_block hx2 10).trans rfl
  have y9 : w2.cell? ⟨w.heap.size + 1, 9, none⟩ = some (.bool po) := (cell_of_block hy2 9).trans rfl
  have y10 : w2.cell? ⟨w.heap.size + 1, 10, none⟩ = some (.int .i64 sp) := (cell_of_block hy2 10).trans rfl
  have hpp : (po != po) = false := by cases po <;> rfl
  clear hx2 hy2
  go_wp2
  go_ret
  exact ⟨rfl, HB2.out⟩

end Go.Proofs.YtdcfflmfimepfaaGreat

namespace Go.Proofs.YtdcfflmfimepfaaGreat
open Go.ChangeShapes Go.WideShapes Go.ChangeAt Go.RowKit

theorem FunsB.low {n : Nat} {w w' : World} {L : List Fun7} (h : FunsB n w L) (hb : Below w.heap.size w w') : FunsB n w' L := h.below hb
theorem ModB.set {B : Nat} {w : World} {l : Loc7} {M : Mod7} (h : ModB B w l M) {m : Nat} (hm : m < B) (i : Nat) (v : Value) : ModB B (w.setCell ⟨m, i, none⟩ v) l M := by
  obtain ⟨g, z, e1, e2, b1, b2, h1, h2⟩ := h
  exact ⟨g, z, e1, e2, b1, b2, h1.set (by omega) i v, h2.set (by omega) i v⟩
theorem ModB.down {B B' : Nat} {w : World} {l : Loc7} {M : Mod7} (h : ModB B w l M) (hb : B' ≤ B) : ModB B' w l M := by
  obtain ⟨g, z, e1, e2, b1, b2, h1, h2⟩ := h
  exact ⟨g, z, e1, e2, by omega, by omega, h1, h2⟩

set_option maxRecDepth 100000 in
set_option maxHeartbeats 1600000 in
theorem toWdsB (a : Option Addr) (cap : Nat) (L : List Wd8) (w : World) (hF : Hid (Wds w a L)) (hlen : L.length ≤ 1048576) :
    Calls Tryz.prog 40 #[.slice a L.length cap] w fun e w' => e = .returned (.slice (some ⟨w.heap.size, 0, none⟩) L.length L.length) ∧ w.heap.size < w'.heap.size ∧ WdsB w.heap.size w' (some ⟨w.heap.size, 0, none⟩) L ∧ Below w.heap.size w w' := by
  obtain ⟨i0, hi, hz0, hz1, hz2⟩ := info_parts Tryz.infoWd
  obtain ⟨M, hM⟩ : ∃ M, M = madeCells (Value.agg #[.int .i64 0, .int .u64 0]).cells (((L.length : Nat) : Int).toNat * i0.size) := ⟨_, rfl⟩
  have hMs : M.size = L.length * 2 := by rw [hM, size_madeCells, hz1]; simp
  have hmk : ∀ W : World, (Instr.makeSlice 40 (.int .i64 (L.length : Int)) (.int .i64 (L.length : Int))).run Tryz.prog W = .ok (.slice (some ⟨W.heap.size, 0, none⟩) L.length L.length) (W.alloc (.cells M 80)) := fun W => by
    have h := run_make (P := Tryz.prog) W 40 80 i0 _ Tryz.underlying40 hi hz0 .i64 .i64 (L.length : Int) (L.length : Int) (by omega) (by omega) (by rw [hz2]; omega) (by omega)
    rw [← hM] at h
    simpa using h
  clear hM
  go_enter Tryz.func40, Tryz.ntmps40
  go_wp2
  go_loopw [4] (fun i wr => ∃ (k : Nat) (arr : Array Value), k ≤ L.length ∧ i = .int .i64 k ∧ wr.heap[w.heap.size]? = some (.cells arr 80 (0, 0)) ∧ arr.size = L.length * 2 ∧ Hid (WdLaid arr L k) ∧ Below w.heap.size w wr) (fun i _ => L.length - (intOf i).toNat)
  case atStart => exact ⟨0, M, by omega, rfl, heap_alloc_new _ _, hMs, fun j _ h => absurd h (by omega), (Below.refl _ _).alloc (Nat.le_refl _) _⟩
  case round =>
    clear hmk hMs
    obtain ⟨k, arr, hk, rfl, harr, hsz, hA, hnx⟩ := hrel
    have hgl := lt_of_block harr
    by_cases hlt : k < L.length
    · obtain ⟨b, off, rfl, hb, hc⟩ := hF.out.at k hlt
      obtain ⟨c0, c1⟩ := hc
      obtain ⟨f, hf⟩ : ∃ f, L[k] = f := ⟨_, rfl⟩
      rw [hf] at c0 c1
      have HF : Hid (L[k] = f) := hf
      clear hf
      have d0 : wr.cell? ⟨b, off + k * 2, none⟩ = some (.int .i64 f.ty) := (hnx.cell (by exact hb)).trans c0
      have d1 : wr.cell? ⟨b, off + k * 2 + 1, none⟩ = some (.int .u64 f.bits) := (hnx.cell (by exact hb)).trans c1
      have HS : Hid (arr.size = L.length * 2) := hsz
      obtain ⟨o0, ho0⟩ : ∃ o, arr[k * 2]? = some o := ⟨_, Array.getElem?_eq_getElem (by omega)⟩
      obtain ⟨o1, ho1⟩ : ∃ o, arr[k * 2 + 1]? = some o := ⟨_, Array.getElem?_eq_getElem (by omega)⟩
      clear hsz c0 c1
      go_wp2_with fail
      refine (toWd1 f.ty f.bits wr).mono ?_
      rintro e w1 ⟨rfl, hb1⟩
      have harr1 := (hb1.block _ hgl).trans harr
      have e0 := (cell_of_block harr1 (k * 2)).trans ho0
      have e1 := (cell_of_block harr1 (k * 2 + 1)).trans ho1
      have f0 := free_of_block harr1 (k * 2)
      have f1 := free_of_block harr1 (k * 2 + 1)
      have HB : Hid (Below w.heap.size w w1) := below2 hnx hb1
      clear hb1 harr d0 d1 hF
      go_wp2
      go_roundw
      case rel =>
        have hA2 := put2_at arr k (by have := HS.out; omega) (.int .i64 f.ty) (.int .u64 f.bits) _ rfl
        have HF2 := HF.out
        refine ⟨k + 1, _, by omega, by go_num, heap_setCell_same _ _ _ _ _ _ (heap_setCell_same _ _ _ _ _ _ harr1), by simpa using HS.out, ?_, (HB.out.setCell (Nat.le_refl _) _).setCell (Nat.le_refl _) _⟩
        exact hA.out.more hlt (by rw [HF2]; exact hA2)
      case measure => simp [intOf]; omega
    · go_wp2
      go_ret
      refine ⟨rfl, hgl, ⟨fun _ => ⟨w.heap.size, 0, rfl, hgl, fun j hj => ?_⟩, fun _ => ⟨_, arr, rfl, harr, by omega⟩, fun b _ e => by simp at e; omega⟩, hnx⟩
      obtain ⟨h0, h1⟩ := hA.out j hj (by omega)
      rw [Nat.zero_add]
      exact ⟨(cell_of_block harr _).trans h0, (cell_of_block harr _).trans h1⟩

set_option maxRecDepth 100000 in
set_option maxHeartbeats 1600000 in
theorem toStB (mx : Int) (D : ByteArray) (a : Option Addr) (c : Nat) (L : List Wd8) (w : World) (hL : Hid (Wds w a L)) (hlen : L.length ≤ 1048576) :
    Calls Tryz.prog 20 #[.agg #[.int .i64 mx, .string D, .slice a L.length c]] w fun e w' => ∃ a' c', e = .returned (.agg #[.int .i64 mx, .string D, .slice a' L.length c']) ∧ Hid (WdsB w.heap.size w' a' L) ∧ Below w.heap.size w w' := by
  have A := toMem8 mx D
  have Bq : Hid (∀ w', Below w.heap.size w w' → Calls Tryz.prog 40 #[.slice a L.length c] w' fun e w'' => e = .returned (.slice (some ⟨w'.heap.size, 0, none⟩) L.length L.length) ∧ w'.heap.size < w''.heap.size ∧ WdsB w'.heap.size w'' (some ⟨w'.heap.size, 0, none⟩) L ∧ Below w'.heap.size w' w'') := fun w' hb => toWdsB a c L w' (hL.out.below hb) hlen
  obtain ⟨n, hn⟩ : ∃ n, L.length = n := ⟨_, rfl⟩
  rw [hn] at Bq ⊢
  clear hn hL hlen
  go_enter Tryz.func20, Tryz.ntmps20
  go_wp2_with fail
  obtain ⟨z, hz⟩ : ∃ z, w.heap.size = z := ⟨_, rfl⟩
  obtain ⟨W, hW⟩ : ∃ W, ((w.alloc (.cells #[.int .i64 mx, .string D, .slice a n c] 30)).alloc (.cells #[.int .i64 0, .string ⟨#[]⟩, .slice none 0 0] 42)).alloc (.cells #[.int .i64 0, .string ⟨#[]⟩, .slice none 0 0] 42) = W := ⟨_, rfl⟩
  have hb0 : Below w.heap.size w W := by rw [← hW]; exact bel_alloc (bel_alloc (bel_alloc (Below.refl _ _) _) _) _
  have hx0 : W.heap[z]? = some (.cells #[.int .i64 mx, .string D, .slice a n c] 30 (0, 0)) := by
    rw [← hW, ← hz]
    exact ((Below.heap_alloc _ _ _ (by simp; omega)).trans (Below.heap_alloc _ _ _ (by simp))).trans (heap_alloc_new _ _)
  have hr0 : W.heap[z + 1]? = some (.cells #[.int .i64 0, .string ⟨#[]⟩, .slice none 0 0] 42 (0, 0)) := by
    rw [← hW, ← hz]
    have h := heap_alloc_new (w.alloc (.cells #[.int .i64 mx, .string D, .slice a n c] 30)) (.cells #[.int .i64 0, .string ⟨#[]⟩, .slice none 0 0] 42)
    exact (Below.heap_alloc _ _ _ (by simp)).trans (by simpa using h)
  have hg0 : W.heap[z + 1 + 1]? = some (.cells #[.int .i64 0, .string ⟨#[]⟩, .slice none 0 0] 42 (0, 0)) := by
    rw [← hW, ← hz]
    have h := heap_alloc_new ((w.alloc (.cells #[.int .i64 mx, .string D, .slice a n c] 30)).alloc (.cells #[.int .i64 0, .string ⟨#[]⟩, .slice none 0 0] 42)) (.cells #[.int .i64 0, .string ⟨#[]⟩, .slice none 0 0] 42)
    simpa using h
  have HB0 : Hid (Below w.heap.size w W) := hb0
  have HZ : Hid (w.heap.size = z) := hz
  rw [hW, hz]
  clear hb0 hW hz
  refine (A _).mono ?_
  rintro e w1 ⟨rfl, hb1⟩
  have hx1 := (hb1.block z (lt_of_block hx0)).trans hx0
  have hr1 := (hb1.block (z + 1) (lt_of_block hr0)).trans hr0
  have hg1 := (hb1.block (z + 1 + 1) (lt_of_block hg0)).trans hg0
  have HB1 : Hid (Below w.heap.size w w1) := bel_step HB0.out hb1
  clear hb1 hx0 hr0 hg0 HB0 A
  have c2 := (cell_of_block hx1 2).trans rfl
  have d0 := (cell_of_block hg1 0).trans rfl
  have d1 := (cell_of_block hg1 1).trans rfl
  have f0 := free_of_block hg1 0
  have f1 := free_of_block hg1 1
  go_wp2_with fail
  obtain ⟨W2, hW2⟩ : ∃ W, (w1.setCell ⟨z + 1 + 1, 0, none⟩ (.int .i64 mx)).setCell ⟨z + 1 + 1, 1, none⟩ (.string D) = W := ⟨_, rfl⟩
  have hle : w.heap.size ≤ z + 1 + 1 := by have := HZ.out; omega
  have hr2 : W2.heap[z + 1]? = some (.cells #[.int .i64 0, .string ⟨#[]⟩, .slice none 0 0] 42 (0, 0)) := by
    rw [← hW2]; exact (heap_setCell_other _ ⟨z + 1 + 1, 1, none⟩ (z + 1) _ (show z + 1 ≠ z + 1 + 1 by omega)).trans ((heap_setCell_other _ ⟨z + 1 + 1, 0, none⟩ (z + 1) _ (show z + 1 ≠ z + 1 + 1 by omega)).trans hr1)
  have hg2 : W2.heap[z + 1 + 1]? = some (.cells #[.int .i64 mx, .string D, .slice none 0 0] 42 (0, 0)) := by
    rw [← hW2]; exact heap_setCell_same _ _ _ _ _ _ (heap_setCell_same _ _ _ _ _ _ hg1)
  have HB2 : Hid (Below w.heap.size w W2) := by unfold Hid; rw [← hW2]; exact (HB1.out.setCell hle _).setCell hle _
  have T2 := Bq.out W2 HB2.out
  obtain ⟨z2, hz2⟩ : ∃ z, W2.heap.size = z := ⟨_, rfl⟩
  have hzz : z + 1 + 1 < z2 := by rw [← hz2]; exact lt_of_block hg2
  rw [hz2] at T2
  rw [hW2]
  clear hW2 HB1 hx1 hg1 hr1 c2 d0 d1 f0 f1 Bq
  refine T2.mono ?_
  rintro e w3 ⟨rfl, hl3, hI3, hb3⟩
  have hg3 := (hb3.block (z + 1 + 1) (by omega)).trans hg2
  have hr3 := (hb3.block (z + 1) (by omega)).trans hr2
  have HB3 : Hid (Below w.heap.size w w3) := HB2.out.trans (hb3.mono (by have := HB2.out.size; omega))
  have HJ3 : Hid (WdsB z2 w3 (some ⟨z2, 0, none⟩) L) := hI3
  clear T2 hb3 hg2 hr2 HB2 hI3 hz2
  have g0 := (cell_of_block hg3 0).trans rfl
  have g1 := (cell_of_block hg3 1).trans rfl
  have g2 := (cell_of_block hg3 2).trans rfl
  have f2 := free_of_block hg3 2
  have q0 := (cell_of_block hr3 0).trans rfl
  have q1 := (cell_of_block hr3 1).trans rfl
  have q2 := (cell_of_block hr3 2).trans rfl
  have k0 := free_of_block hr3 0
  have k1 := free_of_block hr3 1
  have k2 := free_of_block hr3 2
  go_wp2
  have hle2 : w.heap.size ≤ z + 1 := by have := HZ.out; omega
  refine bodyPost_ret (v := .agg #[.int .i64 mx, .string D, .slice (some ⟨z2, 0, none⟩) n n]) (by simp [results, Tryz.results20, go_sem, q0, q1, q2]) rfl ⟨some ⟨z2, 0, none⟩, n, rfl, ?_, ?_⟩
  · unfold Hid
    refine WdsB.low (B := z2) ?_ (by have := HZ.out; omega)
    repeat refine WdsB.set ?_ (by omega) _ _
    exact HJ3.out
  · repeat (first | refine Below.setCell ?_ hle _ | refine Below.setCell ?_ hle2 _)
    exact HB3.out

set_option maxRecDepth 100000 in
set_option maxHeartbeats 3200000 in
theorem toInstB (l : Loc7) (M : Mod7) (mx : Int) (D : ByteArray) (a : Option Addr) (c : Nat) (L : List Wd8) (po : Bool) (sp : Int) (w : World) (hM : Hid (ModAt w l M)) (hs : Hid (smM M)) (hL : Hid (Wds w a L)) (hlen : L.length ≤ 1048576) :
    Calls Tryz.prog 7 #[instV l M mx D a L.length c po sp] w fun e w' => ∃ l' a' c', e = .returned (instV l' M mx D a' L.length c' po sp) ∧ Hid (ModB w.heap.size w' l' M) ∧ Hid (WdsB w.heap.size w' a' L) ∧ Below w.heap.size w w' := by
  have Tm : Hid (∀ w', Below w.heap.size w w' → Calls Tryz.prog 19 #[modV l M] w' fun e w'' => ∃ l', e = .returned (modV l' M) ∧ Hid (ModB w'.heap.size w'' l' M) ∧ Below w'.heap.size w' w'') := fun w' hb => toModB l M w' (hM.out.below hb) hs
  have Ts : Hid (∀ w', Below w.heap.size w w' → Calls Tryz.prog 20 #[.agg #[.int .i64 mx, .string D, .slice a L.length c]] w' fun e w'' => ∃ a' c', e = .returned (.agg #[.int .i64 mx, .string D, .slice a' L.length c']) ∧ Hid (WdsB w'.heap.size w'' a' L) ∧ Below w'.heap.size w' w'') := fun w' hb => toStB mx D a c L w' (hL.out.below hb) hlen
  obtain ⟨fa, fc, ga, gc⟩ := l
  obtain ⟨n, hn⟩ : ∃ n, L.length = n := ⟨_, rfl⟩
  obtain ⟨nf, hnf⟩ : ∃ n, M.fs.length = n := ⟨_, rfl⟩
  obtain ⟨ng, hng⟩ : ∃ n, M.gs.length = n := ⟨_, rfl⟩
  have MV : Hid (∀ l', modV l' M = .agg #[.slice l'.fa nf l'.fc, .slice l'.ga ng l'.gc, .bool M.mem, .int .i64 M.pages, .int .i64 M.most, .int .i64 M.start]) := fun l' => by unfold modV; rw [hnf, hng]
  have IV : Hid (∀ l' a' c', instV l' M mx D a' n c' po sp = .agg #[.slice l'.fa nf l'.fc, .slice l'.ga ng l'.gc, .bool M.mem, .int .i64 M.pages, .int .i64 M.most, .int .i64 M.start, .int .i64 mx, .string D, .slice a' n c', .bool po, .int .i64 sp]) := fun l' a' c' => by unfold instV; rw [hnf, hng]
  rw [hn] at Ts ⊢
  rw [MV.out] at Tm
  rw [IV.out]
  simp only at Tm ⊢
  clear hnf hng hn hM hs hL hlen
  go_enter Tryz.func7, Tryz.ntmps7
  go_wp2_with fail
  obtain ⟨z, hz⟩ : ∃ z, w.heap.size = z := ⟨_, rfl⟩
  obtain ⟨W, hW⟩ : ∃ W, ((w.alloc (.cells #[.slice fa nf fc, .slice ga ng gc, .bool M.mem, .int .i64 M.pages, .int .i64 M.most, .int .i64 M.start, .int .i64 mx, .string D, .slice a n c, .bool po, .int .i64 sp] 32)).alloc (.cells #[.slice none 0 0, .slice none 0 0, .bool false, .int .i64 0, .int .i64 0, .int .i64 0, .int .i64 0, .string ⟨#[]⟩, .slice none 0 0, .bool false, .int .i64 0] 44)).alloc (.cells #[.slice none 0 0, .slice none 0 0, .bool false, .int .i64 0, .int .i64 0, .int .i64 0, .int .i64 0, .string ⟨#[]⟩, .slice none 0 0, .bool false, .int .i64 0] 44) = W := ⟨_, rfl⟩
  have hb0 : Below w.heap.size w W := by rw [← hW]; exact bel_alloc (bel_alloc (bel_alloc (Below.refl _ _) _) _) _
  have hzs : W.heap.size = z + 1 + 1 + 1 := by rw [← hW, ← hz]; simp
  have hx0 : W.heap[z]? = some (.cells #[.slice fa nf fc, .slice ga ng gc, .bool M.mem, .int .i64 M.pages, .int .i64 M.most, .int .i64 M.start, .int .i64 mx, .string D, .slice a n c, .bool po, .int .i64 sp] 32 (0, 0)) := by
    rw [← hW, ← hz]
    exact ((Below.heap_alloc _ _ _ (by simp; omega)).trans (Below.heap_alloc _ _ _ (by simp))).trans (heap_alloc_new _ _)
  have hr0 : W.heap[z + 1]? = some (.cells #[.slice none 0 0, .slice none 0 0, .bool false, .int .i64 0, .int .i64 0, .int .i64 0, .int .i64 0, .string ⟨#[]⟩, .slice none 0 0, .bool false, .int .i64 0] 44 (0, 0)) := by
    rw [← hW, ← hz]
    have h := heap_alloc_new (w.alloc (.cells #[.slice fa nf fc, .slice ga ng gc, .bool M.mem, .int .i64 M.pages, .int .i64 M.most, .int .i64 M.start, .int .i64 mx, .string D, .slice a n c, .bool po, .int .i64 sp] 32)) (.cells #[.slice none 0 0, .slice none 0 0, .bool false, .int .i64 0, .int .i64 0, .int .i64 0, .int .i64 0, .string ⟨#[]⟩, .slice none 0 0, .bool false, .int .i64 0] 44)
    exact (Below.heap_alloc _ _ _ (by simp)).trans (by simpa using h)
  have hg0 : W.heap[z + 1 + 1]? = some (.cells #[.slice none 0 0, .slice none 0 0, .bool false, .int .i64 0, .int .i64 0, .int .i64 0, .int .i64 0, .string ⟨#[]⟩, .slice none 0 0, .bool false, .int .i64 0] 44 (0, 0)) := by
    rw [← hW, ← hz]
    have h := heap_alloc_new ((w.alloc (.cells #[.slice fa nf fc, .slice ga ng gc, .bool M.mem, .int .i64 M.pages, .int .i64 M.most, .int .i64 M.start, .int .i64 mx, .string D, .slice a n c, .bool po, .int .i64 sp] 32)).alloc (.cells #[.slice none 0 0, .slice none 0 0, .bool false, .int .i64 0, .int .i64 0, .int .i64 0, .int .i64 0, .string ⟨#[]⟩, .slice none 0 0, .bool false, .int .i64 0] 44)) (.cells #[.slice none 0 0, .slice none 0 0, .bool false, .int .i64 0, .int .i64 0, .int .i64 0, .int .i64 0, .string ⟨#[]⟩, .slice none 0 0, .bool false, .int .i64 0] 44)
    simpa using h
  have T1 := Tm.out W hb0
  rw [hzs] at T1
  have HB0 : Hid (Below w.heap.size w W) := hb0
  have HZ : Hid (w.heap.size = z) := hz
  rw [hW, hz]
  clear hb0 hW hz Tm
  refine T1.mono ?_
  rintro e w1 ⟨⟨fay, fcy, gay, gcy⟩, rfl, hA1, hb1⟩
  rw [MV.out]
  simp only
  have hx1 := (hb1.block z (by omega)).trans hx0
  have hr1 := (hb1.block (z + 1) (by omega)).trans hr0
  have hg1 := (hb1.block (z + 1 + 1) (by omega)).trans hg0
  have HB1 : Hid (Below w.heap.size w w1) := HB0.out.trans (hb1.mono (by have := HB0.out.size; omega))
  clear hb1 hx0 hr0 hg0 HB0 T1 hzs
  have x6 : w1.cell? ⟨z, 6, none⟩ = some (.int .i64 mx) := (cell_of_block hx1 6).trans rfl
  have x7 : w1.cell? ⟨z, 7, none⟩ = some (.string D) := (cell_of_block hx1 7).trans rfl
  have x8 : w1.cell? ⟨z, 8, none⟩ = some (.slice a n c) := (cell_of_block hx1 8).trans rfl
  have d0 := (cell_of_block hg1 0).trans rfl
  have d1 := (cell_of_block hg1 1).trans rfl
  have d2 := (cell_of_block hg1 2).trans rfl
  have d3 := (cell_of_block hg1 3).trans rfl
  have d4 := (cell_of_block hg1 4).trans rfl
  have d5 := (cell_of_block hg1 5).trans rfl
  have f0 := free_of_block hg1 0
  have f1 := free_of_block hg1 1
  have f2 := free_of_block hg1 2
  have f3 := free_of_block hg1 3
  have f4 := free_of_block hg1 4
  have f5 := free_of_block hg1 5
  go_wp2_with fail
  obtain ⟨W2, hW2⟩ : ∃ W, (((((w1.setCell ⟨z + 1 + 1, 0, none⟩ (.slice fay nf fcy)).setCell ⟨z + 1 + 1, 1, none⟩ (.slice gay ng gcy)).setCell ⟨z + 1 + 1, 2, none⟩ (.bool M.mem)).setCell ⟨z + 1 + 1, 3, none⟩ (.int .i64 M.pages)).setCell ⟨z + 1 + 1, 4, none⟩ (.int .i64 M.most)).setCell ⟨z + 1 + 1, 5, none⟩ (.int .i64 M.start) = W := ⟨_, rfl⟩
  have hle : w.heap.size ≤ z + 1 + 1 := by have := HZ.out; omega
  have ho : ∀ b, b ≠ z + 1 + 1 → W2.heap[b]? = w1.heap[b]? := fun b hb => by
    rw [← hW2]
    exact (heap_setCell_other _ ⟨z + 1 + 1, 5, none⟩ b _ hb).trans ((heap_setCell_other _ ⟨z + 1 + 1, 4, none⟩ b _ hb).trans ((heap_setCell_other _ ⟨z + 1 + 1, 3, none⟩ b _ hb).trans ((heap_setCell_other _ ⟨z + 1 + 1, 2, none⟩ b _ hb).trans ((heap_setCell_other _ ⟨z + 1 + 1, 1, none⟩ b _ hb).trans (heap_setCell_other _ ⟨z + 1 + 1, 0, none⟩ b _ hb)))))
  have hx2 := (ho z (by omega)).trans hx1
  have hr2 := (ho (z + 1) (by omega)).trans hr1
  have hg2 : W2.heap[z + 1 + 1]? = some (.cells #[.slice fay nf fcy, .slice gay ng gcy, .bool M.mem, .int .i64 M.pages, .int .i64 M.most, .int .i64 M.start, .int .i64 0, .string ⟨#[]⟩, .slice none 0 0, .bool false, .int .i64 0] 44 (0, 0)) := by
    rw [← hW2]; exact heap_setCell_same _ _ _ _ _ _ (heap_setCell_same _ _ _ _ _ _ (heap_setCell_same _ _ _ _ _ _ (heap_setCell_same _ _ _ _ _ _ (heap_setCell_same _ _ _ _ _ _ (heap_setCell_same _ _ _ _ _ _ hg1)))))
  have HB2 : Hid (Below w.heap.size w W2) := by unfold Hid; rw [← hW2]; exact (((((HB1.out.setCell hle _).setCell hle _).setCell hle _).setCell hle _).setCell hle _).setCell hle _
  have HA2 : Hid (ModB (z + 1 + 1 + 1) W2 ⟨fay, fcy, gay, gcy⟩ M) := by unfold Hid; rw [← hW2]; exact (((((hA1.out.set (by omega) _ _).set (by omega) _ _).set (by omega) _ _).set (by omega) _ _).set (by omega) _ _).set (by omega) _ _
  have T2 := Ts.out W2 HB2.out
  have hl2 := lt_of_block hg2
  rw [hW2]
  clear hW2 ho HB1 hx1 hr1 hg1 hA1 Ts x6 x7 x8 d0 d1 d2 d3 d4 d5 f0 f1 f2 f3 f4 f5
  refine T2.mono ?_
  rintro e w3 ⟨a3, c3, rfl, hw3, hb3⟩
  have hx3 := (hb3.block z (lt_of_block hx2)).trans hx2
  have hr3 := (hb3.block (z + 1) (lt_of_block hr2)).trans hr2
  have hg3 := (hb3.block (z + 1 + 1) hl2).trans hg2
  have HB3 : Hid (Below w.heap.size w w3) := bel_step HB2.out hb3
  have HA3 : Hid (ModB (z + 1 + 1 + 1) w3 ⟨fay, fcy, gay, gcy⟩ M) := HA2.out.below hb3
  have HW3 : Hid (WdsB (z + 1 + 1 + 1) w3 a3 L) := hw3.out.low (by omega)
  clear T2 hb3 hx2 hr2 hg2 HB2 HA2 hw3 hl2
  have x9 : w3.cell? ⟨z, 9, none⟩ = some (.bool po) := (cell_of_block hx3 9).trans rfl
  have x10 : w3.cell? ⟨z, 10, none⟩ = some (.int .i64 sp) := (cell_of_block hx3 10).trans rfl
  have g0 := (cell_of_block hg3 0).trans rfl
  have g1 := (cell_of_block hg3 1).trans rfl
  have g2 := (cell_of_block hg3 2).trans rfl
  have g3 := (cell_of_block hg3 3).trans rfl
  have g4 := (cell_of_block hg3 4).trans rfl
  have g5 := (cell_of_block hg3 5).trans rfl
  have g6 := (cell_of_block hg3 6).trans rfl
  have g7 := (cell_of_block hg3 7).trans rfl
  have g8 := (cell_of_block hg3 8).trans rfl
  have g9 := (cell_of_block hg3 9).trans rfl
  have g10 := (cell_of_block hg3 10).trans rfl
  have f6 := free_of_block hg3 6
  have f7 := free_of_block hg3 7
  have f8 := free_of_block hg3 8
  have f9 := free_of_block hg3 9
  have f10 := free_of_block hg3 10
  have q0 := (cell_of_block hr3 0).trans rfl
  have q1 := (cell_of_block hr3 1).trans rfl
  have q2 := (cell_of_block hr3 2).trans rfl
  have q3 := (cell_of_block hr3 3).trans rfl
  have q4 := (cell_of_block hr3 4).trans rfl
  have q5 := (cell_of_block hr3 5).trans rfl
  have q6 := (cell_of_block hr3 6).trans rfl
  have q7 := (cell_of_block hr3 7).trans rfl
  have q8 := (cell_of_block hr3 8).trans rfl
  have q9 := (cell_of_block hr3 9).trans rfl
  have q10 := (cell_of_block hr3 10).trans rfl
  have k0 := free_of_block hr3 0
  have k1 := free_of_block hr3 1
  have k2 := free_of_block hr3 2
  have k3 := free_of_block hr3 3
  have k4 := free_of_block hr3 4
  have k5 := free_of_block hr3 5
  have k6 := free_of_block hr3 6
  have k7 := free_of_block hr3 7
  have k8 := free_of_block hr3 8
  have k9 := free_of_block hr3 9
  have k10 := free_of_block hr3 10
  go_wp2
  have hle2 : w.heap.size ≤ z + 1 := by have := HZ.out; omega
  refine bodyPost_ret (v := .agg #[.slice fay nf fcy, .slice gay ng gcy, .bool M.mem, .int .i64 M.pages, .int .i64 M.most, .int .i64 M.start, .int .i64 mx, .string D, .slice a3 n c3, .bool po, .int .i64 sp]) (by simp [results, Tryz.results7, go_sem, q0, q1, q2, q3, q4, q5, q6, q7, q8, q9, q10]) rfl ⟨⟨fay, fcy, gay, gcy⟩, a3, c3, by rw [IV.out], ?_, ?_, ?_⟩
  · refine ModB.down (B := z + 1 + 1 + 1) ?_ (by have := HZ.out; omega)
    repeat refine ModB.set ?_ (by omega) _ _
    exact HA3.out
  · refine WdsB.low (B := z + 1 + 1 + 1) ?_ (by have := HZ.out; omega)
    repeat refine WdsB.set ?_ (by omega) _ _
    exact HW3.out
  · repeat (first | refine Below.setCell ?_ hle _ | refine Below.setCell ?_ hle2 _)
    exact HB3.out

end Go.Proofs.YtdcfflmfimepfaaGreat
