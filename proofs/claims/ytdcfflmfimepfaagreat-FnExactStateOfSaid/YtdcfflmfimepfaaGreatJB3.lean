/-
  The law on StateOf: whole.
-/
import Derived.Test.YtdcfflmfimepfaaGreatJB2
import Derived.Test.YtdcfflmfimepfaaGreatKA2
namespace Go.Proofs.YtdcfflmfimepfaaGreat
open Go.ChangeShapes Go.WideShapes Go.ChangeAt Go.RowKit

/-- What the law keeps in blocks below B: the instance that came in, and what its own model told. -/
structure Inv9 (w : World) (B z s4 : Nat) (mc sc : Array Value) (a : Option Addr) (L : List Wd8) (wx : World) : Prop where
  bel : Below w.heap.size w wx
  bw : w.heap.size ≤ B
  bx : B ≤ wx.heap.size
  zB : z < B
  sB : s4 < B
  bz : wx.heap[z]? = some (.cells mc 32 (0, 0))
  bs : wx.heap[s4]? = some (.cells sc 42 (0, 0))
  wd : Wds wx a L
  wB : ∀ b off, L ≠ [] → a = some ⟨b, off, none⟩ → b < B
theorem Inv9.low {w : World} {B z s4 : Nat} {mc sc : Array Value} {a : Option Addr} {L : List Wd8} {wx wy : World} (h : Inv9 w B z s4 mc sc a L wx) (hb : Below B wx wy) : Inv9 w B z s4 mc sc a L wy := by
  refine ⟨h.bel.trans (hb.mono h.bw), h.bw, Nat.le_trans h.bx hb.size, h.zB, h.sB, (hb.block z h.zB).trans h.bz, (hb.block s4 h.sB).trans h.bs, fun hn => ?_, h.wB⟩
  obtain ⟨b, off, ha, hl, hc⟩ := h.wd hn
  have hB := h.wB b off hn ha
  exact ⟨b, off, ha, Nat.lt_of_lt_of_le hl hb.size, fun k hk => ⟨(hb.cell (p := ⟨b, off + k * 2, none⟩) hB).trans (hc k hk).1, (hb.cell (p := ⟨b, off + k * 2 + 1, none⟩) hB).trans (hc k hk).2⟩⟩
theorem Inv9.up {w : World} {B z s4 : Nat} {mc sc : Array Value} {a : Option Addr} {L : List Wd8} {wx wy : World} (h : Inv9 w B z s4 mc sc a L wx) (hb : Below wx.heap.size wx wy) : Inv9 w B z s4 mc sc a L wy := h.low (hb.mono h.bx)
theorem WdsB.kept {B V : Nat} {w w' : World} {a : Option Addr} {L : List Wd8} (h : WdsB B w a L) (hV : V ≤ B) (hs : w.heap.size ≤ w'.heap.size) (hk : ∀ x, V ≤ x → x < w.heap.size → w'.heap[x]? = w.heap[x]?) : WdsB B w' a L := by
  refine ⟨fun hn => ?_, fun hn => ?_, h.2.2⟩
  · obtain ⟨b, off, ha, hl, hd⟩ := h.1 hn
    obtain ⟨b', arr, ha', _, _⟩ := h.2.1 (List.length_pos_iff.2 hn)
    have hB := h.2.2 b' (List.length_pos_iff.2 hn) ha'
    rw [ha] at ha'
    simp at ha'
    have hsame := hk b (by omega) hl
    exact ⟨b, off, ha, by omega, fun k hk => ⟨(World.cell?_of_block (a := ⟨b, off + k * 2, none⟩) hsame).trans (hd k hk).1, (World.cell?_of_block (a := ⟨b, off + k * 2 + 1, none⟩) hsame).trans (hd k hk).2⟩⟩
  · obtain ⟨b, arr, ha, h0, h1⟩ := h.2.1 hn
    have hB := h.2.2 b hn ha
    exact ⟨b, arr, ha, (hk b (by omega) (lt_of_block h0)).trans h0, h1⟩

set_option maxRecDepth 100000 in
set_option maxHeartbeats 6400000 in
theorem stateOf_walk (l : Loc7) (M : Mod7) (mx : Int) (D : ByteArray) (a : Option Addr) (c : Nat) (L : List Wd8) (po : Bool) (sp : Int) (w : World) (hI : IsInst w l M D a L sp) :
    Calls Tryz.prog 4 #[instV l M mx D a L.length c po sp] w fun e w' => e = .returned (.bool true) ∧ Below w.heap.size w w' := by
  have hM : Hid (ModAt w l M) := hI.1.1
  have hok : Hid (okM M) := hI.1.2.1
  have hL : Hid (Wds w a L) := hI.2.1.1
  have hok2 : Hid (∀ x ∈ L, okW x) := hI.2.1.2.2.1
  have hsz : Hid (L.length ≤ 9223372036854775807 ∧ D.size ≤ 9223372036854775807) := ⟨hI.2.1.2.1, by have := hI.2.1.2.2.2; unfold maxLen at this; omega⟩
  have hsp : Hid (-9223372036854775808 ≤ sp ∧ sp ≤ 9223372036854775807) := hI.2.2
  clear hI
  obtain ⟨R, hR⟩ : ∃ R, goodI M mx D L sp = R := ⟨_, rfl⟩
  have Z : Hid (∀ w', Below w.heap.size w w' → Calls Tryz.prog 5 #[instV l M mx D a L.length c po sp, .int .i64 1048576] w' fun e w'' => ∃ r : Int, e = .returned (.int .i64 r) ∧ (0 ≤ r → smM M ∧ L.length ≤ 1048576 ∧ D.size ≤ 1048576) ∧ Below w'.heap.size w' w'') := fun w' hb => szInst l M mx D a L.length c po sp w' (hM.out.below hb) hok hsz.out.1 hsz.out.2
  have Tt : Hid (smM M ∧ L.length ≤ 1048576 ∧ D.size ≤ 1048576 → ∀ w', Below w.heap.size w w' → Calls Tryz.prog 7 #[instV l M mx D a L.length c po sp] w' fun e w'' => ∃ l' a' c', e = .returned (instV l' M mx D a' L.length c' po sp) ∧ Hid (ModB w'.heap.size w'' l' M) ∧ Hid (WdsB w'.heap.size w'' a' L) ∧ Below w'.heap.size w' w'') := fun hs w' hb => toInstB l M mx D a c L po sp w' (hM.out.below hb) hs.1 (hL.out.below hb) hs.2.1
  have S : Hid (smM M ∧ L.length ≤ 1048576 ∧ D.size ≤ 1048576 → ∀ l' a' c' w', ModAt w' l' M → Wds w' a' L → Calls Tryz.prog 10 #[instV l' M mx D a' L.length c' po sp] w' fun e w'' => ∃ s k, e = .returned (.tuple #[.agg #[.int .i64 (oMx R mx), .string (oD R D), .slice s (oL R L).length k], .bool R]) ∧ Hid (WdsB w'.heap.size w'' s (oL R L)) ∧ Below w'.heap.size w' w'') := fun hs l' a' c' w' h h' => specStateOf l' M mx D a' c' L po sp w' h hs.1 hs.2.2 h' hok2 hs.2.1 hsp.out R hR
  have I : Hid (smM M ∧ L.length ≤ 1048576 ∧ D.size ≤ 1048576 → ∀ l' a' c' w', ModAt w' l' M → Wds w' a' L → Calls Tryz.prog 11 #[instV l' M mx D a' L.length c' po sp] w' fun e w'' => ∃ s k, e = .returned (.tuple #[.agg #[.int .i64 (oMx R mx), .string (oD R D), .slice s (oL R L).length k], .bool R]) ∧ Hid (WdsB w'.heap.size w'' s (oL R L)) ∧ Below w'.heap.size w' w'') := fun hs l' a' c' w' h h' => implStateOf l' M mx D a' c' L po sp w' h hs.1 hs.2.2 h' hok2 hs.2.1 hsp.out R hR
  have E : Hid (smM M ∧ L.length ≤ 1048576 ∧ D.size ≤ 1048576 → ∀ l1 l2 a1 a2 c1 c2 w', ModAt w' l1 M → ModAt w' l2 M → Wds w' a1 L → Wds w' a2 L → Calls Tryz.prog 9 #[instV l1 M mx D a1 L.length c1 po sp, instV l2 M mx D a2 L.length c2 po sp] w' fun e w'' => e = .returned (.bool true) ∧ Below w'.heap.size w' w'') := fun hs l1 l2 a1 a2 c1 c2 w' h1 h2 h3 h4 => eqInst l1 l2 M mx D a1 a2 c1 c2 L po sp w' h1 h2 hs.1 h3 h4 hs.2.1
  have MK0 : Hid (smM M ∧ L.length ≤ 1048576 ∧ D.size ≤ 1048576 → ∀ B l' a' c' V w', ModB B V l' M → WdsB B V a' L → Below V.heap.size V w' → B ≤ V.heap.size → Calls Tryz.prog 13 #[instV l' M mx D a' L.length c' po sp, .int .i64 1] w' fun e w'' => ∃ k : Int, e = .returned (.int .i64 k) ∧ 0 ≤ k ∧ Below B w' w'' ∧ (∀ x, V.heap.size ≤ x → x < w'.heap.size → w''.heap[x]? = w'.heap[x]?)) := fun hs B l' a' c' V w' h1 h2 h3 h4 => markInst B l' M mx D a' c' L po sp V w' h1 h2 h3 hs.1 hs.2.1 h4
  have hLn : smM M ∧ L.length ≤ 1048576 ∧ D.size ≤ 1048576 → (oL R L).length ≤ 1048576 := fun hs => by unfold oL; split <;> simp [hs.2.1]
  obtain ⟨mo, hmo⟩ : ∃ x, oMx R mx = x := ⟨_, rfl⟩
  obtain ⟨Do, hDo⟩ : ∃ x, oD R D = x := ⟨_, rfl⟩
  obtain ⟨Lo, hLo⟩ : ∃ x, oL R L = x := ⟨_, rfl⟩
  rw [hmo, hDo, hLo] at S I
  rw [hLo] at hLn
  clear hmo hDo hLo hR
  have Q : Hid (Lo.length ≤ 1048576 → ∀ a a' c c' w', Wds w' a Lo → Wds w' a' Lo → Calls Tryz.prog 12 #[.agg #[.int .i64 mo, .string Do, .slice a Lo.length c], .agg #[.int .i64 mo, .string Do, .slice a' Lo.length c']] w' fun e w'' => e = .returned (.bool true) ∧ Below w'.heap.size w' w'') := fun hs a a' c c' w' h h' => eqSt mo Do a a' c c' Lo w' h h' hs
  obtain ⟨no, hno⟩ : ∃ n, Lo.length = n := ⟨_, rfl⟩
  rw [hno] at S I Q hLn
  have HNL : Hid (Lo.length = no) := hno
  obtain ⟨fa, fc, ga, gc⟩ := l
  obtain ⟨nf, hnf⟩ : ∃ n, M.fs.length = n := ⟨_, rfl⟩
  obtain ⟨ng, hng⟩ : ∃ n, M.gs.length = n := ⟨_, rfl⟩
  obtain ⟨n, hn⟩ : ∃ n, L.length = n := ⟨_, rfl⟩
  have IV : Hid (∀ l' a' c', instV l' M mx D a' n c' po sp = .agg #[.slice l'.fa nf l'.fc, .slice l'.ga ng l'.gc, .bool M.mem, .int .i64 M.pages, .int .i64 M.most, .int .i64 M.start, .int .i64 mx, .string D, .slice a' n c', .bool po, .int .i64 sp]) := fun l' a' c' => by unfold instV; rw [hnf, hng]
  rw [hn] at Z Tt S I E MK0 hLn ⊢
  have HLN : Hid (smM M ∧ n ≤ 1048576 ∧ D.size ≤ 1048576 → no ≤ 1048576) := hLn
  have HV : Hid (instV ⟨fa, fc, ga, gc⟩ M mx D a n c po sp = .agg #[.slice fa nf fc, .slice ga ng gc, .bool M.mem, .int .i64 M.pages, .int .i64 M.most, .int .i64 M.start, .int .i64 mx, .string D, .slice a n c, .bool po, .int .i64 sp]) := IV.out _ _ _
  rw [HV.out] at Z Tt ⊢
  clear hnf hng hn hsz hno hLn
  have hb0 : Below w.heap.size w (w.alloc (.cells #[.slice fa nf fc, .slice ga ng gc, .bool M.mem, .int .i64 M.pages, .int .i64 M.most, .int .i64 M.start, .int .i64 mx, .string D, .slice a n c, .bool po, .int .i64 sp] 32)) := (Below.refl _ _).alloc (Nat.le_refl _) _
  have hx0 : (w.alloc (.cells #[.slice fa nf fc, .slice ga ng gc, .bool M.mem, .int .i64 M.pages, .int .i64 M.most, .int .i64 M.start, .int .i64 mx, .string D, .slice a n c, .bool po, .int .i64 sp] 32)).heap[w.heap.size]? = some (.cells #[.slice fa nf fc, .slice ga ng gc, .bool M.mem, .int .i64 M.pages, .int .i64 M.most, .int .i64 M.start, .int .i64 mx, .string D, .slice a n c, .bool po, .int .i64 sp] 32 (0, 0)) := heap_alloc_new _ _
  obtain ⟨W0, hW0⟩ : ∃ W, w.alloc (.cells #[.slice fa nf fc, .slice ga ng gc, .bool M.mem, .int .i64 M.pages, .int .i64 M.most, .int .i64 M.start, .int .i64 mx, .string D, .slice a n c, .bool po, .int .i64 sp] 32) = W := ⟨_, rfl⟩
  obtain ⟨z, hz⟩ : ∃ z, w.heap.size = z := ⟨_, rfl⟩
  rw [hW0] at hb0 hx0
  rw [hz] at hx0
  have HW0 : Hid (w.alloc (.cells #[.slice fa nf fc, .slice ga ng gc, .bool M.mem, .int .i64 M.pages, .int .i64 M.most, .int .i64 M.start, .int .i64 mx, .string D, .slice a n c, .bool po, .int .i64 sp] 32) = W0 ∧ w.heap.size = z) := ⟨hW0, hz⟩
  have HB0 : Hid (Below w.heap.size w W0) := hb0
  clear hW0 hz hb0
  go_enter Tryz.func4, Tryz.ntmps4
  go_wp2_with fail
  rw [HW0.out.2, HW0.out.1]
  refine (Z.out W0 HB0.out).mono ?_
  rintro e w1 ⟨r, rfl, hr, hb1⟩
  have HB1 : Hid (Below w.heap.size w w1) := bel_step HB0.out hb1
  have hx1 := (hb1.block z (lt_of_block hx0)).trans hx0
  clear hb1 Z hx0
  by_cases hr0 : r < 0
  · clear hr hx1
    go_wp2
    go_ret
    exact ⟨rfl, HB1.out⟩
  · have hs : Hid (smM M ∧ n ≤ 1048576 ∧ D.size ≤ 1048576) := hr (by omega)
    have hnL : no ≤ 1048576 := HLN.out hs.out
    clear hr
    have x0 : w1.cell? ⟨z, 0, none⟩ = some (.slice fa nf fc) := (cell_of_block hx1 0).trans rfl
    have x1 : w1.cell? ⟨z, 1, none⟩ = some (.slice ga ng gc) := (cell_of_block hx1 1).trans rfl
    have x2 : w1.cell? ⟨z, 2, none⟩ = some (.bool M.mem) := (cell_of_block hx1 2).trans rfl
    have x3 : w1.cell? ⟨z, 3, none⟩ = some (.int .i64 M.pages) := (cell_of_block hx1 3).trans rfl
    have x4 : w1.cell? ⟨z, 4, none⟩ = some (.int .i64 M.most) := (cell_of_block hx1 4).trans rfl
    have x5 : w1.cell? ⟨z, 5, none⟩ = some (.int .i64 M.start) := (cell_of_block hx1 5).trans rfl
    have x6 : w1.cell? ⟨z, 6, none⟩ = some (.int .i64 mx) := (cell_of_block hx1 6).trans rfl
    have x7 : w1.cell? ⟨z, 7, none⟩ = some (.string D) := (cell_of_block hx1 7).trans rfl
    have x8 : w1.cell? ⟨z, 8, none⟩ = some (.slice a n c) := (cell_of_block hx1 8).trans rfl
    have x9 : w1.cell? ⟨z, 9, none⟩ = some (.bool po) := (cell_of_block hx1 9).trans rfl
    have x10 : w1.cell? ⟨z, 10, none⟩ = some (.int .i64 sp) := (cell_of_block hx1 10).trans rfl
    go_wp2_with fail
    refine (Tt.out hs.out w1 HB1.out).mono ?_
    rintro e w2 ⟨⟨fa2, fc2, ga2, gc2⟩, a2, c2, rfl, hA2, hD2, hb2⟩
    have S2 := S.out hs.out ⟨fa2, fc2, ga2, gc2⟩ a2 c2 w2 hA2.out.mod hD2.out.1
    rw [IV.out] at S2 ⊢
    simp only at S2 ⊢
    have HB2 : Hid (Below w.heap.size w w2) := bel_step HB1.out hb2
    have hx2 := (hb2.block z (lt_of_block hx1)).trans hx1
    clear hb2 hx1 x0 x1 x2 x3 x4 x5 x6 x7 x8 x9 x10 hA2 hD2
    go_wp2_with fail
    refine S2.mono ?_
    rintro e w3 ⟨s5, k5, rfl, hw5, hb3⟩
    have HB3 : Hid (Below w.heap.size w w3) := bel_step HB2.out hb3
    have hx3 := (hb3.block z (lt_of_block hx2)).trans hx2
    clear S2 hb3 hx2 S
    obtain ⟨w4, hw4⟩ : ∃ W, w3.alloc (.cells #[.int .i64 mo, .string Do, .slice s5 no k5] 42) = W := ⟨_, rfl⟩
    obtain ⟨s4, hs4⟩ : ∃ u, w3.heap.size = u := ⟨_, rfl⟩
    obtain ⟨B, hB⟩ : ∃ B, w4.heap.size = B := ⟨_, rfl⟩
    have hsB : B = s4 + 1 := by rw [← hB, ← hw4, ← hs4]; simp
    have hb34 : Below w3.heap.size w3 w4 := by rw [← hw4]; exact (Below.refl _ _).alloc (Nat.le_refl _) _
    have INV4 : Hid (Inv9 w B z s4 #[.slice fa nf fc, .slice ga ng gc, .bool M.mem, .int .i64 M.pages, .int .i64 M.most, .int .i64 M.start, .int .i64 mx, .string D, .slice a n c, .bool po, .int .i64 sp] #[.int .i64 mo, .string Do, .slice s5 no k5] s5 Lo w4) := by
      refine ⟨bel_step HB3.out hb34, ?_, by omega, ?_, by omega, (hb34.block z (lt_of_block hx3)).trans hx3, by rw [← hw4, ← hs4]; exact heap_alloc_new _ _, hw5.out.1.below hb34, fun b off hn ha => ?_⟩
      · have := (bel_step HB3.out hb34).size; omega
      · have := lt_of_block hx3; omega
      · obtain ⟨b', off', ha', hl, _⟩ := hw5.out.1 hn
        rw [ha] at ha'; simp at ha'; omega
    have x0 : w4.cell? ⟨z, 0, none⟩ = some (.slice fa nf fc) := (cell_of_block INV4.out.bz 0).trans rfl
    have x1 : w4.cell? ⟨z, 1, none⟩ = some (.slice ga ng gc) := (cell_of_block INV4.out.bz 1).trans rfl
    have x2 : w4.cell? ⟨z, 2, none⟩ = some (.bool M.mem) := (cell_of_block INV4.out.bz 2).trans rfl
    have x3 : w4.cell? ⟨z, 3, none⟩ = some (.int .i64 M.pages) := (cell_of_block INV4.out.bz 3).trans rfl
    have x4 : w4.cell? ⟨z, 4, none⟩ = some (.int .i64 M.most) := (cell_of_block INV4.out.bz 4).trans rfl
    have x5 : w4.cell? ⟨z, 5, none⟩ = some (.int .i64 M.start) := (cell_of_block INV4.out.bz 5).trans rfl
    have x6 : w4.cell? ⟨z, 6, none⟩ = some (.int .i64 mx) := (cell_of_block INV4.out.bz 6).trans rfl
    have x7 : w4.cell? ⟨z, 7, none⟩ = some (.string D) := (cell_of_block INV4.out.bz 7).trans rfl
    have x8 : w4.cell? ⟨z, 8, none⟩ = some (.slice a n c) := (cell_of_block INV4.out.bz 8).trans rfl
    have x9 : w4.cell? ⟨z, 9, none⟩ = some (.bool po) := (cell_of_block INV4.out.bz 9).trans rfl
    have x10 : w4.cell? ⟨z, 10, none⟩ = some (.int .i64 sp) := (cell_of_block INV4.out.bz 10).trans rfl
    rw [← hw4] at x0 x1 x2 x3 x4 x5 x6 x7 x8 x9 x10
    have HW4 : Hid (w3.alloc (.cells #[.int .i64 mo, .string Do, .slice s5 no k5] 42) = w4 ∧ w3.heap.size = s4 ∧ w4.heap.size = B) := ⟨hw4, hs4, hB⟩
    clear hw4 hs4 hB hsB hb34 hx3 hw5 HB1 HB2 HB3
    go_wp2_with fail
    rw [HW4.out.1, HW4.out.2.1]
    refine (Tt.out hs.out w4 INV4.out.bel).mono ?_
    rintro e w5 ⟨⟨fa6, fc6, ga6, gc6⟩, a6, c6, rfl, hA6, hD6, hb5⟩
    rw [IV.out]
    simp only
    rw [HW4.out.2.2] at hA6 hD6
    have INV5 : Hid (Inv9 w B z s4 #[.slice fa nf fc, .slice ga ng gc, .bool M.mem, .int .i64 M.pages, .int .i64 M.most, .int .i64 M.start, .int .i64 mx, .string D, .slice a n c, .bool po, .int .i64 sp] #[.int .i64 mo, .string Do, .slice s5 no k5] s5 Lo w5) := INV4.out.up hb5
    clear hb5 x0 x1 x2 x3 x4 x5 x6 x7 x8 x9 x10 INV4
    obtain ⟨w6, hw6⟩ : ∃ W, w5.alloc (.cells #[.slice fa6 nf fc6, .slice ga6 ng gc6, .bool M.mem, .int .i64 M.pages, .int .i64 M.most, .int .i64 M.start, .int .i64 mx, .string D, .slice a6 n c6, .bool po, .int .i64 sp] 44) = W := ⟨_, rfl⟩
    obtain ⟨m6, hm6⟩ : ∃ u, w5.heap.size = u := ⟨_, rfl⟩
    have hb56 : Below w5.heap.size w5 w6 := by rw [← hw6]; exact (Below.refl _ _).alloc (Nat.le_refl _) _
    have h6 : w6.heap[m6]? = some (.cells #[.slice fa6 nf fc6, .slice ga6 ng gc6, .bool M.mem, .int .i64 M.pages, .int .i64 M.most, .int .i64 M.start, .int .i64 mx, .string D, .slice a6 n c6, .bool po, .int .i64 sp] 44 (0, 0)) := by rw [← hw6, ← hm6]; exact heap_alloc_new _ _
    have INV6 : Hid (Inv9 w B z s4 #[.slice fa nf fc, .slice ga ng gc, .bool M.mem, .int .i64 M.pages, .int .i64 M.most, .int .i64 M.start, .int .i64 mx, .string D, .slice a n c, .bool po, .int .i64 sp] #[.int .i64 mo, .string Do, .slice s5 no k5] s5 Lo w6) := INV5.out.up hb56
    have I6 := I.out hs.out ⟨fa6, fc6, ga6, gc6⟩ a6 c6 w6 (hA6.out.mod.below hb56) (hD6.out.1.below hb56)
    rw [IV.out] at I6
    simp only at I6
    have HW6 : Hid (w5.alloc (.cells #[.slice fa6 nf fc6, .slice ga6 ng gc6, .bool M.mem, .int .i64 M.pages, .int .i64 M.most, .int .i64 M.start, .int .i64 mx, .string D, .slice a6 n c6, .bool po, .int .i64 sp] 44) = w6 ∧ w5.heap.size = m6 ∧ Below w5.heap.size w5 w6 ∧ B ≤ w5.heap.size) := ⟨hw6, hm6, hb56, INV5.out.bx⟩
    have v0 : w6.cell? ⟨m6, 0, none⟩ = some (.slice fa6 nf fc6) := (cell_of_block h6 0).trans rfl
    have v1 : w6.cell? ⟨m6, 1, none⟩ = some (.slice ga6 ng gc6) := (cell_of_block h6 1).trans rfl
    have v2 : w6.cell? ⟨m6, 2, none⟩ = some (.bool M.mem) := (cell_of_block h6 2).trans rfl
    have v3 : w6.cell? ⟨m6, 3, none⟩ = some (.int .i64 M.pages) := (cell_of_block h6 3).trans rfl
    have v4 : w6.cell? ⟨m6, 4, none⟩ = some (.int .i64 M.most) := (cell_of_block h6 4).trans rfl
    have v5 : w6.cell? ⟨m6, 5, none⟩ = some (.int .i64 M.start) := (cell_of_block h6 5).trans rfl
    have v6 : w6.cell? ⟨m6, 6, none⟩ = some (.int .i64 mx) := (cell_of_block h6 6).trans rfl
    have v7 : w6.cell? ⟨m6, 7, none⟩ = some (.string D) := (cell_of_block h6 7).trans rfl
    have v8 : w6.cell? ⟨m6, 8, none⟩ = some (.slice a6 n c6) := (cell_of_block h6 8).trans rfl
    have v9 : w6.cell? ⟨m6, 9, none⟩ = some (.bool po) := (cell_of_block h6 9).trans rfl
    have v10 : w6.cell? ⟨m6, 10, none⟩ = some (.int .i64 sp) := (cell_of_block h6 10).trans rfl
    rw [← hw6, ← hm6] at v0 v1 v2 v3 v4 v5 v6 v7 v8 v9 v10
    clear hw6 hm6 hb56 INV5
    go_wp2_with fail
    rw [HW6.out.1, HW6.out.2.1]
    clear v0 v1 v2 v3 v4 v5 v6 v7 v8 v9 v10
    refine I6.mono ?_
    rintro e w7 ⟨s7, k7, rfl, hw7, hb7⟩
    have INV7 : Hid (Inv9 w B z s4 #[.slice fa nf fc, .slice ga ng gc, .bool M.mem, .int .i64 M.pages, .int .i64 M.most, .int .i64 M.start, .int .i64 mx, .string D, .slice a n c, .bool po, .int .i64 sp] #[.int .i64 mo, .string Do, .slice s5 no k5] s5 Lo w7) := INV6.out.up hb7
    have h6b := (hb7.block m6 (lt_of_block h6)).trans h6
    have HV7 : Hid (Below w5.heap.size w5 w7) := bel_step HW6.out.2.2.1 hb7
    clear I6 INV6
    obtain ⟨w8, hw8⟩ : ∃ W, w7.alloc (.cells #[.int .i64 mo, .string Do, .slice s7 no k7] 42) = W := ⟨_, rfl⟩
    obtain ⟨y7, hy7⟩ : ∃ u, w7.heap.size = u := ⟨_, rfl⟩
    have hb78 : Below w7.heap.size w7 w8 := by rw [← hw8]; exact (Below.refl _ _).alloc (Nat.le_refl _) _
    have h7 : w8.heap[y7]? = some (.cells #[.int .i64 mo, .string Do, .slice s7 no k7] 42 (0, 0)) := by rw [← hw8, ← hy7]; exact heap_alloc_new _ _
    have h6c := (hb78.block m6 (lt_of_block h6b)).trans h6b
    have INV8 : Hid (Inv9 w B z s4 #[.slice fa nf fc, .slice ga ng gc, .bool M.mem, .int .i64 M.pages, .int .i64 M.most, .int .i64 M.start, .int .i64 mx, .string D, .slice a n c, .bool po, .int .i64 sp] #[.int .i64 mo, .string Do, .slice s5 no k5] s5 Lo w8) := INV7.out.up hb78
    have HW8 : Hid (WdsB w6.heap.size w8 s7 Lo) := hw7.out.below hb78
    have HS7 : Hid (w6.heap.size ≤ y7 ∧ ∀ x, 0 < no → s7 = some ⟨x, 0, none⟩ → x < y7) := ⟨by have := hb7.size; omega, fun x hx he => by have := rowb_lt hw7.out.2.1 (by rw [HNL.out]; exact hx) he; omega⟩
    have HV8 : Hid (Below w5.heap.size w5 w8) := bel_step HV7.out hb78
    have Q8 := Q.out hnL s7 s5 k7 k5 w8 HW8.out.1 INV8.out.wd
    have t0 : w8.cell? ⟨y7, 0, none⟩ = some (.int .i64 mo) := (cell_of_block h7 0).trans rfl
    have t1 : w8.cell? ⟨y7, 1, none⟩ = some (.string Do) := (cell_of_block h7 1).trans rfl
    have t2 : w8.cell? ⟨y7, 2, none⟩ = some (.slice s7 no k7) := (cell_of_block h7 2).trans rfl
    have y0 : w8.cell? ⟨s4, 0, none⟩ = some (.int .i64 mo) := (cell_of_block INV8.out.bs 0).trans rfl
    have y1 : w8.cell? ⟨s4, 1, none⟩ = some (.string Do) := (cell_of_block INV8.out.bs 1).trans rfl
    have y2 : w8.cell? ⟨s4, 2, none⟩ = some (.slice s5 no k5) := (cell_of_block INV8.out.bs 2).trans rfl
    rw [← hw8] at t0 t1 t2 y0 y1 y2
    rw [← hy7] at t0 t1 t2
    have HX8 : Hid (w7.alloc (.cells #[.int .i64 mo, .string Do, .slice s7 no k7] 42) = w8 ∧ w7.heap.size = y7) := ⟨hw8, hy7⟩
    have hRR : (R != R) = false := by cases R <;> rfl
    clear hw8 hy7 hb78 hb7 h6b INV7 hw7 HV7 h6
    go_wp2_with fail
    rw [HX8.out.1, HX8.out.2]
    clear t0 t1 t2 y0 y1 y2
    refine Q8.mono ?_
    rintro e w9 ⟨rfl, hb9⟩
    have INV9 : Hid (Inv9 w B z s4 #[.slice fa nf fc, .slice ga ng gc, .bool M.mem, .int .i64 M.pages, .int .i64 M.most, .int .i64 M.start, .int .i64 mx, .string D, .slice a n c, .bool po, .int .i64 sp] #[.int .i64 mo, .string Do, .slice s5 no k5] s5 Lo w9) := INV8.out.up hb9
    have h7b := (hb9.block y7 (lt_of_block h7)).trans h7
    have h6d := (hb9.block m6 (lt_of_block h6c)).trans h6c
    have HW9 : Hid (WdsB w6.heap.size w9 s7 Lo) := HW8.out.below hb9
    have HV9 : Hid (Below w5.heap.size w5 w9) := bel_step HV8.out hb9
    clear Q8 hb9 h7 h6c INV8 HW8 HV8
    go_wp2_with fail
    have KX : ∀ w', Keeps w9 w' → w'.heap[z]? = some (.cells #[.slice fa nf fc, .slice ga ng gc, .bool M.mem, .int .i64 M.pages, .int .i64 M.most, .int .i64 M.start, .int .i64 mx, .string D, .slice a n c, .bool po, .int .i64 sp] 32 (0, 0)) := fun w' h => (h.below.block z (lt_of_block INV9.out.bz)).trans INV9.out.bz
    have KU : ∀ w', Keeps w9 w' → w'.heap[m6]? = some (.cells #[.slice fa6 nf fc6, .slice ga6 ng gc6, .bool M.mem, .int .i64 M.pages, .int .i64 M.most, .int .i64 M.start, .int .i64 mx, .string D, .slice a6 n c6, .bool po, .int .i64 sp] 44 (0, 0)) := fun w' h => (h.below.block m6 (lt_of_block h6d)).trans h6d
    refine wh_begin (Keeps w9) (by kernel_rfl) ?_
    have hS0 : Keeps w9 w9.drew := Keeps.drew w9
    refine wh_take 0 (some 41) (.agg #[.slice fa6 nf fc6, .slice ga6 ng gc6, .bool M.mem, .int .i64 M.pages, .int .i64 M.most, .int .i64 M.start, .int .i64 mx, .string D, .slice a6 n c6, .bool po, .int .i64 sp]) rfl rfl (by kernel_rfl) (by kernel_rfl) (by kernel_rfl) (fun _ _ _ h => h) hS0 (by rfl) (fun w' hS => by have hq := KU _ hS; have q0 := (cell_of_block hq 0).trans rfl; have q1 := (cell_of_block hq 1).trans rfl; have q2 := (cell_of_block hq 2).trans rfl; have q3 := (cell_of_block hq 3).trans rfl; have q4 := (cell_of_block hq 4).trans rfl; have q5 := (cell_of_block hq 5).trans rfl; have q6 := (cell_of_block hq 6).trans rfl; have q7 := (cell_of_block hq 7).trans rfl; have q8 := (cell_of_block hq 8).trans rfl; have q9 := (cell_of_block hq 9).trans rfl; have q10 := (cell_of_block hq 10).trans rfl; clear hq; go_simp) ?_
    simp only [Act.put, List.setIfInBounds_toArray, List.set_cons_zero, List.set_cons_succ]
    refine wh_take 1 (some 42) (.agg #[.slice fa nf fc, .slice ga ng gc, .bool M.mem, .int .i64 M.pages, .int .i64 M.most, .int .i64 M.start, .int .i64 mx, .string D, .slice a n c, .bool po, .int .i64 sp]) rfl rfl (by kernel_rfl) (by kernel_rfl) (by kernel_rfl) (fun _ _ _ h => h) hS0 (by rfl) (fun w' hS => by have hq := KX _ hS; have q0 := (cell_of_block hq 0).trans rfl; have q1 := (cell_of_block hq 1).trans rfl; have q2 := (cell_of_block hq 2).trans rfl; have q3 := (cell_of_block hq 3).trans rfl; have q4 := (cell_of_block hq 4).trans rfl; have q5 := (cell_of_block hq 5).trans rfl; have q6 := (cell_of_block hq 6).trans rfl; have q7 := (cell_of_block hq 7).trans rfl; have q8 := (cell_of_block hq 8).trans rfl; have q9 := (cell_of_block hq 9).trans rfl; have q10 := (cell_of_block hq 10).trans rfl; clear hq; go_simp) ?_
    simp only [Act.put, List.setIfInBounds_toArray, List.set_cons_zero, List.set_cons_succ]
    refine wh_call 2 (some 43) 7 #[.agg #[.slice fa nf fc, .slice ga ng gc, .bool M.mem, .int .i64 M.pages, .int .i64 M.most, .int .i64 M.start, .int .i64 mx, .string D, .slice a n c, .bool po, .int .i64 sp]] (by kernel_rfl) rfl rfl (by rfl) (by kernel_rfl) ?_
    refine (Tt.out hs.out _ (bel_step INV9.out.bel hS0.below)).mono ?_
    rintro e wb ⟨⟨fab, fcb, gab, gcb⟩, ab, cb, rfl, hAb, hDb, hbb⟩
    have hSb : Keeps w9 wb := hS0.step hbb
    refine ⟨_, rfl, hSb, ?_⟩
    have Eb := E.out hs.out ⟨fa6, fc6, ga6, gc6⟩ ⟨fab, fcb, gab, gcb⟩ a6 ab c6 cb wb ((hA6.out.mod.below HV9.out).below hSb.below) hAb.out.mod ((hD6.out.1.below HV9.out).below hSb.below) hDb.out.1
    rw [IV.out, IV.out] at Eb
    rw [IV.out]
    simp only [Act.put, List.setIfInBounds_toArray, List.set_cons_zero, List.set_cons_succ]
    refine wh_call 3 (some 44) 9 #[.agg #[.slice fa6 nf fc6, .slice ga6 ng gc6, .bool M.mem, .int .i64 M.pages, .int .i64 M.most, .int .i64 M.start, .int .i64 mx, .string D, .slice a6 n c6, .bool po, .int .i64 sp], .agg #[.slice fab nf fcb, .slice gab ng gcb, .bool M.mem, .int .i64 M.pages, .int .i64 M.most, .int .i64 M.start, .int .i64 mx, .string D, .slice ab n cb, .bool po, .int .i64 sp]] (by kernel_rfl) rfl rfl (by rfl) (by kernel_rfl) ?_
    refine Eb.mono ?_
    rintro e w11 ⟨rfl, hbc⟩
    have hSc : Keeps w9 w11 := hSb.step hbc
    refine ⟨_, rfl, hSc, ?_⟩
    simp only [Act.put, List.setIfInBounds_toArray, List.set_cons_zero, List.set_cons_succ]
    refine wh_val 4 (some 45) (.bool false) w11 (by kernel_rfl) rfl rfl (by rfl) (by rfl) hSc ?_
    simp only [Act.put, List.setIfInBounds_toArray, List.set_cons_zero, List.set_cons_succ]
    refine wh_done (by kernel_rfl) ?_
    have INV11 : Hid (Inv9 w B z s4 #[.slice fa nf fc, .slice ga ng gc, .bool M.mem, .int .i64 M.pages, .int .i64 M.most, .int .i64 M.start, .int .i64 mx, .string D, .slice a n c, .bool po, .int .i64 sp] #[.int .i64 mo, .string Do, .slice s5 no k5] s5 Lo w11) := INV9.out.up hSc.below
    have h6e := KU _ hSc
    have h7c := (hSc.below.block y7 (lt_of_block h7b)).trans h7b
    have HW11 : Hid (WdsB w6.heap.size w11 s7 Lo) := HW9.out.below hSc.below
    have HV11 : Hid (Below w5.heap.size w5 w11) := bel_step HV9.out hSc.below
    have MK := MK0.out hs.out B ⟨fa6, fc6, ga6, gc6⟩ a6 c6 w5 w11 hA6 hD6 HV11.out HW6.out.2.2.2
    rw [IV.out] at MK
    simp only at MK
    have v0 : w11.cell? ⟨m6, 0, none⟩ = some (.slice fa6 nf fc6) := (cell_of_block h6e 0).trans rfl
    have v1 : w11.cell? ⟨m6, 1, none⟩ = some (.slice ga6 ng gc6) := (cell_of_block h6e 1).trans rfl
    have v2 : w11.cell? ⟨m6, 2, none⟩ = some (.bool M.mem) := (cell_of_block h6e 2).trans rfl
    have v3 : w11.cell? ⟨m6, 3, none⟩ = some (.int .i64 M.pages) := (cell_of_block h6e 3).trans rfl
    have v4 : w11.cell? ⟨m6, 4, none⟩ = some (.int .i64 M.most) := (cell_of_block h6e 4).trans rfl
    have v5 : w11.cell? ⟨m6, 5, none⟩ = some (.int .i64 M.start) := (cell_of_block h6e 5).trans rfl
    have v6 : w11.cell? ⟨m6, 6, none⟩ = some (.int .i64 mx) := (cell_of_block h6e 6).trans rfl
    have v7 : w11.cell? ⟨m6, 7, none⟩ = some (.string D) := (cell_of_block h6e 7).trans rfl
    have v8 : w11.cell? ⟨m6, 8, none⟩ = some (.slice a6 n c6) := (cell_of_block h6e 8).trans rfl
    have v9 : w11.cell? ⟨m6, 9, none⟩ = some (.bool po) := (cell_of_block h6e 9).trans rfl
    have v10 : w11.cell? ⟨m6, 10, none⟩ = some (.int .i64 sp) := (cell_of_block h6e 10).trans rfl
    clear Eb hSb hAb hDb hbb hbc hS0 hSc KX KU INV9 HW9 HV9 h7b h6d
    go_wp2_with fail
    refine MK.mono ?_
    rintro e w12 ⟨k, rfl, hk, hbm, hcm⟩
    have INV12 : Hid (Inv9 w B z s4 #[.slice fa nf fc, .slice ga ng gc, .bool M.mem, .int .i64 M.pages, .int .i64 M.most, .int .i64 M.start, .int .i64 mx, .string D, .slice a n c, .bool po, .int .i64 sp] #[.int .i64 mo, .string Do, .slice s5 no k5] s5 Lo w12) := INV11.out.low hbm
    have hm6 : w5.heap.size ≤ w6.heap.size := HW6.out.2.2.1.size
    have h7d := (hcm y7 (by have h1 := HS7.out.1; omega) (lt_of_block h7c)).trans h7c
    have HW12 : Hid (WdsB w6.heap.size w12 s7 Lo) := HW11.out.kept hm6 hbm.size hcm
    have Q12 := Q.out hnL s7 s5 k7 k5 w12 HW12.out.1 INV12.out.wd
    have hk0 : ¬ k < 0 := by omega
    have hk1 : decide (k < 0) = false := by simpa using hk0
    have t0 : w12.cell? ⟨y7, 0, none⟩ = some (.int .i64 mo) := (cell_of_block h7d 0).trans rfl
    have t1 : w12.cell? ⟨y7, 1, none⟩ = some (.string Do) := (cell_of_block h7d 1).trans rfl
    have t2 : w12.cell? ⟨y7, 2, none⟩ = some (.slice s7 no k7) := (cell_of_block h7d 2).trans rfl
    have y0 : w12.cell? ⟨s4, 0, none⟩ = some (.int .i64 mo) := (cell_of_block INV12.out.bs 0).trans rfl
    have y1 : w12.cell? ⟨s4, 1, none⟩ = some (.string Do) := (cell_of_block INV12.out.bs 1).trans rfl
    have y2 : w12.cell? ⟨s4, 2, none⟩ = some (.slice s5 no k5) := (cell_of_block INV12.out.bs 2).trans rfl
    clear MK hbm hcm v0 v1 v2 v3 v4 v5 v6 v7 v8 v9 v10 h6e h7c INV11 HW11 HV11 hm6
    go_wp2_with fail
    refine Q12.mono ?_
    rintro e w13 ⟨rfl, hb13⟩
    have INV13 : Hid (Inv9 w B z s4 #[.slice fa nf fc, .slice ga ng gc, .bool M.mem, .int .i64 M.pages, .int .i64 M.most, .int .i64 M.start, .int .i64 mx, .string D, .slice a n c, .bool po, .int .i64 sp] #[.int .i64 mo, .string Do, .slice s5 no k5] s5 Lo w13) := INV12.out.up hb13
    have h7e := (hb13.block y7 (lt_of_block h7d)).trans h7d
    have HW13 : Hid (WdsB w6.heap.size w13 s7 Lo) := HW12.out.below hb13
    have hrow : RowB w13 80 2 s7 no := by have h := HW13.out.2.1; rw [HNL.out] at h; exact h
    have MS := markSt mo Do s7 no k7 w13 hrow hnL
    clear Q12 hb13 t0 t1 t2 y0 y1 y2 h7d INV12 HW12 hrow
    have t0 : w13.cell? ⟨y7, 0, none⟩ = some (.int .i64 mo) := (cell_of_block h7e 0).trans rfl
    have t1 : w13.cell? ⟨y7, 1, none⟩ = some (.string Do) := (cell_of_block h7e 1).trans rfl
    have t2 : w13.cell? ⟨y7, 2, none⟩ = some (.slice s7 no k7) := (cell_of_block h7e 2).trans rfl
    go_wp2_with fail
    refine MS.mono ?_
    rintro e w14 ⟨ws, rfl, hbs, hcs, hmk⟩
    have hlow : ∀ k, (0 < no ∧ s7 = some ⟨k, 0, none⟩) → w6.heap.size ≤ k := fun k hk => HW13.out.2.2 k (by rw [HNL.out]; exact hk.1) hk.2
    have hB6 : B ≤ w6.heap.size := Nat.le_trans HW6.out.2.2.2 HW6.out.2.2.1.size
    have INV14 : Hid (Inv9 w B z s4 #[.slice fa nf fc, .slice ga ng gc, .bool M.mem, .int .i64 M.pages, .int .i64 M.most, .int .i64 M.start, .int .i64 mx, .string D, .slice a n c, .bool po, .int .i64 sp] #[.int .i64 mo, .string Do, .slice s5 no k5] s5 Lo w14) := (INV13.out.up hbs).low (hcs.below (fun k hk => Nat.le_trans hB6 (hlow k hk)))
    have h7f := (hcs.same y7 (fun hh => by have := HS7.out.2 y7 hh.1 hh.2; omega)).trans ((hbs.block y7 (lt_of_block h7e)).trans h7e)
    have HMK : Hid (MarkedW w14 s7 no) := hmk
    have HL1 := heldSt mo Do s7 no k7 w14 HMK hnL
    clear MS hbs hcs hmk hlow t0 t1 t2 h7e INV13 HW13
    have t0 : w14.cell? ⟨y7, 0, none⟩ = some (.int .i64 mo) := (cell_of_block h7f 0).trans rfl
    have t1 : w14.cell? ⟨y7, 1, none⟩ = some (.string Do) := (cell_of_block h7f 1).trans rfl
    have t2 : w14.cell? ⟨y7, 2, none⟩ = some (.slice s7 no k7) := (cell_of_block h7f 2).trans rfl
    go_wp2_with fail
    refine HL1.mono ?_
    rintro e w15 ⟨rfl, hb15⟩
    have INV15 : Hid (Inv9 w B z s4 #[.slice fa nf fc, .slice ga ng gc, .bool M.mem, .int .i64 M.pages, .int .i64 M.most, .int .i64 M.start, .int .i64 mx, .string D, .slice a n c, .bool po, .int .i64 sp] #[.int .i64 mo, .string Do, .slice s5 no k5] s5 Lo w15) := INV14.out.up hb15
    have h7g := (hb15.block y7 (lt_of_block h7f)).trans h7f
    have HMK15 : Hid (MarkedW w15 s7 no) := HMK.out.below hb15
    clear HL1 hb15 t0 t1 t2 h7f INV14 HMK
    have x0 : w15.cell? ⟨z, 0, none⟩ = some (.slice fa nf fc) := (cell_of_block INV15.out.bz 0).trans rfl
    have x1 : w15.cell? ⟨z, 1, none⟩ = some (.slice ga ng gc) := (cell_of_block INV15.out.bz 1).trans rfl
    have x2 : w15.cell? ⟨z, 2, none⟩ = some (.bool M.mem) := (cell_of_block INV15.out.bz 2).trans rfl
    have x3 : w15.cell? ⟨z, 3, none⟩ = some (.int .i64 M.pages) := (cell_of_block INV15.out.bz 3).trans rfl
    have x4 : w15.cell? ⟨z, 4, none⟩ = some (.int .i64 M.most) := (cell_of_block INV15.out.bz 4).trans rfl
    have x5 : w15.cell? ⟨z, 5, none⟩ = some (.int .i64 M.start) := (cell_of_block INV15.out.bz 5).trans rfl
    have x6 : w15.cell? ⟨z, 6, none⟩ = some (.int .i64 mx) := (cell_of_block INV15.out.bz 6).trans rfl
    have x7 : w15.cell? ⟨z, 7, none⟩ = some (.string D) := (cell_of_block INV15.out.bz 7).trans rfl
    have x8 : w15.cell? ⟨z, 8, none⟩ = some (.slice a n c) := (cell_of_block INV15.out.bz 8).trans rfl
    have x9 : w15.cell? ⟨z, 9, none⟩ = some (.bool po) := (cell_of_block INV15.out.bz 9).trans rfl
    have x10 : w15.cell? ⟨z, 10, none⟩ = some (.int .i64 sp) := (cell_of_block INV15.out.bz 10).trans rfl
    go_wp2_with fail
    refine (Tt.out hs.out w15 INV15.out.bel).mono ?_
    rintro e w16 ⟨⟨fah, fch, gah, gch⟩, ah, ch, rfl, hAh, hDh, hb16⟩
    have I16 := I.out hs.out ⟨fah, fch, gah, gch⟩ ah ch w16 hAh.out.mod hDh.out.1
    rw [IV.out] at I16 ⊢
    simp only at I16 ⊢
    have INV16 : Hid (Inv9 w B z s4 #[.slice fa nf fc, .slice ga ng gc, .bool M.mem, .int .i64 M.pages, .int .i64 M.most, .int .i64 M.start, .int .i64 mx, .string D, .slice a n c, .bool po, .int .i64 sp] #[.int .i64 mo, .string Do, .slice s5 no k5] s5 Lo w16) := INV15.out.up hb16
    have h7h := (hb16.block y7 (lt_of_block h7g)).trans h7g
    have HMK16 : Hid (MarkedW w16 s7 no) := HMK15.out.below hb16
    clear hb16 x0 x1 x2 x3 x4 x5 x6 x7 x8 x9 x10 h7g INV15 HMK15 hAh hDh
    go_wp2_with fail
    refine I16.mono ?_
    rintro e w17 ⟨si, ki, rfl, hwi, hb17⟩
    have INV17 : Hid (Inv9 w B z s4 #[.slice fa nf fc, .slice ga ng gc, .bool M.mem, .int .i64 M.pages, .int .i64 M.most, .int .i64 M.start, .int .i64 mx, .string D, .slice a n c, .bool po, .int .i64 sp] #[.int .i64 mo, .string Do, .slice s5 no k5] s5 Lo w17) := INV16.out.up hb17
    have h7i := (hb17.block y7 (lt_of_block h7h)).trans h7h
    have HMK17 : Hid (MarkedW w17 s7 no) := HMK16.out.below hb17
    clear I16 hb17 h7h INV16 HMK16
    obtain ⟨w18, hw18⟩ : ∃ W, w17.alloc (.cells #[.int .i64 mo, .string Do, .slice si no ki] 42) = W := ⟨_, rfl⟩
    have hb18 : Below w17.heap.size w17 w18 := by rw [← hw18]; exact (Below.refl _ _).alloc (Nat.le_refl _) _
    have INV18 : Hid (Inv9 w B z s4 #[.slice fa nf fc, .slice ga ng gc, .bool M.mem, .int .i64 M.pages, .int .i64 M.most, .int .i64 M.start, .int .i64 mx, .string D, .slice a n c, .bool po, .int .i64 sp] #[.int .i64 mo, .string Do, .slice s5 no k5] s5 Lo w18) := INV17.out.up hb18
    have h7j := (hb18.block y7 (lt_of_block h7i)).trans h7i
    have HMK18 : Hid (MarkedW w18 s7 no) := HMK17.out.below hb18
    have Q18 := Q.out hnL si s5 ki k5 w18 (hwi.out.1.below hb18) INV18.out.wd
    have y0 : w18.cell? ⟨s4, 0, none⟩ = some (.int .i64 mo) := (cell_of_block INV18.out.bs 0).trans rfl
    have y1 : w18.cell? ⟨s4, 1, none⟩ = some (.string Do) := (cell_of_block INV18.out.bs 1).trans rfl
    have y2 : w18.cell? ⟨s4, 2, none⟩ = some (.slice s5 no k5) := (cell_of_block INV18.out.bs 2).trans rfl
    rw [← hw18] at y0 y1 y2
    have HX18 : Hid (w17.alloc (.cells #[.int .i64 mo, .string Do, .slice si no ki] 42) = w18) := hw18
    clear hw18 hb18 h7i INV17 HMK17 hwi
    go_wp2_with fail
    rw [HX18.out]
    clear y0 y1 y2
    refine Q18.mono ?_
    rintro e w19 ⟨rfl, hb19⟩
    have h7k := (hb19.block y7 (lt_of_block h7j)).trans h7j
    have INV19 : Hid (Inv9 w B z s4 #[.slice fa nf fc, .slice ga ng gc, .bool M.mem, .int .i64 M.pages, .int .i64 M.most, .int .i64 M.start, .int .i64 mx, .string D, .slice a n c, .bool po, .int .i64 sp] #[.int .i64 mo, .string Do, .slice s5 no k5] s5 Lo w19) := INV18.out.up hb19
    have HL2 := heldSt mo Do s7 no k7 w19 (HMK18.out.below hb19) hnL
    clear Q18 hb19 h7j INV18 HMK18
    have t0 : w19.cell? ⟨y7, 0, none⟩ = some (.int .i64 mo) := (cell_of_block h7k 0).trans rfl
    have t1 : w19.cell? ⟨y7, 1, none⟩ = some (.string Do) := (cell_of_block h7k 1).trans rfl
    have t2 : w19.cell? ⟨y7, 2, none⟩ = some (.slice s7 no k7) := (cell_of_block h7k 2).trans rfl
    go_wp2_with fail
    refine HL2.mono ?_
    rintro e w20 ⟨rfl, hb20⟩
    have HB20 : Hid (Below w.heap.size w w20) := bel_step INV19.out.bel hb20
    clear HL2 hb20 t0 t1 t2 h7k INV19
    go_wp2
    go_ret
    exact ⟨rfl, HB20.out⟩

end Go.Proofs.YtdcfflmfimepfaaGreat
