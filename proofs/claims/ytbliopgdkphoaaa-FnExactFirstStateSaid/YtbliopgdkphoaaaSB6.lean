/-
  The law on first states: whole.
-/
import Derived.Test.YtbliopgdkphoaaaSB4
import Derived.Test.YtbliopgdkphoaaaSB2
import Derived.Test.YtbliopgdkphoaaaSB5
namespace Go.Proofs.Ytbliopgdkphoaaa
open Go.ChangeShapes Go.WideShapes Go.ChangeAt Go.RowKit

/-- What the law keeps in blocks below B: the module that came in, and what its own model told. -/
structure Inv8 (w : World) (B z s4 : Nat) (mc sc : Array Value) (a : Option Addr) (L : List Wd8) (wx : World) : Prop where
  bel : Below w.heap.size w wx
  bw : w.heap.size ≤ B
  bx : B ≤ wx.heap.size
  zB : z < B
  sB : s4 < B
  bz : wx.heap[z]? = some (.cells mc 25 (0, 0))
  bs : wx.heap[s4]? = some (.cells sc 46 (0, 0))
  wd : Wds wx a L
  wB : ∀ b off, L ≠ [] → a = some ⟨b, off, none⟩ → b < B
theorem Inv8.low {w : World} {B z s4 : Nat} {mc sc : Array Value} {a : Option Addr} {L : List Wd8} {wx wy : World} (h : Inv8 w B z s4 mc sc a L wx) (hb : Below B wx wy) : Inv8 w B z s4 mc sc a L wy := by
  refine ⟨h.bel.trans (hb.mono h.bw), h.bw, Nat.le_trans h.bx hb.size, h.zB, h.sB, (hb.block z h.zB).trans h.bz, (hb.block s4 h.sB).trans h.bs, fun hn => ?_, h.wB⟩
  obtain ⟨b, off, ha, hl, hc⟩ := h.wd hn
  have hB := h.wB b off hn ha
  exact ⟨b, off, ha, Nat.lt_of_lt_of_le hl hb.size, fun k hk => ⟨(hb.cell (p := ⟨b, off + k * 2, none⟩) hB).trans (hc k hk).1, (hb.cell (p := ⟨b, off + k * 2 + 1, none⟩) hB).trans (hc k hk).2⟩⟩
theorem Inv8.up {w : World} {B z s4 : Nat} {mc sc : Array Value} {a : Option Addr} {L : List Wd8} {wx wy : World} (h : Inv8 w B z s4 mc sc a L wx) (hb : Below wx.heap.size wx wy) : Inv8 w B z s4 mc sc a L wy := h.low (hb.mono h.bx)
theorem WdsB.chg {B : Nat} {w w' : World} {a : Option Addr} {L : List Wd8} {S : Nat → Prop} (h : WdsB B w a L) (hc : Chg S w w') (hS : ∀ k, S k → k < B) : WdsB B w' a L := by
  refine ⟨fun hn => ?_, hc.row h.2.1, h.2.2⟩
  obtain ⟨b, off, ha, hl, hd⟩ := h.1 hn
  obtain ⟨b', arr, ha', _, _⟩ := h.2.1 (List.length_pos_iff.2 hn)
  have hB := h.2.2 b' (List.length_pos_iff.2 hn) ha'
  rw [ha] at ha'
  simp at ha'
  have hns : ¬ S b := fun hs => by have := hS b hs; omega
  exact ⟨b, off, ha, by rw [hc.size]; exact hl, fun k hk => ⟨(chg_cell hc hns _).trans (hd k hk).1, (chg_cell hc hns _).trans (hd k hk).2⟩⟩

set_option maxRecDepth 100000 in
set_option maxHeartbeats 1600000 in
theorem markSt (mx : Int) (D : ByteArray) (a : Option Addr) (n c : Nat) (w : World) (hr : Hid (RowB w 86 2 a n)) (hn : n ≤ 1048576) :
    Calls Try.prog 24 #[.agg #[.int .i64 mx, .string D, .slice a n c], .int .i64 1] w fun e w' => ∃ w0, e = .returned (.int .i64 (1 + 2 * (n : Int))) ∧ Below w.heap.size w w0 ∧ Chg (fun x => 0 < n ∧ a = some ⟨x, 0, none⟩) w0 w' ∧ MarkedW w' a n := by
  have hb0 : Below w.heap.size w (w.alloc (.cells #[.int .i64 mx, .string D, .slice a n c] 46)) := (Below.refl _ _).alloc (Nat.le_refl _) _
  have T := markWds a n c _ (hr.out.below hb0) hn
  have HB0 : Hid (Below w.heap.size w (w.alloc (.cells #[.int .i64 mx, .string D, .slice a n c] 46))) := hb0
  clear hb0
  go_enter Try.func24, Try.ntmps24
  go_wp2_with fail
  refine T.mono ?_
  rintro e w1 ⟨rfl, hc, hm⟩
  have HC : Hid (Chg (fun x => 0 < n ∧ a = some ⟨x, 0, none⟩) (w.alloc (.cells #[.int .i64 mx, .string D, .slice a n c] 46)) w1 ∧ MarkedW w1 a n) := ⟨hc, hm⟩
  clear hc hm T
  go_wp2
  go_ret
  exact ⟨_, rfl, HB0.out, HC.out.1, HC.out.2⟩

set_option maxRecDepth 100000 in
set_option maxHeartbeats 1600000 in
theorem heldSt (mx : Int) (D : ByteArray) (a : Option Addr) (n c : Nat) (w : World) (hr : Hid (MarkedW w a n)) (hn : n ≤ 1048576) :
    Calls Try.prog 25 #[.agg #[.int .i64 mx, .string D, .slice a n c], .int .i64 1] w fun e w' => e = .returned (.int .i64 (1 + 2 * (n : Int))) ∧ Below w.heap.size w w' := by
  have hb0 : Below w.heap.size w (w.alloc (.cells #[.int .i64 mx, .string D, .slice a n c] 46)) := (Below.refl _ _).alloc (Nat.le_refl _) _
  have T := heldWds a n c _ (hr.out.below hb0) hn
  have HB0 : Hid (Below w.heap.size w (w.alloc (.cells #[.int .i64 mx, .string D, .slice a n c] 46))) := hb0
  clear hb0
  go_enter Try.func25, Try.ntmps25
  go_wp2_with fail
  refine T.mono ?_
  rintro e w1 ⟨rfl, hw⟩
  obtain rfl := hw.symm
  clear T
  go_wp2
  go_ret
  exact ⟨rfl, HB0.out⟩

set_option maxRecDepth 100000 in
set_option maxHeartbeats 6400000 in
theorem firstState_walk (l : Loc7) (M : Mod7) (w : World) (hI : IsMod w l M) :
    Calls Try.prog 7 #[modV l M] w fun e w' => e = .returned (.bool true) ∧ Below w.heap.size w w' := by
  have hM : Hid (ModAt w l M) := hI.1
  have hok : Hid (okM M) := hI.2.1
  clear hI
  have Z : Hid (∀ w', Below w.heap.size w w' → Calls Try.prog 9 #[modV l M, .int .i64 1048576] w' fun e w'' => ∃ r : Int, e = .returned (.int .i64 r) ∧ (0 ≤ r → smM M) ∧ Below w'.heap.size w' w'') := fun w' hb => szMod l M w' (hM.out.below hb) hok.out
  have T : Hid (smM M → ∀ w', Below w.heap.size w w' → Calls Try.prog 11 #[modV l M] w' fun e w'' => ∃ l', e = .returned (modV l' M) ∧ Hid (ModB w'.heap.size w'' l' M) ∧ Below w'.heap.size w' w'') := fun hs w' hb => toModB l M w' (hM.out.below hb) hs
  have S : Hid (smM M → ∀ l' w', ModAt w' l' M → Calls Try.prog 20 #[modV l' M] w' fun e w'' => ∃ a c, e = .returned (.tuple #[.agg #[.int .i64 (fMx M), .string (fD M), .slice a (fL M).length c], .bool (shape M)]) ∧ Hid (WdsB w'.heap.size w'' a (fL M)) ∧ Below w'.heap.size w' w'') := fun hs l' w' h => firstS l' M w' h hs
  have I : Hid (smM M → ∀ l' w', ModAt w' l' M → Calls Try.prog 21 #[modV l' M] w' fun e w'' => ∃ a c, e = .returned (.tuple #[.agg #[.int .i64 (fMx M), .string (fD M), .slice a (fL M).length c], .bool (shape M)]) ∧ Hid (WdsB w'.heap.size w'' a (fL M)) ∧ Below w'.heap.size w' w'') := fun hs l' w' h => firstI l' M w' h hs
  have hLn : smM M → (fL M).length ≤ 1048576 := fun hs => by unfold fL; split <;> simp [hs.2.1]
  obtain ⟨mx, hmx⟩ : ∃ x, fMx M = x := ⟨_, rfl⟩
  obtain ⟨D, hD⟩ : ∃ x, fD M = x := ⟨_, rfl⟩
  obtain ⟨L, hL⟩ : ∃ x, fL M = x := ⟨_, rfl⟩
  obtain ⟨R, hR⟩ : ∃ x, shape M = x := ⟨_, rfl⟩
  rw [hmx, hD, hL, hR] at S I
  rw [hL] at hLn
  clear hmx hD hL hR
  have Q : Hid (L.length ≤ 1048576 → ∀ a a' c c' w', Wds w' a L → Wds w' a' L → Calls Try.prog 22 #[.agg #[.int .i64 mx, .string D, .slice a L.length c], .agg #[.int .i64 mx, .string D, .slice a' L.length c']] w' fun e w'' => e = .returned (.bool true) ∧ Below w'.heap.size w' w'') := fun hs a a' c c' w' h h' => eqSt mx D a a' c c' L w' h h' hs
  obtain ⟨n, hn⟩ : ∃ n, L.length = n := ⟨_, rfl⟩
  rw [hn] at S I Q hLn
  have HNL : Hid (L.length = n) := hn
  have HLN : Hid (smM M → n ≤ 1048576) := hLn
  obtain ⟨fa, fc, ga, gc⟩ := l
  obtain ⟨nf, hnf⟩ : ∃ n, M.fs.length = n := ⟨_, rfl⟩
  obtain ⟨ng, hng⟩ : ∃ n, M.gs.length = n := ⟨_, rfl⟩
  have HNN : Hid (M.fs.length = nf ∧ M.gs.length = ng) := ⟨hnf, hng⟩
  have MV : Hid (∀ l', modV l' M = .agg #[.slice l'.fa nf l'.fc, .slice l'.ga ng l'.gc, .bool M.mem, .int .i64 M.pages, .int .i64 M.most, .int .i64 M.start]) := fun l' => by unfold modV; rw [hnf, hng]
  have HV : Hid (modV ⟨fa, fc, ga, gc⟩ M = .agg #[.slice fa nf fc, .slice ga ng gc, .bool M.mem, .int .i64 M.pages, .int .i64 M.most, .int .i64 M.start]) := MV.out _
  rw [HV.out] at Z T ⊢
  clear hnf hng hn hLn
  have hb0 : Below w.heap.size w (w.alloc (.cells #[.slice fa nf fc, .slice ga ng gc, .bool M.mem, .int .i64 M.pages, .int .i64 M.most, .int .i64 M.start] 25)) := (Below.refl _ _).alloc (Nat.le_refl _) _
  have hx0 : (w.alloc (.cells #[.slice fa nf fc, .slice ga ng gc, .bool M.mem, .int .i64 M.pages, .int .i64 M.most, .int .i64 M.start] 25)).heap[w.heap.size]? = some (.cells #[.slice fa nf fc, .slice ga ng gc, .bool M.mem, .int .i64 M.pages, .int .i64 M.most, .int .i64 M.start] 25 (0, 0)) := heap_alloc_new _ _
  obtain ⟨W0, hW0⟩ : ∃ W, w.alloc (.cells #[.slice fa nf fc, .slice ga ng gc, .bool M.mem, .int .i64 M.pages, .int .i64 M.most, .int .i64 M.start] 25) = W := ⟨_, rfl⟩
  obtain ⟨z, hz⟩ : ∃ z, w.heap.size = z := ⟨_, rfl⟩
  rw [hW0] at hb0 hx0
  rw [hz] at hx0
  have HW0 : Hid (w.alloc (.cells #[.slice fa nf fc, .slice ga ng gc, .bool M.mem, .int .i64 M.pages, .int .i64 M.most, .int .i64 M.start] 25) = W0 ∧ w.heap.size = z) := ⟨hW0, hz⟩
  have HB0 : Hid (Below w.heap.size w W0) := hb0
  clear hW0 hz hb0
  go_enter Try.func7, Try.ntmps7
  go_wp2_with fail
  rw [HW0.out.2, HW0.out.1]
  refine (Z.out W0 HB0.out).mono ?_
  rintro e w1 ⟨r, rfl, hr, hb1⟩
  have HB1 : Hid (Below w.heap.size w w1) := bel_step HB0.out hb1
  have hx1 := (hb1.block z (lt_of_block hx0)).trans hx0
  clear hb1 Z hx0
  by_cases hr0 : r < 0
  · clear hr hx1
    go_wp2
    go_ret
    exact ⟨rfl, HB1.out⟩
  · have hs : Hid (smM M) := hr (by omega)
    have hnL : n ≤ 1048576 := HLN.out hs.out
    clear hr
    have x0 := (cell_of_block hx1 0).trans rfl
    have x1 := (cell_of_block hx1 1).trans rfl
    have x2 := (cell_of_block hx1 2).trans rfl
    have x3 := (cell_of_block hx1 3).trans rfl
    have x4 := (cell_of_block hx1 4).trans rfl
    have x5 := (cell_of_block hx1 5).trans rfl
    go_wp2_with fail
    refine (T.out hs.out w1 HB1.out).mono ?_
    rintro e w2 ⟨⟨fa2, fc2, ga2, gc2⟩, rfl, hA2, hb2⟩
    have S2 := S.out hs.out ⟨fa2, fc2, ga2, gc2⟩ w2 hA2.out.mod
    rw [MV.out] at S2 ⊢
    simp only at S2 ⊢
    have HB2 : Hid (Below w.heap.size w w2) := bel_step HB1.out hb2
    have hx2 := (hb2.block z (lt_of_block hx1)).trans hx1
    clear hb2 hx1 x0 x1 x2 x3 x4 x5 hA2
    go_wp2_with fail
    refine S2.mono ?_
    rintro e w3 ⟨a5, c5, rfl, hw5, hb3⟩
    have HB3 : Hid (Below w.heap.size w w3) := bel_step HB2.out hb3
    have hx3 := (hb3.block z (lt_of_block hx2)).trans hx2
    clear S2 hb3 hx2 S
    obtain ⟨w4, hw4⟩ : ∃ W, w3.alloc (.cells #[.int .i64 mx, .string D, .slice a5 n c5] 46) = W := ⟨_, rfl⟩
    obtain ⟨s4, hs4⟩ : ∃ u, w3.heap.size = u := ⟨_, rfl⟩
    obtain ⟨B, hB⟩ : ∃ B, w4.heap.size = B := ⟨_, rfl⟩
    have hsB : B = s4 + 1 := by rw [← hB, ← hw4, ← hs4]; simp
    have hb34 : Below w3.heap.size w3 w4 := by rw [← hw4]; exact (Below.refl _ _).alloc (Nat.le_refl _) _
    have INV4 : Hid (Inv8 w B z s4 #[.slice fa nf fc, .slice ga ng gc, .bool M.mem, .int .i64 M.pages, .int .i64 M.most, .int .i64 M.start] #[.int .i64 mx, .string D, .slice a5 n c5] a5 L w4) := by
      refine ⟨bel_step HB3.out hb34, ?_, by omega, ?_, by omega, (hb34.block z (lt_of_block hx3)).trans hx3, by rw [← hw4, ← hs4]; exact heap_alloc_new _ _, hw5.out.1.below hb34, fun b off hn ha => ?_⟩
      · have := (bel_step HB3.out hb34).size; omega
      · have := lt_of_block hx3; omega
      · obtain ⟨b', off', ha', hl, _⟩ := hw5.out.1 hn
        rw [ha] at ha'; simp at ha'; omega
    have x0 := (cell_of_block INV4.out.bz 0).trans rfl
    have x1 := (cell_of_block INV4.out.bz 1).trans rfl
    have x2 := (cell_of_block INV4.out.bz 2).trans rfl
    have x3 := (cell_of_block INV4.out.bz 3).trans rfl
    have x4 := (cell_of_block INV4.out.bz 4).trans rfl
    have x5 := (cell_of_block INV4.out.bz 5).trans rfl
    rw [← hw4] at x0 x1 x2 x3 x4 x5
    have HW4 : Hid (w3.alloc (.cells #[.int .i64 mx, .string D, .slice a5 n c5] 46) = w4 ∧ w3.heap.size = s4 ∧ w4.heap.size = B) := ⟨hw4, hs4, hB⟩
    clear hw4 hs4 hB hsB hb34 hx3 hw5 HB1 HB2 HB3
    go_wp2_with fail
    rw [HW4.out.1, HW4.out.2.1]
    refine (T.out hs.out w4 INV4.out.bel).mono ?_
    rintro e w5 ⟨⟨fa6, fc6, ga6, gc6⟩, rfl, hA6, hb5⟩
    rw [MV.out]
    simp only
    rw [HW4.out.2.2] at hA6
    have INV5 : Hid (Inv8 w B z s4 #[.slice fa nf fc, .slice ga ng gc, .bool M.mem, .int .i64 M.pages, .int .i64 M.most, .int .i64 M.start] #[.int .i64 mx, .string D, .slice a5 n c5] a5 L w5) := INV4.out.up hb5
    clear hb5 x0 x1 x2 x3 x4 x5 INV4
    obtain ⟨w6, hw6⟩ : ∃ W, w5.alloc (.cells #[.slice fa6 nf fc6, .slice ga6 ng gc6, .bool M.mem, .int .i64 M.pages, .int .i64 M.most, .int .i64 M.start] 32) = W := ⟨_, rfl⟩
    obtain ⟨m6, hm6⟩ : ∃ u, w5.heap.size = u := ⟨_, rfl⟩
    have hb56 : Below w5.heap.size w5 w6 := by rw [← hw6]; exact (Below.refl _ _).alloc (Nat.le_refl _) _
    have h6 : w6.heap[m6]? = some (.cells #[.slice fa6 nf fc6, .slice ga6 ng gc6, .bool M.mem, .int .i64 M.pages, .int .i64 M.most, .int .i64 M.start] 32 (0, 0)) := by rw [← hw6, ← hm6]; exact heap_alloc_new _ _
    have INV6 : Hid (Inv8 w B z s4 #[.slice fa nf fc, .slice ga ng gc, .bool M.mem, .int .i64 M.pages, .int .i64 M.most, .int .i64 M.start] #[.int .i64 mx, .string D, .slice a5 n c5] a5 L w6) := INV5.out.up hb56
    have I6 := I.out hs.out ⟨fa6, fc6, ga6, gc6⟩ w6 (hA6.out.mod.below hb56)
    rw [MV.out] at I6
    simp only at I6
    have HW6 : Hid (w5.alloc (.cells #[.slice fa6 nf fc6, .slice ga6 ng gc6, .bool M.mem, .int .i64 M.pages, .int .i64 M.most, .int .i64 M.start] 32) = w6 ∧ w5.heap.size = m6 ∧ Below w5.heap.size w5 w6) := ⟨hw6, hm6, hb56⟩
    have v0 := (cell_of_block h6 0).trans rfl
    have v1 := (cell_of_block h6 1).trans rfl
    have v2 := (cell_of_block h6 2).trans rfl
    have v3 := (cell_of_block h6 3).trans rfl
    have v4 := (cell_of_block h6 4).trans rfl
    have v5 := (cell_of_block h6 5).trans rfl
    rw [← hw6, ← hm6] at v0 v1 v2 v3 v4 v5
    clear hw6 hm6 hb56 INV5
    go_wp2_with fail
    rw [HW6.out.1, HW6.out.2.1]
    clear v0 v1 v2 v3 v4 v5
    refine I6.mono ?_
    rintro e w7 ⟨a7, c7, rfl, hw7, hb7⟩
    have INV7 : Hid (Inv8 w B z s4 #[.slice fa nf fc, .slice ga ng gc, .bool M.mem, .int .i64 M.pages, .int .i64 M.most, .int .i64 M.start] #[.int .i64 mx, .string D, .slice a5 n c5] a5 L w7) := INV6.out.up hb7
    have h6b := (hb7.block m6 (lt_of_block h6)).trans h6
    have HV7 : Hid (Below w5.heap.size w5 w7) := bel_step HW6.out.2.2 hb7
    have HL6 : Hid (m6 < w6.heap.size) := lt_of_block h6
    clear I6 h6 INV6
    obtain ⟨w8, hw8⟩ : ∃ W, w7.alloc (.cells #[.int .i64 mx, .string D, .slice a7 n c7] 46) = W := ⟨_, rfl⟩
    obtain ⟨s7, hs7⟩ : ∃ u, w7.heap.size = u := ⟨_, rfl⟩
    have hb78 : Below w7.heap.size w7 w8 := by rw [← hw8]; exact (Below.refl _ _).alloc (Nat.le_refl _) _
    have h7 : w8.heap[s7]? = some (.cells #[.int .i64 mx, .string D, .slice a7 n c7] 46 (0, 0)) := by rw [← hw8, ← hs7]; exact heap_alloc_new _ _
    have h6c := (hb78.block m6 (lt_of_block h6b)).trans h6b
    have INV8 : Hid (Inv8 w B z s4 #[.slice fa nf fc, .slice ga ng gc, .bool M.mem, .int .i64 M.pages, .int .i64 M.most, .int .i64 M.start] #[.int .i64 mx, .string D, .slice a5 n c5] a5 L w8) := INV7.out.up hb78
    have HW8 : Hid (WdsB w6.heap.size w8 a7 L) := hw7.out.below hb78
    have HS7 : Hid (w6.heap.size ≤ s7 ∧ ∀ x, 0 < n → a7 = some ⟨x, 0, none⟩ → x < s7) := ⟨by have := hb7.size; omega, fun x hx he => by have := rowb_lt hw7.out.2.1 (by rw [HNL.out]; exact hx) he; omega⟩
    have HV8 : Hid (Below w5.heap.size w5 w8) := bel_step HV7.out hb78
    have Q8 := Q.out hnL a7 a5 c7 c5 w8 HW8.out.1 INV8.out.wd
    have t0 := (cell_of_block h7 0).trans rfl
    have t1 := (cell_of_block h7 1).trans rfl
    have t2 := (cell_of_block h7 2).trans rfl
    have y0 := (cell_of_block INV8.out.bs 0).trans rfl
    have y1 := (cell_of_block INV8.out.bs 1).trans rfl
    have y2 := (cell_of_block INV8.out.bs 2).trans rfl
    rw [← hw8] at t0 t1 t2 y0 y1 y2
    rw [← hs7] at t0 t1 t2
    have HX8 : Hid (w7.alloc (.cells #[.int .i64 mx, .string D, .slice a7 n c7] 46) = w8 ∧ w7.heap.size = s7) := ⟨hw8, hs7⟩
    have hRR : (R != R) = false := by cases R <;> rfl
    clear hw8 hs7 hb78 hb7 h6b INV7 hw7 HV7
    go_wp2_with fail
    rw [HX8.out.1, HX8.out.2]
    clear t0 t1 t2 y0 y1 y2
    refine Q8.mono ?_
    rintro e w9 ⟨rfl, hb9⟩
    have INV9 : Hid (Inv8 w B z s4 #[.slice fa nf fc, .slice ga ng gc, .bool M.mem, .int .i64 M.pages, .int .i64 M.most, .int .i64 M.start] #[.int .i64 mx, .string D, .slice a5 n c5] a5 L w9) := INV8.out.up hb9
    have h7b := (hb9.block s7 (lt_of_block h7)).trans h7
    have h6d := (hb9.block m6 (lt_of_block h6c)).trans h6c
    have HW9 : Hid (WdsB w6.heap.size w9 a7 L) := HW8.out.below hb9
    have HV9 : Hid (Below w5.heap.size w5 w9) := bel_step HV8.out hb9
    clear Q8 hb9 h7 h6c INV8 HW8 HV8
    go_wp2_with fail
    have KX : ∀ w', Keeps w9 w' → w'.heap[z]? = some (.cells #[.slice fa nf fc, .slice ga ng gc, .bool M.mem, .int .i64 M.pages, .int .i64 M.most, .int .i64 M.start] 25 (0, 0)) := fun w' h => (h.below.block z (lt_of_block INV9.out.bz)).trans INV9.out.bz
    have KU : ∀ w', Keeps w9 w' → w'.heap[m6]? = some (.cells #[.slice fa6 nf fc6, .slice ga6 ng gc6, .bool M.mem, .int .i64 M.pages, .int .i64 M.most, .int .i64 M.start] 32 (0, 0)) := fun w' h => (h.below.block m6 (lt_of_block h6d)).trans h6d
    refine wh_begin (Keeps w9) (by kernel_rfl) ?_
    have hS0 : Keeps w9 w9.drew := Keeps.drew w9
    refine wh_take 0 (some 41) (.agg #[.slice fa6 nf fc6, .slice ga6 ng gc6, .bool M.mem, .int .i64 M.pages, .int .i64 M.most, .int .i64 M.start]) rfl rfl (by kernel_rfl) (by kernel_rfl) (by kernel_rfl) (fun _ _ _ h => h) hS0 (by rfl) (fun w' hS => by have hq := KU _ hS; have q0 := (cell_of_block hq 0).trans rfl; have q1 := (cell_of_block hq 1).trans rfl; have q2 := (cell_of_block hq 2).trans rfl; have q3 := (cell_of_block hq 3).trans rfl; have q4 := (cell_of_block hq 4).trans rfl; have q5 := (cell_of_block hq 5).trans rfl; clear hq; go_simp) ?_
    simp only [Act.put, List.setIfInBounds_toArray, List.set_cons_zero, List.set_cons_succ]
    refine wh_take 1 (some 42) (.agg #[.slice fa nf fc, .slice ga ng gc, .bool M.mem, .int .i64 M.pages, .int .i64 M.most, .int .i64 M.start]) rfl rfl (by kernel_rfl) (by kernel_rfl) (by kernel_rfl) (fun _ _ _ h => h) hS0 (by rfl) (fun w' hS => by have hq := KX _ hS; have q0 := (cell_of_block hq 0).trans rfl; have q1 := (cell_of_block hq 1).trans rfl; have q2 := (cell_of_block hq 2).trans rfl; have q3 := (cell_of_block hq 3).trans rfl; have q4 := (cell_of_block hq 4).trans rfl; have q5 := (cell_of_block hq 5).trans rfl; clear hq; go_simp) ?_
    simp only [Act.put, List.setIfInBounds_toArray, List.set_cons_zero, List.set_cons_succ]
    refine wh_call 2 (some 43) 11 #[.agg #[.slice fa nf fc, .slice ga ng gc, .bool M.mem, .int .i64 M.pages, .int .i64 M.most, .int .i64 M.start]] (by kernel_rfl) rfl rfl (by rfl) (by kernel_rfl) ?_
    refine (T.out hs.out _ (bel_step INV9.out.bel hS0.below)).mono ?_
    rintro e wb ⟨⟨fab, fcb, gab, gcb⟩, rfl, hAb, hbb⟩
    have hSb : Keeps w9 wb := hS0.step hbb
    refine ⟨_, rfl, hSb, ?_⟩
    have Eb := eqMod ⟨fa6, fc6, ga6, gc6⟩ ⟨fab, fcb, gab, gcb⟩ M wb ((hA6.out.mod.below HV9.out).below hSb.below) hAb.out.mod hs
    rw [MV.out, MV.out] at Eb
    rw [MV.out]
    simp only [Act.put, List.setIfInBounds_toArray, List.set_cons_zero, List.set_cons_succ]
    refine wh_call 3 (some 44) 13 #[.agg #[.slice fa6 nf fc6, .slice ga6 ng gc6, .bool M.mem, .int .i64 M.pages, .int .i64 M.most, .int .i64 M.start], .agg #[.slice fab nf fcb, .slice gab ng gcb, .bool M.mem, .int .i64 M.pages, .int .i64 M.most, .int .i64 M.start]] (by kernel_rfl) rfl rfl (by rfl) (by kernel_rfl) ?_
    refine Eb.mono ?_
    rintro e w11 ⟨rfl, hbc⟩
    have hSc : Keeps w9 w11 := hSb.step hbc
    refine ⟨_, rfl, hSc, ?_⟩
    simp only [Act.put, List.setIfInBounds_toArray, List.set_cons_zero, List.set_cons_succ]
    refine wh_val 4 (some 45) (.bool false) w11 (by kernel_rfl) rfl rfl (by rfl) (by rfl) hSc ?_
    simp only [Act.put, List.setIfInBounds_toArray, List.set_cons_zero, List.set_cons_succ]
    refine wh_done (by kernel_rfl) ?_
    have INV11 : Hid (Inv8 w B z s4 #[.slice fa nf fc, .slice ga ng gc, .bool M.mem, .int .i64 M.pages, .int .i64 M.most, .int .i64 M.start] #[.int .i64 mx, .string D, .slice a5 n c5] a5 L w11) := INV9.out.up hSc.below
    have h6e := KU _ hSc
    have h7c := (hSc.below.block s7 (lt_of_block h7b)).trans h7b
    have HW11 : Hid (WdsB w6.heap.size w11 a7 L) := HW9.out.below hSc.below
    have HV11 : Hid (Below w5.heap.size w5 w11) := bel_step HV9.out hSc.below
    have MK := markModB B ⟨fa6, fc6, ga6, gc6⟩ M w5 w11 hA6 HV11 hs
    rw [HNN.out.1, HNN.out.2] at MK
    simp only at MK
    have v0 := (cell_of_block h6e 0).trans rfl
    have v1 := (cell_of_block h6e 1).trans rfl
    have v2 := (cell_of_block h6e 2).trans rfl
    have v3 := (cell_of_block h6e 3).trans rfl
    have v4 := (cell_of_block h6e 4).trans rfl
    have v5 := (cell_of_block h6e 5).trans rfl
    clear Eb hSb hAb hbb hbc hS0 hSc KX KU INV9 HW9 HV9 h7b h6d
    go_wp2_with fail
    refine MK.mono ?_
    rintro e w12 ⟨k, wm, rfl, hk, hbm, hcm⟩
    have INVm := INV11.out.up hbm
    have INV12 : Hid (Inv8 w B z s4 #[.slice fa nf fc, .slice ga ng gc, .bool M.mem, .int .i64 M.pages, .int .i64 M.most, .int .i64 M.start] #[.int .i64 mx, .string D, .slice a5 n c5] a5 L w12) := INVm.low (hcm.below (fun k hk => hk.1))
    have hm6 : m6 ≤ s7 ∧ w5.heap.size ≤ w6.heap.size := by have h1 := HS7.out.1; have h2 := HW6.out.2.2.size; have h3 := HW6.out.2.1; omega
    have h7d := (hcm.same s7 (fun hh => by have h1 := HS7.out.1; omega)).trans ((hbm.block s7 (lt_of_block h7c)).trans h7c)
    have HW12 : Hid (WdsB w6.heap.size w12 a7 L) := (HW11.out.below hbm).chg hcm (fun k hk => by omega)
    have Q12 := Q.out hnL a7 a5 c7 c5 w12 HW12.out.1 INV12.out.wd
    have hk0 : ¬ k < 0 := by omega
    have hk1 : decide (k < 0) = false := by simpa using hk0
    have t0 := (cell_of_block h7d 0).trans rfl
    have t1 := (cell_of_block h7d 1).trans rfl
    have t2 := (cell_of_block h7d 2).trans rfl
    have y0 := (cell_of_block INV12.out.bs 0).trans rfl
    have y1 := (cell_of_block INV12.out.bs 1).trans rfl
    have y2 := (cell_of_block INV12.out.bs 2).trans rfl
    clear MK hbm hcm INVm v0 v1 v2 v3 v4 v5 h6e h7c INV11 HW11 HV11 hm6
    go_wp2_with fail
    refine Q12.mono ?_
    rintro e w13 ⟨rfl, hb13⟩
    have INV13 : Hid (Inv8 w B z s4 #[.slice fa nf fc, .slice ga ng gc, .bool M.mem, .int .i64 M.pages, .int .i64 M.most, .int .i64 M.start] #[.int .i64 mx, .string D, .slice a5 n c5] a5 L w13) := INV12.out.up hb13
    have h7e := (hb13.block s7 (lt_of_block h7d)).trans h7d
    have HW13 : Hid (WdsB w6.heap.size w13 a7 L) := HW12.out.below hb13
    have hrow : RowB w13 86 2 a7 n := by have h := HW13.out.2.1; rw [HNL.out] at h; exact h
    have MS := markSt mx D a7 n c7 w13 hrow hnL
    clear Q12 hb13 t0 t1 t2 y0 y1 y2 h7d INV12 HW12 hrow
    have t0 := (cell_of_block h7e 0).trans rfl
    have t1 := (cell_of_block h7e 1).trans rfl
    have t2 := (cell_of_block h7e 2).trans rfl
    go_wp2_with fail
    refine MS.mono ?_
    rintro e w14 ⟨ws, rfl, hbs, hcs, hmk⟩
    have hlow : ∀ k, (0 < n ∧ a7 = some ⟨k, 0, none⟩) → w6.heap.size ≤ k := fun k hk => HW13.out.2.2 k (by rw [HNL.out]; exact hk.1) hk.2
    have hB6 : B ≤ w6.heap.size := by
      obtain ⟨g, zz, _, _, hg, _, ⟨arr, hg2, _⟩, _⟩ := hA6.out
      have h1 := lt_of_block hg2
      have h2 := HW6.out.2.2.size
      omega
    have INV14 : Hid (Inv8 w B z s4 #[.slice fa nf fc, .slice ga ng gc, .bool M.mem, .int .i64 M.pages, .int .i64 M.most, .int .i64 M.start] #[.int .i64 mx, .string D, .slice a5 n c5] a5 L w14) := (INV13.out.up hbs).low (hcs.below (fun k hk => Nat.le_trans hB6 (hlow k hk)))
    have h7f := (hcs.same s7 (fun hh => by have := HS7.out.2 s7 hh.1 hh.2; omega)).trans ((hbs.block s7 (lt_of_block h7e)).trans h7e)
    have HMK : Hid (MarkedW w14 a7 n) := hmk
    have HL1 := heldSt mx D a7 n c7 w14 HMK hnL
    clear MS hbs hcs hmk hlow t0 t1 t2 h7e INV13 HW13
    have t0 := (cell_of_block h7f 0).trans rfl
    have t1 := (cell_of_block h7f 1).trans rfl
    have t2 := (cell_of_block h7f 2).trans rfl
    go_wp2_with fail
    refine HL1.mono ?_
    rintro e w15 ⟨rfl, hb15⟩
    have INV15 : Hid (Inv8 w B z s4 #[.slice fa nf fc, .slice ga ng gc, .bool M.mem, .int .i64 M.pages, .int .i64 M.most, .int .i64 M.start] #[.int .i64 mx, .string D, .slice a5 n c5] a5 L w15) := INV14.out.up hb15
    have h7g := (hb15.block s7 (lt_of_block h7f)).trans h7f
    have HMK15 : Hid (MarkedW w15 a7 n) := HMK.out.below hb15
    clear HL1 hb15 t0 t1 t2 h7f INV14 HMK
    have x0 := (cell_of_block INV15.out.bz 0).trans rfl
    have x1 := (cell_of_block INV15.out.bz 1).trans rfl
    have x2 := (cell_of_block INV15.out.bz 2).trans rfl
    have x3 := (cell_of_block INV15.out.bz 3).trans rfl
    have x4 := (cell_of_block INV15.out.bz 4).trans rfl
    have x5 := (cell_of_block INV15.out.bz 5).trans rfl
    go_wp2_with fail
    refine (T.out hs.out w15 INV15.out.bel).mono ?_
    rintro e w16 ⟨⟨fah, fch, gah, gch⟩, rfl, hAh, hb16⟩
    have I16 := I.out hs.out ⟨fah, fch, gah, gch⟩ w16 hAh.out.mod
    rw [MV.out] at I16 ⊢
    simp only at I16 ⊢
    have INV16 : Hid (Inv8 w B z s4 #[.slice fa nf fc, .slice ga ng gc, .bool M.mem, .int .i64 M.pages, .int .i64 M.most, .int .i64 M.start] #[.int .i64 mx, .string D, .slice a5 n c5] a5 L w16) := INV15.out.up hb16
    have h7h := (hb16.block s7 (lt_of_block h7g)).trans h7g
    have HMK16 : Hid (MarkedW w16 a7 n) := HMK15.out.below hb16
    clear hb16 x0 x1 x2 x3 x4 x5 h7g INV15 HMK15 hAh
    go_wp2_with fail
    refine I16.mono ?_
    rintro e w17 ⟨ai, ci, rfl, hwi, hb17⟩
    have INV17 : Hid (Inv8 w B z s4 #[.slice fa nf fc, .slice ga ng gc, .bool M.mem, .int .i64 M.pages, .int .i64 M.most, .int .i64 M.start] #[.int .i64 mx, .string D, .slice a5 n c5] a5 L w17) := INV16.out.up hb17
    have h7i := (hb17.block s7 (lt_of_block h7h)).trans h7h
    have HMK17 : Hid (MarkedW w17 a7 n) := HMK16.out.below hb17
    clear I16 hb17 h7h INV16 HMK16
    obtain ⟨w18, hw18⟩ : ∃ W, w17.alloc (.cells #[.int .i64 mx, .string D, .slice ai n ci] 46) = W := ⟨_, rfl⟩
    have hb18 : Below w17.heap.size w17 w18 := by rw [← hw18]; exact (Below.refl _ _).alloc (Nat.le_refl _) _
    have INV18 : Hid (Inv8 w B z s4 #[.slice fa nf fc, .slice ga ng gc, .bool M.mem, .int .i64 M.pages, .int .i64 M.most, .int .i64 M.start] #[.int .i64 mx, .string D, .slice a5 n c5] a5 L w18) := INV17.out.up hb18
    have h7j := (hb18.block s7 (lt_of_block h7i)).trans h7i
    have HMK18 : Hid (MarkedW w18 a7 n) := HMK17.out.below hb18
    have Q18 := Q.out hnL ai a5 ci c5 w18 (hwi.out.1.below hb18) INV18.out.wd
    have y0 := (cell_of_block INV18.out.bs 0).trans rfl
    have y1 := (cell_of_block INV18.out.bs 1).trans rfl
    have y2 := (cell_of_block INV18.out.bs 2).trans rfl
    rw [← hw18] at y0 y1 y2
    have HX18 : Hid (w17.alloc (.cells #[.int .i64 mx, .string D, .slice ai n ci] 46) = w18) := hw18
    clear hw18 hb18 h7i INV17 HMK17 hwi
    go_wp2_with fail
    rw [HX18.out]
    clear y0 y1 y2
    refine Q18.mono ?_
    rintro e w19 ⟨rfl, hb19⟩
    have h7k := (hb19.block s7 (lt_of_block h7j)).trans h7j
    have INV19 : Hid (Inv8 w B z s4 #[.slice fa nf fc, .slice ga ng gc, .bool M.mem, .int .i64 M.pages, .int .i64 M.most, .int .i64 M.start] #[.int .i64 mx, .string D, .slice a5 n c5] a5 L w19) := INV18.out.up hb19
    have HL2 := heldSt mx D a7 n c7 w19 (HMK18.out.below hb19) hnL
    clear Q18 hb19 h7j INV18 HMK18
    have t0 := (cell_of_block h7k 0).trans rfl
    have t1 := (cell_of_block h7k 1).trans rfl
    have t2 := (cell_of_block h7k 2).trans rfl
    go_wp2_with fail
    refine HL2.mono ?_
    rintro e w20 ⟨rfl, hb20⟩
    have HB20 : Hid (Below w.heap.size w w20) := bel_step INV19.out.bel hb20
    clear HL2 hb20 t0 t1 t2 h7k INV19
    go_wp2
    go_ret
    exact ⟨rfl, HB20.out⟩

end Go.Proofs.Ytbliopgdkphoaaa
