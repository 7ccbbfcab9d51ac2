/-
  Good states: both sides.
-/
import Derived.Test.YtdcfflmfimepfaaGreatJA12
import Derived.Test.YtdcfflmfimepfaaGreatKA13
import Derived.Test.YtdcfflmfimepfaaGreatJA10
import Derived.Test.YtdcfflmfimepfaaGreatSB1
import Derived.Test.YtdcfflmfimepfaaGreatJA3
import Derived.Test.YtdcfflmfimepfaaGreatJA11
import Derived.Test.YtdcfflmfimepfaaGreatKA2
namespace Go.Proofs.YtdcfflmfimepfaaGreat
open Go.ChangeShapes Go.WideShapes Go.ChangeAt Go.RowKit

def fitWd (x : Wd8) (g : Glo7) : Bool := decide (x.ty = g.ty) && goodWd x
def okW (x : Wd8) : Prop := 0 ≤ x.bits ∧ x.bits ≤ 18446744073709551615
/-- Words and globals side by side, up to k. -/
def fitUp (L : List Wd8) (G : List Glo7) (k : Nat) : Prop := ∀ j (h : j < L.length) (h' : j < G.length), j < k → fitWd L[j] G[j] = true
def fitAll (L : List Wd8) (G : List Glo7) : Bool := decide (L.length = G.length) && (List.zip L G).all fun p => fitWd p.1 p.2
theorem fitAll_yes {L : List Wd8} {G : List Glo7} (hl : L.length = G.length) (h : fitUp L G L.length) : fitAll L G = true := by
  unfold fitAll
  simp only [hl, decide_true, Bool.true_and, List.all_eq_true]
  intro p hp
  obtain ⟨j, hj, rfl⟩ := List.getElem_of_mem hp
  rw [List.length_zip] at hj
  have h1 : j < L.length := by omega
  have := h j h1 (by omega) h1
  simpa using this
theorem fitAll_no {L : List Wd8} {G : List Glo7} (j : Nat) (h : j < L.length) (h' : j < G.length) (hn : fitWd L[j] G[j] = false) : fitAll L G = false := by
  unfold fitAll
  rw [Bool.and_eq_false_iff]
  right
  rw [List.all_eq_false]
  refine ⟨(L[j], G[j]), ?_, by simp [hn]⟩
  have h2 : j < (List.zip L G).length := by rw [List.length_zip]; omega
  have e : (List.zip L G)[j] = (L[j], G[j]) := by simp
  rw [← e]
  exact List.getElem_mem h2
theorem fitAll_len {L : List Wd8} {G : List Glo7} (h : L.length ≠ G.length) : fitAll L G = false := by unfold fitAll; simp [h]
theorem fitUp_more {L : List Wd8} {G : List Glo7} {k : Nat} (h : fitUp L G k) (hk : k < L.length) (hk' : k < G.length) (hf : fitWd L[k] G[k] = true) : fitUp L G (k + 1) := fun j h1 h2 hj => by
  by_cases e : j = k
  · subst e; exact hf
  · exact h j h1 h2 (by omega)

set_option maxRecDepth 100000 in
set_option maxHeartbeats 1600000 in
theorem implIsWord (ty bits t : Int) (h0 : 0 ≤ bits) (h1 : bits ≤ 18446744073709551615) (w : World) :
    Calls Tryz.prog 67 #[.agg #[.int .i64 ty, .int .u64 bits], .int .i64 t] w fun e w' => e = .returned (.bool (decide (ty = t) && goodWd ⟨ty, bits⟩)) ∧ Below w.heap.size w w' := by
  have I := implWd ty bits h0 h1
  obtain ⟨R, hR⟩ : ∃ R, goodWd ⟨ty, bits⟩ = R := ⟨_, rfl⟩
  rw [hR] at I ⊢
  clear hR h0 h1
  by_cases e : ty = t
  · subst e
    go_enter Tryz.func67, Tryz.ntmps67
    go_wp2_with fail
    refine (I _).mono ?_
    rintro e w1 ⟨rfl, hb1⟩
    have HB : Hid (Below w.heap.size w w1) := bel_step ((Below.refl _ _).alloc (Nat.le_refl _) _) hb1
    clear hb1 I
    go_wp2
    go_ret
    exact ⟨by simp, HB.out⟩
  · have e1 : (ty == t) = false := by simpa using e
    have HD : Hid (decide (ty = t) = false) := by unfold Hid; simpa using e
    clear e I
    go_enter Tryz.func67, Tryz.ntmps67
    go_wp2
    go_ret
    exact ⟨by rw [HD.out]; rfl, (Below.refl _ _).alloc (Nat.le_refl _) _⟩

set_option maxRecDepth 100000 in
set_option maxHeartbeats 1600000 in
theorem implIsWordOf (ty bits t b : Int) (fx : Bool) (h0 : 0 ≤ bits) (h1 : bits ≤ 18446744073709551615) (w : World) :
    Calls Tryz.prog 45 #[.agg #[.int .i64 ty, .int .u64 bits], .agg #[.int .i64 t, .bool fx, .int .u64 b]] w fun e w' => e = .returned (.bool (fitWd ⟨ty, bits⟩ ⟨t, fx, b⟩)) ∧ Below w.heap.size w w' := by
  have I := implIsWord ty bits t h0 h1
  obtain ⟨R, hR⟩ : ∃ R, (decide (ty = t) && goodWd ⟨ty, bits⟩) = R := ⟨_, rfl⟩
  have hR2 : fitWd ⟨ty, bits⟩ ⟨t, fx, b⟩ = R := hR
  rw [hR2]
  rw [hR] at I
  clear hR hR2 h0 h1
  go_enter Tryz.func45, Tryz.ntmps45
  go_wp2_with fail
  refine (I _).mono ?_
  rintro e w1 ⟨rfl, hb1⟩
  have HB : Hid (Below w.heap.size w w1) := bel_step (((Below.refl _ _).alloc (Nat.le_refl _) _).alloc (by simp) _) hb1
  clear hb1 I
  go_wp2
  go_ret
  exact ⟨rfl, HB.out⟩

set_option maxRecDepth 100000 in
set_option maxHeartbeats 1600000 in
theorem equalWds (a g : Option Addr) (ac gc : Nat) (L : List Wd8) (G : List Glo7) (w : World) (hL : Hid (Wds w a L)) (hG : Hid (Glos w g G)) (hok : Hid (∀ x ∈ L, okW x)) (hlen : L.length ≤ 1048576) (hlen2 : G.length ≤ 1048576) :
    Calls Tryz.prog 44 #[.slice a L.length ac, .slice g G.length gc, .func (.func 45) #[] #[]] w fun e w' => e = .returned (.bool (fitAll L G)) ∧ Below w.heap.size w w' := by
  have ef : ∀ args w, (callFunc 45 args).run Tryz.prog w = .ok (.enter 45 args) w := fun _ _ => rfl
  obtain ⟨n, hn⟩ : ∃ n, L.length = n := ⟨_, rfl⟩
  obtain ⟨m, hm⟩ : ∃ m, G.length = m := ⟨_, rfl⟩
  rw [hn, hm]
  have HN : Hid (L.length = n ∧ G.length = m) := ⟨hn, hm⟩
  have hn2 : n ≤ 1048576 := by omega
  have hm2 : m ≤ 1048576 := by omega
  clear hn hm hlen hlen2
  by_cases hnm : n = m
  · subst hnm
    go_enter Tryz.func44, Tryz.ntmps44
    go_wp2
    go_loopw [17] (fun i wr => ∃ (k : Nat), k ≤ n ∧ i = .int .i64 k ∧ Hid (fitUp L G k) ∧ Below w.heap.size w wr) (fun i _ => n - (intOf i).toNat)
    case atStart => exact ⟨0, by omega, rfl, fun j _ _ h => absurd h (by omega), Below.refl _ _⟩
    case round =>
      obtain ⟨k, hk, rfl, hF, hnx⟩ := hrel
      by_cases hlt : k < n
      · have hkL : k < L.length := by have := HN.out.1; omega
        have hkG : k < G.length := by have := HN.out.2; omega
        obtain ⟨b, off, rfl, hb, hc⟩ := hL.out.at k hkL
        obtain ⟨b', off', rfl, hb', hd⟩ := hG.out.at k hkG
        have hx0 := hok.out _ (List.getElem_mem hkL)
        have hyes := fun h => fitUp_more hF.out hkL hkG h
        have hno := fun h => fitAll_no (L := L) (G := G) k hkL hkG h
        obtain ⟨x, hx⟩ : ∃ x, x = L[k] := ⟨_, rfl⟩
        obtain ⟨y, hy⟩ : ∃ y, y = G[k] := ⟨_, rfl⟩
        rw [← hx] at hc hx0 hyes hno
        rw [← hy] at hd hyes hno
        obtain ⟨ty, bits⟩ := x
        obtain ⟨t, fx, bb⟩ := y
        clear hx hy
        obtain ⟨c0, c1⟩ := hc
        obtain ⟨e0, e1, e2⟩ := hd
        simp only at c0 c1 e0 e1 e2
        have hc0 : wr.cell? ⟨b, off + k * 2, none⟩ = some (.int .i64 ty) := (hnx.cell (by exact hb)).trans c0
        have hc1 : wr.cell? ⟨b, off + k * 2 + 1, none⟩ = some (.int .u64 bits) := (hnx.cell (by exact hb)).trans c1
        have hd0 : ∀ o, ((wr.alloc o).cell? ⟨b', off' + k * 3, none⟩) = some (.int .i64 t) := fun o => pastCell (Nat.lt_of_lt_of_le hb' hnx.size) ((hnx.cell (by exact hb')).trans e0)
        have hd1 : ∀ o, ((wr.alloc o).cell? ⟨b', off' + k * 3 + 1, none⟩) = some (.bool fx) := fun o => pastCell (Nat.lt_of_lt_of_le hb' hnx.size) ((hnx.cell (by exact hb')).trans e1)
        have hd2 : ∀ o, ((wr.alloc o).cell? ⟨b', off' + k * 3 + 2, none⟩) = some (.int .u64 bb) := fun o => pastCell (Nat.lt_of_lt_of_le hb' hnx.size) ((hnx.cell (by exact hb')).trans e2)
        have T := implIsWordOf ty bits t bb fx hx0.1 hx0.2
        obtain ⟨R, hR⟩ : ∃ R, fitWd ⟨ty, bits⟩ ⟨t, fx, bb⟩ = R := ⟨_, rfl⟩
        rw [hR] at T hyes hno
        have HY : Hid (R = true → fitUp L G (k + 1)) := hyes
        have HX : Hid (R = false → fitAll L G = false) := hno
        have HB0 : Hid (∀ o o', Below w.heap.size w ((wr.alloc o).alloc o')) := fun o o' => (hnx.alloc hnx.size o).alloc (by have := hnx.size; simp; omega) o'
        clear hR hyes hno hx0 c0 c1 e0 e1 e2
        go_wp2_with fail
        refine (T _).mono ?_
        rintro e w1 ⟨rfl, hb1⟩
        have HB : Hid (Below w.heap.size w w1) := bel_step (HB0.out _ _) hb1
        clear hb1 T hc0 hc1 hd0 hd1 hd2 HB0
        cases R
        · have HXX : Hid (fitAll L G = false) := HX.out rfl
          clear HX HY
          go_wp2
          go_ret
          exact ⟨by rw [HXX.out]; rfl, HB.out⟩
        · have HF2 : Hid (fitUp L G (k + 1)) := HY.out rfl
          go_wp2
          go_roundw
          case rel => exact ⟨k + 1, by omega, by go_num, HF2, HB.out⟩
          case measure => simp [intOf]; omega
      · have HR : Hid (fitAll L G = true) := fitAll_yes (by have := HN.out; omega) (by have h1 := hF.out; have : k = L.length := by have := HN.out; omega
                                                                                       rw [← this]; exact h1)
        go_wp2
        go_ret
        exact ⟨by rw [HR.out]; rfl, hnx⟩
  · have HR : Hid (fitAll L G = false) := fitAll_len (by have := HN.out; omega)
    have e : ((n : Int) != (m : Int)) = true := by simp; omega
    go_enter Tryz.func44, Tryz.ntmps44
    go_wp2
    go_ret
    exact ⟨by rw [HR.out]; rfl, Below.refl _ _⟩

end Go.Proofs.YtdcfflmfimepfaaGreat

namespace Go.Proofs.YtdcfflmfimepfaaGreat
open Go.ChangeShapes Go.WideShapes Go.ChangeAt Go.RowKit

def goodSt (M : Mod7) (mx : Int) (D : ByteArray) (L : List Wd8) : Bool := shape M && (good mx D && (decide (mx = M.most) && fitAll L M.gs))

set_option maxRecDepth 100000 in
set_option maxHeartbeats 1600000 in
theorem implState (l : Loc7) (M : Mod7) (mx : Int) (D : ByteArray) (wa : Option Addr) (wc : Nat) (L : List Wd8) (w : World) (hM : Hid (ModAt w l M)) (hs : Hid (smM M)) (hD : D.size ≤ 1048576) (hL : Hid (Wds w wa L)) (hok : Hid (∀ x ∈ L, okW x)) (hlen : L.length ≤ 1048576) :
    Calls Tryz.prog 22 #[.agg #[.slice l.fa M.fs.length l.fc, .slice l.ga M.gs.length l.gc, .bool M.mem, .int .i64 M.pages, .int .i64 M.most, .int .i64 M.start], .agg #[.int .i64 mx, .string D, .slice wa L.length wc]] w fun e w' => e = .returned (.bool (goodSt M mx D L)) ∧ Below w.heap.size w w' := by
  obtain ⟨W, hW⟩ : ∃ W, (w.alloc (.cells #[.slice l.fa M.fs.length l.fc, .slice l.ga M.gs.length l.gc, .bool M.mem, .int .i64 M.pages, .int .i64 M.most, .int .i64 M.start] 38)).alloc (.cells #[.int .i64 mx, .string D, .slice wa L.length wc] 42) = W := ⟨_, rfl⟩
  obtain ⟨z, hz⟩ : ∃ z, w.heap.size = z := ⟨_, rfl⟩
  have hbW : Below w.heap.size w W := by rw [← hW]; exact ((Below.refl _ _).alloc (Nat.le_refl _) _).alloc (by simp) _
  have hx : W.heap[z]? = some (.cells #[.slice l.fa M.fs.length l.fc, .slice l.ga M.gs.length l.gc, .bool M.mem, .int .i64 M.pages, .int .i64 M.most, .int .i64 M.start] 38 (0, 0)) := by rw [← hW, ← hz]; exact (Below.heap_alloc _ _ _ (by simp)).trans (heap_alloc_new _ _)
  have hy : W.heap[z + 1]? = some (.cells #[.int .i64 mx, .string D, .slice wa L.length wc] 42 (0, 0)) := by
    rw [← hW, ← hz]
    have h := heap_alloc_new (w.alloc (.cells #[.slice l.fa M.fs.length l.fc, .slice l.ga M.gs.length l.gc, .bool M.mem, .int .i64 M.pages, .int .i64 M.most, .int .i64 M.start] 38)) (.cells #[.int .i64 mx, .string D, .slice wa L.length wc] 42)
    simpa using h
  have HW : Hid ((w.alloc (.cells #[.slice l.fa M.fs.length l.fc, .slice l.ga M.gs.length l.gc, .bool M.mem, .int .i64 M.pages, .int .i64 M.most, .int .i64 M.start] 38)).alloc (.cells #[.int .i64 mx, .string D, .slice wa L.length wc] 42) = W ∧ w.heap.size = z) := ⟨hW, hz⟩
  have HB : Hid (Below w.heap.size w W) := hbW
  have HX : Hid (W.heap[z]? = some (.cells #[.slice l.fa M.fs.length l.fc, .slice l.ga M.gs.length l.gc, .bool M.mem, .int .i64 M.pages, .int .i64 M.most, .int .i64 M.start] 38 (0, 0)) ∧ W.heap[z + 1]? = some (.cells #[.int .i64 mx, .string D, .slice wa L.length wc] 42 (0, 0))) := ⟨hx, hy⟩
  have T2 := implShape l M W (hM.out.below hbW) hs
  obtain ⟨sh, hsh⟩ : ∃ x, shape M = x := ⟨_, rfl⟩
  obtain ⟨gd, hgd⟩ : ∃ x, good mx D = x := ⟨_, rfl⟩
  obtain ⟨ft, hft⟩ : ∃ x, fitAll L M.gs = x := ⟨_, rfl⟩
  have HR : Hid (goodSt M mx D L = (sh && (gd && (decide (mx = M.most) && ft)))) := by unfold Hid goodSt; rw [hsh, hgd, hft]
  have G := mGoodI mx D hD
  have Q : Hid (∀ w', Below w.heap.size w w' → Calls Tryz.prog 44 #[.slice wa L.length wc, .slice l.ga M.gs.length l.gc, .func (.func 45) #[] #[]] w' fun e w'' => e = .returned (.bool ft) ∧ Below w'.heap.size w' w'') := fun w' hb => by
    rw [← hft]; exact equalWds wa l.ga wc l.gc L M.gs w' (hL.out.below hb) (hM.out.2.below hb) hok hlen (hs.out.2.1)
  rw [hsh] at T2
  rw [hgd] at G
  clear hW hz hbW hx hy hsh hgd hft hM hs hD hL hok hlen
  go_enter Tryz.func22, Tryz.ntmps22
  go_wp2_with fail
  rw [HW.out.2, HW.out.1]
  refine T2.mono ?_
  rintro e w2 ⟨rfl, hb2⟩
  have HB2 : Hid (Below w.heap.size w w2) := bel_step HB.out hb2
  have hx2 := (hb2.block z (lt_of_block HX.out.1)).trans HX.out.1
  have hy2 := (hb2.block (z + 1) (lt_of_block HX.out.2)).trans HX.out.2
  clear T2 hb2
  cases sh
  · clear hx2 hy2 G Q
    go_wp2
    go_ret
    exact ⟨by rw [HR.out]; rfl, HB2.out⟩
  · have y0 : w2.cell? ⟨z + 1, 0, none⟩ = some (.int .i64 mx) := (cell_of_block hy2 0).trans rfl
    have y1 : w2.cell? ⟨z + 1, 1, none⟩ = some (.string D) := (cell_of_block hy2 1).trans rfl
    go_wp2_with fail
    refine (G _).mono ?_
    rintro e w3 ⟨rfl, hb3⟩
    have HB3 : Hid (Below w.heap.size w w3) := bel_step HB2.out hb3
    have hx3 := (hb3.block z (lt_of_block hx2)).trans hx2
    have hy3 := (hb3.block (z + 1) (lt_of_block hy2)).trans hy2
    clear G hb3 hx2 hy2 y0 y1
    cases gd
    · clear hx3 hy3 Q
      go_wp2
      go_ret
      exact ⟨by rw [HR.out]; rfl, HB3.out⟩
    · have y0 : w3.cell? ⟨z + 1, 0, none⟩ = some (.int .i64 mx) := (cell_of_block hy3 0).trans rfl
      have y2 : w3.cell? ⟨z + 1, 2, none⟩ = some (.slice wa L.length wc) := (cell_of_block hy3 2).trans rfl
      have x4 : w3.cell? ⟨z, 4, none⟩ = some (.int .i64 M.most) := (cell_of_block hx3 4).trans rfl
      have x1 : w3.cell? ⟨z, 1, none⟩ = some (.slice l.ga M.gs.length l.gc) := (cell_of_block hx3 1).trans rfl
      by_cases em : mx = M.most
      · have e1 : (mx == M.most) = true := by simpa using em
        have HD : Hid (decide (mx = M.most) = true) := by unfold Hid; simpa using em
        clear em hx3 hy3
        go_wp2_with fail
        refine (Q.out _ HB3.out).mono ?_
        rintro e w4 ⟨rfl, hb4⟩
        have HB4 : Hid (Below w.heap.size w w4) := bel_step HB3.out hb4
        clear hb4 Q y0 y2 x4 x1
        go_wp2
        go_ret
        exact ⟨by rw [HR.out, HD.out]; simp, HB4.out⟩
      · have e1 : (mx == M.most) = false := by simpa using em
        have HD : Hid (decide (mx = M.most) = false) := by unfold Hid; simpa using em
        clear em hx3 hy3 Q
        go_wp2
        go_ret
        exact ⟨by rw [HR.out, HD.out]; rfl, HB3.out⟩

theorem good_zero {M : Mod7} {mx : Int} {D : ByteArray} (h : shape M = true) (hm : M.mem = false) : (good mx D && decide (mx = M.most)) = (decide (mx = 0) && decide (D.size = 0)) := by
  have hp : M.most = 0 := by
    unfold shape goodP at h
    simp only [Bool.and_eq_true, hm] at h
    have := h.1.2
    simp at this
    exact this.2
  rw [hp]
  by_cases h0 : mx = 0
  · subst h0
    have e : good 0 D = decide (D.size = 0) := by
      unfold good
      simp only [← Bool.decide_and]
      rw [decide_eq_decide]
      omega
    rw [e]
    simp
  · simp [h0]

theorem bl_loop (D : ByteArray) : ∀ (n i : Nat) (r : List UInt8), D.size - i = n → (ByteArray.toList.loop D i r).length = r.length + n
  | 0, i, r, h => by
    unfold ByteArray.toList.loop
    rw [if_neg (by omega), List.length_reverse]; rfl
  | n + 1, i, r, h => by
    unfold ByteArray.toList.loop
    rw [if_pos (by omega), bl_loop D n (i + 1) _ (by omega), List.length_cons]; omega
theorem bl_nil (D : ByteArray) : D.toList = [] ↔ D.size = 0 := by
  rw [← List.length_eq_zero_iff]
  unfold ByteArray.toList
  rw [bl_loop D D.size 0 [] (by omega)]
  simp

set_option maxRecDepth 100000 in
set_option maxHeartbeats 3200000 in
theorem specState (l : Loc7) (M : Mod7) (mx : Int) (D : ByteArray) (wa : Option Addr) (wc : Nat) (L : List Wd8) (w : World) (hM : Hid (ModAt w l M)) (hs : Hid (smM M)) (hD : D.size ≤ 1048576) (hL : Hid (Wds w wa L)) (hlen : L.length ≤ 1048576) :
    Calls Tryz.prog 35 #[.agg #[.slice l.fa M.fs.length l.fc, .slice l.ga M.gs.length l.gc, .bool M.mem, .int .i64 M.pages, .int .i64 M.most, .int .i64 M.start], .agg #[.int .i64 mx, .string D, .slice wa L.length wc]] w fun e w' => e = .returned (.bool (goodSt M mx D L)) ∧ Below w.heap.size w w' := by
  obtain ⟨n, hn⟩ : ∃ n, L.length = n := ⟨_, rfl⟩
  obtain ⟨m, hm⟩ : ∃ m, M.gs.length = m := ⟨_, rfl⟩
  have HNM : Hid (L.length = n ∧ M.gs.length = m) := ⟨hn, hm⟩
  have hn2 : n ≤ 1048576 := by omega
  have hm2 : m ≤ 1048576 := by have := hs.out.2.1; omega
  obtain ⟨W, hW⟩ : ∃ W, (w.alloc (.cells #[.slice l.fa M.fs.length l.fc, .slice l.ga m l.gc, .bool M.mem, .int .i64 M.pages, .int .i64 M.most, .int .i64 M.start] 38)).alloc (.cells #[.int .i64 mx, .string D, .slice wa n wc] 42) = W := ⟨_, rfl⟩
  obtain ⟨z, hz⟩ : ∃ z, w.heap.size = z := ⟨_, rfl⟩
  have hbW : Below w.heap.size w W := by rw [← hW]; exact ((Below.refl _ _).alloc (Nat.le_refl _) _).alloc (by simp) _
  have hx : W.heap[z]? = some (.cells #[.slice l.fa M.fs.length l.fc, .slice l.ga m l.gc, .bool M.mem, .int .i64 M.pages, .int .i64 M.most, .int .i64 M.start] 38 (0, 0)) := by rw [← hW, ← hz]; exact (Below.heap_alloc _ _ _ (by simp)).trans (heap_alloc_new _ _)
  have hy : W.heap[z + 1]? = some (.cells #[.int .i64 mx, .string D, .slice wa n wc] 42 (0, 0)) := by
    rw [← hW, ← hz]
    have h := heap_alloc_new (w.alloc (.cells #[.slice l.fa M.fs.length l.fc, .slice l.ga m l.gc, .bool M.mem, .int .i64 M.pages, .int .i64 M.most, .int .i64 M.start] 38)) (.cells #[.int .i64 mx, .string D, .slice wa n wc] 42)
    simpa using h
  have HW : Hid ((w.alloc (.cells #[.slice l.fa M.fs.length l.fc, .slice l.ga m l.gc, .bool M.mem, .int .i64 M.pages, .int .i64 M.most, .int .i64 M.start] 38)).alloc (.cells #[.int .i64 mx, .string D, .slice wa n wc] 42) = W ∧ w.heap.size = z) := ⟨hW, hz⟩
  have HB : Hid (Below w.heap.size w W) := hbW
  have HX : Hid (W.heap[z]? = some (.cells #[.slice l.fa M.fs.length l.fc, .slice l.ga m l.gc, .bool M.mem, .int .i64 M.pages, .int .i64 M.most, .int .i64 M.start] 38 (0, 0)) ∧ W.heap[z + 1]? = some (.cells #[.int .i64 mx, .string D, .slice wa n wc] 42 (0, 0))) := ⟨hx, hy⟩
  have T2 : Calls Tryz.prog 54 #[.agg #[.slice l.fa M.fs.length l.fc, .slice l.ga m l.gc, .bool M.mem, .int .i64 M.pages, .int .i64 M.most, .int .i64 M.start]] W fun e w' => e = .returned (.bool (shape M)) ∧ Below W.heap.size W w' := by
    have h := specShapeM l M W (hM.out.below hbW) hs
    unfold modV at h
    rw [hm] at h
    exact h
  obtain ⟨sh, hsh⟩ : ∃ x, shape M = x := ⟨_, rfl⟩
  have HSH : Hid (shape M = sh) := hsh
  have G := mGoodS mx D hD
  rw [hsh] at T2
  rw [hn, hm]
  clear hn hm hW hz hbW hx hy hsh hD hlen
  go_enter Tryz.func35, Tryz.ntmps35
  go_wp2_with fail
  rw [HW.out.2, HW.out.1]
  refine T2.mono ?_
  rintro e w2 ⟨rfl, hb2⟩
  have HB2 : Hid (Below w.heap.size w w2) := bel_step HB.out hb2
  have hx2 := (hb2.block z (lt_of_block HX.out.1)).trans HX.out.1
  have hy2 := (hb2.block (z + 1) (lt_of_block HX.out.2)).trans HX.out.2
  clear T2 hb2
  have x1 : w2.cell? ⟨z, 1, none⟩ = some (.slice l.ga m l.gc) := (cell_of_block hx2 1).trans rfl
  have y2 : w2.cell? ⟨z + 1, 2, none⟩ = some (.slice wa n wc) := (cell_of_block hy2 2).trans rfl
  cases sh
  · have HR : Hid (goodSt M mx D L = false) := by unfold Hid goodSt; rw [HSH.out]; rfl
    clear hx2 hy2 G
    go_wp2
    go_ret
    exact ⟨by rw [HR.out]; rfl, HB2.out⟩
  · by_cases hnm : n = m
    · subst hnm
      have HX2 : Hid (w2.heap[z]? = some (.cells #[.slice l.fa M.fs.length l.fc, .slice l.ga n l.gc, .bool M.mem, .int .i64 M.pages, .int .i64 M.most, .int .i64 M.start] 38 (0, 0)) ∧ w2.heap[z + 1]? = some (.cells #[.int .i64 mx, .string D, .slice wa n wc] 42 (0, 0))) := ⟨hx2, hy2⟩
      clear hx2 hy2
      go_wp2
      clear x1 y2
      go_loopw [22] (fun i wr => ∃ (k : Nat), k ≤ n ∧ i = .int .i64 k ∧ Hid (fitUp L M.gs k) ∧ Hid (Below w2.heap.size w2 wr)) (fun i _ => n - (intOf i).toNat)
      case atStart => exact ⟨0, by omega, rfl, fun j _ _ h => absurd h (by omega), Below.refl _ _⟩
      case round =>
        obtain ⟨k, hk, rfl, hF, hnx⟩ := hrel
        by_cases hlt : k < n
        · have hkL : k < L.length := by have := HNM.out.1; omega
          have hkG : k < M.gs.length := by have := HNM.out.2; omega
          obtain ⟨b, off, rfl, hb, hc⟩ := hL.out.at k hkL
          obtain ⟨b', off', hga, hb', hd⟩ := hM.out.2.at k hkG
          have hyes := fun h => fitUp_more hF.out hkL hkG h
          have hno := fun h => fitAll_no (L := L) (G := M.gs) k hkL hkG h
          obtain ⟨x, hx⟩ : ∃ x, x = L[k] := ⟨_, rfl⟩
          obtain ⟨y, hy⟩ : ∃ y, y = M.gs[k] := ⟨_, rfl⟩
          rw [← hx] at hc hyes hno
          rw [← hy] at hd hyes hno
          obtain ⟨ty, bits⟩ := x
          obtain ⟨t, fx, bb⟩ := y
          clear hx hy
          obtain ⟨c0, c1⟩ := hc
          obtain ⟨e0, e1, e2⟩ := hd
          simp only at c0 c1 e0 e1 e2
          have hBr := bel_step HB2.out hnx.out
          have hc0 : wr.cell? ⟨b, off + k * 2, none⟩ = some (.int .i64 ty) := (hBr.cell (by exact hb)).trans c0
          have hc1 : wr.cell? ⟨b, off + k * 2 + 1, none⟩ = some (.int .u64 bits) := (hBr.cell (by exact hb)).trans c1
          have T := l8Wd ty bits
          obtain ⟨R, hR⟩ : ∃ R, goodWd ⟨ty, bits⟩ = R := ⟨_, rfl⟩
          rw [hR] at T
          have HY : Hid (ty = t → R = true → fitUp L M.gs (k + 1)) := fun h1 h2 => hyes (by unfold fitWd; simp only; rw [hR, h2, h1]; simp)
          have HN : Hid (¬ (ty = t ∧ R = true) → fitAll L M.gs = false) := fun h => hno (by unfold fitWd; simp only; rw [hR]; cases R <;> simp_all)
          have hxr := (hnx.out.block z (lt_of_block HX2.out.1)).trans HX2.out.1
          rw [hga] at hxr
          have hgl := lt_of_block hxr
          have hb'r : b' < wr.heap.size := Nat.lt_of_lt_of_le hb' hBr.size
          obtain ⟨A, hA⟩ : ∃ A, wr.alloc (.cells #[.int .i64 ty, .int .u64 bits] 80) = A := ⟨_, rfl⟩
          have hbA : Below wr.heap.size wr A := by rw [← hA]; exact (Below.refl _ _).alloc (Nat.le_refl _) _
          have hnew : A.heap[wr.heap.size]? = some (.cells #[.int .i64 ty, .int .u64 bits] 80 (0, 0)) := by rw [← hA]; exact heap_alloc_new _ _
          have hnl := lt_of_block hnew
          have k0 : ∀ w', Keeps A w' → w'.cell? ⟨wr.heap.size, 0, none⟩ = some (.int .i64 ty) := fun w' h => h.cell hnl ((cell_of_block hnew 0).trans rfl)
          have k1 : ∀ w', Keeps A w' → w'.cell? ⟨wr.heap.size, 1, none⟩ = some (.int .u64 bits) := fun w' h => h.cell hnl ((cell_of_block hnew 1).trans rfl)
          have k2 : ∀ w', Keeps A w' → w'.cell? ⟨z, 1, none⟩ = some (.slice (some ⟨b', off', none⟩) n l.gc) := fun w' h => h.cell (Nat.lt_of_lt_of_le hgl hbA.size) ((hbA.cell (p := ⟨z, 1, none⟩) hgl).trans ((cell_of_block hxr 1).trans rfl))
          have k3 : ∀ w', Keeps A w' → w'.cell? ⟨b', off' + k * 3, none⟩ = some (.int .i64 t) := fun w' h => h.cell (Nat.lt_of_lt_of_le hb'r hbA.size) ((hbA.cell (p := ⟨b', off' + k * 3, none⟩) hb'r).trans ((hBr.cell (p := ⟨b', off' + k * 3, none⟩) hb').trans e0))
          have hkn : (k : Int) < (n : Int) := by omega
          have HA : Hid (wr.alloc (.cells #[.int .i64 ty, .int .u64 bits] 80) = A ∧ Below w2.heap.size w2 A) := ⟨hA, bel_step hnx.out hbA⟩
          clear hR hyes hno c0 c1 e0 e1 e2 hxr hgl hb'r hbA hnew hnl hA hBr hga
          go_wp2_with fail
          rw [HA.out.1]
          refine region_w (C := Keeps A) (by kernel_rfl) (by kernel_rfl) (Keeps.drew A) ?_
          cases R
          · clear HY
            (iterate 4
              (apply wq_go _ (by rfl)
               · intro wq hq
                 go_simp
                 first
                   | (go_at_call 56; exact qcall hq (T _))
                   | exact rfl
               simp only [Act.put, List.setIfInBounds_toArray, List.set_cons_succ, List.set_cons_zero]))
            (iterate 9 (refine wq_no (by rfl) ?_; simp only [Act.put, List.setIfInBounds_toArray, List.set_cons_succ, List.set_cons_zero]))
            (iterate 1
              (apply wq_go _ (by rfl)
               · intro wq hq
                 go_simp
                 first
                   | (go_at_call 56; exact qcall hq (T _))
                   | exact rfl
               simp only [Act.put, List.setIfInBounds_toArray, List.set_cons_succ, List.set_cons_zero]))
            refine wq_nil ?_
            intro w4 hk4
            have HB4 : Hid (Below w.heap.size w w4) := bel_step HB2.out (bel_step HA.out.2 hk4.below)
            have HR : Hid (goodSt M mx D L = false) := by unfold Hid goodSt; rw [HN.out (by simp)]; simp
            clear k0 k1 k2 k3 hk4 T HN hc0 hc1
            go_wp2
            go_ret
            exact ⟨by rw [HR.out]; rfl, HB4.out⟩
          · clear hF
            (iterate 14
              (apply wq_go _ (by rfl)
               · intro wq hq
                 go_simp
                 first
                   | (go_at_call 56; exact qcall hq (T _))
                   | exact rfl
               simp only [Act.put, List.setIfInBounds_toArray, List.set_cons_succ, List.set_cons_zero]))
            refine wq_nil ?_
            intro w4 hk4
            have HB4 : Hid (Below w2.heap.size w2 w4) := bel_step HA.out.2 hk4.below
            clear k0 k1 k2 k3 hk4 T hc0 hc1
            by_cases hty : ty = t
            · have HF2 : Hid (fitUp L M.gs (k + 1)) := HY.out hty rfl
              subst hty
              clear HY HN
              go_wp2
              go_roundw
              case rel => exact ⟨k + 1, by omega, by go_num, HF2, HB4⟩
              case measure => simp [intOf]; omega
            · have ht1 : (ty != t) = true := by simpa using hty
              have HR : Hid (goodSt M mx D L = false) := by unfold Hid goodSt; rw [HN.out (fun h => hty h.1)]; simp
              clear HY HN hty
              go_wp2
              go_ret
              exact ⟨by rw [HR.out]; rfl, bel_step HB2.out HB4.out⟩
        · have hft : fitAll L M.gs = true := fitAll_yes (by have := HNM.out; omega) (by
            have h1 := hF.out
            have h2 : k = L.length := by have := HNM.out; omega
            rw [← h2]; exact h1)
          have HR : Hid (goodSt M mx D L = (good mx D && decide (mx = M.most))) := by unfold Hid goodSt; rw [HSH.out, hft]; simp
          have hxr := (hnx.out.block z (lt_of_block HX2.out.1)).trans HX2.out.1
          have hyr := (hnx.out.block (z + 1) (lt_of_block HX2.out.2)).trans HX2.out.2
          have HBr : Hid (Below w.heap.size w wr) := bel_step HB2.out hnx.out
          have x2 : wr.cell? ⟨z, 2, none⟩ = some (.bool M.mem) := (cell_of_block hxr 2).trans rfl
          have x4 : wr.cell? ⟨z, 4, none⟩ = some (.int .i64 M.most) := (cell_of_block hxr 4).trans rfl
          have y0 : wr.cell? ⟨z + 1, 0, none⟩ = some (.int .i64 mx) := (cell_of_block hyr 0).trans rfl
          have y1 : wr.cell? ⟨z + 1, 1, none⟩ = some (.string D) := (cell_of_block hyr 1).trans rfl
          obtain ⟨mm, hmm⟩ : ∃ x, M.mem = x := ⟨_, rfl⟩
          rw [hmm] at x2
          have HMM : Hid (M.mem = mm) := hmm
          clear hmm hft hF hnx
          cases mm
          · have HR2 : Hid (goodSt M mx D L = (decide (mx = 0) && decide (D.size = 0))) := by unfold Hid; rw [HR.out]; exact good_zero HSH.out HMM.out
            clear hxr hyr G x4 HR
            by_cases hm0 : mx = 0
            · by_cases hd0 : D.toList = []
              · have HT : Hid (goodSt M mx D L = true) := by unfold Hid; rw [HR2.out]; simp [hm0, (bl_nil D).1 hd0]
                clear HR2
                go_wp2
                go_ret
                exact ⟨by rw [HT.out]; rfl, HBr.out⟩
              · have HT : Hid (goodSt M mx D L = false) := by unfold Hid; rw [HR2.out, decide_eq_false (fun h => hd0 ((bl_nil D).2 h)), Bool.and_false]
                clear HR2
                go_wp2
                go_ret
                exact ⟨by rw [HT.out]; rfl, HBr.out⟩
            · have HT : Hid (goodSt M mx D L = false) := by unfold Hid; rw [HR2.out]; simp [hm0]
              clear HR2
              go_wp2
              go_ret
              exact ⟨by rw [HT.out]; rfl, HBr.out⟩
          · obtain ⟨gd, hgd⟩ : ∃ x, good mx D = x := ⟨_, rfl⟩
            rw [hgd] at G HR
            clear hgd
            go_wp2_with fail
            refine (G _).mono ?_
            rintro e w5 ⟨rfl, hb5⟩
            have HB5 : Hid (Below w.heap.size w w5) := bel_step HBr.out hb5
            have u4 : w5.cell? ⟨z, 4, none⟩ = some (.int .i64 M.most) := (hb5.cell (p := ⟨z, 4, none⟩) (lt_of_block hxr)).trans x4
            have v0 : w5.cell? ⟨z + 1, 0, none⟩ = some (.int .i64 mx) := (hb5.cell (p := ⟨z + 1, 0, none⟩) (lt_of_block hyr)).trans y0
            clear hb5 hxr hyr x2 x4 y0 y1 G
            cases gd
            · go_wp2
              go_ret
              exact ⟨by rw [HR.out]; rfl, HB5.out⟩
            · by_cases em : mx = M.most
              · have e1 : (mx == M.most) = true := by simpa using em
                have HD : Hid (decide (mx = M.most) = true) := by unfold Hid; simpa using em
                clear em
                go_wp2
                go_ret
                exact ⟨by rw [HR.out, HD.out]; rfl, HB5.out⟩
              · have e1 : (mx == M.most) = false := by simpa using em
                have HD : Hid (decide (mx = M.most) = false) := by unfold Hid; simpa using em
                clear em
                go_wp2
                go_ret
                exact ⟨by rw [HR.out, HD.out]; rfl, HB5.out⟩
    · have e : ((n : Int) != (m : Int)) = true := by simp; omega
      have HR : Hid (goodSt M mx D L = false) := by unfold Hid goodSt; rw [fitAll_len (by have := HNM.out; omega)]; simp
      clear hx2 hy2 G
      go_wp2
      go_ret
      exact ⟨by rw [HR.out]; rfl, HB2.out⟩

end Go.Proofs.YtdcfflmfimepfaaGreat

namespace Go.Proofs.YtdcfflmfimepfaaGreat
open Go.ChangeShapes Go.WideShapes Go.ChangeAt Go.RowKit Go.Deep

theorem wdCells : Tryz.prog.cellsOf 105 = 2 := by kernel_rfl
theorem memCells : Tryz.prog.cellsOf 27 = 2 := by kernel_rfl
theorem stCells : Tryz.prog.cellsOf 30 = 3 := by kernel_rfl
theorem slCells : Tryz.prog.cellsOf 28 = 1 := by kernel_rfl
/-- A word that comes in, at two cells. -/
theorem open_wd {H : Type} {enc : TypeId × Value → H} {W : World} {fuel : Nat} {cs : List Value} {x : DataW H × List MemPlace}
    (h : DataW.trod enc Tryz.prog W 0 (fun _ => true) true fuel 105 cs = some x) :
    ∃ g : Wd8, cs[0]? = some (.int .i64 g.ty) ∧ cs[1]? = some (.int .u64 g.bits) ∧ okW g := by
  obtain ⟨_, hf⟩ := trod_field Tryz.underlying105 (by kernel_rfl) wdCells h
  obtain ⟨v0, y0, n0, e0, h0⟩ := hf 0 _ rfl
  obtain ⟨v1, y1, n1, e1, h1⟩ := hf 1 _ rfl
  obtain ⟨ty, hr0, _, _⟩ := DataW.trod_int Tryz.underlying3 h0
  obtain ⟨bits, hr1, _, hw⟩ := DataW.trod_int Tryz.underlying78 h1
  simp at hr0 hr1
  subst hr0 hr1
  exact ⟨⟨ty, bits⟩, e0, e1, bounds_u64 hw⟩

theorem open_wds {H : Type} {enc : TypeId × Value → H} {W : World} {a : Option Addr} {len cap : Nat} {fuel : Nat} {x : DataW H × List MemPlace}
    (h : DataW.trod enc Tryz.prog W 0 (fun _ => true) true fuel 28 [.slice a len cap] = some x) : ∃ L : List Wd8, len = L.length ∧ Wds W a L ∧ L.length ≤ 9223372036854775807 ∧ ∀ f ∈ L, okW f := by
  rcases open_slice Tryz.underlying28 h with ⟨h0, _⟩ | ⟨ad, l, c, m, n, D, Pl, hcs, _, hl, hm, hmm, _, hx⟩
  · simp at h0
    obtain ⟨rfl, rfl, rfl⟩ := h0
    exact ⟨[], rfl, fun h => absurd rfl h, by simp, by simp⟩
  · simp at hcs
    obtain ⟨rfl, rfl, rfl⟩ := hcs
    unfold maxLen at hm
    have hm' : m = cap := by simpa using hmm
    subst hm'
    have each : ∀ i, i < m → ∃ f : Wd8, (W.cell? (ad.add (i * 2)) = some (.int .i64 f.ty) ∧ W.cell? (ad.add (i * 2 + 1)) = some (.int .u64 f.bits)) ∧ okW f := fun i hi => by
      obtain ⟨cs', h1, h2⟩ := hx i hi
      rw [wdCells] at h1
      obtain ⟨_, hlen, hcell⟩ := World.cells?_some h1
      obtain ⟨f, e0, e1, hok⟩ := open_wd h2
      have c0 := hcell 0 (by omega)
      have c1 := hcell 1 (by omega)
      rw [add_add] at c0 c1
      exact ⟨f, ⟨by rw [← e0]; simpa using c0, by rw [← e1]; exact c1⟩, hok⟩
    have inh : Inhabited Wd8 := ⟨⟨0, 0⟩⟩
    obtain ⟨f, hf⟩ := choose_lt each
    refine ⟨(List.range len).map f, by simp, fun hn => ?_, by simp; omega, fun g hg => ?_⟩
    · have h0 : 0 < len := by
        rcases Nat.eq_zero_or_pos len with h | h
        · subst h; simp at hn
        · exact h
      obtain ⟨b, off, spot⟩ := ad
      obtain ⟨⟨hc0, _⟩, _⟩ := hf 0 (by omega)
      have hspot : spot = none := by simpa [Addr.add] using World.cell?_spot hc0
      subst hspot
      have hadd : ∀ j, (⟨b, off, none⟩ : Addr).add j = ⟨b, off + j, none⟩ := fun j => by rw [Addr.add_lit]
      refine ⟨b, off, rfl, block_of_cell (by rw [hadd] at hc0; exact hc0), fun i hi => ?_⟩
      have hi' : i < len := by simpa using hi
      obtain ⟨⟨c0, c1⟩, _⟩ := hf i (by omega)
      rw [hadd] at c0 c1
      simp only [List.getElem_map, List.getElem_range]
      exact ⟨c0, c1⟩
    · obtain ⟨i, hi, rfl⟩ := List.mem_map.1 hg
      exact (hf i (by have := List.mem_range.1 hi; omega)).2


theorem list3 {α : Type} {cs : List α} (h : cs.length = 3) : ∃ c0 c1 c2, cs = [c0, c1, c2] := by
  match cs, h with
  | [c0, c1, c2], _ => exact ⟨c0, c1, c2, rfl⟩
/-- A state as a value, and what is known of one that comes in. -/
def stV (mx : Int) (D : ByteArray) (a : Option Addr) (n c : Nat) : Value := .agg #[.int .i64 mx, .string D, .slice a n c]
def IsSt (W : World) (D : ByteArray) (a : Option Addr) (L : List Wd8) : Prop := Wds W a L ∧ L.length ≤ 9223372036854775807 ∧ (∀ x ∈ L, okW x) ∧ D.size ≤ maxLen

set_option maxRecDepth 100000 in
theorem open_state {H : Type} {enc : TypeId × Value → H} {W : World} {b0 : Nat} {v : Value} {d : DataW H} {p : List MemPlace} (hv : Value.okWide Tryz.prog W .any b0 30 v)
    (h : DataW.Trod enc Tryz.prog W 0 (fun _ => true) true 30 v d p) : ∃ mx D a c L, v = stV mx D a (List.length L) c ∧ IsSt W D a L := by
  obtain ⟨⟨cs⟩, rfl, hsz⟩ := okWide_struct Tryz.underlying30 hv
  rw [stCells] at hsz
  obtain ⟨c0, c1, c2, rfl⟩ := list3 (by simpa using hsz)
  obtain ⟨fuel, hf⟩ := h
  obtain ⟨xs, n, _, _, _, hlen, hf⟩ := DataW.trod_struct Tryz.underlying30 hf
  have h0 : DataW.trod enc Tryz.prog W 0 (fun _ => true) true n 27 (List.take (Tryz.prog.cellsOf 27) [c0, c1, c2]) = xs[0]? := hf 0 _ rfl
  have h1 : DataW.trod enc Tryz.prog W 0 (fun _ => true) true n 28 (List.take (Tryz.prog.cellsOf 28) [c2]) = xs[1]? := hf 1 _ rfl
  have l2 : xs.length = 2 := hlen
  rw [List.getElem?_eq_getElem (by omega)] at h0 h1
  rw [memCells] at h0
  rw [slCells] at h1
  simp only [List.take_succ_cons, List.take_zero] at h0 h1
  obtain ⟨_, hm⟩ := trod_field Tryz.underlying27 (by kernel_rfl) memCells h0
  obtain ⟨v0, y0, n0, e0, h00⟩ := hm 0 _ rfl
  obtain ⟨v1, y1, n1, e1, h01⟩ := hm 1 _ rfl
  simp at e0 e1
  subst e0 e1
  obtain ⟨mx, hr0, _, _⟩ := DataW.trod_int Tryz.underlying3 h00
  obtain ⟨D, hr1, _, hD⟩ := DataW.trod_string Tryz.underlying9 h01
  simp at hr0 hr1
  subst hr0 hr1
  obtain ⟨a, len, c, rfl⟩ := trod_sliceV Tryz.underlying28 h1
  obtain ⟨L, rfl, hL, hl, hok⟩ := open_wds h1
  exact ⟨mx, D, a, c, L, rfl, hL, hl, hok, hD⟩

end Go.Proofs.YtdcfflmfimepfaaGreat

namespace Go.Proofs.YtdcfflmfimepfaaGreat
open Go.ChangeShapes Go.WideShapes Go.ChangeAt Go.RowKit

set_option maxRecDepth 2000000 in
set_option maxHeartbeats 1600000 in
theorem szMem8 (mx : Int) (D : ByteArray) (l : Int) (w : World) (hn : D.size ≤ 9223372036854775807) (h0 : 0 ≤ l) (h1 : l ≤ 1048576) :
    Calls Tryz.prog 32 #[.agg #[.int .i64 mx, .string D], .int .i64 l] w fun e w' => ∃ r : Int, e = .returned (.int .i64 r) ∧ (0 ≤ r → D.size ≤ 1048576 ∧ r ≤ 1048576) ∧ Below w.heap.size w w' := by
  obtain ⟨N, hN⟩ : ∃ N : Int, (D.size : Int) = N := ⟨_, rfl⟩
  by_cases h2 : N ≤ l
  · go_enter Tryz.func32, Tryz.ntmps32
    go_wp2
    go_ret
    exact ⟨_, rfl, fun _ => by omega, (Below.refl _ _).alloc (Nat.le_refl _) _⟩
  · go_enter Tryz.func32, Tryz.ntmps32
    go_wp2
    go_ret
    exact ⟨_, rfl, fun h => absurd h (by omega), (Below.refl _ _).alloc (Nat.le_refl _) _⟩

set_option maxRecDepth 100000 in
set_option maxHeartbeats 1600000 in
theorem szSt (mx : Int) (D : ByteArray) (a : Option Addr) (n c : Nat) (l : Int) (w : World) (hn : n ≤ 9223372036854775807) (hD : D.size ≤ 9223372036854775807) (h0 : 0 ≤ l) (h1 : l ≤ 1048576) :
    Calls Tryz.prog 17 #[.agg #[.int .i64 mx, .string D, .slice a n c], .int .i64 l] w fun e w' => ∃ r : Int, e = .returned (.int .i64 r) ∧ (0 ≤ r → n ≤ 1048576 ∧ D.size ≤ 1048576) ∧ Below w.heap.size w w' := by
  have A := fun w => szMem8 mx D l w hD h0 h1
  go_enter Tryz.func17, Tryz.ntmps17
  go_wp2_with fail
  refine (A _).mono ?_
  rintro e w1 ⟨r, rfl, hr, hb1⟩
  have hx1 := (hb1.block w.heap.size (by simp)).trans (heap_alloc_new _ _)
  have HB1 : Hid (Below w.heap.size w w1) := bel_step ((Below.refl _ _).alloc (Nat.le_refl _) _) hb1
  clear hb1 A
  by_cases hr0 : r < 0
  · clear hr hx1
    go_wp2
    go_ret
    exact ⟨_, rfl, fun h => absurd h (by omega), HB1.out⟩
  · have hr2 := hr (by omega)
    have B := szWd1 a c n r w1 hn (by omega) hr2.2
    have x2 := (cell_of_block hx1 2).trans rfl
    have HS : Hid (D.size ≤ 1048576) := hr2.1
    clear hr hr2 hx1
    go_wp2_with fail
    refine B.mono ?_
    rintro e w2 ⟨r2, rfl, hr3, hw⟩
    obtain rfl := hw.symm
    clear B
    by_cases hr4 : r2 < 0
    · clear hr3
      go_wp2
      go_ret
      exact ⟨_, rfl, fun h => absurd h (by omega), HB1.out⟩
    · have HS2 : Hid (n ≤ 1048576) := (hr3 (by omega)).1
      clear hr3
      go_wp2
      go_ret
      exact ⟨_, rfl, fun _ => ⟨HS2.out, HS.out⟩, HB1.out⟩

set_option maxRecDepth 100000 in
set_option maxHeartbeats 800000 in
theorem toMem8 (mx : Int) (D : ByteArray) (w : World) :
    Calls Tryz.prog 39 #[.agg #[.int .i64 mx, .string D]] w fun e w' => e = .returned (.agg #[.int .i64 mx, .string D]) ∧ Below w.heap.size w w' := by
  go_enter Tryz.func39, Tryz.ntmps39
  go_wp2
  exact bodyPost_ret (v := .agg #[.int .i64 mx, .string D]) (by simp [results, Tryz.results39, go_sem]) rfl ⟨rfl, by (repeat (first | refine Below.alloc ?_ (by first | (simp; done) | (simp; omega)) _ | refine Below.setCell ?_ (by first | (simp; done) | (simp; omega)) _ | refine bel_dN ?_ _ | refine Below.drew ?_ | exact Below.refl _ _))⟩

set_option maxRecDepth 100000 in
set_option maxHeartbeats 1600000 in
theorem toSt (mx : Int) (D : ByteArray) (a : Option Addr) (c : Nat) (L : List Wd8) (w : World) (hL : Hid (Wds w a L)) (hlen : L.length ≤ 1048576) :
    Calls Tryz.prog 20 #[.agg #[.int .i64 mx, .string D, .slice a L.length c]] w fun e w' => ∃ a' c', e = .returned (.agg #[.int .i64 mx, .string D, .slice a' L.length c']) ∧ Hid (Wds w' a' L) ∧ Below w.heap.size w w' := by
  have A := toMem8 mx D
  have Bq : Hid (∀ w', Below w.heap.size w w' → Calls Tryz.prog 40 #[.slice a L.length c] w' fun e w'' => e = .returned (.slice (some ⟨w'.heap.size, 0, none⟩) L.length L.length) ∧ w'.heap.size < w''.heap.size ∧ Wds w'' (some ⟨w'.heap.size, 0, none⟩) L ∧ Below w'.heap.size w' w'') := fun w' hb => toWds a c L w' (hL.out.below hb) hlen
  obtain ⟨n, hn⟩ : ∃ n, L.length = n := ⟨_, rfl⟩
  rw [hn] at Bq ⊢
  clear hn hL hlen
  go_enter Tryz.func20, Tryz.ntmps20
  go_wp2_with fail
  obtain ⟨z, hz⟩ : ∃ z, w.heap.size = z := ⟨_, rfl⟩
  obtain ⟨W, hW⟩ : ∃ W, ((w.alloc (.cells #[.int .i64 mx, .string D, .slice a n c] 30)).alloc (.cells #[.int .i64 0, .string ⟨#[]⟩, .slice none 0 0] 42)).alloc (.cells #[.int .i64 0, .string ⟨#[]⟩, .slice none 0 0] 42) = W := ⟨_, rfl⟩
  have hb0 : Below w.heap.size w W := by rw [← hW]; exact bel_alloc (bel_alloc (bel_alloc (Below.refl _ _) _) _) _
  have hx0 : W.heap[z]? = some (.cells #[.int .i64 mx, .string D, .slice a n c] 30 (0, 0)) := by
    rw [← hW, ← hz]
    exact ((Below.heap_alloc _ _ _ (by simp; omega)).trans (Below.heap_alloc _ _ _ (by simp))).trans (heap_alloc_new _ _)
  have hr0 : W.heap[z + 1]? = some (.cells #[.int .i64 0, .string ⟨#[]⟩, .slice none 0 0] 42 (0, 0)) := by
    rw [← hW, ← hz]
    have h := heap_alloc_new (w.alloc (.cells #[.int .i64 mx, .string D, .slice a n c] 30)) (.cells #[.int .i64 0, .string ⟨#[]⟩, .slice none 0 0] 42)
    exact (Below.heap_alloc _ _ _ (by simp)).trans (by simpa using h)
  have hg0 : W.heap[z + 1 + 1]? = some (.cells #[.int .i64 0, .string ⟨#[]⟩, .slice none 0 0] 42 (0, 0)) := by
    rw [← hW, ← hz]
    have h := heap_alloc_new ((w.alloc (.cells #[.int .i64 mx, .string D, .slice a n c] 30)).alloc (.cells #[.int .i64 0, .string ⟨#[]⟩, .slice none 0 0] 42)) (.cells #[.int .i64 0, .string ⟨#[]⟩, .slice none 0 0] 42)
    simpa using h
  have HB0 : Hid (Below w.heap.size w W) := hb0
  have HZ : Hid (w.heap.size = z) := hz
  rw [hW, hz]
  clear hb0 hW hz
  refine (A _).mono ?_
  rintro e w1 ⟨rfl, hb1⟩
  have hx1 := (hb1.block z (lt_of_block hx0)).trans hx0
  have hr1 := (hb1.block (z + 1) (lt_of_block hr0)).trans hr0
  have hg1 := (hb1.block (z + 1 + 1) (lt_of_block hg0)).trans hg0
  have HB1 : Hid (Below w.heap.size w w1) := bel_step HB0.out hb1
  clear hb1 hx0 hr0 hg0 HB0 A
  have c2 := (cell_of_block hx1 2).trans rfl
  have d0 := (cell_of_block hg1 0).trans rfl
  have d1 := (cell_of_block hg1 1).trans rfl
  have f0 := free_of_block hg1 0
  have f1 := free_of_block hg1 1
  go_wp2_with fail
  obtain ⟨W2, hW2⟩ : ∃ W, (w1.setCell ⟨z + 1 + 1, 0, none⟩ (.int .i64 mx)).setCell ⟨z + 1 + 1, 1, none⟩ (.string D) = W := ⟨_, rfl⟩
  have hle : w.heap.size ≤ z + 1 + 1 := by have := HZ.out; omega
  have hr2 : W2.heap[z + 1]? = some (.cells #[.int .i64 0, .string ⟨#[]⟩, .slice none 0 0] 42 (0, 0)) := by
    rw [← hW2]; exact (heap_setCell_other _ ⟨z + 1 + 1, 1, none⟩ (z + 1) _ (show z + 1 ≠ z + 1 + 1 by omega)).trans ((heap_setCell_other _ ⟨z + 1 + 1, 0, none⟩ (z + 1) _ (show z + 1 ≠ z + 1 + 1 by omega)).trans hr1)
  have hg2 : W2.heap[z + 1 + 1]? = some (.cells #[.int .i64 mx, .string D, .slice none 0 0] 42 (0, 0)) := by
    rw [← hW2]; exact heap_setCell_same _ _ _ _ _ _ (heap_setCell_same _ _ _ _ _ _ hg1)
  have HB2 : Hid (Below w.heap.size w W2) := by unfold Hid; rw [← hW2]; exact (HB1.out.setCell hle _).setCell hle _
  have T2 := Bq.out W2 HB2.out
  obtain ⟨z2, hz2⟩ : ∃ z, W2.heap.size = z := ⟨_, rfl⟩
  have hzz : z + 1 + 1 < z2 := by rw [← hz2]; exact lt_of_block hg2
  rw [hz2] at T2
  rw [hW2]
  clear hW2 HB1 hx1 hg1 hr1 c2 d0 d1 f0 f1 Bq
  refine T2.mono ?_
  rintro e w3 ⟨rfl, hl3, hI3, hb3⟩
  have hg3 := (hb3.block (z + 1 + 1) (by omega)).trans hg2
  have hr3 := (hb3.block (z + 1) (by omega)).trans hr2
  have HB3 : Hid (Below w.heap.size w w3) := HB2.out.trans (hb3.mono (by have := HB2.out.size; omega))
  have HJ3 : Hid (Wds w3 (some ⟨z2, 0, none⟩) L) := hI3
  clear T2 hb3 hg2 hr2 HB2 hI3 hz2
  have g0 := (cell_of_block hg3 0).trans rfl
  have g1 := (cell_of_block hg3 1).trans rfl
  have g2 := (cell_of_block hg3 2).trans rfl
  have f2 := free_of_block hg3 2
  have q0 := (cell_of_block hr3 0).trans rfl
  have q1 := (cell_of_block hr3 1).trans rfl
  have q2 := (cell_of_block hr3 2).trans rfl
  have k0 := free_of_block hr3 0
  have k1 := free_of_block hr3 1
  have k2 := free_of_block hr3 2
  go_wp2
  have hle2 : w.heap.size ≤ z + 1 := by have := HZ.out; omega
  refine bodyPost_ret (v := .agg #[.int .i64 mx, .string D, .slice (some ⟨z2, 0, none⟩) n n]) (by simp [results, Tryz.results20, go_sem, q0, q1, q2]) rfl ⟨some ⟨z2, 0, none⟩, n, rfl, ?_, ?_⟩
  · unfold Hid
    repeat refine Wds.set ?_ (by omega) _ _
    exact HJ3.out
  · repeat (first | refine Below.setCell ?_ hle _ | refine Below.setCell ?_ hle2 _)
    exact HB3.out

set_option maxRecDepth 100000 in
set_option maxHeartbeats 1600000 in
theorem eqMem8 (mx : Int) (D : ByteArray) (w : World) :
    Calls Tryz.prog 25 #[.agg #[.int .i64 mx, .string D], .agg #[.int .i64 mx, .string D]] w fun e w' => e = .returned (.bool true) ∧ Below w.heap.size w w' := by
  go_enter Tryz.func25, Tryz.ntmps25
  go_wp2
  go_ret
  exact ⟨rfl, ((Below.refl _ _).alloc (Nat.le_refl _) _).alloc (by simp) _⟩

set_option maxRecDepth 100000 in
set_option maxHeartbeats 1600000 in
theorem eqSt (mx : Int) (D : ByteArray) (a a' : Option Addr) (c c' : Nat) (L : List Wd8) (w : World) (hL : Hid (Wds w a L)) (hL' : Hid (Wds w a' L)) (hlen : L.length ≤ 1048576) :
    Calls Tryz.prog 12 #[.agg #[.int .i64 mx, .string D, .slice a L.length c], .agg #[.int .i64 mx, .string D, .slice a' L.length c']] w fun e w' => e = .returned (.bool true) ∧ Below w.heap.size w w' := by
  have A := eqMem8 mx D
  have Bq : Hid (∀ w', Below w.heap.size w w' → Calls Tryz.prog 26 #[.slice a L.length c, .slice a' L.length c'] w' fun e w'' => e = .returned (.bool true) ∧ Below w'.heap.size w' w'') := fun w' hb => eqWds a a' c c' L w' (hL.out.below hb) (hL'.out.below hb) (by omega)
  obtain ⟨n, hn⟩ : ∃ n, L.length = n := ⟨_, rfl⟩
  rw [hn] at Bq ⊢
  clear hn hL hL' hlen
  go_enter Tryz.func12, Tryz.ntmps12
  go_wp2_with fail
  refine (A _).mono ?_
  rintro e w1 ⟨rfl, hb1⟩
  have hx1 := (hb1.block w.heap.size (by simp; omega)).trans ((Below.heap_alloc _ _ _ (by simp)).trans (heap_alloc_new _ _))
  have hy0 := heap_alloc_new (w.alloc (.cells #[.int .i64 mx, .string D, .slice a n c] 42)) (.cells #[.int .i64 mx, .string D, .slice a' n c'] 42)
  have hsz : (w.alloc (.cells #[.int .i64 mx, .string D, .slice a n c] 42)).heap.size = w.heap.size + 1 := by simp
  rw [hsz] at hy0
  have hy1 := (hb1.block (w.heap.size + 1) (by simp)).trans hy0
  have HB1 : Hid (Below w.heap.size w w1) := bel_step (((Below.refl _ _).alloc (Nat.le_refl _) _).alloc (by simp) _) hb1
  have x2 := (cell_of_block hx1 2).trans rfl
  have y2 := (cell_of_block hy1 2).trans rfl
  clear hb1 A hx1 hy1 hy0 hsz
  go_wp2_with fail
  refine (Bq.out _ HB1.out).mono ?_
  rintro e w2 ⟨rfl, hb2⟩
  have HB2 : Hid (Below w.heap.size w w2) := bel_step HB1.out hb2
  clear hb2 Bq x2 y2
  go_wp2
  go_ret
  exact ⟨rfl, HB2.out⟩

end Go.Proofs.YtdcfflmfimepfaaGreat

namespace Go.Proofs.YtdcfflmfimepfaaGreat
open Go.ChangeShapes Go.WideShapes Go.ChangeAt Go.RowKit

/-- A block that is kept. -/
theorem keeps_block {W w : World} (h : Keeps W w) {b : Nat} {o : Obj} (hb : W.heap[b]? = some o) : w.heap[b]? = some o := (h.below.block b (lt_of_block hb)).trans hb

set_option maxRecDepth 100000 in
set_option maxHeartbeats 1600000 in
theorem szMod2 (l : Loc7) (M : Mod7) (w : World) (hM : Hid (ModAt w l M)) (hok : Hid (okM M)) :
    Calls Tryz.prog 16 #[modV l M, .int .i64 1048576] w fun e w' => ∃ r : Int, e = .returned (.int .i64 r) ∧ (0 ≤ r → smM M ∧ r ≤ 1048576) ∧ Below w.heap.size w w' := by
  obtain ⟨fa, fc, ga, gc⟩ := l
  obtain ⟨fs, gs, mem, pages, most, start⟩ := M
  unfold modV
  simp only
  go_enter Tryz.func16, Tryz.ntmps16
  go_wp2_with fail
  refine (szFuns fa fc fs 1048576 _ (hM.out.1.below ((Below.refl _ _).alloc (Nat.le_refl _) _)) ⟨hok.out.1, hok.out.2.2.1⟩ (by omega) (by omega)).mono ?_
  rintro e w1 ⟨r, rfl, hr, hb1⟩
  have HB1 : Hid (Below w.heap.size w w1) := below2 ((Below.refl _ _).alloc (Nat.le_refl _) _) hb1
  have hc1 : w1.cell? ⟨w.heap.size, 1, none⟩ = some (.slice ga gs.length gc) := (hb1.cell (p := ⟨w.heap.size, 1, none⟩) (by simp)).trans (newCell rfl rfl)
  clear hb1
  by_cases hr0 : r < 0
  · clear hr
    go_wp2
    go_ret
    exact ⟨-1, rfl, fun h => absurd h (by omega), HB1.out⟩
  · obtain ⟨q1, q2⟩ := hr (by omega)
    have Q1 : Hid (fs.length ≤ 1048576 ∧ ∀ f ∈ fs, smF f) := q1
    have q3 : 0 ≤ r := by omega
    clear hr q1 hr0
    go_wp2_with fail
    refine (szGlo1 ga gc gs.length r _ hok.out.2.1 q3 q2).mono ?_
    rintro e w2 ⟨r2, rfl, hr, rfl⟩
    by_cases hr0 : r2 < 0
    · clear hr
      go_wp2
      go_ret
      exact ⟨-1, rfl, fun h => absurd h (by omega), HB1.out⟩
    · obtain ⟨q1, q4⟩ := hr (by omega)
      have Q2 : Hid (gs.length ≤ 1048576) := q1
      clear hr q1
      go_wp2
      go_ret
      exact ⟨r2, rfl, fun _ => ⟨⟨Q1.out.1, Q2.out, Q1.out.2, hok.out.2.2.2⟩, q4⟩, HB1.out⟩

end Go.Proofs.YtdcfflmfimepfaaGreat
