/-
  Types read from texts: what the specification reads is held against its text.
-/
import Derived.Test.YtfepbjkfabmiiaaDoorV2
import Derived.Test.YtfepbjkfabmiiaaDoorV3
import Derived.Test.YtfepbjkfabmiiaaDoorYTxL
import Derived.Test.YtfepbjkfabmiiaaDoorRD8
import Derived.Test.YtfepbjkfabmiiaaDoorQHide
import Derived.Deep.RegionWith
namespace Go.Proofs.YtfepbjkfabmiiaaDoor
open Go.ChangeShapes Go.WideShapes Go.ChangeAt Go.RowKit Go.PlainAid

/-- The type that is read, and whether it is one. -/
def OfP (w : World) (T : TT) (b : Bool) (e : Ending) (w' : World) : Prop := ∃ sl, e = .returned (.tuple #[.agg #[.int .i64 (kdT T), .int .i64 (nT T), sl], .bool b]) ∧ TRep w.heap.size w'.heap.size w' T sl ∧ Below w.heap.size w w'
theorem ofp_end {w X : World} {r : Nat} {T : TT} {sl : Value} {b : Bool} {ob : Obj} {lo hi : Nat} (hwr : w.heap.size = r) (hX : X.heap[r]? = some ob) (hb : Below r w X) (hlo : r + 1 ≤ lo) (hhi : hi ≤ X.heap.size) (hT : TRep lo hi X T sl) :
    OfP w T b (.returned (.tuple #[.agg #[.int .i64 (kdT T), .int .i64 (nT T), sl], .bool b])) (((X.setCell ⟨r, 0, none⟩ (.int .i64 (kdT T))).setCell ⟨r, 1, none⟩ (.int .i64 (nT T))).setCell ⟨r, 2, none⟩ sl) := by
  subst hwr
  refine ⟨sl, rfl, ?_, ((hb.setCell (Nat.le_refl _) _).setCell (Nat.le_refl _) _).setCell (Nat.le_refl _) _⟩
  refine TRep.wide (by omega) (by simpa using hhi) T sl (TRep.keep (fun g g1 g2 => ?_) T sl hT)
  have hg : g ≠ w.heap.size := by omega
  exact (heap_setCell_other _ _ _ _ (by simpa using hg)).trans ((heap_setCell_other _ _ _ _ (by simpa using hg)).trans (heap_setCell_other _ _ _ _ (by simpa using hg)))
/-- A type that was read is told as its row, in memory of its own. -/
theorem flat_of {lo hi : Nat} {T : TT} {sl : Value} {w : World} (hT : TRep lo hi w T sl) (hhi : hi ≤ w.heap.size) (hz : szT T ≤ 1048576) :
    Calls Tryd.prog 19 #[.slice none 0 0, .agg #[.int .i64 (kdT T), .int .i64 (nT T), sl], .int .i64 (-1)] w fun e w' => ∃ v', e = .returned v' ∧ NdO w.heap.size w' v' (flT T (-1) 0) ∧ Below w.heap.size w w' :=
  (specFlatT (szT T) T (Nat.le_refl _) w.heap.size lo hi w (.slice none 0 0) [] (-1) sl (World.ownsRow_nil _ _ _ _) (Nat.le_refl _) hhi hT (by simp; omega)).mono fun e w' h => by simpa using h
theorem good_of {B : Nat} {w : World} {v : Value} {L : List Nd} (h : NdO B w v L) (hl : L.length ≤ 1048576) :
    Calls Tryd.prog 30 #[v] w fun e w' => e = .returned (.bool (goodT L)) ∧ Below w.heap.size w w' := by
  obtain ⟨a, b, c, rfl, h1, h2⟩ := ndo_at h
  exact specGood a b 0 c L w h1 h2 hl
theorem text_of {lo hi : Nat} {T : TT} {sl : Value} {w : World} (hT : TRep lo hi w T sl) (hhi : hi ≤ w.heap.size) (hG : goodT (flT T (-1) 0) = true) :
    Calls Tryd.prog 31 #[.agg #[.int .i64 (kdT T), .int .i64 (nT T), sl]] w fun e w' => e = .returned (.string (bsY (txt (flT T (-1) 0) (flT T (-1) 0).length 0))) ∧ Below w.heap.size w w' := by
  obtain ⟨h1, h2, h3⟩ := tr_whole hT
  have hU := ups_good hG
  have H := specText (flT T (-1) 0) hG (flT T (-1) 0).length 0 (by have := hU.1; omega) (by omega) w lo hi sl h1 hhi
  rw [h2, h3] at H
  exact H

set_option maxRecDepth 100000 in
set_option maxHeartbeats 1600000 in
theorem specOf (s : ByteArray) (w : World) (hs : s.size ≤ 1048576) : Calls Tryd.prog 18 #[.string s] w (OfP w (rdT 8 s.data.toList).1 (rdOk s.data.toList)) := by
  obtain ⟨ok, hok⟩ : ∃ b, rdOk s.data.toList = b := ⟨_, rfl⟩
  rw [hok]
  obtain ⟨r, hr⟩ : ∃ r, w.heap.size = r := ⟨_, rfl⟩
  obtain ⟨W, hW⟩ : ∃ W, w.alloc (.cells #[.int .i64 0, .int .i64 0, .slice none 0 0] 42) = W := ⟨_, rfl⟩
  have HW : Hid (W.heap[r]? = some (.cells #[.int .i64 0, .int .i64 0, .slice none 0 0] 42 (0, 0)) ∧ Below r w W ∧ w.heap.size = r ∧ W.heap.size = r + 1) := by
    unfold Hid; rw [← hW, ← hr]; exact ⟨heap_alloc_new _ _, (Below.refl _ _).alloc (Nat.le_refl _) _, rfl, by simp⟩
  have HR := specReadT 8 (by omega) s W hs
  have hsl : s.data.toList.length = s.size := by simp
  have HSZ := rdT_sz 8 s.data.toList
  have HOK : Hid (rdOk s.data.toList = ok) := hok
  obtain ⟨T, hT⟩ : ∃ T, (rdT 8 s.data.toList).1 = T := ⟨_, rfl⟩
  obtain ⟨n, hn⟩ : ∃ n, (rdT 8 s.data.toList).2 = n := ⟨_, rfl⟩
  have HU : Hid (ok = (decide (n ≠ 0) && (decide (n = s.size) && (goodT (flT T (-1) 0) && (txt (flT T (-1) 0) (flT T (-1) 0).length 0 == s.data.toList))))) := by
    unfold Hid
    rw [← hok]
    unfold rdOk rdF
    rw [hT, hn, hsl]
  unfold RdP at HR
  rw [hT, hn] at HSZ HR
  rw [hT]
  have HZ : Hid (n ≠ 0 → szT T ≤ n) := HSZ
  have HS : Hid (s.size ≤ 1048576) := hs
  clear hok hT hn hsl HSZ HOK hs
  go_enter Tryd.func18, Tryd.ntmps18
  go_wp2_with fail
  refine HR.mono ?_
  rintro e w1 ⟨sl, rfl, hT, hb1⟩
  clear HR
  obtain ⟨kd, hkd⟩ : ∃ k, kdT T = k := ⟨_, rfl⟩
  obtain ⟨nt, hnt⟩ : ∃ k, nT T = k := ⟨_, rfl⟩
  obtain ⟨a, m, c, rfl⟩ := trep_one hT
  obtain ⟨y, hy⟩ : ∃ y, w1.heap.size = y := ⟨_, rfl⟩
  obtain ⟨X, hX⟩ : ∃ X, w1.alloc (.cells #[.int .i64 kd, .int .i64 nt, .slice a m c] 42) = X := ⟨_, rfl⟩
  have hX2 : X.heap[y]? = some (.cells #[.int .i64 kd, .int .i64 nt, .slice a m c] 42 (0, 0)) ∧ X.heap.size = y + 1 ∧ ∀ q, q < y → X.heap[q]? = w1.heap[q]? := by
    rw [← hX, ← hy]
    exact ⟨heap_alloc_new _ _, by simp, fun q hq => (Below.heap_alloc _ _ _ hq)⟩
  have hbX : Below r w X := by
    obtain ⟨p1, p2, p3, p4⟩ := HW.out
    rw [← hX]
    exact (p2.trans (hb1.mono (by omega))).alloc (by have := hb1.size; omega) _
  have hry : r + 1 ≤ y := by have h := hb1.size; have := HW.out.2.2.2; omega
  have hTX : TRep (r + 1) y X T (.slice a m c) := by
    rw [HW.out.2.2.2, hy] at hT
    exact TRep.keep (fun g g1 g2 => hX2.2.2 g g2) T _ hT
  have hrX : X.heap[r]? = some (.cells #[.int .i64 0, .int .i64 0, .slice none 0 0] 42 (0, 0)) := by
    rw [hX2.2.2 r (by omega), hb1.block r (by have := HW.out.2.2.2; omega)]
    exact HW.out.1
  have HF : Hid (∀ U, Below X.heap.size X U → (U.cell? ⟨y, 0, none⟩ = some (.int .i64 kd) ∧ U.cell? ⟨y, 1, none⟩ = some (.int .i64 nt) ∧ U.cell? ⟨y, 2, none⟩ = some (.slice a m c)) ∧ U.heap[r]? = some (.cells #[.int .i64 0, .int .i64 0, .slice none 0 0] 42 (0, 0)) ∧ TRep (r + 1) y U T (.slice a m c) ∧ y ≤ U.heap.size ∧
      ∀ b, OfP w T b (.returned (.tuple #[.agg #[.int .i64 kd, .int .i64 nt, .slice a m c], .bool b])) (((U.setCell ⟨r, 0, none⟩ (.int .i64 kd)).setCell ⟨r, 1, none⟩ (.int .i64 nt)).setCell ⟨r, 2, none⟩ (.slice a m c))) := fun U hU => by
    obtain ⟨p1, p2, p3⟩ := hX2
    have hyU := (hU.block y (by omega)).trans p1
    have hrU := (hU.block r (by omega)).trans hrX
    have hTU : TRep (r + 1) y U T (.slice a m c) := TRep.keep (fun g g1 g2 => hU.block g (by omega)) T _ hTX
    have hsz := hU.size
    refine ⟨three hyU, hrU, hTU, by omega, fun b => ?_⟩
    rw [← hkd, ← hnt]
    exact ofp_end HW.out.2.2.1 hrU (hbX.trans (hU.mono (by omega))) (Nat.le_refl _) (by omega) hTU
  have HXs : Hid (X.heap.size = y + 1) := hX2.2.1
  have HK : Hid (kdT T = kd ∧ nT T = nt) := ⟨hkd, hnt⟩
  rw [hkd, hnt]
  clear hT hb1 hX2 hbX hry hTX hrX HW hkd hnt
  obtain ⟨⟨x0, x1, x2⟩, hr0, _, _, HE⟩ := HF.out X (Below.refl _ _)
  have r0 := (cell_of_block hr0 0).trans (show _ = some (Value.int .i64 0) from rfl)
  have r1 := (cell_of_block hr0 1).trans (show _ = some (Value.int .i64 0) from rfl)
  have r2 := (cell_of_block hr0 2).trans (show _ = some (Value.slice none 0 0) from rfl)
  have fr0 := free_of_block hr0 0
  have fr1 := free_of_block hr0 1
  have fr2 := free_of_block hr0 2
  obtain ⟨q0, q1, q2⟩ := set3R hr0 (.int .i64 kd) (.int .i64 nt) (.slice a m c)
  by_cases h0 : n = 0
  · have hok := HU.out
    rw [decide_eq_false (by simpa using h0), Bool.false_and] at hok
    have HEE := HE ok
    subst hok h0
    clear HE hr0
    go_wp2
    exact bodyPost_ret (by simp [results, Tryd.results18, go_sem, q0, q1, q2]) rfl HEE
  · by_cases h1 : n = s.size
    · clear q0 q1 q2 r0 r1 r2 fr0 fr1 fr2 HE hr0
      have hz : szT T ≤ 1048576 := Nat.le_trans (HZ.out h0) (by have := HS.out; omega)
      obtain ⟨z, hzz⟩ : ∃ z : Int, (s.size : Int) = z := ⟨_, rfl⟩
      have h1i : (n : Int) = z := by omega
      have h0i : ¬ z = 0 := by omega
      obtain ⟨L, hL⟩ : ∃ L, flT T (-1) 0 = L := ⟨_, rfl⟩
      have hLs : L.length = szT T := by rw [← hL]; exact flT_len _ _ _
      have HU2 : Hid (ok = (goodT L && (txt L L.length 0 == s.data.toList))) := by
        have h := HU.out
        rw [decide_eq_true h0, decide_eq_true h1, Bool.true_and, Bool.true_and, hL] at h
        exact h
      have HFL : Hid (∀ U, Below X.heap.size X U → Calls Tryd.prog 19 #[.slice none 0 0, .agg #[.int .i64 kd, .int .i64 nt, .slice a m c], .int .i64 (-1)] U fun e w' => ∃ v', e = .returned v' ∧ NdO U.heap.size w' v' L ∧ Below U.heap.size U w') := fun U hU => by
        obtain ⟨_, _, hTU, hs, _⟩ := HF.out U hU
        have := flat_of hTU hs hz
        rw [HK.out.1, HK.out.2, hL] at this
        exact this
      have HTX : Hid (∀ U, Below X.heap.size X U → goodT L = true → Calls Tryd.prog 31 #[.agg #[.int .i64 kd, .int .i64 nt, .slice a m c]] U fun e w' => e = .returned (.string (bsY (txt L L.length 0))) ∧ Below U.heap.size U w') := fun U hU hG => by
        obtain ⟨_, _, hTU, hs, _⟩ := HF.out U hU
        have := text_of hTU hs (by rw [hL]; exact hG)
        rw [HK.out.1, HK.out.2, hL] at this
        exact this
      clear HU HZ HK h0 h1
      go_wp2_with fail
      refine (HFL.out X (Below.refl _ _)).mono ?_
      rintro e w2 ⟨v2, rfl, hO2, hb2⟩
      have HB2 : Hid (Below X.heap.size X w2) := hb2
      have HG := good_of hO2 (by omega)
      clear hO2 hb2 hLs hz
      go_wp2_with fail
      refine HG.mono ?_
      rintro e w3 ⟨rfl, hb3⟩
      have HB3 : Hid (Below X.heap.size X w3) := below2 HB2.out hb3
      clear HG hb3 HB2 x0 x1 x2
      obtain ⟨⟨x0, x1, x2⟩, hr0, _, _, HE⟩ := HF.out w3 HB3.out
      cases hG : goodT L with
      | false =>
        have hok := HU2.out
        rw [hG, Bool.false_and] at hok
        have HEE := HE ok
        subst hok
        have r0 := (cell_of_block hr0 0).trans (show _ = some (Value.int .i64 0) from rfl)
        have r1 := (cell_of_block hr0 1).trans (show _ = some (Value.int .i64 0) from rfl)
        have r2 := (cell_of_block hr0 2).trans (show _ = some (Value.slice none 0 0) from rfl)
        have fr0 := free_of_block hr0 0
        have fr1 := free_of_block hr0 1
        have fr2 := free_of_block hr0 2
        obtain ⟨q0, q1, q2⟩ := set3R hr0 (.int .i64 kd) (.int .i64 nt) (.slice a m c)
        clear HE hr0
        go_wp2
        exact bodyPost_ret (by simp [results, Tryd.results18, go_sem, q0, q1, q2]) rfl HEE
      | true =>
        clear HE hr0
        have HT := HTX.out w3 HB3.out hG
        obtain ⟨t, ht⟩ : ∃ t, bsY (txt L L.length 0) = t := ⟨_, rfl⟩
        rw [ht] at HT
        have hok := HU2.out
        rw [hG, Bool.true_and, ← bsY_list (txt L L.length 0), ht, ← ByteArray.toList_eq] at hok
        go_wp2_with fail
        refine HT.mono ?_
        rintro e w4 ⟨rfl, hb4⟩
        have HB4 : Hid (Below X.heap.size X w4) := below2 HB3.out hb4
        clear HT hb4 x0 x1 x2 HB3
        obtain ⟨⟨x0, x1, x2⟩, hr0, _, _, HE⟩ := HF.out w4 HB4.out
        have HEE := HE ok
        have r0 := (cell_of_block hr0 0).trans (show _ = some (Value.int .i64 0) from rfl)
        have r1 := (cell_of_block hr0 1).trans (show _ = some (Value.int .i64 0) from rfl)
        have r2 := (cell_of_block hr0 2).trans (show _ = some (Value.slice none 0 0) from rfl)
        have fr0 := free_of_block hr0 0
        have fr1 := free_of_block hr0 1
        have fr2 := free_of_block hr0 2
        obtain ⟨q0, q1, q2⟩ := set3R hr0 (.int .i64 kd) (.int .i64 nt) (.slice a m c)
        clear HE hr0 ht
        cases hq : t.toList == s.toList with
        | false =>
          rw [hq] at hok
          subst hok
          go_wp2
          exact bodyPost_ret (by simp [results, Tryd.results18, go_sem, q0, q1, q2]) rfl HEE
        | true =>
          rw [hq] at hok
          subst hok
          go_wp2
          exact bodyPost_ret (by simp [results, Tryd.results18, go_sem, q0, q1, q2]) rfl HEE
    · have hok := HU.out
      rw [decide_eq_false h1, Bool.false_and, Bool.and_false] at hok
      have HEE := HE ok
      have h0i : ¬ (n : Int) = 0 := by omega
      have h1i : ¬ (n : Int) = (s.size : Int) := by omega
      subst hok
      clear HE hr0
      go_wp2
      exact bodyPost_ret (by simp [results, Tryd.results18, go_sem, q0, q1, q2]) rfl HEE

theorem rdOk_sz {s : List UInt8} (h : rdOk s = true) : szT (rdT 8 s).1 ≤ s.length := by
  unfold rdOk at h
  simp only [Bool.and_eq_true, decide_eq_true_eq] at h
  have := rdT_sz 8 s h.1
  omega
theorem rdF_le {s : List UInt8} (h : rdOk s = true) : rdM s = flT (rdT 8 s).1 (-1) 0 := (rdOk_row h).2

set_option maxRecDepth 100000 in
set_option maxHeartbeats 1600000 in
theorem specRead (s : ByteArray) (hs : s.size ≤ 1048576) (w : World) :
    Calls Tryd.prog 6 #[.string s] w fun e w' => ∃ v, e = .returned (.tuple #[v, .bool (rdB s.data.toList)]) ∧ NdO w.heap.size w' v (rdM s.data.toList) ∧ Below w.heap.size w w' := by
  have HR := specOf s w hs
  unfold OfP at HR
  obtain ⟨T, hT⟩ : ∃ T, (rdT 8 s.data.toList).1 = T := ⟨_, rfl⟩
  obtain ⟨ok, hok⟩ : ∃ b, rdOk s.data.toList = b := ⟨_, rfl⟩
  have hsl : s.data.toList.length = s.size := by simp
  have HB : Hid (rdB s.data.toList = ok ∧ (ok = true → rdM s.data.toList = flT T (-1) 0 ∧ szT T ≤ 1048576)) := by
    refine ⟨by rw [← rdOk_eq, hok], fun h => ?_⟩
    have h2 : rdOk s.data.toList = true := by rw [hok, h]
    have := rdOk_sz h2
    exact ⟨by rw [rdF_le h2, hT], by rw [hT] at this; omega⟩
  have HM : Hid (ok = false → rdM s.data.toList = []) := fun h => by
    unfold rdM
    rw [if_neg (by rw [HB.out.1, h]; decide)]
  rw [hT, hok] at HR
  rw [HB.out.1]
  obtain ⟨M, hM⟩ : ∃ M, rdM s.data.toList = M := ⟨_, rfl⟩
  rw [hM] at HM ⊢
  have HB2 : Hid (ok = true → M = flT T (-1) 0 ∧ szT T ≤ 1048576) := fun h => by rw [← hM]; exact HB.out.2 h
  clear hT hok hsl HB hM
  go_enter Tryd.func6, Tryd.ntmps6
  go_wp2_with fail
  refine HR.mono ?_
  rintro e w1 ⟨sl, rfl, hT, hb1⟩
  clear HR
  obtain ⟨kd, hkd⟩ : ∃ k, kdT T = k := ⟨_, rfl⟩
  obtain ⟨nt, hnt⟩ : ∃ k, nT T = k := ⟨_, rfl⟩
  obtain ⟨a, m, c, rfl⟩ := trep_one hT
  cases ok with
  | false =>
    have hM := HM.out rfl
    subst hM
    rw [hkd, hnt]
    go_wp2
    go_ret2
    exact ⟨_, rfl, World.ownsRow_nil _ _ _ _, hb1.alloc hb1.size _⟩
  | true =>
    obtain ⟨hM, hz⟩ := HB2.out rfl
    have HC : Hid (∀ o, Calls Tryd.prog 19 #[.slice none 0 0, .agg #[.int .i64 kd, .int .i64 nt, .slice a m c], .int .i64 (-1)] (w1.alloc o) fun e w' => ∃ v', e = .returned v' ∧ NdO w.heap.size w' v' M ∧ Below w.heap.size w w') := fun o => by
      have hT2 : TRep w.heap.size w1.heap.size (w1.alloc o) T (.slice a m c) := TRep.keep (fun g _ g2 => Below.heap_alloc _ _ _ g2) T _ hT
      have h := flat_of hT2 (by simp) hz
      rw [hkd, hnt, ← hM] at h
      refine h.mono ?_
      rintro e w' ⟨v', h1, h2, h3⟩
      have hle : w.heap.size ≤ (w1.alloc o).heap.size := by have := hb1.size; simp; omega
      refine ⟨v', h1, ?_, (hb1.alloc hb1.size o).trans (h3.mono hle)⟩
      refine ⟨h2.1, ?_⟩
      rcases h2.2 with h4 | ⟨g, cap, cur, e1, e2, r⟩
      · exact .inl h4
      · exact .inr ⟨g, cap, cur, e1, Nat.le_trans hle e2, r⟩
    clear hM hz HM HB2 hT hb1
    rw [hkd, hnt]
    clear hkd hnt
    go_wp2_with fail
    refine (HC.out _).mono ?_
    rintro e w2 ⟨v', rfl, h1, h2⟩
    go_wp2
    go_ret2
    exact ⟨_, rfl, h1, h2⟩

end Go.Proofs.YtfepbjkfabmiiaaDoor

namespace Go.Proofs.YtfepbjkfabmiiaaDoor
open Go.ChangeShapes Go.WideShapes Go.ChangeAt Go.RowKit Go.PlainAid

/-- A row of nodes that lies in a block of its own. -/
def NA (w : World) (a : Option Addr) (E : List Nd) : Prop := E ≠ [] → ∃ g, a = some ⟨g, 0, none⟩ ∧ g < w.heap.size ∧ ndAt w g 0 E
theorem NA.below {w w' : World} {a : Option Addr} {E : List Nd} (h : NA w a E) (hb : Below w.heap.size w w') : NA w' a E := fun hn => by
  obtain ⟨g, h1, h2, h3⟩ := h hn
  exact ⟨g, h1, Nat.lt_of_lt_of_le h2 hb.size, h3.below hb h2⟩
theorem ndrow_cells {w : World} {B : Nat} {v : Value} {E : List Nd} (h : NdO B w v E) (hn : 0 < E.length) : ∃ g c cur, v = .slice (some ⟨g, 0, none⟩) E.length c ∧ w.heap[g]? = some (.cells cur 51 (0, 0)) ∧ B ≤ g ∧ E.length * 3 ≤ cur.size ∧ ndAt w g 0 E := by
  obtain ⟨g, c, hv, _⟩ := own_pos h hn
  subst hv
  obtain ⟨cur, hcu, hgb⟩ := own_at h (g := g) rfl
  refine ⟨g, c, cur, rfl, hcu, hgb, ?_, nd_of_own rfl h⟩
  have hat : ∀ j, j < E.length * 3 → cur[j]? = (ndv E)[j]? := fun j hj => by
    have h1 := h.cellAt j (by omega)
    rw [← h1, cell_of_block hcu]
  rcases Nat.lt_or_ge cur.size (E.length * 3) with h1 | h1
  · have h2 := hat cur.size h1
    rw [Array.getElem?_eq_none (Nat.le_refl _), List.getElem?_eq_getElem (by rw [ndv_len]; exact h1)] at h2
    simp at h2
  · exact h1
theorem nds_of_row {w : World} {B : Nat} {v : Value} {E : List Nd} (h : NdO B w v E) : ∃ a c, v = .slice a E.length c ∧ NA w a E := by
  obtain ⟨a, c, hv⟩ := ownsRow_shape h
  refine ⟨a, c, hv, fun hn => ?_⟩
  obtain ⟨g, c', cur, h1, h2, _, _, h3⟩ := ndrow_cells h (List.length_pos_iff.2 hn)
  rw [hv] at h1
  simp only [Value.slice.injEq] at h1
  exact ⟨g, h1.1, lt_of_block h2, h3⟩
theorem eqNdsR (a a' : Option Addr) (c c' : Nat) (E : List Nd) (w : World) (h : NA w a E) (h' : NA w a' E) (hn : E.length ≤ 9223372036854775807) :
    Calls Tryd.prog 8 #[.slice a E.length c, .slice a' E.length c'] w fun e w' => e = .returned (.bool true) ∧ Below w.heap.size w w' := by
  by_cases e : E = []
  · subst e
    exact eqNds a a' 0 0 c 0 0 c' [] w (fun h => absurd rfl h) (fun h => absurd rfl h) (fun i hi => by simp at hi) (fun i hi => by simp at hi) hn
  · obtain ⟨g, h1, h2, h3⟩ := h e
    obtain ⟨g', h1', h2', h3'⟩ := h' e
    exact eqNds a a' g 0 c g' 0 c' E w (fun _ => ⟨h1, h2⟩) (fun _ => ⟨h1', h2'⟩) h3 h3' hn

/-- The marks of n nodes. -/
def marksN (n : Nat) : List Nd := (List.range n).map fun (i : Nat) => (1 + 3 * (i : Int), 1 + 3 * (i : Int) + 1, 1 + 3 * (i : Int) + 2)
theorem marksN_len (n : Nat) : (marksN n).length = n := by simp [marksN]
theorem marksN_at (n i : Nat) (h : i < (marksN n).length) : (marksN n)[i] = (1 + 3 * (i : Int), 1 + 3 * (i : Int) + 1, 1 + 3 * (i : Int) + 2) := by simp [marksN]

set_option maxRecDepth 100000 in
set_option maxHeartbeats 1600000 in
theorem markN_any (a : Option Addr) (g n cap : Nat) (arr : Array Value) (w : World) (hn : n ≤ 1000) (ha : Hid (0 < n → a = some ⟨g, 0, none⟩ ∧ w.heap[g]? = some (.cells arr 51 (0, 0)) ∧ n * 3 ≤ arr.size)) :
    Calls Tryd.prog 9 #[.slice a n cap, .int .i64 1] w fun e w' => e = .returned (.int .i64 (1 + 3 * (n : Int))) ∧ Below g w w' ∧ (0 < n → g < w'.heap.size ∧ ndAt w' g 0 (marksN n)) ∧ (n = 0 → w' = w) := by
  go_enter Tryd.func9, Tryd.ntmps9
  go_wp2
  go_loopw [1, 5] (fun m i wr => ∃ k : Nat, k ≤ n ∧ i = .int .i64 k ∧ m = .int .i64 (1 + 3 * (k : Int)) ∧ Hid (0 < n → ∃ cur : Array Value, wr.heap[g]? = some (.cells cur 51 (0, 0)) ∧ n * 3 ≤ cur.size ∧ ∀ j, j < k → cur[j * 3]? = some (.int .i64 (1 + 3 * (j : Int))) ∧ cur[j * 3 + 1]? = some (.int .i64 (1 + 3 * (j : Int) + 1)) ∧ cur[j * 3 + 2]? = some (.int .i64 (1 + 3 * (j : Int) + 2))) ∧ Below g w wr ∧ Hid (n = 0 → wr = w)) (fun _ i _ => n - (intOf i).toNat)
  case atStart => exact ⟨0, by omega, rfl, rfl, fun h => ⟨arr, (ha.out h).2.1, (ha.out h).2.2, fun j hj => absurd hj (by omega)⟩, Below.refl _ _, fun _ => rfl⟩
  case round =>
    obtain ⟨k, hk, rfl, rfl, hcur, hnx, hno⟩ := hrel
    by_cases hlt : k < n
    · obtain ⟨rfl, _, _⟩ := ha.out (by omega)
      obtain ⟨cur, hc, hcs, hA⟩ := hcur.out (by omega)
      have hgl := lt_of_block hc
      obtain ⟨o0, ho0⟩ : ∃ o, cur[k * 3]? = some o := ⟨_, Array.getElem?_eq_getElem (by omega)⟩
      obtain ⟨o1, ho1⟩ : ∃ o, cur[k * 3 + 1]? = some o := ⟨_, Array.getElem?_eq_getElem (by omega)⟩
      obtain ⟨o2, ho2⟩ : ∃ o, cur[k * 3 + 2]? = some o := ⟨_, Array.getElem?_eq_getElem (by omega)⟩
      have d0 := (cell_of_block hc (k * 3)).trans ho0
      have f0 := free_of_block hc (k * 3)
      have HA : Hid (∀ j, j < k → cur[j * 3]? = some (.int .i64 (1 + 3 * (j : Int))) ∧ cur[j * 3 + 1]? = some (.int .i64 (1 + 3 * (j : Int) + 1)) ∧ cur[j * 3 + 2]? = some (.int .i64 (1 + 3 * (j : Int) + 2))) := hA
      have hc1 : (wr.setCell ⟨g, k * 3, none⟩ (.int .i64 (1 + 3 * (k : Int)))).heap[g]? = some (.cells (cur.setIfInBounds (k * 3) (.int .i64 (1 + 3 * (k : Int)))) 51 (0, 0)) := heap_setCell_same _ _ _ _ _ _ hc
      have d1 := (cell_of_block hc1 (k * 3 + 1)).trans ((Array.getElem?_setIfInBounds_ne (by omega)).trans ho1)
      have f1 := free_of_block hc1 (k * 3 + 1)
      have hc2 : ((wr.setCell ⟨g, k * 3, none⟩ (.int .i64 (1 + 3 * (k : Int)))).setCell ⟨g, k * 3 + 1, none⟩ (.int .i64 (1 + 3 * (k : Int) + 1))).heap[g]? = some (.cells ((cur.setIfInBounds (k * 3) (.int .i64 (1 + 3 * (k : Int)))).setIfInBounds (k * 3 + 1) (.int .i64 (1 + 3 * (k : Int) + 1))) 51 (0, 0)) := heap_setCell_same _ _ _ _ _ _ hc1
      have d2 := (cell_of_block hc2 (k * 3 + 2)).trans ((Array.getElem?_setIfInBounds_ne (by omega)).trans ((Array.getElem?_setIfInBounds_ne (by omega)).trans ho2))
      have f2 := free_of_block hc2 (k * 3 + 2)
      have HC2 : Hid (((wr.setCell ⟨g, k * 3, none⟩ (.int .i64 (1 + 3 * (k : Int)))).setCell ⟨g, k * 3 + 1, none⟩ (.int .i64 (1 + 3 * (k : Int) + 1))).heap[g]? = some (.cells ((cur.setIfInBounds (k * 3) (.int .i64 (1 + 3 * (k : Int)))).setIfInBounds (k * 3 + 1) (.int .i64 (1 + 3 * (k : Int) + 1))) 51 (0, 0))) := hc2
      have e2 : wrap64 (1 + 3 * (k : Int) + 1 + 1) = 1 + 3 * (k : Int) + 2 := by unfold wrap64; omega
      have e1 : wrap64 (1 + 3 * (k : Int) + 1) = 1 + 3 * (k : Int) + 1 := by unfold wrap64; omega
      have HE2 : Hid (1 + 3 * (k : Int) + 1 + 1 = 1 + 3 * (k : Int) + 2) := by unfold Hid; omega
      clear hc hc1 hc2 hA
      go_wp2
      go_roundw
      case rel =>
        refine ⟨k + 1, by omega, by go_num, by go_num, fun _ => ⟨_, heap_setCell_same _ _ _ _ _ _ HC2.out, by simpa using hcs, ?_⟩, ?_, fun h => absurd h (by omega)⟩
        · intro j hj
          by_cases e : j = k
          · subst e
            refine ⟨?_, ?_, ?_⟩
            · rw [Array.getElem?_setIfInBounds_ne (by omega), Array.getElem?_setIfInBounds_ne (by omega), Array.getElem?_setIfInBounds_self_of_lt (by omega)]
            · rw [Array.getElem?_setIfInBounds_ne (by omega), Array.getElem?_setIfInBounds_self_of_lt (by simp; omega)]
            · rw [Array.getElem?_setIfInBounds_self_of_lt (by simp; omega)]
              try rw [HE2.out]
          · have h := HA.out j (by omega)
            refine ⟨?_, ?_, ?_⟩
            · rw [Array.getElem?_setIfInBounds_ne (by omega), Array.getElem?_setIfInBounds_ne (by omega), Array.getElem?_setIfInBounds_ne (by omega)]; exact h.1
            · rw [Array.getElem?_setIfInBounds_ne (by omega), Array.getElem?_setIfInBounds_ne (by omega), Array.getElem?_setIfInBounds_ne (by omega)]; exact h.2.1
            · rw [Array.getElem?_setIfInBounds_ne (by omega), Array.getElem?_setIfInBounds_ne (by omega), Array.getElem?_setIfInBounds_ne (by omega)]; exact h.2.2
        · exact ((hnx.setCell (Nat.le_refl _) _).setCell (Nat.le_refl _) _).setCell (Nat.le_refl _) _
      case measure => simp [intOf]; omega
    · obtain rfl : k = n := by omega
      go_wp2
      go_ret
      refine ⟨rfl, hnx, fun h => ?_, hno.out⟩
      obtain ⟨cur, hc, hcs, hA⟩ := hcur.out h
      refine ⟨lt_of_block hc, fun i hi => ?_⟩
      rw [marksN_len] at hi
      rw [Nat.zero_add, cell_of_block hc, cell_of_block hc, cell_of_block hc, marksN_at]
      exact hA i hi
theorem markNdsO (B : Nat) (a : Option Addr) (c : Nat) (E : List Nd) (w : World) (hown : NdO B w (.slice a E.length c) E) (hn : E.length ≤ 1000) :
    Calls Tryd.prog 9 #[.slice a E.length c, .int .i64 1] w fun e w' => e = .returned (.int .i64 (1 + 3 * (E.length : Int))) ∧ NA w' a (marksN E.length) ∧ Below B w w' := by
  rcases Nat.eq_zero_or_pos E.length with h0 | h0
  · refine (markN_any a 0 E.length c #[] w hn (fun h => absurd h (by omega))).mono ?_
    rintro e w' ⟨rfl, _, _, h4⟩
    obtain rfl := h4 h0
    exact ⟨rfl, fun h => absurd (by have := marksN_len E.length; rw [h0] at this; exact List.length_eq_zero_iff.1 (by rw [h0]; exact this)) h, Below.refl _ _⟩
  · obtain ⟨g, c', cur, h1, h2, h3, h4, _⟩ := ndrow_cells hown h0
    simp only [Value.slice.injEq] at h1
    refine (markN_any a g E.length c cur w hn (fun _ => ⟨h1.1, h2, h4⟩)).mono ?_
    rintro e w' ⟨rfl, h5, h6, _⟩
    exact ⟨rfl, fun _ => ⟨g, h1.1, (h6 h0).1, (h6 h0).2⟩, h5.mono h3⟩

set_option maxRecDepth 100000 in
set_option maxHeartbeats 1600000 in
theorem heldN_any (a : Option Addr) (g n cap : Nat) (w : World) (hn : n ≤ 1000) (ha : Hid (0 < n → a = some ⟨g, 0, none⟩ ∧ g < w.heap.size ∧ ndAt w g 0 (marksN n))) :
    Calls Tryd.prog 10 #[.slice a n cap, .int .i64 1] w fun e w' => e = .returned (.int .i64 (1 + 3 * (n : Int))) ∧ Below w.heap.size w w' := by
  go_enter Tryd.func10, Tryd.ntmps10
  go_wp2
  go_loopw [1, 5] (fun m i wr => ∃ k : Nat, k ≤ n ∧ i = .int .i64 k ∧ m = .int .i64 (1 + 3 * (k : Int)) ∧ Below w.heap.size w wr) (fun _ i _ => n - (intOf i).toNat)
  case atStart => exact ⟨0, by omega, rfl, rfl, Below.refl _ _⟩
  case round =>
    obtain ⟨k, hk, rfl, rfl, hnx⟩ := hrel
    by_cases hlt : k < n
    · obtain ⟨rfl, hgl, hM⟩ := ha.out (by omega)
      have hc := hM k (by rw [marksN_len]; omega)
      rw [marksN_at, Nat.zero_add] at hc
      have d0 : wr.cell? ⟨g, k * 3, none⟩ = some (.int .i64 (1 + 3 * (k : Int))) := (hnx.cell (by exact hgl)).trans hc.1
      have d1 : wr.cell? ⟨g, k * 3 + 1, none⟩ = some (.int .i64 (1 + 3 * (k : Int) + 1)) := (hnx.cell (by exact hgl)).trans hc.2.1
      have d2 : wr.cell? ⟨g, k * 3 + 2, none⟩ = some (.int .i64 (1 + 3 * (k : Int) + 2)) := (hnx.cell (by exact hgl)).trans hc.2.2
      have e2 : wrap64 (1 + 3 * (k : Int) + 1 + 1) = 1 + 3 * (k : Int) + 2 := by unfold wrap64; omega
      have e1 : wrap64 (1 + 3 * (k : Int) + 1) = 1 + 3 * (k : Int) + 1 := by unfold wrap64; omega
      clear hc hM
      go_wp2
      go_roundw
      case rel => exact ⟨k + 1, by omega, by go_num, by go_num, hnx⟩
      case measure => simp [intOf]; omega
    · obtain rfl : k = n := by omega
      go_wp2
      go_ret
      exact ⟨rfl, hnx⟩
theorem heldNds (a : Option Addr) (n c : Nat) (w : World) (h : NA w a (marksN n)) (hn : n ≤ 1000) :
    Calls Tryd.prog 10 #[.slice a n c, .int .i64 1] w fun e w' => e = .returned (.int .i64 (1 + 3 * (n : Int))) ∧ Below w.heap.size w w' := by
  rcases Nat.eq_zero_or_pos n with h0 | h0
  · exact heldN_any a 0 n c w hn (fun h => absurd h (by omega))
  · obtain ⟨g, h1, h2, h3⟩ := h (fun e => by have := marksN_len n; rw [e] at this; simp at this; omega)
    exact heldN_any a g n c w hn (fun _ => ⟨h1, h2, h3⟩)

end Go.Proofs.YtfepbjkfabmiiaaDoor

namespace Go.Proofs.YtfepbjkfabmiiaaDoor
open Go.ChangeShapes Go.WideShapes Go.ChangeAt Go.RowKit Go.PlainAid

theorem ndo_below {w w' : World} {B : Nat} {v : Value} {L : List Nd} (h : NdO B w v L) (hb : Below w.heap.size w w') : NdO B w' v L := own_keep h (fun g hg => hb.block g (h.lt g hg).2)
theorem rdM_len (s : List UInt8) : (rdM s).length ≤ 40 := by
  unfold rdM
  split
  · rename_i h
    unfold rdB at h
    simp only [Bool.and_eq_true] at h
    exact (ups_good h.2.1).2.1
  · simp

set_option maxRecDepth 100000 in
set_option maxHeartbeats 3200000 in
theorem readType_law (s : ByteArray) (w : World) (hT : Hid (Tabs w)) (hE : Hid (Errs w)) (hP : Hid (Pows w)) (hg : Hid (0 < w.heap.size ∧ 2 < w.heap.size ∧ 3 < w.heap.size)) :
    Calls Tryd.prog 3 #[.string s] w fun e w' => e = .returned (.bool true) ∧ Below w.heap.size w w' := by
  obtain ⟨z, hz⟩ : ∃ z : Int, (s.size : Int) = z := ⟨_, rfl⟩
  by_cases hbig : 1048576 < z
  · go_enter Tryd.func3, Tryd.ntmps3
    go_wp2
    go_ret
    exact ⟨rfl, Below.refl _ _⟩
  · have hs : s.size ≤ 1048576 := by omega
    have hel := rdM_len s.data.toList
    have S1 := specRead s hs w
    have I1 := fun w1 (hb : Below w.heap.size w w1) => implRead s hs w1 (hT.out.below hb (Nat.le_refl _)) (hE.out.below hb hg.out.2.1 hg.out.2.2) (hP.out.below hb (Nat.le_refl _)) ⟨Nat.lt_of_lt_of_le hg.out.1 hb.size, Nat.lt_of_lt_of_le hg.out.2.1 hb.size, Nat.lt_of_lt_of_le hg.out.2.2 hb.size⟩
    obtain ⟨E, hE2⟩ : ∃ E, rdM s.data.toList = E := ⟨_, rfl⟩
    obtain ⟨y, hy⟩ : ∃ y, rdB s.data.toList = y := ⟨_, rfl⟩
    rw [hE2] at S1 I1 hel
    rw [hy] at S1 I1
    have HI : Hid (∀ w1, Below w.heap.size w w1 → Calls Tryd.prog 7 #[.string s] w1 fun e w' => ∃ v, e = .returned (.tuple #[v, .bool y]) ∧ NdO w1.heap.size w' v E ∧ Below w1.heap.size w1 w') := I1
    have HEL : Hid (E.length ≤ 40) := hel
    clear I1 hE2 hy hs hel
    go_enter Tryd.func3, Tryd.ntmps3
    go_wp2_with fail
    refine S1.mono ?_
    rintro e w1 ⟨v0, rfl, ho0, hb1⟩
    obtain ⟨a0, c0, rfl, hI0⟩ := nds_of_row ho0
    have HB1 : Hid (Below w.heap.size w w1) := hb1
    have HI0 : Hid (NA w1 a0 E) := hI0
    clear S1 ho0 hI0 hb1
    go_wp2_with fail
    refine (HI.out w1 HB1.out).mono ?_
    rintro e w2 ⟨v1, rfl, ho1, hb2⟩
    obtain ⟨a1, c1, hv1, hI1⟩ := nds_of_row ho1
    subst hv1
    have HB2 : Hid (Below w1.heap.size w1 w2) := hb2
    have HO1 : Hid (NdO w1.heap.size w2 (.slice a1 E.length c1) E) := ho1
    clear ho1 hb2
    go_wp2_with fail
    refine (eqNdsR a1 a0 c1 c0 E w2 hI1 (NA.below HI0.out HB2.out) (by have := HEL.out; omega)).mono ?_
    rintro e w3 ⟨rfl, hb3⟩
    have HB3 : Hid (Below w1.heap.size w1 w3) := below2 HB2.out hb3
    have HO3 : Hid (NdO w1.heap.size w3 (.slice a1 E.length c1) E) := ndo_below HO1.out hb3
    clear hb3 HO1 HB2 hI1
    cases y
    all_goals
      go_wp2_with fail
      refine (markNdsO w1.heap.size a1 c1 E w3 HO3.out (by have := HEL.out; omega)).mono ?_
      rintro e w4 ⟨rfl, hI4, hb4⟩
      have HB4 : Hid (Below w1.heap.size w1 w4) := HB3.out.trans hb4
      have HI4 : Hid (NA w4 a1 (marksN E.length)) := hI4
      clear HO3 HB3 hb4 hI4
      go_wp2_with fail
      refine (heldNds a1 E.length c1 w4 HI4.out (by have := HEL.out; omega)).mono ?_
      rintro e w5 ⟨rfl, hb5⟩
      have HB5 : Hid (Below w1.heap.size w1 w5) := below2 HB4.out hb5
      have HI5 : Hid (NA w5 a1 (marksN E.length)) := NA.below HI4.out hb5
      have hk : ¬ 1 + 3 * (E.length : Int) < 0 := by omega
      clear hb5 HI4 HB4
      go_wp2_with fail
      refine (HI.out w5 (below2 HB1.out HB5.out)).mono ?_
      rintro e w6 ⟨v2, rfl, ho2, hb6⟩
      obtain ⟨a2, c2, hv2, hI2⟩ := nds_of_row ho2
      subst hv2
      have HB6 : Hid (Below w1.heap.size w1 w6) := below2 HB5.out hb6
      have HI6 : Hid (NA w6 a1 (marksN E.length)) := NA.below HI5.out hb6
      clear hb6 ho2 HI5 HB5
      go_wp2_with fail
      refine (eqNdsR a2 a0 c2 c0 E w6 hI2 (NA.below HI0.out HB6.out) (by have := HEL.out; omega)).mono ?_
      rintro e w7 ⟨rfl, hb7⟩
      have HB7 : Hid (Below w1.heap.size w1 w7) := below2 HB6.out hb7
      have HI7 : Hid (NA w7 a1 (marksN E.length)) := NA.below HI6.out hb7
      clear hb7 hI2 HI6 HB6
      go_wp2_with fail
      refine (heldNds a1 E.length c1 w7 HI7.out (by have := HEL.out; omega)).mono ?_
      rintro e w8 ⟨rfl, hb8⟩
      have HB8 : Hid (Below w.heap.size w w8) := below2 HB1.out (below2 HB7.out hb8)
      clear hb8 HI7 HB7
      go_wp2
      go_ret
      exact ⟨rfl, HB8.out⟩

theorem readType_walk (s : ByteArray) (_ : s.size ≤ maxLen) (w : World) (h : Tabs w ∧ Pows w ∧ Errs w) :
    Calls Tryd.prog 3 #[.string s] w fun e w' => e = .returned (.bool true) ∧ Below w.heap.size w w' :=
  readType_law s w h.1 h.2.2 h.2.1 ⟨h.1.1, h.2.2.1.1, h.2.2.2.1⟩

end Go.Proofs.YtfepbjkfabmiiaaDoor
