/-
  First states: both sides.
-/
import Derived.Test.YtdcfflmfimepfaaGreatSB2
import Derived.Test.YtdcfflmfimepfaaGreatSB3
import Derived.Test.YtdcfflmfimepfaaGreatSB1
import Derived.Test.YtdcfflmfimepfaaGreatJA9
import Derived.Test.YtdcfflmfimepfaaGreatKA13
import Derived.Test.YtdcfflmfimepfaaGreatJA10
import Derived.Test.YtdcfflmfimepfaaGreatKA2
namespace Go.Proofs.YtdcfflmfimepfaaGreat
open Go.ChangeShapes Go.WideShapes Go.ChangeAt Go.RowKit

def toWd (g : Glo7) : Wd8 := ⟨g.ty, g.bits⟩
def wv (L : List Wd8) : List Value := L.flatMap fun x => [.int .i64 x.ty, .int .u64 x.bits]
theorem wv_app (L : List Wd8) (x : Wd8) : wv (L ++ [x]) = wv L ++ [.int .i64 x.ty, .int .u64 x.bits] := by simp [wv]
theorem wv_len (L : List Wd8) : (wv L).length = L.length * 2 := by
  induction L with
  | nil => rfl
  | cons x r ih => simp only [wv, List.flatMap_cons, List.length_append, List.length_cons, List.length_nil] at ih ⊢; omega
theorem wv_at : ∀ (L : List Wd8) (k : Nat) (hk : k < L.length), (wv L)[k * 2]? = some (.int .i64 L[k].ty) ∧ (wv L)[k * 2 + 1]? = some (.int .u64 L[k].bits)
  | [], k, hk => by simp at hk
  | x :: r, 0, _ => by simp [wv]
  | x :: r, k + 1, hk => by
    have h := wv_at r k (by simpa using hk)
    have e : wv (x :: r) = [.int .i64 x.ty, .int .u64 x.bits] ++ wv r := rfl
    rw [e, List.getElem?_append_right (by simp; omega), List.getElem?_append_right (by simp; omega)]
    simp only [List.length_cons, List.length_nil]
    rw [show (k + 1) * 2 - (0 + 1 + 1) = k * 2 by omega, show (k + 1) * 2 + 1 - (0 + 1 + 1) = k * 2 + 1 by omega]
    exact h
theorem take_wd (G : List Glo7) (k : Nat) (h : k < G.length) : (G.map toWd).take (k + 1) = (G.map toWd).take k ++ [⟨G[k].ty, G[k].bits⟩] := by
  rw [List.take_succ_eq_append_getElem (by simpa using h)]
  simp [toWd]
/-- Words in a block of their own, from B on. -/
def WdsB (B : Nat) (w : World) (a : Option Addr) (L : List Wd8) : Prop := Wds w a L ∧ RowB w 80 2 a L.length ∧ ∀ b, 0 < L.length → a = some ⟨b, 0, none⟩ → B ≤ b
theorem WdsB.below {B : Nat} {w w' : World} {a : Option Addr} {L : List Wd8} (h : WdsB B w a L) (hb : Below w.heap.size w w') : WdsB B w' a L := ⟨h.1.below hb, h.2.1.below hb, h.2.2⟩
theorem WdsB.low {B B' : Nat} {w : World} {a : Option Addr} {L : List Wd8} (h : WdsB B w a L) (hb : B' ≤ B) : WdsB B' w a L := ⟨h.1, h.2.1, fun b hn e => Nat.le_trans hb (h.2.2 b hn e)⟩
theorem WdsB.set {B : Nat} {w : World} {a : Option Addr} {L : List Wd8} (h : WdsB B w a L) {m : Nat} (hm : m < B) (i : Nat) (v : Value) : WdsB B (w.setCell ⟨m, i, none⟩ v) a L := by
  refine ⟨fun hn => ?_, fun hn => ?_, h.2.2⟩
  · obtain ⟨b, off, ha, hl, hc⟩ := h.1 hn
    obtain ⟨b', arr, ha', _, _⟩ := h.2.1 (List.length_pos_iff.2 hn)
    have hB := h.2.2 b' (List.length_pos_iff.2 hn) ha'
    rw [ha] at ha'
    simp at ha'
    have hbm : b ≠ m := by omega
    exact ⟨b, off, ha, by simpa using hl, fun k hk => ⟨(setCell_other_cell _ _ _ _ _ _ hbm).trans (hc k hk).1, (setCell_other_cell _ _ _ _ _ _ hbm).trans (hc k hk).2⟩⟩
  · obtain ⟨b, arr, ha, h0, h1⟩ := h.2.1 hn
    have hB := h.2.2 b hn ha
    exact ⟨b, arr, ha, (heap_setCell_other _ ⟨m, i, none⟩ b _ (show b ≠ m by omega)).trans h0, h1⟩
theorem own_wds {w : World} {B : Nat} {a : Option Addr} {c : Nat} {L : List Wd8} (h : w.ownsRow B 80 2 (.slice a L.length c) L.length (wv L)) : WdsB B w a L := by
  refine ⟨fun hn => ?_, fun hn => ?_, fun b hn e => ?_⟩
  · obtain ⟨g, c2, he, _⟩ := own_pos h (List.length_pos_iff.2 hn)
    simp only [Value.slice.injEq, true_and] at he
    obtain ⟨rfl, rfl⟩ := he
    obtain ⟨cur, hc, _⟩ := own_at h (g := g) rfl
    refine ⟨g, 0, rfl, lt_of_block hc, fun k hk => ?_⟩
    obtain ⟨h1, h2⟩ := wv_at L k hk
    rw [Nat.zero_add]
    exact ⟨(own_cell h h1).1, (own_cell h h2).1⟩
  · rcases h.2 with ⟨_, h0⟩ | ⟨g, cap, cur, hv, _, hh, hc, _, hs, _⟩
    · omega
    · simp only [Value.slice.injEq, true_and] at hv
      obtain ⟨rfl, rfl⟩ := hv
      refine ⟨g, cur, rfl, hh, ?_⟩
      have : L.length * 2 ≤ c * 2 := Nat.mul_le_mul_right _ hc
      omega
  · rw [e] at h
    obtain ⟨_, _, hB⟩ := own_at h (g := b) rfl
    exact hB
/-- A state that is being laid, in block sb. -/
def StAt (sb : Nat) (w : World) (mx : Int) (D : ByteArray) (L : List Wd8) : Prop := ∃ v, w.heap[sb]? = some (.cells #[.int .i64 mx, .string D, v] 42 (0, 0)) ∧ w.ownsRow (sb + 1) 80 2 v L.length (wv L)
def stD (M : Mod7) : ByteArray := zeros (M.pages.toNat * 256)
theorem shape_pages {M : Mod7} (h : shape M = true) : M.gs.length ≤ 6 ∧ 0 ≤ M.pages ∧ M.pages ≤ M.most ∧ M.most ≤ 8 ∧ (M.mem = false → M.pages = 0 ∧ M.most = 0) := by
  unfold shape goodP at h
  simp only [Bool.and_eq_true, decide_eq_true_eq] at h
  obtain ⟨⟨⟨⟨⟨_, h2⟩, _⟩, _⟩, hp⟩, _⟩ := h
  cases hm : M.mem
  · rw [hm] at hp
    simp at hp
    exact ⟨h2, by omega, by omega, by omega, fun _ => hp⟩
  · rw [hm] at hp
    simp at hp
    exact ⟨h2, by omega, by omega, by omega, fun h => by simp at h⟩

end Go.Proofs.YtdcfflmfimepfaaGreat

namespace Go.Proofs.YtdcfflmfimepfaaGreat
open Go.ChangeShapes Go.WideShapes Go.ChangeAt Go.RowKit

def fMx (M : Mod7) : Int := if shape M = true then M.most else 0
def fD (M : Mod7) : ByteArray := if shape M = true then stD M else ⟨#[]⟩
def fL (M : Mod7) : List Wd8 := if shape M = true then M.gs.map toWd else []
theorem wdsB_nil (B : Nat) (w : World) (a : Option Addr) : WdsB B w a [] := ⟨fun h => absurd rfl h, fun h => absurd h (by simp), fun _ h _ => absurd h (by simp)⟩

end Go.Proofs.YtdcfflmfimepfaaGreat

namespace Go.Proofs.YtdcfflmfimepfaaGreat
open Go.ChangeShapes Go.WideShapes Go.ChangeAt Go.RowKit

/-- What the law keeps in blocks below B: the module that came in, and what its own model told. -/
structure Inv8 (w : World) (B z s4 : Nat) (mc sc : Array Value) (a : Option Addr) (L : List Wd8) (wx : World) : Prop where
  bel : Below w.heap.size w wx
  bw : w.heap.size ≤ B
  bx : B ≤ wx.heap.size
  zB : z < B
  sB : s4 < B
  bz : wx.heap[z]? = some (.cells mc 25 (0, 0))
  bs : wx.heap[s4]? = some (.cells sc 42 (0, 0))
  wd : Wds wx a L
  wB : ∀ b off, L ≠ [] → a = some ⟨b, off, none⟩ → b < B
theorem Inv8.low {w : World} {B z s4 : Nat} {mc sc : Array Value} {a : Option Addr} {L : List Wd8} {wx wy : World} (h : Inv8 w B z s4 mc sc a L wx) (hb : Below B wx wy) : Inv8 w B z s4 mc sc a L wy := by
  refine ⟨h.bel.trans (hb.mono h.bw), h.bw, Nat.le_trans h.bx hb.size, h.zB, h.sB, (hb.block z h.zB).trans h.bz, (hb.block s4 h.sB).trans h.bs, fun hn => ?_, h.wB⟩
  obtain ⟨b, off, ha, hl, hc⟩ := h.wd hn
  have hB := h.wB b off hn ha
  exact ⟨b, off, ha, Nat.lt_of_lt_of_le hl hb.size, fun k hk => ⟨(hb.cell (p := ⟨b, off + k * 2, none⟩) hB).trans (hc k hk).1, (hb.cell (p := ⟨b, off + k * 2 + 1, none⟩) hB).trans (hc k hk).2⟩⟩
theorem Inv8.up {w : World} {B z s4 : Nat} {mc sc : Array Value} {a : Option Addr} {L : List Wd8} {wx wy : World} (h : Inv8 w B z s4 mc sc a L wx) (hb : Below wx.heap.size wx wy) : Inv8 w B z s4 mc sc a L wy := h.low (hb.mono h.bx)
theorem WdsB.chg {B : Nat} {w w' : World} {a : Option Addr} {L : List Wd8} {S : Nat → Prop} (h : WdsB B w a L) (hc : Chg S w w') (hS : ∀ k, S k → k < B) : WdsB B w' a L := by
  refine ⟨fun hn => ?_, hc.row h.2.1, h.2.2⟩
  obtain ⟨b, off, ha, hl, hd⟩ := h.1 hn
  obtain ⟨b', arr, ha', _, _⟩ := h.2.1 (List.length_pos_iff.2 hn)
  have hB := h.2.2 b' (List.length_pos_iff.2 hn) ha'
  rw [ha] at ha'
  simp at ha'
  have hns : ¬ S b := fun hs => by have := hS b hs; omega
  exact ⟨b, off, ha, by rw [hc.size]; exact hl, fun k hk => ⟨(chg_cell hc hns _).trans (hd k hk).1, (chg_cell hc hns _).trans (hd k hk).2⟩⟩

set_option maxRecDepth 100000 in
set_option maxHeartbeats 1600000 in
theorem markSt (mx : Int) (D : ByteArray) (a : Option Addr) (n c : Nat) (w : World) (hr : Hid (RowB w 80 2 a n)) (hn : n ≤ 1048576) :
    Calls Tryz.prog 14 #[.agg #[.int .i64 mx, .string D, .slice a n c], .int .i64 1] w fun e w' => ∃ w0, e = .returned (.int .i64 (1 + 2 * (n : Int))) ∧ Below w.heap.size w w0 ∧ Chg (fun x => 0 < n ∧ a = some ⟨x, 0, none⟩) w0 w' ∧ MarkedW w' a n := by
  have hb0 : Below w.heap.size w (w.alloc (.cells #[.int .i64 mx, .string D, .slice a n c] 42)) := (Below.refl _ _).alloc (Nat.le_refl _) _
  have T := markWds a n c _ (hr.out.below hb0) hn
  have HB0 : Hid (Below w.heap.size w (w.alloc (.cells #[.int .i64 mx, .string D, .slice a n c] 42))) := hb0
  clear hb0
  go_enter Tryz.func14, Tryz.ntmps14
  go_wp2_with fail
  refine T.mono ?_
  rintro e w1 ⟨rfl, hc, hm⟩
  have HC : Hid (Chg (fun x => 0 < n ∧ a = some ⟨x, 0, none⟩) (w.alloc (.cells #[.int .i64 mx, .string D, .slice a n c] 42)) w1 ∧ MarkedW w1 a n) := ⟨hc, hm⟩
  clear hc hm T
  go_wp2
  go_ret
  exact ⟨_, rfl, HB0.out, HC.out.1, HC.out.2⟩

set_option maxRecDepth 100000 in
set_option maxHeartbeats 1600000 in
theorem heldSt (mx : Int) (D : ByteArray) (a : Option Addr) (n c : Nat) (w : World) (hr : Hid (MarkedW w a n)) (hn : n ≤ 1048576) :
    Calls Tryz.prog 15 #[.agg #[.int .i64 mx, .string D, .slice a n c], .int .i64 1] w fun e w' => e = .returned (.int .i64 (1 + 2 * (n : Int))) ∧ Below w.heap.size w w' := by
  have hb0 : Below w.heap.size w (w.alloc (.cells #[.int .i64 mx, .string D, .slice a n c] 42)) := (Below.refl _ _).alloc (Nat.le_refl _) _
  have T := heldWds a n c _ (hr.out.below hb0) hn
  have HB0 : Hid (Below w.heap.size w (w.alloc (.cells #[.int .i64 mx, .string D, .slice a n c] 42))) := hb0
  clear hb0
  go_enter Tryz.func15, Tryz.ntmps15
  go_wp2_with fail
  refine T.mono ?_
  rintro e w1 ⟨rfl, hw⟩
  obtain rfl := hw.symm
  clear T
  go_wp2
  go_ret
  exact ⟨rfl, HB0.out⟩

end Go.Proofs.YtdcfflmfimepfaaGreat
