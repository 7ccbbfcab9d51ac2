/-
  The cursor that draws: it answers some number that fits, and stays a cursor.
-/
import Derived.Test.YtdalkbapfjpkoaaRows
import Derived.WalkKit
import Derived.Below
import Derived.Laws.Rows
import Derived.Laws.AppendOwn
import Derived.Laws.Bits64b
import Derived.Deep.QuietTactic
import Derived.BigQuiet
namespace Go.Proofs.Ytdalkbapfjpkoaa
open Go.RowKit

/-- n bytes lie behind the address a. -/
def Bys (w : World) (a : Option Addr) (n : Nat) (B : Nat) : Prop := n ≠ 0 → ∃ b off, a = some ⟨b, off, none⟩ ∧ b < B ∧ ∀ i, i < n → ∃ z : Int, 0 ≤ z ∧ z ≤ 255 ∧ w.cell? ⟨b, off + i, none⟩ = some (.int .u8 z)
theorem Bys.below {w w' : World} {a : Option Addr} {n B : Nat} (h : Bys w a n B) (hb : Below B w w') : Bys w' a n B := fun hn => by
  obtain ⟨b, off, rfl, hl, hc⟩ := h hn
  refine ⟨b, off, rfl, hl, fun i hi => ?_⟩
  obtain ⟨z, z0, z1, hz⟩ := hc i hi
  exact ⟨z, z0, z1, (hb.cell (p := ⟨b, off + i, none⟩) hl).trans hz⟩
/-- A cursor lies in the block g, over n bytes, not farther than m. -/
structure Cur (w : World) (g : Nat) (a : Option Addr) (n cap B m : Nat) : Prop where
  code : w.cell? ⟨g, 0, none⟩ = some (.slice a n cap)
  at_ : ∃ t : Int, 0 ≤ t ∧ t ≤ m ∧ w.cell? ⟨g, 1, none⟩ = some (.int .i64 t)
  seed : ∃ s : Int, 0 ≤ s ∧ s ≤ 18446744073709551615 ∧ w.cell? ⟨g, 2, none⟩ = some (.int .u64 s)
  bys : Bys w a n B
  hg : B ≤ g
  lt : g < w.heap.size
  fr : ∀ j, w.frozen? ⟨g, j, none⟩ = false

/-- Nothing below B and nothing but the block g has changed. -/
structure Aft (B g : Nat) (w w' : World) : Prop where
  below : Below B w w'
  size : w.heap.size ≤ w'.heap.size
  blk : ∀ b, b ≠ g → b < w.heap.size → w'.heap[b]? = w.heap[b]?
theorem Aft.keep {B g : Nat} {w w' : World} (h : Aft B g w w') (b j : Nat) (hb : b ≠ g) (hl : b < w.heap.size) : w'.cell? ⟨b, j, none⟩ = w.cell? ⟨b, j, none⟩ := World.cell?_of_block (a := ⟨b, j, none⟩) (h.blk b hb hl)
theorem Aft.refl (B g : Nat) (w : World) : Aft B g w w := ⟨Below.refl _ _, Nat.le_refl _, fun _ _ _ => rfl⟩
theorem Aft.trans {B g : Nat} {a b c : World} (h : Aft B g a b) (k : Aft B g b c) : Aft B g a c :=
  ⟨h.below.trans k.below, Nat.le_trans h.size k.size, fun x hx hl => (k.blk x hx (Nat.lt_of_lt_of_le hl h.size)).trans (h.blk x hx hl)⟩
theorem bel_drewN {B : Nat} {a w : World} (h : Below B a w) (n : Nat) : Below B a (w.drewN n) := ⟨h.os, h.tape, h.output, h.size, h.block⟩
theorem Cur.moved {w : World} {g : Nat} {a : Option Addr} {n cap B m : Nat} (C : Cur w g a n cap B m) (p q : Nat) (t s : Int) (t0 : 0 ≤ t) (t1 : t ≤ (m : Int) + 1) (s0 : 0 ≤ s) (s1 : s ≤ 18446744073709551615) :
    Cur ((((w.drewN p).setCell ⟨g, 1, none⟩ (.int .i64 t)).setCell ⟨g, 2, none⟩ (.int .u64 s)).drewN q) g a n cap B (m + 1) ∧ Aft B g w ((((w.drewN p).setCell ⟨g, 1, none⟩ (.int .i64 t)).setCell ⟨g, 2, none⟩ (.int .u64 s)).drewN q) := by
  have hB : Below B w ((((w.drewN p).setCell ⟨g, 1, none⟩ (.int .i64 t)).setCell ⟨g, 2, none⟩ (.int .u64 s)).drewN q) :=
    bel_drewN (((bel_drewN (Below.refl B w) p).setCell (p := ⟨g, 1, none⟩) C.hg _).setCell (p := ⟨g, 2, none⟩) C.hg _) q
  obtain ⟨t', _, _, c1⟩ := C.at_
  obtain ⟨s', _, _, c2⟩ := C.seed
  have d1 : ((w.drewN p).setCell ⟨g, 1, none⟩ (.int .i64 t)).cell? ⟨g, 2, none⟩ = some (.int .u64 s') := by
    rw [World.cell?_setCell_other _ _ _ _ (by simp)]
    exact c2
  refine ⟨⟨?_, ⟨t, t0, by omega, ?_⟩, ⟨s, s0, s1, ?_⟩, C.bys.below hB, C.hg, ?_, fun j => ?_⟩, hB, ?_, fun b hb _ => ?_⟩
  · rw [World.cell?_drewN, World.cell?_setCell_other _ _ _ _ (by simp), World.cell?_setCell_other _ _ _ _ (by simp), World.cell?_drewN]
    exact C.code
  · rw [World.cell?_drewN, World.cell?_setCell_other _ _ _ _ (by simp)]
    exact World.cell?_setCell_same _ _ _ (by rw [World.cell?_drewN]; exact c1)
  · rw [World.cell?_drewN]
    exact World.cell?_setCell_same _ _ _ d1
  · simpa using C.lt
  · simpa using C.fr j
  · simp
  · show ((((w.drewN p).setCell ⟨g, 1, none⟩ (.int .i64 t)).setCell ⟨g, 2, none⟩ (.int .u64 s))).heap[b]? = _
    rw [heap_setCell_other _ _ _ _ hb, heap_setCell_other _ _ _ _ hb]; rfl
theorem c_lo (n : Int) : 0 ≤ IntKind.u64.wrap n := by rw [IntKind.wrap_u64]; omega
theorem c_hi (n : Int) : IntKind.u64.wrap n ≤ 18446744073709551615 := by rw [IntKind.wrap_u64]; omega
theorem and255 (a : Int) (h0 : 0 ≤ a) (h1 : a ≤ 18446744073709551615) : bits .and .u64 a 255 = a % 256 := by
  obtain ⟨n, rfl⟩ := Int.eq_ofNat_of_zero_le h0
  have h := bits_and_u64_nat n 255 (by omega) (by omega)
  have e : n &&& 255 = n % 256 := Nat.and_two_pow_sub_one_eq_mod n 8
  rw [e] at h
  exact h.trans (by omega)

set_option maxHeartbeats 1000000 in
theorem curNext (g : Nat) (a : Option Addr) (n cap B m : Nat) (hm : Hid (m ≤ 1000000)) (w : World) (C : Cur w g a n cap B m) :
    Calls Try.prog 24 #[.pointer (some ⟨g, 0, none⟩)] w fun e w' => ∃ r : Int, 0 ≤ r ∧ r ≤ 255 ∧ e = .returned (.int .i64 r) ∧ Cur w' g a n cap B (m + 1) ∧ Aft B g w w' := by
  have c0 := C.code
  obtain ⟨t, t0, t1, c1⟩ := C.at_
  obtain ⟨s, s0, s1, c2⟩ := C.seed
  have f1 := C.fr 1
  have f2 := C.fr 2
  obtain ⟨k, rfl⟩ : ∃ k : Nat, t = k := ⟨t.toNat, by omega⟩
  have hk := hm.out
  have T : Hid ((k : Int) ≤ m) := t1
  have hw1 : wrap64 ((k : Int) + 1) = (k : Int) + 1 := by unfold wrap64; omega
  obtain ⟨s2, hs2⟩ : ∃ s2, IntKind.u64.wrap (IntKind.u64.wrap (IntKind.u64.wrap (s * 6364136223846793005)) + 1442695040888963407) = s2 := ⟨_, rfl⟩
  by_cases ht : (k : Int) < n
  · obtain ⟨b, off, rfl, hbl, hc⟩ := C.bys (by omega)
    obtain ⟨z, z0, z1, hz⟩ := hc k (by omega)
    have hle : (k : Int) + 1 ≤ n := by omega
    clear hk t0 t1
    go_enter Try.func24, Try.ntmps24
    go_wp2
    go_quiet (fail)
    go_wp2
    go_quiet (fail)
    go_wp2
    go_quiet (fail)
    go_wp2
    go_ret
    have T1 := T.out
    clear ht hle hc hz c0 c1 c2 f1 f2 hw1 hs2 s0 s1
    exact ⟨z, z0, z1, rfl, C.moved _ _ _ _ (by omega) (by omega) (c_lo _) (c_hi _)⟩
  · have hle : ¬ (k : Int) + 1 ≤ n := by omega
    clear hk t0 t1
    go_enter Try.func24, Try.ntmps24
    go_wp2
    go_quiet (fail)
    go_wp2
    go_quiet (fail)
    go_wp2
    go_ret
    have e0 : 0 ≤ s2 := by rw [← hs2]; exact c_lo _
    have e1 : s2 ≤ 18446744073709551615 := by rw [← hs2]; exact c_hi _
    have T1 := T.out
    clear ht hle c0 c1 c2 f1 f2 hw1 hs2 s0 s1
    have e2 := and255 (s2 / 1099511627776) (by omega) (by omega)
    refine ⟨wrap64 (bits .and .u64 (s2 / 1099511627776) 255), ?_, ?_, rfl, C.moved _ _ _ _ (by omega) (by omega) e0 e1⟩
    · rw [e2]; unfold wrap64; omega
    · rw [e2]; unfold wrap64; omega

end Go.Proofs.Ytdalkbapfjpkoaa
