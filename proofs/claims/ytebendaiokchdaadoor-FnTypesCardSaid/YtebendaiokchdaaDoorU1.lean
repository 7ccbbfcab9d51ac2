/-
  The cursor that draws: it answers some number that fits, and stays a cursor.
-/
import Derived.Test.YtebendaiokchdaaDoorRows
import Derived.WalkKit
import Derived.Below
import Derived.Laws.Rows
import Derived.Laws.AppendOwn
import Derived.Laws.Bits64b
import Derived.Deep.QuietTactic
import Derived.BigQuiet
import Derived.Test.YtebendaiokchdaaDoorOwn
import Derived.Test.YtebendaiokchdaaDoorSleb
namespace Go.Proofs.YtebendaiokchdaaDoor
open Go.RowKit

/-- n bytes lie behind the address a. -/
def Bys (w : World) (a : Option Addr) (n : Nat) (B : Nat) : Prop := n ≠ 0 → ∃ b off, a = some ⟨b, off, none⟩ ∧ b < B ∧ ∀ i, i < n → ∃ z : Int, 0 ≤ z ∧ z ≤ 255 ∧ w.cell? ⟨b, off + i, none⟩ = some (.int .u8 z)
theorem Bys.below {w w' : World} {a : Option Addr} {n B : Nat} (h : Bys w a n B) (hb : Below B w w') : Bys w' a n B := fun hn => by
  obtain ⟨b, off, rfl, hl, hc⟩ := h hn
  refine ⟨b, off, rfl, hl, fun i hi => ?_⟩
  obtain ⟨z, z0, z1, hz⟩ := hc i hi
  exact ⟨z, z0, z1, (hb.cell (p := ⟨b, off + i, none⟩) hl).trans hz⟩
/-- A cursor lies in the block g, over n bytes, not farther than m. -/
structure Cur (w : World) (g : Nat) (a : Option Addr) (n cap B m : Nat) : Prop where
  code : w.cell? ⟨g, 0, none⟩ = some (.slice a n cap)
  at_ : ∃ t : Int, 0 ≤ t ∧ t ≤ m ∧ w.cell? ⟨g, 1, none⟩ = some (.int .i64 t)
  seed : ∃ s : Int, 0 ≤ s ∧ s ≤ 18446744073709551615 ∧ w.cell? ⟨g, 2, none⟩ = some (.int .u64 s)
  bys : Bys w a n B
  hg : B ≤ g
  lt : g < w.heap.size
  fr : ∀ j, w.frozen? ⟨g, j, none⟩ = false

/-- Nothing below B and nothing but the block g has changed. -/
structure Aft (B g : Nat) (w w' : World) : Prop where
  below : Below B w w'
  size : w.heap.size ≤ w'.heap.size
  blk : ∀ b, b ≠ g → b < w.heap.size → w'.heap[b]? = w.heap[b]?
theorem Aft.keep {B g : Nat} {w w' : World} (h : Aft B g w w') (b j : Nat) (hb : b ≠ g) (hl : b < w.heap.size) : w'.cell? ⟨b, j, none⟩ = w.cell? ⟨b, j, none⟩ := World.cell?_of_block (a := ⟨b, j, none⟩) (h.blk b hb hl)
theorem Aft.refl (B g : Nat) (w : World) : Aft B g w w := ⟨Below.refl _ _, Nat.le_refl _, fun _ _ _ => rfl⟩
theorem Aft.trans {B g : Nat} {a b c : World} (h : Aft B g a b) (k : Aft B g b c) : Aft B g a c :=
  ⟨h.below.trans k.below, Nat.le_trans h.size k.size, fun x hx hl => (k.blk x hx (Nat.lt_of_lt_of_le hl h.size)).trans (h.blk x hx hl)⟩
theorem bel_drewN {B : Nat} {a w : World} (h : Below B a w) (n : Nat) : Below B a (w.drewN n) := ⟨h.os, h.tape, h.output, h.size, h.block⟩
theorem Cur.moved {w : World} {g : Nat} {a : Option Addr} {n cap B m : Nat} (C : Cur w g a n cap B m) (p q : Nat) (t s : Int) (t0 : 0 ≤ t) (t1 : t ≤ (m : Int) + 1) (s0 : 0 ≤ s) (s1 : s ≤ 18446744073709551615) :
    Cur ((((w.drewN p).setCell ⟨g, 1, none⟩ (.int .i64 t)).setCell ⟨g, 2, none⟩ (.int .u64 s)).drewN q) g a n cap B (m + 1) ∧ Aft B g w ((((w.drewN p).setCell ⟨g, 1, none⟩ (.int .i64 t)).setCell ⟨g, 2, none⟩ (.int .u64 s)).drewN q) := by
  have hB : Below B w ((((w.drewN p).setCell ⟨g, 1, none⟩ (.int .i64 t)).setCell ⟨g, 2, none⟩ (.int .u64 s)).drewN q) :=
    bel_drewN (((bel_drewN (Below.refl B w) p).setCell (p := ⟨g, 1, none⟩) C.hg _).setCell (p := ⟨g, 2, none⟩) C.hg _) q
  obtain ⟨t', _, _, c1⟩ := C.at_
  obtain ⟨s', _, _, c2⟩ := C.seed
  have d1 : ((w.drewN p).setCell ⟨g, 1, none⟩ (.int .i64 t)).cell? ⟨g, 2, none⟩ = some (.int .u64 s') := by
    rw [World.cell?_setCell_other _ _ _ _ (by simp)]
    exact c2
  refine ⟨⟨?_, ⟨t, t0, by omega, ?_⟩, ⟨s, s0, s1, ?_⟩, C.bys.below hB, C.hg, ?_, fun j => ?_⟩, hB, ?_, fun b hb _ => ?_⟩
  · rw [World.cell?_drewN, World.cell?_setCell_other _ _ _ _ (by simp), World.cell?_setCell_other _ _ _ _ (by simp), World.cell?_drewN]
    exact C.code
  · rw [World.cell?_drewN, World.cell?_setCell_other _ _ _ _ (by simp)]
    exact World.cell?_setCell_same _ _ _ (by rw [World.cell?_drewN]; exact c1)
  · rw [World.cell?_drewN]
    exact World.cell?_setCell_same _ _ _ d1
  · simpa using C.lt
  · simpa using C.fr j
  · simp
  · show ((((w.drewN p).setCell ⟨g, 1, none⟩ (.int .i64 t)).setCell ⟨g, 2, none⟩ (.int .u64 s))).heap[b]? = _
    rw [heap_setCell_other _ _ _ _ hb, heap_setCell_other _ _ _ _ hb]; rfl
theorem c_lo (n : Int) : 0 ≤ IntKind.u64.wrap n := by rw [IntKind.wrap_u64]; omega
theorem c_hi (n : Int) : IntKind.u64.wrap n ≤ 18446744073709551615 := by rw [IntKind.wrap_u64]; omega
theorem and255 (a : Int) (h0 : 0 ≤ a) (h1 : a ≤ 18446744073709551615) : bits .and .u64 a 255 = a % 256 := by
  obtain ⟨n, rfl⟩ := Int.eq_ofNat_of_zero_le h0
  have h := bits_and_u64_nat n 255 (by omega) (by omega)
  have e : n &&& 255 = n % 256 := Nat.and_two_pow_sub_one_eq_mod n 8
  rw [e] at h
  exact h.trans (by omega)

set_option maxHeartbeats 1000000 in
theorem curNext (g : Nat) (a : Option Addr) (n cap B m : Nat) (hm : Hid (m ≤ 1000000)) (w : World) (C : Cur w g a n cap B m) :
    Calls Tryd.prog 50 #[.pointer (some ⟨g, 0, none⟩)] w fun e w' => ∃ r : Int, 0 ≤ r ∧ r ≤ 255 ∧ e = .returned (.int .i64 r) ∧ Cur w' g a n cap B (m + 1) ∧ Aft B g w w' := by
  have c0 := C.code
  obtain ⟨t, t0, t1, c1⟩ := C.at_
  obtain ⟨s, s0, s1, c2⟩ := C.seed
  have f1 := C.fr 1
  have f2 := C.fr 2
  obtain ⟨k, rfl⟩ : ∃ k : Nat, t = k := ⟨t.toNat, by omega⟩
  have hk := hm.out
  have T : Hid ((k : Int) ≤ m) := t1
  have hw1 : wrap64 ((k : Int) + 1) = (k : Int) + 1 := by unfold wrap64; omega
  obtain ⟨s2, hs2⟩ : ∃ s2, IntKind.u64.wrap (IntKind.u64.wrap (IntKind.u64.wrap (s * 6364136223846793005)) + 1442695040888963407) = s2 := ⟨_, rfl⟩
  by_cases ht : (k : Int) < n
  · obtain ⟨b, off, rfl, hbl, hc⟩ := C.bys (by omega)
    obtain ⟨z, z0, z1, hz⟩ := hc k (by omega)
    have hle : (k : Int) + 1 ≤ n := by omega
    clear hk t0 t1
    go_enter Tryd.func50, Tryd.ntmps50
    go_wp2
    go_quiet (fail)
    go_wp2
    go_quiet (fail)
    go_wp2
    go_quiet (fail)
    go_wp2
    go_ret
    have T1 := T.out
    clear ht hle hc hz c0 c1 c2 f1 f2 hw1 hs2 s0 s1
    exact ⟨z, z0, z1, rfl, C.moved _ _ _ _ (by omega) (by omega) (c_lo _) (c_hi _)⟩
  · have hle : ¬ (k : Int) + 1 ≤ n := by omega
    clear hk t0 t1
    go_enter Tryd.func50, Tryd.ntmps50
    go_wp2
    go_quiet (fail)
    go_wp2
    go_quiet (fail)
    go_wp2
    go_ret
    have e0 : 0 ≤ s2 := by rw [← hs2]; exact c_lo _
    have e1 : s2 ≤ 18446744073709551615 := by rw [← hs2]; exact c_hi _
    have T1 := T.out
    clear ht hle c0 c1 c2 f1 f2 hw1 hs2 s0 s1
    have e2 := and255 (s2 / 1099511627776) (by omega) (by omega)
    refine ⟨wrap64 (bits .and .u64 (s2 / 1099511627776) 255), ?_, ?_, rfl, C.moved _ _ _ _ (by omega) (by omega) e0 e1⟩
    · rw [e2]; unfold wrap64; omega
    · rw [e2]; unfold wrap64; omega

end Go.Proofs.YtebendaiokchdaaDoor

namespace Go.Proofs.YtebendaiokchdaaDoor
open Go.RowKit

theorem Cur.more {w : World} {g : Nat} {a : Option Addr} {n cap B m k : Nat} (C : Cur w g a n cap B m) (h : m ≤ k) : Cur w g a n cap B k := by
  obtain ⟨t, t0, t1, c⟩ := C.at_
  exact ⟨C.code, ⟨t, t0, by omega, c⟩, C.seed, C.bys, C.hg, C.lt, C.fr⟩
theorem or_i64 (x y : Int) : -9223372036854775808 ≤ bits .or .i64 x y ∧ bits .or .i64 x y ≤ 9223372036854775807 := by
  show -9223372036854775808 ≤ IntKind.i64.wrap _ ∧ IntKind.i64.wrap _ ≤ 9223372036854775807
  rw [IntKind.wrap_i64]
  omega
theorem and_i64 (x y : Int) : -9223372036854775808 ≤ bits .and .i64 x y ∧ bits .and .i64 x y ≤ 9223372036854775807 := by
  show -9223372036854775808 ≤ IntKind.i64.wrap _ ∧ IntKind.i64.wrap _ ≤ 9223372036854775807
  rw [IntKind.wrap_i64]
  omega
theorem hid_le {m k : Nat} (h : m ≤ k) : Hid (m ≤ k) := h

set_option maxHeartbeats 1000000 in
theorem curPick (N : Int) (N0 : 1 ≤ N) (N1 : N ≤ 2000000) (g : Nat) (a : Option Addr) (n cap B m : Nat) (hm : Hid (m ≤ 900000)) (w : World) (C : Cur w g a n cap B m) :
    Calls Tryd.prog 36 #[.pointer (some ⟨g, 0, none⟩), .int .i64 N] w fun e w' => ∃ r : Int, 0 ≤ r ∧ r < N ∧ e = .returned (.int .i64 r) ∧ Cur w' g a n cap B (m + 2) ∧ Aft B g w w' := by
  have hm1 : Hid (m ≤ 1000000) := hid_le (Nat.le_trans hm.out (by omega))
  have hm2 : Hid (m + 1 ≤ 1000000) := hid_le (by have := hm.out; omega)
  by_cases h1 : N ≤ 1
  · go_enter Tryd.func36, Tryd.ntmps36
    go_wp2
    go_ret
    exact ⟨0, by omega, by omega, rfl, C.more (by omega), Aft.refl _ _ _⟩
  · have hN : ¬ N = 0 := by omega
    by_cases h2 : 200 < N
    · go_enter Tryd.func36, Tryd.ntmps36
      go_wp2_with fail
      refine (curNext g a n cap B m hm1 w C).mono ?_
      rintro e w1 ⟨r, r0, r1, rfl, C1, B1⟩
      go_wp2_with fail
      refine (curNext g a n cap B (m + 1) hm2 w1 C1).mono ?_
      rintro e w2 ⟨r2, r20, r21, rfl, C2, B2⟩
      go_wp2
      go_ret
      exact ⟨(r * 256 + r2) % N, Int.emod_nonneg _ hN, Int.emod_lt_of_pos _ (by omega), rfl, C2, B1.trans B2⟩
    · go_enter Tryd.func36, Tryd.ntmps36
      go_wp2_with fail
      refine (curNext g a n cap B m hm1 w C).mono ?_
      rintro e w1 ⟨r, r0, r1, rfl, C1, B1⟩
      go_wp2
      go_ret
      exact ⟨r % N, Int.emod_nonneg _ hN, Int.emod_lt_of_pos _ (by omega), rfl, C1.more (by omega), B1⟩

theorem curOne (N : Int) (N0 : 1 ≤ N) (N1 : N ≤ 100000) (g : Nat) (a : Option Addr) (n cap B m : Nat) (hm : Hid (m ≤ 900000)) (w : World) (C : Cur w g a n cap B m) :
    Calls Tryd.prog 37 #[.pointer (some ⟨g, 0, none⟩), .int .i64 N] w fun e w' => ∃ b : Bool, e = .returned (.bool b) ∧ Cur w' g a n cap B (m + 2) ∧ Aft B g w w' := by
  go_enter Tryd.func37, Tryd.ntmps37
  go_wp2_with fail
  refine (curPick N N0 (by omega) g a n cap B m hm w C).mono ?_
  rintro e w1 ⟨r, r0, r1, rfl, C1, B1⟩
  go_wp2
  go_ret
  exact ⟨r == 0, rfl, C1, B1⟩

theorem Cur.kept {w w' : World} {g : Nat} {a : Option Addr} {n cap B m : Nat} (C : Cur w g a n cap B m) (h : Below w.heap.size w w') : Cur w' g a n cap B m := by
  obtain ⟨t, t0, t1, c1⟩ := C.at_
  obtain ⟨s, s0, s1, c2⟩ := C.seed
  have hl := C.lt
  have hB := C.hg
  have k : ∀ j, w'.cell? ⟨g, j, none⟩ = w.cell? ⟨g, j, none⟩ := fun j => h.cell (p := ⟨g, j, none⟩) hl
  exact ⟨(k 0).trans C.code, ⟨t, t0, t1, (k 1).trans c1⟩, ⟨s, s0, s1, (k 2).trans c2⟩, C.bys.below (h.mono (by omega)), C.hg, Nat.lt_of_lt_of_le hl h.size, fun j => (h.frozen (p := ⟨g, j, none⟩) hl).trans (C.fr j)⟩

/-- Some numbers lie in a block of their own. -/
def Row (w : World) (b k : Nat) : Prop := ∀ i, i < k → ∃ z : Int, -9223372036854775808 ≤ z ∧ z ≤ 9223372036854775807 ∧ w.cell? ⟨b, i, none⟩ = some (.int .i64 z)

set_option maxHeartbeats 1000000 in
theorem curAmong (b k : Nat) (k0 : 1 ≤ k) (k1 : k ≤ 1000) (g : Nat) (a : Option Addr) (n cap B m : Nat) (hm : Hid (m ≤ 900000)) (w : World) (C : Cur w g a n cap B m) (hr : Row w b k) (hb : b < w.heap.size) (hbg : b ≠ g) :
    Calls Tryd.prog 38 #[.pointer (some ⟨g, 0, none⟩), .slice (some ⟨b, 0, none⟩) k k] w fun e w' => ∃ r : Int, -9223372036854775808 ≤ r ∧ r ≤ 9223372036854775807 ∧ e = .returned (.int .i64 r) ∧ Cur w' g a n cap B (m + 2) ∧ Aft B g w w' := by
  go_enter Tryd.func38, Tryd.ntmps38
  go_wp2_with fail
  refine (curPick k (by omega) (by omega) g a n cap B m hm w C).mono ?_
  rintro e w1 ⟨r, r0, r1, rfl, C1, B1⟩
  obtain ⟨j, rfl⟩ : ∃ j : Nat, r = j := ⟨r.toNat, by omega⟩
  obtain ⟨z, z0, z1, hz⟩ := hr j (by omega)
  have hz1 : w1.cell? ⟨b, j, none⟩ = some (.int .i64 z) := (B1.keep b j hbg hb).trans hz
  go_wp2
  go_ret
  exact ⟨z, z0, z1, rfl, C1, B1⟩

end Go.Proofs.YtebendaiokchdaaDoor

namespace Go.Proofs.YtebendaiokchdaaDoor
open Go.RowKit

theorem u_lo (n : Int) : 0 ≤ IntKind.u64.wrap n := by rw [IntKind.wrap_u64]; omega
theorem u_hi (n : Int) : IntKind.u64.wrap n ≤ 18446744073709551615 := by rw [IntKind.wrap_u64]; omega
theorem Aft.alloc {B g : Nat} {w : World} (h : B ≤ w.heap.size) (o : Obj) : Aft B g w (w.alloc o) :=
  ⟨(Below.refl B w).alloc h o, by simp, fun b _ hl => (Below.refl w.heap.size w |>.alloc (Nat.le_refl _) o).block b hl⟩

def okV : Value → Bool
  | .int .i64 z => decide (-9223372036854775808 ≤ z) && decide (z ≤ 9223372036854775807)
  | _ => false
theorem okV_int : ∀ v, okV v = true → ∃ z : Int, -9223372036854775808 ≤ z ∧ z ≤ 9223372036854775807 ∧ v = .int .i64 z
  | .int .i64 z, h => by
    simp [okV] at h
    exact ⟨z, h.1, h.2, rfl⟩
theorem row_new (w : World) (A : List Value) (t : TypeId) (h : A.all okV = true) : Row (w.alloc (.cells A.toArray t)) w.heap.size A.length := fun i hi => by
  obtain ⟨z, z0, z1, hz⟩ := okV_int A[i] (List.all_eq_true.1 h _ (List.getElem_mem hi))
  refine ⟨z, z0, z1, ?_⟩
  rw [World.cell?_alloc_at A.toArray t _ i rfl]
  simp [hi, hz]
theorem Cur.alloc {w : World} {g : Nat} {a : Option Addr} {n cap B m : Nat} (C : Cur w g a n cap B m) (o : Obj) : Cur (w.alloc o) g a n cap B m := C.kept ((Below.refl _ _).alloc (Nat.le_refl _) o)

end Go.Proofs.YtebendaiokchdaaDoor

namespace Go.Proofs.YtebendaiokchdaaDoor
open Go.RowKit

theorem cur_new (w : World) (a : Option Addr) (n cap : Nat) (t : TypeId) (hb : Bys w a n w.heap.size) : Cur (w.alloc (.cells #[.slice a n cap, .int .i64 0, .int .u64 0] t)) w.heap.size a n cap w.heap.size 0 := by
  refine ⟨?_, ⟨0, by omega, by omega, ?_⟩, ⟨0, by omega, by omega, ?_⟩, hb.below ((Below.refl _ _).alloc (Nat.le_refl _) _), Nat.le_refl _, by simp, fun j => World.frozen?_alloc_at _ t _ j rfl⟩
  · rw [World.cell?_alloc_at _ t _ 0 rfl]; rfl
  · rw [World.cell?_alloc_at _ t _ 1 rfl]; rfl
  · rw [World.cell?_alloc_at _ t _ 2 rfl]; rfl
theorem below_new (w : World) (o : Obj) : Below w.heap.size w (w.alloc o) := (Below.refl _ _).alloc (Nat.le_refl _) _

end Go.Proofs.YtebendaiokchdaaDoor

namespace Go.Proofs.YtebendaiokchdaaDoor
open Go.ChangeShapes Go.WideShapes Go.ChangeAt Go.RowKit

theorem s_lo (n : Int) : -9223372036854775808 ≤ wrap64 n := by unfold wrap64; omega
theorem s_hi (n : Int) : wrap64 n ≤ 9223372036854775807 := by unfold wrap64; omega

/-- Some texts of at most ten bytes lie in a block of their own. -/
def RowT (w : World) (b k : Nat) : Prop := ∀ i, i < k → ∃ s : ByteArray, s.size ≤ 10 ∧ w.cell? ⟨b, i, none⟩ = some (.string s)
def okT : Value → Bool
  | .string s => decide (s.size ≤ 10)
  | _ => false
theorem okT_str : ∀ v, okT v = true → ∃ s : ByteArray, s.size ≤ 10 ∧ v = .string s
  | .string s, h => by
    simp [okT] at h
    exact ⟨s, h, rfl⟩
theorem rowT_new (w : World) (A : List Value) (t : TypeId) (h : A.all okT = true) : RowT (w.alloc (.cells A.toArray t)) w.heap.size A.length := fun i hi => by
  obtain ⟨z, z0, hz⟩ := okT_str A[i] (List.all_eq_true.1 h _ (List.getElem_mem hi))
  refine ⟨z, z0, ?_⟩
  rw [World.cell?_alloc_at A.toArray t _ i rfl]
  simp [hi, hz]

theorem own_blk {w w' : World} {B : Nat} {e : TypeId} {s n : Nat} {v : Value} {xs : List Value} (h : w.ownsRow B e s v n xs) (hk : ∀ g, B ≤ g → g < w.heap.size → w'.heap[g]? = w.heap[g]?) : w'.ownsRow B e s v n xs := by
  refine ⟨h.1, ?_⟩
  rcases h.2 with h0 | ⟨g, cap, cur, h1, h2, h3, h4⟩
  · exact Or.inl h0
  · exact Or.inr ⟨g, cap, cur, h1, h2, (hk g h2 (lt_of_block h3)).trans h3, h4⟩
theorem Cur.low {w w' : World} {g : Nat} {a : Option Addr} {n cap B m D : Nat} (C : Cur w g a n cap B m) (hD : g < D) (h : Below D w w') : Cur w' g a n cap B m := by
  obtain ⟨t, t0, t1, c1⟩ := C.at_
  obtain ⟨s, s0, s1, c2⟩ := C.seed
  have hB := C.hg
  have k : ∀ j, w'.cell? ⟨g, j, none⟩ = w.cell? ⟨g, j, none⟩ := fun j => h.cell (p := ⟨g, j, none⟩) hD
  exact ⟨(k 0).trans C.code, ⟨t, t0, t1, (k 1).trans c1⟩, ⟨s, s0, s1, (k 2).trans c2⟩, C.bys.below (h.mono (by omega)), C.hg, Nat.lt_of_lt_of_le C.lt h.size, fun j => (h.frozen (p := ⟨g, j, none⟩) hD).trans (C.fr j)⟩

theorem two_resL {fn : Func} {a b : Tmp} (h : fn.results = #[.tmp a, .tmp b]) (tmps : Array Value) (P : Program) (w : World) :
    (results fn tmps).run P w = .ok (.tuple #[tmps.getD a undef, tmps.getD b undef]) w := by
  simp [results, h]

end Go.Proofs.YtebendaiokchdaaDoor
