/-
  What is drawn for products and quotients of two words: some numbers that fit.
-/
import Derived.Test.YtcgnefgdfgikdaaGreatU1
import Derived.Test.YtcgnefgdfgikdaaGreatA1
import Derived.Test.YtcgnefgdfgikdaaGreatU3
namespace Go.Proofs.YtcgnefgdfgikdaaGreat
open Go.RowKit

theorem cur_new (w : World) (a : Option Addr) (n cap : Nat) (t : TypeId) (hb : Bys w a n w.heap.size) : Cur (w.alloc (.cells #[.slice a n cap, .int .i64 0, .int .u64 0] t)) w.heap.size a n cap w.heap.size 0 := by
  refine ⟨?_, ⟨0, by omega, by omega, ?_⟩, ⟨0, by omega, by omega, ?_⟩, hb.below ((Below.refl _ _).alloc (Nat.le_refl _) _), Nat.le_refl _, by simp, fun j => World.frozen?_alloc_at _ t _ j rfl⟩
  · rw [World.cell?_alloc_at _ t _ 0 rfl]; rfl
  · rw [World.cell?_alloc_at _ t _ 1 rfl]; rfl
  · rw [World.cell?_alloc_at _ t _ 2 rfl]; rfl
theorem below_new (w : World) (o : Obj) : Below w.heap.size w (w.alloc o) := (Below.refl _ _).alloc (Nat.le_refl _) _

end Go.Proofs.YtcgnefgdfgikdaaGreat

namespace Go.Proofs.YtcgnefgdfgikdaaGreat
open Go.ChangeShapes Go.WideShapes Go.ChangeAt Go.RowKit

theorem s_lo (n : Int) : -9223372036854775808 ≤ wrap64 n := by unfold wrap64; omega
theorem s_hi (n : Int) : wrap64 n ≤ 9223372036854775807 := by unfold wrap64; omega

set_option maxHeartbeats 1000000 in
theorem curSigned (g : Nat) (a : Option Addr) (n cap B m : Nat) (hm : Hid (m ≤ 700000)) (w : World) (C : Cur w g a n cap B m) :
    Calls Tryz.prog 66 #[.pointer (some ⟨g, 0, none⟩)] w fun e w' => ∃ r : Int, -9223372036854775808 ≤ r ∧ r ≤ 9223372036854775807 ∧ e = .returned (.int .i64 r) ∧ Cur w' g a n cap B (m + 14) ∧ Aft B g w w' := by
  go_enter Tryz.func66, Tryz.ntmps66
  go_wp2_with fail
  refine (curWord g a n cap B m (hid_le (by have := hm.out; omega)) w C).mono ?_
  rintro e w1 ⟨r, r0, r1, rfl, C1, B1⟩
  obtain ⟨x, hx⟩ : ∃ x, wrap64 r = x := ⟨_, rfl⟩
  have x0 : -9223372036854775808 ≤ x := by rw [← hx]; exact s_lo _
  have x1 : x ≤ 9223372036854775807 := by rw [← hx]; exact s_hi _
  go_wp2_with fail
  refine (curOne 2 (by omega) (by omega) g a n cap B (m + 12) (hid_le (by have := hm.out; omega)) w1 C1).mono ?_
  rintro e w2 ⟨o, rfl, C2, B2⟩
  cases o
  · go_wp2
    go_ret
    exact ⟨_, x0, x1, rfl, C2, B1.trans B2⟩
  · go_wp2
    go_ret
    exact ⟨_, s_lo _, s_hi _, rfl, C2, B1.trans B2⟩

/-- Some texts of at most ten bytes lie in a block of their own. -/
def RowT (w : World) (b k : Nat) : Prop := ∀ i, i < k → ∃ s : ByteArray, s.size ≤ 10 ∧ w.cell? ⟨b, i, none⟩ = some (.string s)
def okT : Value → Bool
  | .string s => decide (s.size ≤ 10)
  | _ => false
theorem okT_str : ∀ v, okT v = true → ∃ s : ByteArray, s.size ≤ 10 ∧ v = .string s
  | .string s, h => by
    simp [okT] at h
    exact ⟨s, h, rfl⟩
theorem rowT_new (w : World) (A : List Value) (t : TypeId) (h : A.all okT = true) : RowT (w.alloc (.cells A.toArray t)) w.heap.size A.length := fun i hi => by
  obtain ⟨z, z0, hz⟩ := okT_str A[i] (List.all_eq_true.1 h _ (List.getElem_mem hi))
  refine ⟨z, z0, ?_⟩
  rw [World.cell?_alloc_at A.toArray t _ i rfl]
  simp [hi, hz]

theorem own_blk {w w' : World} {B : Nat} {e : TypeId} {s n : Nat} {v : Value} {xs : List Value} (h : w.ownsRow B e s v n xs) (hk : ∀ g, B ≤ g → g < w.heap.size → w'.heap[g]? = w.heap[g]?) : w'.ownsRow B e s v n xs := by
  refine ⟨h.1, ?_⟩
  rcases h.2 with h0 | ⟨g, cap, cur, h1, h2, h3, h4⟩
  · exact Or.inl h0
  · exact Or.inr ⟨g, cap, cur, h1, h2, (hk g h2 (lt_of_block h3)).trans h3, h4⟩
theorem Cur.low {w w' : World} {g : Nat} {a : Option Addr} {n cap B m D : Nat} (C : Cur w g a n cap B m) (hD : g < D) (h : Below D w w') : Cur w' g a n cap B m := by
  obtain ⟨t, t0, t1, c1⟩ := C.at_
  obtain ⟨s, s0, s1, c2⟩ := C.seed
  have hB := C.hg
  have k : ∀ j, w'.cell? ⟨g, j, none⟩ = w.cell? ⟨g, j, none⟩ := fun j => h.cell (p := ⟨g, j, none⟩) hD
  exact ⟨(k 0).trans C.code, ⟨t, t0, t1, (k 1).trans c1⟩, ⟨s, s0, s1, (k 2).trans c2⟩, C.bys.below (h.mono (by omega)), C.hg, Nat.lt_of_lt_of_le C.lt h.size, fun j => (h.frozen (p := ⟨g, j, none⟩) hD).trans (C.fr j)⟩

theorem two_resL {fn : Func} {a b : Tmp} (h : fn.results = #[.tmp a, .tmp b]) (tmps : Array Value) (P : Program) (w : World) :
    (results fn tmps).run P w = .ok (.tuple #[tmps.getD a undef, tmps.getD b undef]) w := by
  simp [results, h]

end Go.Proofs.YtcgnefgdfgikdaaGreat
