/-
  Small laws on a slice of bytes that a call makes itself: over whatever program.
-/
import Derived.WalkKit
import Derived.WalkLawsBesides
import Derived.Maps.AppendAt
import Derived.Laws.BytesString
import Derived.Laws.IdiomStrings
namespace Go.Proofs.YtljnciclbjcinaaGreatDoor
open Go.RowKit

/-- Bytes as the values of their cells. -/
def bv (l : List UInt8) : List Value := l.map fun b => .int .u8 (b.toNat : Int)
theorem bv_app (l m : List UInt8) : bv l ++ bv m = bv (l ++ m) := by simp [bv]
theorem bv_len (l : List UInt8) : (bv l).length = l.length := by simp [bv]
theorem bv_one (l : List UInt8) : ∀ u ∈ bv l, u.oneCell' = true := by
  intro u hu; simp only [bv, List.mem_map] at hu; obtain ⟨b, _, rfl⟩ := hu; rfl
theorem ownsRow_block {w : World} {base : Nat} {e : TypeId} {size n : Nat} {v : Value} {xs : List Value} (h : w.ownsRow base e size v n xs) : ∀ k, v.ownBlock = some k → base ≤ k := by
  intro k hk
  rcases h.2 with ⟨rfl, _⟩ | ⟨g, cap, cur, rfl, hg, _⟩
  · simp [Value.ownBlock] at hk
  · simp [Value.ownBlock] at hk; omega
theorem ownsRow_shape {w : World} {base : Nat} {e : TypeId} {size n : Nat} {v : Value} {xs : List Value} (h : w.ownsRow base e size v n xs) : ∃ a c, v = .slice a n c := by
  rcases h.2 with ⟨rfl, rfl⟩ | ⟨g, cap, cur, rfl, _⟩
  · exact ⟨none, 0, rfl⟩
  · exact ⟨_, _, rfl⟩
theorem owned_string {P : Program} {w : World} {base : Nat} {v : Value} {bs : List UInt8} (src dst e : TypeId) (hs : P.underlying src = some (.slice e)) (he : P.underlying e = some (.int .u8)) (hd : P.underlying dst = some .string)
    (h : w.ownsRow base e 1 v bs.length (bv bs)) : (convert src dst v).run P w = .ok (.string ⟨bs.toArray⟩) w := by
  rcases h.2 with ⟨rfl, h0⟩ | ⟨g, cap, cur, rfl, _⟩
  · obtain rfl : bs = [] := List.length_eq_zero_iff.1 h0
    rw [run_convert_bytes_string w src dst e none 0 0 hs he hd]
    rfl
  · refine run_convert_bytes_back w src dst e ⟨g, 0, none⟩ cap bs hs he hd fun j hj => ?_
    rw [Addr.add_lit, Nat.zero_add, h.cellAt j (by omega)]
    simp [bv, hj]
theorem below2 {a b c : World} (h : Below a.heap.size a b) (k : Below b.heap.size b c) : Below a.heap.size a c := h.trans (k.mono h.size)
/-- A block of another element type stays, whatever an append to an owned row does. -/
theorem other_block {wr w1 : World} {B : Nat} {e e' : TypeId} {size n nb : Nat} {u : Value} {xs : List Value} {A : Array Value} {o : Obj} (hne : e ≠ e')
    (hown : wr.ownsRow B e size u n xs) (hg : (wr.alloc o).grownBy w1 u.ownBlock) (hb : wr.heap[nb]? = some (.cells A e' (0, 0))) : w1.heap[nb]? = some (.cells A e' (0, 0)) := by
  have hlt := lt_of_block hb
  rw [hg.block nb (by simp; omega) ?_]
  · exact (Below.heap_alloc _ _ _ hlt).trans hb
  · intro hk
    rcases hown.2 with ⟨rfl, _⟩ | ⟨g, cap, cur, rfl, _, hh, _⟩
    · simp [Value.ownBlock] at hk
    · simp [Value.ownBlock] at hk
      subst hk
      rw [hh] at hb
      simp at hb
      exact hne hb.2
/-- Every block of another element type than e is as it was. -/
def KeepO (e : TypeId) (w w' : World) : Prop := ∀ (j : Nat) (A : Array Value) (e' : TypeId), e ≠ e' → w.heap[j]? = some (.cells A e' (0, 0)) → w'.heap[j]? = some (.cells A e' (0, 0))
theorem KeepO.refl (e : TypeId) (w : World) : KeepO e w w := fun _ _ _ _ h => h
theorem KeepO.trans {e : TypeId} {a b c : World} (h : KeepO e a b) (k : KeepO e b c) : KeepO e a c := fun j A e' hne hb => k j A e' hne (h j A e' hne hb)
theorem KeepO.alloc {e : TypeId} {a b : World} (h : KeepO e a b) (o : Obj) : KeepO e a (b.alloc o) := fun j A e' hne hb => by
  have h1 := h j A e' hne hb
  exact (Below.heap_alloc _ _ _ (lt_of_block h1)).trans h1
theorem KeepO.app {e : TypeId} {w wr w1 : World} {B size n : Nat} {u : Value} {xs : List Value} {o : Obj} (h : KeepO e w wr) (hown : wr.ownsRow B e size u n xs) (hg : (wr.alloc o).grownBy w1 u.ownBlock) : KeepO e w w1 :=
  fun j A e' hne hb => other_block hne hown hg (h j A e' hne hb)
theorem KeepO.app0 {e : TypeId} {w wr w1 : World} {B size n : Nat} {u : Value} {xs : List Value} (h : KeepO e w wr) (hown : wr.ownsRow B e size u n xs) (hg : wr.grownBy w1 u.ownBlock) : KeepO e w w1 := by
  intro j A e' hne hb
  have hb := h j A e' hne hb
  rw [hg.block j (lt_of_block hb) ?_]
  · exact hb
  · intro hk
    rcases hown.2 with ⟨rfl, _⟩ | ⟨g, cap, cur, rfl, _, hh, _⟩
    · simp [Value.ownBlock] at hk
    · simp [Value.ownBlock] at hk
      subst hk
      rw [hh] at hb
      simp at hb
      exact hne hb.2
end Go.Proofs.YtljnciclbjcinaaGreatDoor
