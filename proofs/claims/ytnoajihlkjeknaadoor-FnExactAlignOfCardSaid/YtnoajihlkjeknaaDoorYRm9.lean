/-
  The rooms that are known: what the map holds.
-/
import Derived.Test.YtnoajihlkjeknaaDoorYRm8
namespace Go.Proofs.YtnoajihlkjeknaaDoor
open Go.ChangeShapes Go.WideShapes Go.ChangeAt Go.RowKit
open Go.Maps (Keyed IsMap)

def roomV (r : Nat × Nat) : Value := .agg #[.int .i64 (r.1 : Int), .int .i64 (r.2 : Int)]
def roomD (r : Nat × Nat) : DataW Unit := .agg [.lit (.int .i64 (r.1 : Int)), .lit (.int .i64 (r.2 : Int))]
/-- How a room reads. -/
def roomR (v : Value) : Option (DataW Unit × List MemPlace) :=
  match v with
  | .agg cs => match cs.toList with
    | [.int .i64 a, .int .i64 b] => some (.agg [.lit (.int .i64 a), .lit (.int .i64 b)], [])
    | _ => none
  | _ => none
theorem roomR_mk (r : Nat × Nat) : roomR (roomV r) = some (roomD r, []) := rfl
theorem roomR_inv {v : Value} {r : Nat × Nat} {ps : List MemPlace} (h : roomR v = some (roomD r, ps)) : v = roomV r := by
  unfold roomR at h
  split at h
  · rename_i cs
    split at h
    · rename_i a b hc
      simp [roomD] at h
      obtain ⟨⟨rfl, rfl⟩, _⟩ := h
      unfold roomV
      congr 1
      rw [← Array.toArray_toList (xs := cs), hc]
    · simp at h
  · simp at h

theorem roomZero (w : World) : (zeroValue 57).run Tryd.prog w = .ok (roomV (0, 0)) w := Tryd.zeroValue57 w

/-- All that the map at block B knows is right. -/
def Known (L : List Nd) (w : World) (B n : Nat) : Prop := ∃ D : DataW Unit, w.ownsMap Tryd.prog 100 roomR B n D ∧ IsMap D ∧
  ∀ kl, Maps.has D kl = true → ∃ p e, isEnd L p e ∧ keyOf Tryd.prog 100 (wv (segL L p e)) = some kl ∧ D.atKey kl (roomD (0, 0)) = roomD (rm L L.length p)

theorem Known.made (L : List Nd) (w : World) : Known L (w.alloc (.map #[] 0)) w.heap.size 0 :=
  ⟨_, World.ownsMap_made w _ _ _, Maps.isMap_empty, fun kl h => by simp [Maps.has_eq] at h⟩
theorem Known.kept {L : List Nd} {w w' : World} {B n : Nat} {row : Option Nat} (h : Known L w B n) (hg : w.grownBy w' row) (hne : some B ≠ row) : Known L w' B n := by
  obtain ⟨D, h1, h2, h3⟩ := h
  exact ⟨D, h1.kept hg hne, h2, h3⟩
theorem Known.mono {L : List Nd} {w : World} {B n n' : Nat} (h : Known L w B n) (hn : n ≤ n') : Known L w B n' := by
  obtain ⟨D, h1, h2, h3⟩ := h
  exact ⟨D, h1.mono hn, h2, h3⟩
theorem Known.lt {L : List Nd} {w : World} {B n : Nat} (h : Known L w B n) : B < w.heap.size := by
  obtain ⟨D, h1, _, _⟩ := h
  exact h1.lt

/-- What the map has of a type is its room. -/
theorem Known.at {L : List Nd} (hG : goodT L = true) {p e : Nat} (he : isEnd L p e) {kl : Lit} (hk : keyOf Tryd.prog 100 (wv (segL L p e)) = some kl) {D : DataW Unit}
    (h : ∀ kl, Maps.has D kl = true → ∃ p e, isEnd L p e ∧ keyOf Tryd.prog 100 (wv (segL L p e)) = some kl ∧ D.atKey kl (roomD (0, 0)) = roomD (rm L L.length p)) (hh : Maps.has D kl = true) :
    D.atKey kl (roomD (0, 0)) = roomD (rm L L.length p) := by
  obtain ⟨p', e', he', hk', ha⟩ := h kl hh
  have hv := keyedW.inj hk hk'
  have hs := wv_inj (fun x hx => (seg_mem hG he x hx).1) (fun x hx => (seg_mem hG he' x hx).1) hv
  rw [ha, rm_same (ups_good hG) he he' hs]
/-- A room that is right is laid in. -/
theorem Known.put {L : List Nd} {p e : Nat} (he : isEnd L p e) {kl : Lit} (hk : keyOf Tryd.prog 100 (wv (segL L p e)) = some kl) {D : DataW Unit} (hD : IsMap D)
    (h : ∀ kl, Maps.has D kl = true → ∃ p e, isEnd L p e ∧ keyOf Tryd.prog 100 (wv (segL L p e)) = some kl ∧ D.atKey kl (roomD (0, 0)) = roomD (rm L L.length p)) :
    ∀ kl', Maps.has (D.put kl (roomD (rm L L.length p))) kl' = true → ∃ q e', isEnd L q e' ∧ keyOf Tryd.prog 100 (wv (segL L q e')) = some kl' ∧ (D.put kl (roomD (rm L L.length p))).atKey kl' (roomD (0, 0)) = roomD (rm L L.length q) := by
  intro kl' hh
  by_cases e1 : kl' = kl
  · subst e1
    exact ⟨p, e, he, hk, Maps.atKey_put_same hD (keyedW.key hk) _ _⟩
  · rw [Maps.has_put_other e1] at hh
    obtain ⟨q, e', h1, h2, h3⟩ := h kl' hh
    exact ⟨q, e', h1, h2, by rw [Maps.atKey_put_other e1]; exact h3⟩

end Go.Proofs.YtnoajihlkjeknaaDoor
