/-
  The bytes of instructions: the program's own side.
-/
import Derived.Test.YtcgnefgdfgikdaaGreatU5
import Derived.Test.YtcgnefgdfgikdaaGreatR1
import Derived.Test.YtcgnefgdfgikdaaGreatA3
namespace Go.Proofs.YtcgnefgdfgikdaaGreat
open Go.ChangeShapes Go.WideShapes Go.ChangeAt Go.RowKit

end Go.Proofs.YtcgnefgdfgikdaaGreat

namespace Go.Proofs.YtcgnefgdfgikdaaGreat
open Go.ChangeShapes Go.WideShapes Go.ChangeAt Go.RowKit

def codeRes (L : List (Int × Int)) : Value := if (allG L && decide (L.length ≤ 200)) = true then .tuple #[.string ⟨(cb L).toArray⟩, .bool true] else .tuple #[.string ⟨#[]⟩, .bool false]
theorem str_bv (l : List UInt8) : Lib.strCells ⟨l.toArray⟩ = bv l := by simp [Lib.strCells, bv]

end Go.Proofs.YtcgnefgdfgikdaaGreat

namespace Go.Proofs.YtcgnefgdfgikdaaGreat
open Go.ChangeShapes Go.WideShapes Go.ChangeAt Go.RowKit Go.PlainAid

/-- Instructions as the values of their cells. -/
def pv (L : List (Int × Int)) : List Value := L.flatMap fun x => [.int .i64 x.1, .int .i64 x.2]
theorem pv_app (L : List (Int × Int)) (x : Int × Int) : pv L ++ [.int .i64 x.1, .int .i64 x.2] = pv (L ++ [x]) := by simp [pv]
theorem pv_len (L : List (Int × Int)) : (pv L).length = L.length * 2 := by
  induction L with
  | nil => rfl
  | cons x r ih => have e : pv (x :: r) = .int .i64 x.1 :: .int .i64 x.2 :: pv r := by simp [pv]
                   rw [e, List.length_cons, List.length_cons, ih, List.length_cons]; omega
theorem pv_get (L : List (Int × Int)) : ∀ i (h : i < L.length), (pv L)[i * 2]? = some (.int .i64 L[i].1) ∧ (pv L)[i * 2 + 1]? = some (.int .i64 L[i].2) := by
  induction L with
  | nil => intro i h; simp at h
  | cons x r ih =>
    intro i h
    have e : pv (x :: r) = .int .i64 x.1 :: .int .i64 x.2 :: pv r := by simp [pv]
    rw [e]
    cases i with
    | zero => simp
    | succ i =>
      have := ih i (by simpa using h)
      rw [show (i + 1) * 2 = i * 2 + 1 + 1 by omega]
      simpa using this
theorem owned_ins {w : World} {B : Nat} {e : TypeId} {v : Value} {L : List (Int × Int)} (h : w.ownsRow B e 2 v L.length (pv L)) :
    ∃ a cap g, v = .slice a L.length cap ∧ (L ≠ [] → a = some ⟨g, 0, none⟩ ∧ g < w.heap.size) ∧ insAt w g 0 L ∧ (L ≠ [] → B ≤ g) := by
  rcases h.2 with ⟨rfl, h0⟩ | ⟨g, cap, cur, rfl, hg, hh, _, _, _, htake⟩
  · obtain rfl : L = [] := List.length_eq_zero_iff.1 h0
    exact ⟨none, 0, 0, rfl, fun h => absurd rfl h, fun i hi => absurd hi (by simp), fun h => absurd rfl h⟩
  · refine ⟨some ⟨g, 0, none⟩, cap, g, rfl, fun _ => ⟨rfl, lt_of_block hh⟩, fun i hi => ?_, fun _ => hg⟩
    have h1 := h.cellAt (i * 2) (by omega)
    have h2 := h.cellAt (i * 2 + 1) (by omega)
    have h3 := pv_get L i hi
    rw [Nat.zero_add, h1, h2]
    exact h3
theorem two_new (w : World) (x y : Value) (t : TypeId) : ∀ j u, [x, y][j]? = some u → (w.alloc (.cells #[x, y] t)).cell? ((⟨w.heap.size, 0, none⟩ : Addr).add j) = some u := by
  intro j u hj
  match j, hj with
  | 0, hj => simp at hj; subst hj; simp [Addr.add]
  | 1, hj => simp at hj; subst hj; simp [Addr.add]

/-- What one more round of reading says of the whole. -/
theorem rc_no {s : ByteArray} {f p n : Nat} {M : List (Int × Int)} (h : rc s = (rdc s (f + 1) p n).map (M ++ ·)) (hp : ¬ s.size ≤ p) (e : stp s p = none) : rc s = none := by
  rw [h, rdc_none s f p n hp e]; rfl
theorem rc_full {s : ByteArray} {f p n : Nat} {M : List (Int × Int)} (h : rc s = (rdc s (f + 1) p n).map (M ++ ·)) (hp : ¬ s.size ≤ p) (e : n = 200) : rc s = none := by
  subst e; rw [h, rdc_full s f p hp]; rfl
theorem rc_go {s : ByteArray} {f p n t : Nat} {M : List (Int × Int)} {x : Int × Int} (h : rc s = (rdc s (f + 1) p n).map (M ++ ·)) (hp : ¬ s.size ≤ p) (e : stp s p = some (x, t)) (hn : n ≠ 200) : rc s = (rdc s f (p + t) (n + 1)).map ((M ++ [x]) ++ ·) := by
  rw [h, rdc_some s f p n t x hp e hn, Option.map_map]
  congr 1
  funext K
  simp
theorem rc_end {s : ByteArray} {f p n : Nat} {M : List (Int × Int)} (h : rc s = (rdc s (f + 1) p n).map (M ++ ·)) (hp : s.size ≤ p) : rc s = some M := by
  rw [h, rdc_end s f p n hp]; simp

end Go.Proofs.YtcgnefgdfgikdaaGreat
