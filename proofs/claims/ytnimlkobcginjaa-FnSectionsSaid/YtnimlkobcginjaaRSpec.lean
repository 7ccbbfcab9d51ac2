/-
  The walk of the specification's own function that reads sections.
-/
import Derived.Test.YtnimlkobcginjaaRMath
import Derived.Test.YtnimlkobcginjaaApp
import Derived.WalkSpells
import Derived.Deep.AppendLies
import Derived.Deep.RegionLaw
namespace Go.Proofs.Ytnimlkobcginjaa
open Go.ChangeShapes Go.WideShapes Go.ChangeAt Go.RowKit Go.PlainAid

/-- Sections as the values of their cells. -/
def sv (L : List (Int × ByteArray)) : List Value := L.flatMap fun x => [.int .i64 x.1, .string x.2]
theorem sv_app (L : List (Int × ByteArray)) (x : Int × ByteArray) : sv L ++ [.int .i64 x.1, .string x.2] = sv (L ++ [x]) := by simp [sv]
theorem sv_len (L : List (Int × ByteArray)) : (sv L).length = L.length * 2 := by
  induction L with
  | nil => rfl
  | cons x r ih => have e : sv (x :: r) = .int .i64 x.1 :: .string x.2 :: sv r := by simp [sv]
                   rw [e, List.length_cons, List.length_cons, ih, List.length_cons]; omega
theorem sv_get (L : List (Int × ByteArray)) : ∀ i (h : i < L.length), (sv L)[i * 2]? = some (.int .i64 L[i].1) ∧ (sv L)[i * 2 + 1]? = some (.string L[i].2) := by
  induction L with
  | nil => intro i h; simp at h
  | cons x r ih =>
    intro i h
    have e : sv (x :: r) = .int .i64 x.1 :: .string x.2 :: sv r := by simp [sv]
    rw [e]
    cases i with
    | zero => simp
    | succ i =>
      have := ih i (by simpa using h)
      rw [show (i + 1) * 2 = i * 2 + 1 + 1 by omega]
      simpa using this
/-- What is known of a slice of sections that a call made. -/
theorem owned_secs {w : World} {B : Nat} {e : TypeId} {v : Value} {L : List (Int × ByteArray)} (h : w.ownsRow B e 2 v L.length (sv L)) :
    ∃ a cap g, v = .slice a L.length cap ∧ (L ≠ [] → a = some ⟨g, 0, none⟩ ∧ g < w.heap.size) ∧ secAt w g 0 L ∧ (L ≠ [] → B ≤ g) := by
  rcases h.2 with ⟨rfl, h0⟩ | ⟨g, cap, cur, rfl, hg, hh, _, _, _, htake⟩
  · obtain rfl : L = [] := List.length_eq_zero_iff.1 h0
    exact ⟨none, 0, 0, rfl, fun h => absurd rfl h, fun i hi => absurd hi (by simp), fun h => absurd rfl h⟩
  · refine ⟨some ⟨g, 0, none⟩, cap, g, rfl, fun _ => ⟨rfl, lt_of_block hh⟩, fun i hi => ?_, fun _ => hg⟩
    have h1 := h.cellAt (i * 2) (by omega)
    have h2 := h.cellAt (i * 2 + 1) (by omega)
    have h3 := sv_get L i hi
    rw [Nat.zero_add, h1, h2]
    exact h3

theorem ownsRow_below {w w' : World} {B : Nat} {e : TypeId} {size n : Nat} {v : Value} {xs : List Value} (h : w.ownsRow B e size v n xs) (hb : Below w.heap.size w w') : w'.ownsRow B e size v n xs := by
  refine ⟨h.1, ?_⟩
  rcases h.2 with h0 | ⟨g, cap, cur, h1, h2, h3, h4⟩
  · exact Or.inl h0
  · exact Or.inr ⟨g, cap, cur, h1, h2, (hb.block g (lt_of_block h3)).trans h3, h4⟩

theorem Try.infoS : (Try.prog.info? 44).map (fun i => (i.zero, i.size, i.bytes)) = some (some (.agg #[.int .i64 0, .string ⟨#[]⟩]), 2, 24) := by kernel_rfl
theorem two_new (w : World) (x y : Value) (t : TypeId) : ∀ j u, [x, y][j]? = some u → (w.alloc (.cells #[x, y] t)).cell? ((⟨w.heap.size, 0, none⟩ : Addr).add j) = some u := by
  intro j u hj
  match j, hj with
  | 0, hj => simp at hj; subst hj; simp [Addr.add]
  | 1, hj => simp at hj; subst hj; simp [Addr.add]
theorem rd_len (f : Nat) : ∀ c L, rd f c = some L → L.length ≤ f := by
  induction f with
  | zero => intro c L h; simp [rd] at h
  | succ f ih =>
    intro c L h
    by_cases h0 : c.size = 0
    · rw [rd_end f c h0] at h; simp at h; subst h; simp
    · rcases hs : rstep c with _ | ⟨x, r⟩
      · rw [rd_none f c h0 hs] at h; simp at h
      · rw [rd_some f c h0 x r hs] at h
        rcases hr : rd f r with _ | M
        · rw [hr] at h; simp at h
        · rw [hr] at h; simp at h; subst h; have := ih r M hr; simp; omega

theorem slice_in {P : Program} (T : TypeId) (hu : P.underlying T = some .string) (s : ByteArray) (t n : Nat) (h : 1 + t + n ≤ s.size) (wx : World) :
    (Instr.slice T (.string s) (some (.int .i64 (1 + (t : Int)))) (some (.int .i64 (1 + (t : Int) + (n : Int)))) none).run P wx = .ok (.string (s.extract (1 + t) (1 + t + n))) wx := by
  have H := run_slice_string (P := P) wx T s .i64 .i64 (1 + (t : Int)) (1 + (t : Int) + (n : Int)) hu (by omega) (by omega) (by omega)
  have e : (1 + (t : Int) + (n : Int)).toNat = 1 + t + n := by omega
  have e2 : (1 + (t : Int)).toNat = 1 + t := by omega
  rw [e, e2] at H
  exact H
theorem slice_rest {P : Program} (T : TypeId) (hu : P.underlying T = some .string) (s : ByteArray) (t n : Nat) (h : 1 + t + n ≤ s.size) (wx : World) :
    (Instr.slice T (.string s) (some (.int .i64 (1 + (t : Int) + (n : Int)))) none none).run P wx = .ok (.string (s.extract (1 + t + n) s.size)) wx := by
  have H := run_slice_string_from_if (P := P) (w := wx) T s .i64 (1 + (t : Int) + (n : Int)) hu
  have e : (1 + (t : Int) + (n : Int)).toNat = 1 + t + n := by omega
  rw [e, if_pos (by omega)] at H
  exact H

end Go.Proofs.Ytnimlkobcginjaa
